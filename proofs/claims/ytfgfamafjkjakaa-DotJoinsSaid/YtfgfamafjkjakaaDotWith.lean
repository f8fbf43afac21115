/-
  Package dot: a device's numbers with one more (with).
-/
import Derived.Test.YtfgfamafjkjakaaDotNum
import Derived.Deep.MidRow
namespace Go.Proofs.Ytfgfamafjkjakaa
open Go.ChangeShapes Go.WideShapes Go.ChangeAt Go.RowKit Go.Deep
set_option linter.unusedVariables false
set_option linter.unusedSimpArgs false
theorem two_there {w : World} {r : Nat} {T : TypeId} {a b : Value} (h : w.heap[r]? = some (.cells #[a, b] T (0, 0))) : w.there r 0 2 := fun j hj => by
  rw [Nat.zero_add]
  rcases (by omega : j = 0 ∨ j = 1) with rfl | rfl <;> exact ⟨by simp [World.cell?, h], by simp [World.frozen?, h]⟩
theorem one_two {u k c : Nat} {p : Option Addr} : (#[.int .u64 (u : Int), .slice p k c] : Array Value).all (·.oneCell') = true :=
  all_oneCell_toArray (cs := [.int .u64 (u : Int), .slice p k c]) (fun v hv => by
    simp only [List.mem_cons, List.not_mem_nil, or_false] at hv
    rcases hv with rfl | rfl <;> rfl)
theorem size_two {a b : Value} : (Try.prog.info? 55).map (·.size) = some (#[a, b] : Array Value).size := by
  show (Try.prog.info? 55).map (·.size) = some 2
  exact size_nb
set_option maxRecDepth 100000 in
set_option maxHeartbeats 8000000 in
theorem with_any (q : Nm) (mv : Value) (n : Nat) (w : World) (hv : HasU w mv q.more) (hok : q.Ok) (hl : q.more.length ≤ 10000000) (hn : n ≤ 1099511627776) (hnew : q.has n = false) :
    Calls Try.prog 33 #[.agg #[.int .u64 (q.upto : Int), mv], .int .u64 (n : Int)] w fun e w' => ∃ mv', e = .returned (.agg #[.int .u64 ((q.with n).upto : Int), mv']) ∧ HasU w' mv' (q.with n).more ∧ Below w.heap.size w w' := by
  obtain ⟨u, l⟩ := q
  obtain ⟨hri, hfar, hmo, hmm⟩ := hok
  simp only at hv hl hri hfar hmo hmm ⊢
  have hwn : Nm.with ⟨u, l⟩ n = if n = u + 1 then closeN n l else ⟨u, insN n l⟩ := rfl
  obtain ⟨p, cap, rfl, h1, h2⟩ := hv.form
  have hb0 := (Below.refl w.heap.size w).alloc (Nat.le_refl _) (.cells #[.int .u64 (u : Int), .slice p l.length cap] 55)
  have hb2 := hb0.alloc hb0.size (.cells #[.int .u64 0, .slice none 0 0] 55)
  have hz1 : (w.alloc (.cells #[.int .u64 (u : Int), .slice p l.length cap] 55)).heap.size = w.heap.size + 1 := World.size_alloc _ _
  have hr2 : ((w.alloc (.cells #[.int .u64 (u : Int), .slice p l.length cap] 55)).alloc (.cells #[.int .u64 0, .slice none 0 0] 55)).heap[w.heap.size + 1]? = some (.cells #[.int .u64 0, .slice none 0 0] 55 (0, 0)) := by
    have z := heap_alloc_new (w.alloc (.cells #[.int .u64 (u : Int), .slice p l.length cap] 55)) (.cells #[.int .u64 0, .slice none 0 0] 55)
    rw [hz1] at z
    exact z
  have hr1 : ((w.alloc (.cells #[.int .u64 (u : Int), .slice p l.length cap] 55)).alloc (.cells #[.int .u64 0, .slice none 0 0] 55)).heap[w.heap.size]? = some (.cells #[.int .u64 (u : Int), .slice p l.length cap] 55 (0, 0)) :=
    (((Below.refl _ _).alloc (Nat.le_refl _) (.cells #[.int .u64 0, .slice none 0 0] 55)).block w.heap.size (by omega)).trans (heap_alloc_new _ _)
  have hz2 : ((w.alloc (.cells #[.int .u64 (u : Int), .slice p l.length cap] 55)).alloc (.cells #[.int .u64 0, .slice none 0 0] 55)).heap.size = w.heap.size + 2 := by rw [World.size_alloc, hz1]
  obtain ⟨m, hm⟩ : ∃ m, l.length = m := ⟨_, rfl⟩
  have HLL := Lib.hid hl
  have HU2 := Lib.hid (hv.below hb2)
  have HU0 := Lib.hid hv
  rw [hm] at HU0 HU2 hb0 hb2 hz1 hr2 hr1 hz2 h1 ⊢
  have HM := Lib.hid hm
  have HB2 := Lib.hid hb2
  have HR2 := Lib.hid hr2
  have HR1 := Lib.hid hr1
  have HZ2 := Lib.hid hz2
  have HWN := Lib.hid hwn
  have HRI := Lib.hid hri
  have HMM := Lib.hid hmm
  have HFAR := Lib.hid hfar
  have hcI : (cap : Int) ≤ 9223372036854775807 := by unfold maxLen at h2; omega
  clear hv hl hm hb0 hb2 hz1 hr2 hr1 hz2 hwn hri hmm hfar h2
  go_enter Try.func33, Try.ntmps33
  go_upto_region 1 with fail
  generalize (w.alloc (.cells #[.int .u64 (u : Int), .slice p m cap] 55)).alloc (.cells #[.int .u64 0, .slice none 0 0] 55) = w2 at *
  have hr1 := HR1.out
  have c0 : w2.cell? ⟨w.heap.size, 0, none⟩ = some (.int .u64 (u : Int)) := by simp [World.cell?, hr1]
  have c1 : w2.cell? ⟨w.heap.size, 1, none⟩ = some (.slice p m cap) := by simp [World.cell?, hr1]
  clear hr1
  rcases Nat.lt_or_ge n (u + 1) with h | h
  · exfalso
    unfold Nm.has at hnew
    simp only [Bool.or_eq_false_iff, decide_eq_false_iff_not] at hnew
    omega
  by_cases he : n = u + 1
  · subst he
    have hwe := HWN.out
    rw [if_pos rfl] at hwe
    have HWE := Lib.hid hwe
    clear hwe hnew h
    go_wp2_with fail
    refine (closed_any (u + 1) _ l w2 HU2.out (by have := HLL.out; omega) (by omega) (fun x hx => by have := HMM.out x hx; omega)).mono ?_
    rintro e w5 ⟨mv5, rfl, hu5, hb5⟩
    have hRes : w5.heap[w.heap.size + 1]? = some (.cells #[.int .u64 0, .slice none 0 0] 55 (0, 0)) := (hb5.block _ (by have := HZ2.out; omega)).trans HR2.out
    obtain ⟨p5, c5, rfl, -, -⟩ := hu5.form
    have HU5 := Lib.hid hu5
    have HRES := Lib.hid hRes
    have hz2 := HZ2.out
    have HB5 := Lib.hid (HB2.out.trans (hb5.mono (by omega)))
    obtain ⟨r, hr⟩ : ∃ r, closeN (u + 1) l = r := ⟨_, rfl⟩
    rw [hr] at HU5 HWE ⊢
    have cR0 : w5.cell? ⟨w.heap.size + 1, 0, none⟩ = some (.int .u64 0) := by simp [World.cell?, hRes]
    have cR1 : w5.cell? ⟨w.heap.size + 1, 1, none⟩ = some (.slice none 0 0) := by simp [World.cell?, hRes]
    have fR0 : w5.frozen? ⟨w.heap.size + 1, 0, none⟩ = false := by simp [World.frozen?, hRes]
    have fR1 : w5.frozen? ⟨w.heap.size + 1, 1, none⟩ = false := by simp [World.frozen?, hRes]
    clear hu5 hb5 hRes hr hz2
    go_wp2
    refine bodyPost_ret (v := .agg #[.int .u64 (r.upto : Int), .slice p5 r.more.length c5]) (results_cell_row rfl _ _ (w.heap.size + 1) 55 _ (0, 0) _ rfl (two_set HRES.out) Try.underlying55 rfl size_nb) rfl ⟨_, by rw [HWE.out], by rw [HWE.out]; exact HU5.out.two HRES.out, (HB5.out.setCell (by show w.heap.size ≤ w.heap.size + 1; omega) _).setCell (by show w.heap.size ≤ w.heap.size + 1; omega) _⟩
  · have heI : ¬ (n : Int) = (u : Int) + 1 := by omega
    have heB : ((n : Int) == (u : Int) + 1) = false := by simp only [beq_eq_false_iff_ne, ne_eq]; exact heI
    have hni : n ∉ l := by
      unfold Nm.has at hnew
      simp only [Bool.or_eq_false_iff, decide_eq_false_iff_not] at hnew
      exact hnew.2
    have hwe := HWN.out
    rw [if_neg he, insN_pos n l hni, show l.take (posN n l) ++ n :: l.drop (posN n l) = putAt l (posN n l) n from rfl] at hwe
    have HWITH := Lib.hid hwe
    clear hwe hnew h
    go_wp2_with fail
    refine (Search_any _ l n w2 HU2.out.has HRI.out (by have := HLL.out; omega)).mono ?_
    rintro e w' ⟨rfl, rfl⟩
    have HL8 : Hid (l.length ≤ 100000000) := Lib.hid (by have := HLL.out; omega)
    have hkeep : ∀ (W W' : World) (B : Nat), Below (w.heap.size + 1) w2 W → w.heap.size + 1 ≤ B → Below B W W' → W'.cell? ⟨w.heap.size, 0, none⟩ = some (.int .u64 (u : Int)) ∧ W'.cell? ⟨w.heap.size, 1, none⟩ = some (.slice p m cap) ∧ HasU W' (.slice p m cap) l ∧ Below (w.heap.size + 1) w2 W' := fun W W' B h1 h2 h3 => by
      have hb := h1.trans (h3.mono h2)
      have hz := HZ2.out
      exact ⟨(hb.cell (p := ⟨w.heap.size, 0, none⟩) (by show w.heap.size < w.heap.size + 1; omega)).trans c0, (hb.cell (p := ⟨w.heap.size, 1, none⟩) (by show w.heap.size < w.heap.size + 1; omega)).trans c1, HU0.out.below (HB2.out.trans (hb.mono (by omega))), hb⟩
    have KEEP := Lib.hid hkeep
    clear hkeep hni
    go_upto_region 4 with fail
    refine wp_region_held_drew (S := fun W => W.cell? ⟨w.heap.size, 0, none⟩ = some (.int .u64 (u : Int)) ∧ W.cell? ⟨w.heap.size, 1, none⟩ = some (.slice p m cap) ∧ HasU W (.slice p m cap) l ∧ Below (w.heap.size + 1) w2 W) (by kernel_rfl) (KEEP.out _ _ _ (Below.refl (w.heap.size + 1) w2) (Nat.le_refl _) ((Below.refl _ _).drew)) (fun hHeld => ?_)
    refine wpAnyH_take (i := 0) (oi := _) (v := ?_) rfl (by kernel_rfl) (by kernel_rfl) (by kernel_rfl) (fun _ _ _ h => h) (Or.inl ⟨by rfl, ?hy1⟩) (by assumption) ?_
    case hy1 =>
      intro w9 hSw
      try dsimp only at hSw
      try simp only [List.getElem_toArray, List.getElem_cons_zero, List.getElem_cons_succ]
      go_simp
      try with_reducible rfl
    try simp only [Act.put, List.setIfInBounds_toArray, List.set_cons_zero, List.set_cons_succ, List.getElem_toArray, List.getElem_cons_zero, List.getElem_cons_succ]
    refine wpAnyH_take (i := 1) (oi := _) (v := ?_) rfl (by kernel_rfl) (by kernel_rfl) (by kernel_rfl) (fun _ _ _ h => h) (Or.inl ⟨by rfl, ?hy2⟩) (by assumption) ?_
    case hy2 =>
      intro w9 hSw
      try dsimp only at hSw
      try simp only [List.getElem_toArray, List.getElem_cons_zero, List.getElem_cons_succ]
      go_simp
      try with_reducible rfl
    try simp only [Act.put, List.setIfInBounds_toArray, List.set_cons_zero, List.set_cons_succ, List.getElem_toArray, List.getElem_cons_zero, List.getElem_cons_succ]
    refine wpAnyH_take (i := 2) (oi := _) (v := ?_) rfl (by kernel_rfl) (by kernel_rfl) (by kernel_rfl) (fun _ _ _ h => h) (Or.inl ⟨by rfl, ?hy3⟩) (by assumption) ?_
    case hy3 =>
      intro w9 hSw
      try dsimp only at hSw
      try simp only [List.getElem_toArray, List.getElem_cons_zero, List.getElem_cons_succ]
      go_simp
      try with_reducible rfl
    try simp only [Act.put, List.setIfInBounds_toArray, List.set_cons_zero, List.set_cons_succ, List.getElem_toArray, List.getElem_cons_zero, List.getElem_cons_succ]
    refine wpAnyH_take (i := 3) (oi := _) (v := ?_) rfl (by kernel_rfl) (by kernel_rfl) (by kernel_rfl) (fun _ _ _ h => h) (Or.inl ⟨by rfl, ?hy4⟩) (by assumption) ?_
    case hy4 =>
      intro w9 hSw
      try dsimp only at hSw
      try simp only [List.getElem_toArray, List.getElem_cons_zero, List.getElem_cons_succ]
      go_simp
      try with_reducible rfl
    try simp only [Act.put, List.setIfInBounds_toArray, List.set_cons_zero, List.set_cons_succ, List.getElem_toArray, List.getElem_cons_zero, List.getElem_cons_succ]
    refine wpAnyH_take (i := 5) (oi := _) (v := ?_) rfl (by kernel_rfl) (by kernel_rfl) (by kernel_rfl) (fun _ _ _ h => h) (Or.inl ⟨by rfl, ?hy5⟩) (by assumption) ?_
    case hy5 =>
      intro w9 hSw
      try dsimp only at hSw
      try simp only [List.getElem_toArray, List.getElem_cons_zero, List.getElem_cons_succ]
      go_simp
      try with_reducible rfl
    try simp only [Act.put, List.setIfInBounds_toArray, List.set_cons_zero, List.set_cons_succ, List.getElem_toArray, List.getElem_cons_zero, List.getElem_cons_succ]
    refine wpAnyH_take (i := 6) (oi := _) (v := ?_) rfl (by kernel_rfl) (by kernel_rfl) (by kernel_rfl) (fun _ _ _ h => h) (Or.inl ⟨by rfl, ?hy6⟩) (by assumption) ?_
    case hy6 =>
      intro w9 hSw
      try dsimp only at hSw
      try simp only [List.getElem_toArray, List.getElem_cons_zero, List.getElem_cons_succ]
      go_simp
      try with_reducible rfl
    try simp only [Act.put, List.setIfInBounds_toArray, List.set_cons_zero, List.set_cons_succ, List.getElem_toArray, List.getElem_cons_zero, List.getElem_cons_succ]
    refine wpAnyH_ready (rs := [4, 7]) (by kernel_rfl) (by simp) (AllReadyH.cons (o := _) rfl (fun K hK => ?_) (AllReadyH.cons (o := _) rfl (fun K hK => ?_) AllReadyH.nil))
    · skip
      try simp only [List.getElem_toArray, List.getElem_cons_zero, List.getElem_cons_succ]
      go_simp
      refine (Clone_any _ l _ hHeld.2.2.1.has HL8.out).mono ?_
      rintro e wa ⟨va, rfl, hoa, hba⟩
      refine hK.out _ _ (KEEP.out _ _ _ hHeld.2.2.2 (by have := HZ2.out; show w.heap.size + 1 ≤ w2.heap.size; omega) hba) (fun hHeld => ?_)
      clear hK K
      try simp only [Act.put, List.setIfInBounds_toArray, List.set_cons_zero, List.set_cons_succ, List.getElem_toArray, List.getElem_cons_zero, List.getElem_cons_succ]
      refine wpAnyH_ready (rs := [7]) (by kernel_rfl) (by simp) (AllReadyH.cons (o := _) rfl (fun K hK => ?_) AllReadyH.nil)
      try simp only [List.getElem_toArray, List.getElem_cons_zero, List.getElem_cons_succ]
      go_simp
      refine hK.out _ _ ((KEEP.out _ _ _ hHeld.2.2.2 (by have h1 := hba.size; have h2 := HZ2.out; have h3 : w2.heap.size ≤ wa.heap.size := h1; omega) ((Below.refl _ _).alloc (Nat.le_refl _) _))) (fun hHeld => ?_)
      clear hK K
      try simp only [Act.put, List.setIfInBounds_toArray, List.set_cons_zero, List.set_cons_succ, List.getElem_toArray, List.getElem_cons_zero, List.getElem_cons_succ]
      have hga : (wa.alloc (.cells #[.int .u64 (n : Int)] 30)).heap[wa.heap.size]? = some (.cells #[.int .u64 (n : Int)] 30 (0, 0)) := heap_alloc_new _ _
      have hob := hoa.alloc (.cells #[.int .u64 (n : Int)] 30)
      have hne : va.ownBlock ≠ some wa.heap.size := fun h => by have := (hoa.lt _ h).2; omega
      have hsz : w2.heap.size ≤ (wa.alloc (.cells #[.int .u64 (n : Int)] 30)).heap.size := by rw [World.size_alloc]; have := hba.size; exact Nat.le_succ_of_le this
      refine wpAnyH_ready (rs := [8]) (by kernel_rfl) (by simp) (AllReadyH.cons (o := _) rfl (fun K hK => ?_) AllReadyH.nil)
      try simp only [List.getElem_toArray, List.getElem_cons_zero, List.getElem_cons_succ]
      go_simp
      refine (Insert_any va l (posN n l) n wa.heap.size _ w2.heap.size hsz hob HL8.out (posN_le n l) hne hga).mono ?_
      rintro e wi ⟨vi, rfl, hoi, hbi⟩
      obtain ⟨pi, ci, rfl, -, -⟩ := (HasU.of_own hoi).form
      refine hK.out _ _ ((KEEP.out _ _ _ hHeld.2.2.2 (by have := HZ2.out; omega) hbi)) (fun hHeld => ?_)
      clear hK K
      try simp only [Act.put, List.setIfInBounds_toArray, List.set_cons_zero, List.set_cons_succ, List.getElem_toArray, List.getElem_cons_zero, List.getElem_cons_succ]
      refine wpAnyH_take (i := 9) (oi := _) (v := ?_) rfl (by kernel_rfl) (by kernel_rfl) (by kernel_rfl) (fun _ _ _ h => h) (Or.inl ⟨by rfl, ?hy7⟩) (by assumption) ?_
      case hy7 =>
        intro w9 hSw
        try dsimp only at hSw
        try simp only [List.getElem_toArray, List.getElem_cons_zero, List.getElem_cons_succ]
        go_simp
        try with_reducible rfl
      try simp only [Act.put, List.setIfInBounds_toArray, List.set_cons_zero, List.set_cons_succ, List.getElem_toArray, List.getElem_cons_zero, List.getElem_cons_succ]
      have hBA : Below w2.heap.size w2 wi := by have z := (hba.trans (((Below.refl wa.heap.size wa).alloc (Nat.le_refl _) (.cells #[.int .u64 (n : Int)] 30)).mono hba.size)).trans hbi; exact ⟨z.os, z.tape, z.output, z.size, z.block⟩
      have hRes : wi.heap[w.heap.size + 1]? = some (.cells #[.int .u64 0, .slice none 0 0] 55 (0, 0)) := (hBA.block _ (by have := HZ2.out; omega)).trans HR2.out
      have cR0 : wi.cell? ⟨w.heap.size + 1, 0, none⟩ = some (.int .u64 0) := by simp [World.cell?, hRes]
      have cR1 : wi.cell? ⟨w.heap.size + 1, 1, none⟩ = some (.slice none 0 0) := by simp [World.cell?, hRes]
      have fR0 : wi.frozen? ⟨w.heap.size + 1, 0, none⟩ = false := by simp [World.frozen?, hRes]
      have fR1 : wi.frozen? ⟨w.heap.size + 1, 1, none⟩ = false := by simp [World.frozen?, hRes]
      have HRES := Lib.hid hRes
      have HUI := Lib.hid (HasU.of_own hoi)
      have HBI := Lib.hid (HB2.out.trans (hBA.mono (by have := HZ2.out; omega)))
      clear hRes hoi hbi hga hob hne hsz hba hBA
      refine wpAnyH_ready (rs := [10]) (by kernel_rfl) (by simp) (AllReadyH.cons (o := _) rfl (fun K hK => ?_) AllReadyH.nil)
      rw [if_pos (by rfl)]
      refine wp_store_mid 55 (.tmp 4) (.tmp 32) (by rfl) (w.heap.size + 1) 0 #[.int .u64 (u : Int), .slice pi (putAt l (posN n l) n).length ci] (by rfl) (by rfl) (two_there HRES.out) size_two one_two ?_
      refine hK.out _ _ ((KEEP.out _ _ (w.heap.size + 1) hHeld.2.2.2 (Nat.le_refl _) (((Below.refl _ _).setCell (p := ⟨w.heap.size + 1, 0, none⟩) (Nat.le_refl _) _).setCell (p := ⟨w.heap.size + 1, 1, none⟩) (Nat.le_refl _) _))) (fun hHeld => ?_)
      clear hK K
      try simp only [Act.put, List.setIfInBounds_toArray, List.set_cons_zero, List.set_cons_succ, List.getElem_toArray, List.getElem_cons_zero, List.getElem_cons_succ]
      refine wpAnyH_done (by kernel_rfl) ?_ _
      go_wp2
      refine bodyPost_ret (v := .agg #[.int .u64 (u : Int), .slice pi (putAt l (posN n l) n).length ci]) (results_cell_row rfl _ _ (w.heap.size + 1) 55 _ (0, 0) _ rfl (two_set HRES.out) Try.underlying55 rfl size_nb) rfl ⟨_, by rw [HWITH.out], by rw [HWITH.out]; exact HUI.out.two HRES.out, (HBI.out.setCell (by show w.heap.size ≤ w.heap.size + 1; omega) _).setCell (by show w.heap.size ≤ w.heap.size + 1; omega) _⟩
    · skip
      try simp only [List.getElem_toArray, List.getElem_cons_zero, List.getElem_cons_succ]
      go_simp
      refine hK.out _ _ (KEEP.out _ _ w2.heap.size hHeld.2.2.2 (by have := HZ2.out; omega) (by have z := ((Below.refl w2.heap.size w2).alloc (Nat.le_refl _) (.cells #[.int .u64 (n : Int)] 30)).drew; exact ⟨z.os, z.tape, z.output, z.size, z.block⟩)) (fun hHeld => ?_)
      clear hK K
      try simp only [Act.put, List.setIfInBounds_toArray, List.set_cons_zero, List.set_cons_succ, List.getElem_toArray, List.getElem_cons_zero, List.getElem_cons_succ]
      have hga0 : (w2.alloc (.cells #[.int .u64 (n : Int)] 30)).drew.heap[w2.heap.size]? = some (.cells #[.int .u64 (n : Int)] 30 (0, 0)) := heap_alloc_new w2 _
      have hzb : (w2.alloc (.cells #[.int .u64 (n : Int)] 30)).drew.heap.size = w2.heap.size + 1 := World.size_alloc w2 _
      try rw [show w2.drew.heap.size = w2.heap.size from rfl] at *
      have hbB : Below w2.heap.size w2 (w2.alloc (.cells #[.int .u64 (n : Int)] 30)).drew := ((Below.refl w2.heap.size w2).alloc (Nat.le_refl _) _).drew
      generalize (w2.alloc (.cells #[.int .u64 (n : Int)] 30)).drew = wb at *
      refine wpAnyH_ready (rs := [4]) (by kernel_rfl) (by simp) (AllReadyH.cons (o := _) rfl (fun K hK => ?_) AllReadyH.nil)
      try simp only [List.getElem_toArray, List.getElem_cons_zero, List.getElem_cons_succ]
      go_simp
      refine (Clone_any _ l _ hHeld.2.2.1.has HL8.out).mono ?_
      rintro e wa ⟨va, rfl, hob, hba⟩
      refine hK.out _ _ ((KEEP.out _ _ _ hHeld.2.2.2 (by have := HZ2.out; omega) hba)) (fun hHeld => ?_)
      clear hK K
      try simp only [Act.put, List.setIfInBounds_toArray, List.set_cons_zero, List.set_cons_succ, List.getElem_toArray, List.getElem_cons_zero, List.getElem_cons_succ]
      have hga := (hba.block w2.heap.size (by omega)).trans hga0
      have hne : va.ownBlock ≠ some w2.heap.size := fun h => by have := (hob.lt _ h).1; omega
      have hsz := hba.size
      refine wpAnyH_ready (rs := [8]) (by kernel_rfl) (by simp) (AllReadyH.cons (o := _) rfl (fun K hK => ?_) AllReadyH.nil)
      try simp only [List.getElem_toArray, List.getElem_cons_zero, List.getElem_cons_succ]
      go_simp
      refine (Insert_any va l (posN n l) n w2.heap.size _ wb.heap.size hsz hob HL8.out (posN_le n l) hne hga).mono ?_
      rintro e wi ⟨vi, rfl, hoi, hbi⟩
      obtain ⟨pi, ci, rfl, -, -⟩ := (HasU.of_own hoi).form
      refine hK.out _ _ ((KEEP.out _ _ _ hHeld.2.2.2 (by have := HZ2.out; omega) hbi)) (fun hHeld => ?_)
      clear hK K
      try simp only [Act.put, List.setIfInBounds_toArray, List.set_cons_zero, List.set_cons_succ, List.getElem_toArray, List.getElem_cons_zero, List.getElem_cons_succ]
      refine wpAnyH_take (i := 9) (oi := _) (v := ?_) rfl (by kernel_rfl) (by kernel_rfl) (by kernel_rfl) (fun _ _ _ h => h) (Or.inl ⟨by rfl, ?hy8⟩) (by assumption) ?_
      case hy8 =>
        intro w9 hSw
        try dsimp only at hSw
        try simp only [List.getElem_toArray, List.getElem_cons_zero, List.getElem_cons_succ]
        go_simp
        try with_reducible rfl
      try simp only [Act.put, List.setIfInBounds_toArray, List.set_cons_zero, List.set_cons_succ, List.getElem_toArray, List.getElem_cons_zero, List.getElem_cons_succ]
      have hBA : Below w2.heap.size w2 wi := by have z := (hbB.trans (hba.mono (by omega))).trans (hbi.mono (by omega)); exact z
      have hRes : wi.heap[w.heap.size + 1]? = some (.cells #[.int .u64 0, .slice none 0 0] 55 (0, 0)) := (hBA.block _ (by have := HZ2.out; omega)).trans HR2.out
      have cR0 : wi.cell? ⟨w.heap.size + 1, 0, none⟩ = some (.int .u64 0) := by simp [World.cell?, hRes]
      have cR1 : wi.cell? ⟨w.heap.size + 1, 1, none⟩ = some (.slice none 0 0) := by simp [World.cell?, hRes]
      have fR0 : wi.frozen? ⟨w.heap.size + 1, 0, none⟩ = false := by simp [World.frozen?, hRes]
      have fR1 : wi.frozen? ⟨w.heap.size + 1, 1, none⟩ = false := by simp [World.frozen?, hRes]
      have HRES := Lib.hid hRes
      have HUI := Lib.hid (HasU.of_own hoi)
      have HBI := Lib.hid (HB2.out.trans (hBA.mono (by have := HZ2.out; omega)))
      clear hRes hoi hbi hga hob hne hsz hba hBA
      refine wpAnyH_ready (rs := [10]) (by kernel_rfl) (by simp) (AllReadyH.cons (o := _) rfl (fun K hK => ?_) AllReadyH.nil)
      rw [if_pos (by rfl)]
      refine wp_store_mid 55 (.tmp 4) (.tmp 32) (by rfl) (w.heap.size + 1) 0 #[.int .u64 (u : Int), .slice pi (putAt l (posN n l) n).length ci] (by rfl) (by rfl) (two_there HRES.out) size_two one_two ?_
      refine hK.out _ _ ((KEEP.out _ _ (w.heap.size + 1) hHeld.2.2.2 (Nat.le_refl _) (((Below.refl _ _).setCell (p := ⟨w.heap.size + 1, 0, none⟩) (Nat.le_refl _) _).setCell (p := ⟨w.heap.size + 1, 1, none⟩) (Nat.le_refl _) _))) (fun hHeld => ?_)
      clear hK K
      try simp only [Act.put, List.setIfInBounds_toArray, List.set_cons_zero, List.set_cons_succ, List.getElem_toArray, List.getElem_cons_zero, List.getElem_cons_succ]
      refine wpAnyH_done (by kernel_rfl) ?_ _
      go_wp2
      refine bodyPost_ret (v := .agg #[.int .u64 (u : Int), .slice pi (putAt l (posN n l) n).length ci]) (results_cell_row rfl _ _ (w.heap.size + 1) 55 _ (0, 0) _ rfl (two_set HRES.out) Try.underlying55 rfl size_nb) rfl ⟨_, by rw [HWITH.out], by rw [HWITH.out]; exact HUI.out.two HRES.out, (HBI.out.setCell (by show w.heap.size ≤ w.heap.size + 1; omega) _).setCell (by show w.heap.size ≤ w.heap.size + 1; omega) _⟩
end Go.Proofs.Ytfgfamafjkjakaa
