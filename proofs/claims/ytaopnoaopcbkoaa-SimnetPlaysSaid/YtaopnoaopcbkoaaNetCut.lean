/-
  Package simnet: a packet taken out of what waits (slices.Delete).
-/
import Derived.Test.YtaopnoaopcbkoaaNetSend
import Derived.Test.YtaopnoaopcbkoaaNetPlace
import Derived.Lib.SliceRun
namespace Go.Proofs.Ytaopnoaopcbkoaa
open Go.ChangeShapes Go.WideShapes Go.ChangeAt Go.RowKit Go.Deep
set_option linter.unusedVariables false
set_option linter.unusedSimpArgs false

def zeroPk : List Value := [.int .i64 0, .int .i64 0, .int .i64 0, .slice none 0 0]
theorem zero_pk (W : World) : (zeroValue 72).run Try.prog W = .ok (.agg #[.int .i64 0, .int .i64 0, .int .i64 0, .slice none 0 0]) W := by kernel_rfl
theorem size_pk (W : World) : (sizeOf (Try.prog.elem 66)).run Try.prog W = .ok 4 W := by kernel_rfl
theorem zeroPk_one : ∀ v ∈ zeroPk, v.oneCell' = true := by
  intro v hv
  simp only [zeroPk, List.mem_cons, List.not_mem_nil, or_false] at hv
  rcases hv with rfl | rfl | rfl | rfl <;> rfl
/-- One element is cleared. -/
theorem run_clear_pk (w : World) (ty : TypeId) (b o c : Nat) (hc : ∀ j, j < 4 → (w.cell? ⟨b, o + j, none⟩).isSome = true) (hf : ∀ j, j < 4 → w.frozen? ⟨b, o + j, none⟩ = false) :
    (Builtin.clear_ #[66] ty #[.slice (some ⟨b, o, none⟩) 1 c]).run Try.prog w = .ok (.tuple #[]) (w.setCells b o zeroPk) := by
  have hzc : (Builtin.zeroCells (Value.agg #[.int .i64 0, .int .i64 0, .int .i64 0, .slice none 0 0]).cells 1).toList = zeroPk := by kernel_rfl
  have hst := run_storeCells_cells (P := Try.prog) b o zeroPk 0 w (by simpa [zeroPk] using hc) (by simpa [zeroPk] using hf) zeroPk_one
  simp only [Nat.add_zero] at hst
  simp [Builtin.clear_, run_underlying Try.underlying66, zero_pk, hzc, hst]
theorem rowOf_one {Ps : List (Pk × Value)} (h : ∀ p ∈ Ps, p.2.oneCell' = true) : ∀ u ∈ rowOf Ps, u.oneCell' = true := by
  intro u hu
  unfold rowOf at hu
  obtain ⟨p, hp, hu⟩ := List.mem_flatMap.1 hu
  exact pkCells_one p (h p hp) u hu
/-- The row behind a cut. -/
theorem cut_row (cur cur1 cur2 : Array Value) (Ps : List (Pk × Value)) (i cap : Nat) (hi : i < Ps.length) (hs : cur.size = cap * 4) (hn : Ps.length ≤ cap) (ht : cur.toList.take (Ps.length * 4) = rowOf Ps)
    (h1 : ∀ k, cur1[k]? = if i * 4 ≤ k ∧ k < i * 4 + (rowOf (Ps.drop (i + 1))).length ∧ k < cur.size then (rowOf (Ps.drop (i + 1)))[k - i * 4]? else cur[k]?) (s1 : cur1.size = cur.size)
    (h2 : ∀ k, cur2[k]? = if (Ps.length - 1) * 4 ≤ k ∧ k < (Ps.length - 1) * 4 + zeroPk.length ∧ k < cur1.size then zeroPk[k - (Ps.length - 1) * 4]? else cur1[k]?) :
    cur2.toList.take ((Ps.length - 1) * 4) = rowOf (Ps.eraseIdx i) := by
  have hD : (rowOf (Ps.drop (i + 1))).length = (Ps.length - (i + 1)) * 4 := by rw [rowOf_len, List.length_drop]
  have hT : (rowOf (Ps.take i)).length = i * 4 := by rw [rowOf_len, List.length_take]; omega
  rw [List.eraseIdx_eq_take_drop_succ, rowOf_append]
  apply List.ext_getElem?
  intro k
  by_cases hk : k < (Ps.length - 1) * 4
  · rw [List.getElem?_take_of_lt hk, Array.getElem?_toList, h2, if_neg (by omega), h1]
    by_cases hki : i * 4 ≤ k
    · rw [if_pos (by omega), List.getElem?_append_right (by omega), hT]
    · rw [if_neg (by omega), List.getElem?_append_left (by omega)]
      have e : cur[k]? = (cur.toList.take (Ps.length * 4))[k]? := by rw [List.getElem?_take_of_lt (by omega), Array.getElem?_toList]
      rw [e, ht, ← rowOf_take Ps i (by omega), List.getElem?_take_of_lt (by omega)]
  · rw [List.getElem?_eq_none (by rw [List.length_take]; omega), List.getElem?_eq_none (by rw [List.length_append, hT, hD]; omega)]
/-- The address of a part that may be empty at the end. -/
theorem sliced_at (g i n cap : Nat) : ∃ o, sliced (some ⟨g, 0, none⟩) i n cap 4 = .slice (some ⟨g, o, none⟩) (n - i) (cap - i) ∧ (i < cap → o = i * 4) := by
  unfold sliced
  by_cases h : cap = i
  · exact ⟨0, by rw [if_pos h], fun hh => by omega⟩
  · exact ⟨i * 4, by rw [if_neg h]; simp [add_plain], fun _ => rfl⟩
set_option maxRecDepth 100000 in
set_option maxHeartbeats 4000000 in
theorem Delete_any (w : World) (B : Nat) (v : Value) (L : List Pk) (F : Nat → Prop) (hW : WRow w B v L F) (i : Nat) (hi : i < L.length) (j : Int) (hj : j = (i : Int) + 1) (hl : L.length ≤ 1099511627776) :
    Calls Try.prog 26 #[v, .int .i64 (i : Int), .int .i64 j] w fun e w' => ∃ v', e = .returned v' ∧ WRow w' B v' (L.eraseIdx i) F ∧ Keeps F w w' ∧ (∀ k, k < w.heap.size → (∀ c, w.heap[k]? ≠ some (.cells c 72 (0, 0))) → w'.heap[k]? = w.heap[k]?) ∧ w'.heap.size = w.heap.size := by
  obtain ⟨Ps, e, hr, hg, hps⟩ := hW
  have hPl : Ps.length = L.length := by rw [← e]; simp
  rcases hr.2 with ⟨_, h0⟩ | ⟨g, cap, cur, rfl, hgB, hh, q1, q2, q3, q4⟩
  · omega
  have hgl := lt_of_block hh
  have hFg := hg g rfl
  have hm : (cap : Int) ≤ 9223372036854775807 := by unfold maxLen at q2; omega
  have hcell := fun (k : Nat) (hk : k < cap * 4) => (show (w.cell? ⟨g, k, none⟩).isSome = true by simp [World.cell?, hh]; omega)
  have hfr := fun (k : Nat) => (show w.frozen? ⟨g, k, none⟩ = false by simp [World.frozen?, hh])
  obtain ⟨o1, ho1, ho1'⟩ := sliced_at g (i + 1) L.length cap
  -- the world behind the append
  obtain ⟨w2, hw2⟩ : ∃ w2, w2 = w.drew.setCells g (0 + i * 4) (rowOf (Ps.drop (i + 1))) := ⟨_, rfl⟩
  have hh0 : w.drew.heap[g]? = some (.cells cur 72 (0, 0)) := hh
  obtain ⟨cur1, c1, s1, h1⟩ := heap_setCells_row g 72 (rowOf (Ps.drop (i + 1))) (0 + i * 4) w.drew cur hh0
  rw [← hw2] at c1
  obtain ⟨cur2, c2, s2, h2⟩ := heap_setCells_row g 72 zeroPk ((L.length - 1) * 4) w2 cur1 c1
  obtain ⟨w3, hw3⟩ : ∃ w3, w3 = w2.setCells g ((L.length - 1) * 4) zeroPk := ⟨_, rfl⟩
  rw [← hw3] at c2
  have hrest2 := setCells_rest g (rowOf (Ps.drop (i + 1))) (0 + i * 4) w.drew
  have hrest3 := setCells_rest g zeroPk ((L.length - 1) * 4) w2
  rw [← hw2] at hrest2
  rw [← hw3] at hrest3
  have hsz2 : w2.heap.size = w.heap.size := by rw [hw2]; exact size_setCells' _ _ _ _
  have hsz3 : w3.heap.size = w.heap.size := by rw [hw3, size_setCells']; exact hsz2
  have hfar : ∀ k, k ≠ g → w3.heap[k]? = w.heap[k]? := fun k hk => by rw [hw3, heap_setCells_far _ _ _ _ _ hk, hw2, heap_setCells_far _ _ _ _ _ hk]; rfl
  have hrow := cut_row cur cur1 cur2 Ps i cap (by omega) q3 (by omega) (by rw [hPl]; exact q4) (by simpa using h1) s1 (by rw [hPl]; exact h2)
  have hclear : ∀ ty, (Builtin.clear_ #[66] ty #[.slice (some ⟨g, (L.length - 1) * 4, none⟩) 1 (cap - (L.length - 1))]).run Try.prog w2 = .ok (.tuple #[]) w3 := fun ty => by
    rw [hw3]
    exact run_clear_pk w2 ty g ((L.length - 1) * 4) _ (fun j hj => by simp [World.cell?, c1, s1, q3]; omega) (fun j hj => by simp [World.frozen?, c1])
  have hfin : WRow w3 B (.slice (some ⟨g, 0, none⟩) (L.length - 1) cap) (L.eraseIdx i) F := by
    have hlen : (L.eraseIdx i).length = L.length - 1 := by rw [List.length_eraseIdx]; simp [hi]
    refine ⟨Ps.eraseIdx i, by rw [← e, List.eraseIdx_eq_take_drop_succ, List.eraseIdx_eq_take_drop_succ, List.map_append, List.map_take, List.map_drop], ?_, fun k hk => hg k hk, fun p hp => ?_⟩
    · rw [hlen]
      refine ⟨by rw [rowOf_len, List.length_eraseIdx, if_pos (by omega), hPl], .inr ⟨g, cap, cur2, rfl, hgB, c2, by omega, q2, by rw [s2, s1, q3], ?_⟩⟩
      rw [hPl] at hrow
      exact hrow
    · obtain ⟨k1, k2⟩ := hps p (List.mem_of_mem_eraseIdx hp)
      refine ⟨⟨k1.1, k1.2.imp id fun ⟨g', cap', cur', hv, hB', hh', r⟩ => ⟨g', cap', cur', hv, hB', (hfar g' (fun eq => ?_)).trans hh', r⟩⟩, k2⟩
      subst eq
      rw [hh] at hh'
      simp at hh'
  have hkeep : Keeps F w w3 := ⟨hrest3.1.trans hrest2.1, hrest3.2.1.trans hrest2.2.1, hrest3.2.2.trans hrest2.2.2, by omega, fun k hk hn => hfar k (fun eq => hn (by rw [eq]; exact hFg))⟩
  have hothers : ∀ k, k < w.heap.size → (∀ c, w.heap[k]? ≠ some (.cells c 72 (0, 0))) → w3.heap[k]? = w.heap[k]? := fun k hk hn => hfar k (fun eq => hn cur (by rw [eq]; exact hh))
  -- what the walk is told
  have hs1 : ∀ W, (Instr.slice 66 (.slice (some ⟨g, 0, none⟩) L.length cap) (some (.int .i64 (i : Int))) (some (.int .i64 j)) (some (.int .i64 (L.length : Int)))).run Try.prog W = .ok (sliced (some ⟨g, 0, none⟩) i (i + 1) L.length 4) W := fun W => by
    rw [run_slice_lhm (P := Try.prog) (w := W) (t := 66) (a := some ⟨g, 0, none⟩) (len := L.length) (cap := cap) Try.underlying66 .i64 .i64 .i64 (i : Int) j (L.length : Int) (by omega) (by omega) (by omega) (by omega), size_pk, hj]
    simp only [Result.andThen]
    congr 2 <;> omega
  have hs2 : ∀ W, (Instr.slice 66 (.slice (some ⟨g, 0, none⟩) L.length cap) none (some (.int .i64 (i : Int))) none).run Try.prog W = .ok (.slice (some ⟨g, 0, none⟩) i cap) W := fun W => by
    rw [run_slice_h (P := Try.prog) (w := W) (t := 66) (a := some ⟨g, 0, none⟩) (len := L.length) (cap := cap) Try.underlying66 .i64 (i : Int) (by omega) (by omega), size_pk]
    simp only [Result.andThen, sliced, Int.toNat_natCast, Nat.sub_zero, Nat.zero_mul]
    congr 2
    split
    · rfl
    · simp [add_plain]
  have hs3 : ∀ W, (Instr.slice 66 (.slice (some ⟨g, 0, none⟩) L.length cap) (some (.int .i64 j)) none none).run Try.prog W = .ok (.slice (some ⟨g, o1, none⟩) (L.length - (i + 1)) (cap - (i + 1))) W := fun W => by
    rw [run_slice_l (P := Try.prog) (w := W) (t := 66) (a := some ⟨g, 0, none⟩) (len := L.length) (cap := cap) Try.underlying66 .i64 j (by omega) (by omega), size_pk, hj, ← ho1]
    simp only [Result.andThen]
    congr 2 <;> omega
  have hn1 : i + (L.length - (i + 1)) = L.length - 1 := by omega
  obtain ⟨n1, hn1'⟩ : ∃ n1, n1 = L.length - 1 := ⟨_, rfl⟩
  have hs4 : ∀ W, (Instr.slice 66 (.slice (some ⟨g, 0, none⟩) n1 cap) (some (.int .i64 (n1 : Int))) (some (.int .i64 (L.length : Int))) none).run Try.prog W = .ok (.slice (some ⟨g, n1 * 4, none⟩) 1 (cap - n1)) W := fun W => by
    rw [run_slice_lh (P := Try.prog) (w := W) (t := 66) (a := some ⟨g, 0, none⟩) (len := n1) (cap := cap) Try.underlying66 .i64 .i64 (n1 : Int) (L.length : Int) (by omega) (by omega) (by omega), size_pk]
    simp only [Result.andThen, sliced, Int.toNat_natCast]
    rw [if_neg (by omega)]
    have : L.length - n1 = 1 := by omega
    simp [add_plain, this]
  rw [← hn1'] at hclear hfin hn1
  have HN := Lib.hid hn1'
  have HN1 := Lib.hid hn1
  have HW2 := Lib.hid hw2
  have HK := Lib.hid hkeep
  have HOT := Lib.hid hothers
  have HFIN := Lib.hid hfin
  have HSZ := Lib.hid hsz3
  have HE := Lib.hid e
  have HCE := Lib.hid hcell
  have HFR := Lib.hid hfr
  have HH := Lib.hid hh
  have HQ4 := Lib.hid q4
  have HPS := Lib.hid hps
  have HO1 := Lib.hid ho1'
  have HPL := Lib.hid hPl
  have HQ2 := Lib.hid q2
  have HQ3 := Lib.hid q3
  have hij : ¬ ((i : Int) = j) := by omega
  obtain ⟨sv, nv, cv, hsv⟩ : ∃ p n c, sliced (some ⟨g, 0, none⟩) i (i + 1) L.length 4 = .slice p n c := ⟨_, _, _, rfl⟩
  rw [hsv] at hs1
  clear hr hps hg e hgB hh q2 q3 q4 hcell hfr ho1 ho1' hw2 hh0 c1 h1 c2 h2 s1 s2 hw3 hrest2 hrest3 hsz2 hsz3 hfar hrow hfin hkeep hothers hn1 hn1' hsv hPl hj
  go_enter Try.func26, Try.ntmps26
  go_wp2_with fail
  refine wp_region_held_drew (S := fun _ => True) (by kernel_rfl) trivial (fun hHeld => ?_)
  refine wpAnyH_take (i := 0) (oi := _) (v := ?_) rfl (by kernel_rfl) (by kernel_rfl) (by kernel_rfl) (fun _ _ _ h => h) (Or.inl ⟨by rfl, ?hy⟩) (by assumption) ?rest
  case hy =>
    intro w9 hSw
    try dsimp only at hSw
    try simp only [List.getElem_toArray, List.getElem_cons_zero, List.getElem_cons_succ]
    go_simp
    try with_reducible rfl
  case rest =>
    try simp only [Act.put, List.setIfInBounds_toArray, List.set_cons_zero, List.set_cons_succ, List.getElem_toArray, List.getElem_cons_zero, List.getElem_cons_succ]
    refine wpAnyH_take (i := 1) (oi := _) (v := ?_) rfl (by kernel_rfl) (by kernel_rfl) (by kernel_rfl) (fun _ _ _ h => h) (Or.inl ⟨by rfl, ?hy⟩) (by assumption) ?rest
    case hy =>
      intro w9 hSw
      try dsimp only at hSw
      try simp only [List.getElem_toArray, List.getElem_cons_zero, List.getElem_cons_succ]
      go_simp
      try with_reducible rfl
    case rest =>
      try simp only [Act.put, List.setIfInBounds_toArray, List.set_cons_zero, List.set_cons_succ, List.getElem_toArray, List.getElem_cons_zero, List.getElem_cons_succ]
      refine wpAnyH_take (i := 2) (oi := _) (v := ?_) rfl (by kernel_rfl) (by kernel_rfl) (by kernel_rfl) (fun _ _ _ h => h) (Or.inl ⟨by rfl, ?hy⟩) (by assumption) ?rest
      case hy =>
        intro w9 hSw
        try dsimp only at hSw
        try simp only [List.getElem_toArray, List.getElem_cons_zero, List.getElem_cons_succ]
        go_simp
        try with_reducible rfl
      case rest =>
        try simp only [Act.put, List.setIfInBounds_toArray, List.set_cons_zero, List.set_cons_succ, List.getElem_toArray, List.getElem_cons_zero, List.getElem_cons_succ]
        refine wpAnyH_take (i := 3) (oi := _) (v := ?_) rfl (by kernel_rfl) (by kernel_rfl) (by kernel_rfl) (fun _ _ _ h => h) (Or.inl ⟨by rfl, ?hy⟩) (by assumption) ?rest
        case hy =>
          intro w9 hSw
          try dsimp only at hSw
          try simp only [List.getElem_toArray, List.getElem_cons_zero, List.getElem_cons_succ]
          go_simp
          try with_reducible rfl
        case rest =>
          try simp only [Act.put, List.setIfInBounds_toArray, List.set_cons_zero, List.set_cons_succ, List.getElem_toArray, List.getElem_cons_zero, List.getElem_cons_succ]
          refine wpAnyH_take (i := 4) (oi := _) (v := ?_) rfl (by kernel_rfl) (by kernel_rfl) (by kernel_rfl) (fun _ _ _ h => h) (Or.inl ⟨by rfl, ?hy⟩) (by assumption) ?rest
          case hy =>
            intro w9 hSw
            try dsimp only at hSw
            try simp only [List.getElem_toArray, List.getElem_cons_zero, List.getElem_cons_succ]
            go_simp
            try with_reducible rfl
          case rest =>
            try simp only [Act.put, List.setIfInBounds_toArray, List.set_cons_zero, List.set_cons_succ, List.getElem_toArray, List.getElem_cons_zero, List.getElem_cons_succ]
            refine wpAnyH_take (i := 5) (oi := _) (v := ?_) rfl (by kernel_rfl) (by kernel_rfl) (by kernel_rfl) (fun _ _ _ h => h) (Or.inl ⟨by rfl, ?hy⟩) (by assumption) ?rest
            case hy =>
              intro w9 hSw
              try dsimp only at hSw
              try simp only [List.getElem_toArray, List.getElem_cons_zero, List.getElem_cons_succ]
              go_simp
              try with_reducible rfl
            case rest =>
              try simp only [Act.put, List.setIfInBounds_toArray, List.set_cons_zero, List.set_cons_succ, List.getElem_toArray, List.getElem_cons_zero, List.getElem_cons_succ]
              refine wpAnyH_ready (rs := [6]) (by kernel_rfl) (by simp) (AllReadyH.cons (o := _) rfl (fun K hK => ?_) AllReadyH.nil)
              refine step_append_room ?hgd (.tmp 22) (.tmp 25) 66 ?ho 72 (info_parts info_pk).choose 4 Try.underlying66 ?hi ?hz g 0 i cap ?hs ⟨g, o1, none⟩ (L.length - (i + 1)) (cap - (i + 1)) (rowOf (Ps.drop (i + 1))) ?hx ?hn ?hc ?h1 ?hroom ?hspare ?hK
              case hgd => rfl
              case ho => rfl
              case hi => exact (info_parts info_pk).choose_spec.1
              case hz => exact (info_parts info_pk).choose_spec.2.2.1
              case hs => rfl
              case hx => rfl
              case hn => rw [rowOf_len, List.length_drop, HPL.out]
              case hc =>
                intro k u hk
                have hkl : k < (Ps.length - (i + 1)) * 4 := by
                  have := (List.getElem?_eq_some_iff.1 hk).1
                  rw [rowOf_len, List.length_drop] at this
                  exact this
                have hcap : i + 1 < cap := by have := HPL.out; omega
                rw [HO1.out hcap, add_plain]
                have hq4 := HQ4.out
                rw [← rowOf_drop Ps (i + 1) (by have := HPL.out; omega), List.getElem?_drop, ← hq4, List.getElem?_take_of_lt (by have := HPL.out; omega), Array.getElem?_toList] at hk
                show w.cell? _ = _
                simp [World.cell?, HH.out, hk]
              case h1 => exact rowOf_one (fun p hp => by
                obtain ⟨q, cap', hv, _⟩ := (HPS.out p (List.mem_of_mem_drop hp)).1.has.form
                rw [hv]; rfl)
              case hroom => omega
              case hspare =>
                intro k hk
                rw [rowOf_len, List.length_drop, HPL.out] at hk
                exact ⟨HCE.out _ (by omega), HFR.out _⟩
              rw [← HW2.out, HN1.out]
              refine hK.out _ _ (trivial) (fun hHeld => ?_)
              clear hK K
              try simp only [Act.put, List.setIfInBounds_toArray, List.set_cons_zero, List.set_cons_succ, List.getElem_toArray, List.getElem_cons_zero, List.getElem_cons_succ]
              refine wpAnyH_take (i := 7) (oi := _) (v := ?_) rfl (by kernel_rfl) (by kernel_rfl) (by kernel_rfl) (fun _ _ _ h => h) (Or.inl ⟨by rfl, ?hy⟩) (by assumption) ?rest
              case hy =>
                intro w9 hSw
                try dsimp only at hSw
                try simp only [List.getElem_toArray, List.getElem_cons_zero, List.getElem_cons_succ]
                go_simp
                try with_reducible rfl
              case rest =>
                try simp only [Act.put, List.setIfInBounds_toArray, List.set_cons_zero, List.set_cons_succ, List.getElem_toArray, List.getElem_cons_zero, List.getElem_cons_succ]
                refine wpAnyH_done (by kernel_rfl) ?_ _
                go_wp2
                go_ret
                exact ⟨_, rfl, HFIN.out, HK.out, HOT.out, HSZ.out⟩
end Go.Proofs.Ytaopnoaopcbkoaa
