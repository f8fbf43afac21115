/-
  The statement MergeMerges, walked.
-/
import Derived.Test.YtfdafoibclfpgaaMRet2
import Derived.LoopN
namespace Go.Proofs.Ytfdafoibclfpgaa
open Go.ChangeShapes Go.WideShapes Go.ChangeAt Go.RowKit Go.Deep Go.Shelf
set_option linter.unusedVariables false
set_option linter.unusedSimpArgs false
attribute [local go_sem] Oper.semAt_some
theorem HKX_of {w W : World} {y : Value} {x : List Itm} (h : HasK w encI y x) (hb : Below w.heap.size w W) : HasK W encI y x := h.below hb
def qItmM : Itm := ⟨⟨#[113]⟩, 0, false, ⟨#[]⟩⟩
theorem res_mm (tmps : Array Value) (W : World) (R : Nat) (hp : tmps.getD 4 undef = .pointer (some ⟨R, 0, none⟩)) (hc : W.cell? ⟨R, 0, none⟩ = some (.bool true)) : (results Try.f4 tmps).run Try.prog W = .ok (.bool true) W := by
  have hr : Try.f4.results = #[.cell 4 4] := rfl
  simp only [Array.getD_eq_getD_getElem?] at hp
  simp [results, hr, go_sem, hp, hc]
theorem ret_mm {B : Nat} {w W : World} {R : Nat} {tmps : Array Value} (hp : tmps.getD 4 undef = .pointer (some ⟨R, 0, none⟩)) (hc : ∃ u, W.cell? ⟨R, 0, none⟩ = some u) (hb : Below B w W) (hB : B ≤ R) (hw : w.heap.size = B) :
    NoP (bodyPostM Fence.wide 9 Try.prog Try.f4 (fun e w' => e = .returned (.bool true) ∧ Below w.heap.size w w')) .ret { tmps := tmps, defers := [] } (W.setCell ⟨R, 0, none⟩ (.bool true)) := by
  obtain ⟨u, hu⟩ := hc
  have h1 := World.cell?_setCell_same' W ⟨R, 0, none⟩ (.bool true) (by rw [hu]; rfl)
  exact ⟨.bool true, res_mm tmps _ R hp h1, rfl, by rw [hw]; exact hb.setCell (p := ⟨R, 0, none⟩) hB _⟩
set_option maxRecDepth 100000 in
set_option maxHeartbeats 64000000 in
theorem Merges_any (v : Value) (L : List (List Itm)) (leave : Int) (w : World) (hv : HasI w v L) :
    Calls Try.prog 4 #[v, .int .i64 leave] w fun e w' => e = .returned (.bool true) ∧ Below w.heap.size w w' := by
  obtain ⟨p, cap, rfl, h1, h2⟩ := hv.form
  obtain ⟨N, hN⟩ : ∃ N, L.length = N := ⟨_, rfl⟩
  have HV := Lib.hid hv
  have HN := Lib.hid hN
  rw [hN] at h1 HV ⊢
  have hcI : (cap : Int) ≤ 9223372036854775807 := by unfold maxLen at h2; omega
  clear hv hN h2
  refine (callsIn_wide (n := 9)).1 ?_
  refine callsIn_of_wp_marks Try.func4 rfl trivial ?_ rfl
  refine wpIn_wide.2 ?_
  refine wp_mono (Q := NoP (bodyPostM Fence.wide 9 Try.prog Try.f4 (fun e w' => e = .returned (.bool true) ∧ Below w.heap.size w w'))) ?_ (fun e a w h => h.to)
  simp only [Try.ntmps4, List.size_toArray, List.length_cons, List.length_nil, Nat.reduceAdd, Nat.reduceSub, Array.replicate_succ, Array.replicate_zero, List.push_toArray, List.append_toArray, List.nil_append, List.cons_append]
  have bL := Boxed.new w 3 (.int .i64 leave)
  have hB0 := (Below.refl w.heap.size w).alloc (Nat.le_refl _) (.cells #[.int .i64 leave] 3)
  have hsz0 : (w.alloc (.cells #[.int .i64 leave] 3)).heap.size = w.heap.size + 1 := World.size_alloc _ _
  have bR := Boxed.new (w.alloc (.cells #[.int .i64 leave] 3)) 4 (.bool false)
  have bL1 := bL.alloc (.cells #[.bool false] 4)
  have hB1 := hB0.alloc (by rw [hsz0]; omega) (.cells #[.bool false] 4)
  rw [hsz0] at bR
  clear bL hB0
  go_wp2_with fail
  obtain ⟨wA, hwA⟩ : ∃ W, (w.alloc (.cells #[.int .i64 leave] 3)).alloc (.cells #[.bool false] 4) = W := ⟨_, rfl⟩
  obtain ⟨B, hB⟩ : ∃ B, w.heap.size = B := ⟨_, rfl⟩
  rw [hwA] at bR bL1 hB1 ⊢
  rw [hB] at bR bL1 hB1 ⊢
  obtain ⟨R, hR⟩ : ∃ R, B + 1 = R := ⟨_, rfl⟩
  rw [hR] at bR ⊢
  have HBB := Lib.hid hB
  have HRB := Lib.hid hR
  have HAB := Lib.hid hB1
  clear hwA hB1 hB hR hsz0
  refine (Awake_any wA).mono ?_
  rintro e w1 ⟨rfl, hb1⟩
  have bR1 := bR.kept (row := none) ⟨hb1.os, hb1.tape, hb1.output, hb1.size, fun k hk _ => hb1.block k hk⟩ (by simp)
  have bL1' := bL1.kept (row := none) ⟨hb1.os, hb1.tape, hb1.output, hb1.size, fun k hk _ => hb1.block k hk⟩ (by simp)
  have HBR := Lib.hid bR1
  have HBL := Lib.hid bL1'
  have HB1 := Lib.hid (HAB.out.trans (hb1.mono (by have := HAB.out.size; rw [HBB.out] at this; exact this)))
  clear hb1 bR bL1 bL1' HAB
  have cR := HBR.out.cell
  have fR := HBR.out.frozen
  rcases Nat.lt_or_ge 12 N with hn | hn
  · have hI : (12 : Int) < (N : Int) := by omega
    go_wp2
    exact ret_mm rfl ⟨_, cR⟩ HB1.out (by have := HRB.out; omega) HBB.out
  have hI : ¬ (12 : Int) < (N : Int) := by omega
  have HSB1 := Lib.hid (show B ≤ w1.heap.size by have := HB1.out.size; rw [HBB.out] at this; exact this)
  have HR1 := Lib.hid HBR.out.lt
  go_wp2_with fail
  go_loopw [5, 6, 7] (fun vs va vi wr => ∃ (i : Nat) (M : List Rw) (z : Value), z = va ∧ vi = .int .i64 (i : Int) ∧ i ≤ N ∧ vs = .bool ((L.take i).all sortedB) ∧ OwnL wr w1.heap.size va M ∧ M.map Rw.list = L.take i ∧ (∀ x ∈ M, x.list.length ≤ 60) ∧ Below w1.heap.size w1 wr) (fun _ _ vi _ => N - (intOf vi).toNat)
  case atStart => exact ⟨0, [], _, rfl, by first | rfl | go_num, Nat.zero_le _, rfl, OwnL.nil _ _, rfl, (fun x h => nomatch h), Below.refl _ _⟩
  case round =>
    obtain ⟨i, M, va, rfl, rfl, hi, rfl, hol, hmap, hlen, hb⟩ := hrel
    obtain ⟨W0, rfl⟩ : ∃ W0, W0 = wr := ⟨wr, rfl⟩
    have HOL0 := Lib.hid hol
    have HMAP0 := Lib.hid hmap
    have HLEN0 := Lib.hid hlen
    have HB10 := Lib.hid hb
    have HBW0 := Lib.hid (HB1.out.trans (hb.mono HSB1.out))
    have HS10 := Lib.hid hb.size
    have bR0 := HBR.out.kept (row := none) ⟨hb.os, hb.tape, hb.output, hb.size, fun k hk _ => hb.block k hk⟩ (by simp)
    have cR0 := bR0.cell
    have fR0 := bR0.frozen
    obtain ⟨sb, hsb⟩ : ∃ s, (L.take i).all sortedB = s := ⟨_, rfl⟩
    have HSB := Lib.hid hsb
    rw [hsb]
    clear hol hmap hlen hb bR0 hsb
    rcases Nat.lt_or_ge i N with hlt | hge
    · have hI : (i : Int) < (N : Int) := by omega
      have hi0 : (0 : Int) ≤ (i : Int) := by omega
      have hil : i < L.length := by rw [HN.out]; exact hlt
      obtain ⟨b, o, y, rfl, hbl, hy, hk⟩ := HV.out.elem i hil
      have htk : L.take (i + 1) = L.take i ++ [L[i]] := List.take_succ_eq_append_getElem hil
      obtain ⟨x, hx⟩ : ∃ x, L[i] = x := ⟨_, rfl⟩
      rw [hx] at hk htk
      obtain ⟨py, cy, rfl, hc1, hc2⟩ := hk.form
      obtain ⟨m, hm⟩ : ∃ m, x.length = m := ⟨_, rfl⟩
      have HM := Lib.hid hm
      have HTK := Lib.hid htk
      have HKX := Lib.hid hk
      rw [hm] at hy hc1 HKX
      have hcK : (cy : Int) ≤ 9223372036854775807 := by unfold maxLen at hc2; omega
      have HY := Lib.hid hy
      have hy0 := (HBW0.out.cell (by rw [← HBB.out]; exact cell_lt hy)).trans hy
      have HKX0 := Lib.hid (HKX.out.below (by rw [HBB.out]; exact HBW0.out))
      clear hk hx hm hc2 hil hy htk
      rcases Nat.lt_or_ge 60 m with hm6 | hm6
      · have hJ : (60 : Int) < (m : Int) := by omega
        go_wp2
        exact ret_mm rfl ⟨_, cR0⟩ HBW0.out (by have := HRB.out; omega) HBB.out
      have hJ : ¬ (60 : Int) < (m : Int) := by omega
      go_upto_region 12 with fail
      go_cut [5] from 34 to 41 (fun u wz => u = .bool (sb && sortedB x) ∧ ∃ W1, W1 = wz ∧ Below W0.heap.size W0 W1)
      case first =>
        cases sb with
        | true =>
          go_wp2_with fail
          refine (RefSorted_any _ x W0 HKX0.out (by rw [HM.out]; omega)).mono ?_
          rintro e w9 ⟨rfl, hb9⟩
          have HB9 := Lib.hid hb9
          clear hb9
          go_wp2
          go_meet
          exact ⟨by simp, _, rfl, HB9.out⟩
        | false =>
          go_wp2
          go_meet
          exact ⟨rfl, _, rfl, Below.refl _ _⟩
      case rest =>
        obtain ⟨rfl, W1, rfl, hbr⟩ := hcut
        have HOL1 := Lib.hid (HOL0.out.below hbr)
        have HBW1 := Lib.hid (HBW0.out.trans (hbr.mono (by have := HBW0.out.size; rw [HBB.out] at this; exact this)))
        have HSW1 := Lib.hid (show B ≤ W1.heap.size by have := HBW1.out.size; rw [HBB.out] at this; exact this)
        have HB11 := Lib.hid (HB10.out.trans (hbr.mono HS10.out))
        have HS11 := Lib.hid (Nat.le_trans HS10.out hbr.size)
        have HALL := Lib.hid (show (L.take (i + 1)).all sortedB = (sb && sortedB x) by rw [HTK.out, List.all_append, HSB.out]; simp)
        have HML := Lib.hid (show M.length ≤ 12 by
          have z : (M.map Rw.list).length = (L.take i).length := by rw [HMAP0.out]
          rw [List.length_map, List.length_take] at z
          omega)
        have HMAP := Lib.hid (show ∀ r : Rw, r.list = x → (M ++ [r]).map Rw.list = L.take (i + 1) from fun r hr => by rw [List.map_append, HMAP0.out, HTK.out, List.map_cons, hr]; rfl)
        have HLEN := Lib.hid (show ∀ r : Rw, r.list = x → ∀ y ∈ M ++ [r], y.list.length ≤ 60 from fun r hr y hy => by
          rcases List.mem_append.1 hy with hy | hy
          · exact HLEN0.out y hy
          · obtain rfl := List.mem_singleton.1 hy
            rw [hr, HM.out]; exact hm6)
        clear hbr hy0
        obtain ⟨sc, hsc⟩ : ∃ s, (sb && sortedB x) = s := ⟨_, rfl⟩
        rw [hsc] at HALL ⊢
        clear hsc
        go_upto_region 13 with fail
        refine wp_region_held_drew (S := fun W' => Below B w W') (by kernel_rfl) (HBW1.out.trans ((Below.refl W1.heap.size W1).drew.mono HSW1.out)) (fun hHeld => ?_)
        refine wpAnyH_take (i := 0) (oi := _) (v := ?_) rfl (by kernel_rfl) (by kernel_rfl) (by kernel_rfl) (fun _ _ _ h => h) (Or.inl ⟨by kernel_rfl, ?hy1⟩) (by assumption) ?_
        case hy1 =>
          intro w9 hSw
          try dsimp only at hSw
          try simp only [List.getElem_toArray, List.getElem_cons_zero, List.getElem_cons_succ]
          go_simp
          try with_reducible rfl
        try simp only [Act.put, List.setIfInBounds_toArray, List.set_cons_zero, List.set_cons_succ, List.getElem_toArray, List.getElem_cons_zero, List.getElem_cons_succ]
        refine wpAnyH_take (i := 2) (oi := _) (v := ?_) rfl (by kernel_rfl) (by kernel_rfl) (by kernel_rfl) (fun _ _ _ h => h) (Or.inl ⟨by kernel_rfl, ?hy2⟩) (by assumption) ?_
        case hy2 =>
          intro w9 hSw
          try dsimp only at hSw
          try simp only [List.getElem_toArray, List.getElem_cons_zero, List.getElem_cons_succ]
          go_simp
          try with_reducible rfl
        try simp only [Act.put, List.setIfInBounds_toArray, List.set_cons_zero, List.set_cons_succ, List.getElem_toArray, List.getElem_cons_zero, List.getElem_cons_succ]
        refine wpAnyH_take (i := 3) (oi := _) (v := ?_) rfl (by kernel_rfl) (by kernel_rfl) (by kernel_rfl) (fun _ _ _ h => h) (Or.inl ⟨by kernel_rfl, ?hy3⟩) (by assumption) ?_
        case hy3 =>
          intro w9 hSw
          try dsimp only at hSw
          try simp only [List.getElem_toArray, List.getElem_cons_zero, List.getElem_cons_succ]
          go_simp
          try with_reducible rfl
        try simp only [Act.put, List.setIfInBounds_toArray, List.set_cons_zero, List.set_cons_succ, List.getElem_toArray, List.getElem_cons_zero, List.getElem_cons_succ]
        refine wpAnyH_take (i := 4) (oi := _) (v := ?_) rfl (by kernel_rfl) (by kernel_rfl) (by kernel_rfl) (fun _ _ _ h => h) (Or.inl ⟨by kernel_rfl, ?hy4⟩) (by assumption) ?_
        case hy4 =>
          intro w9 hSw
          try dsimp only at hSw
          try simp only [List.getElem_toArray, List.getElem_cons_zero, List.getElem_cons_succ]
          go_simp
          try with_reducible rfl
        try simp only [Act.put, List.setIfInBounds_toArray, List.set_cons_zero, List.set_cons_succ, List.getElem_toArray, List.getElem_cons_zero, List.getElem_cons_succ]
        refine wpAnyH_take (i := 5) (oi := _) (v := .slice py m cy) rfl (by kernel_rfl) (by kernel_rfl) (by kernel_rfl) (fun _ _ _ h => h) (Or.inl ⟨by kernel_rfl, ?hy5⟩) (by assumption) ?_
        case hy5 =>
          intro w9 hSw
          try dsimp only at hSw
          try simp only [List.getElem_toArray, List.getElem_cons_zero, List.getElem_cons_succ]
          go_simp
          have a0 := (hSw.cell (by rw [← HBB.out]; exact cell_lt HY.out)).trans HY.out
          try go_simp
          try rfl
        try simp only [Act.put, List.setIfInBounds_toArray, List.set_cons_zero, List.set_cons_succ, List.getElem_toArray, List.getElem_cons_zero, List.getElem_cons_succ]
        refine wpAnyH_take (i := 7) (oi := _) (v := ?_) rfl (by kernel_rfl) (by kernel_rfl) (by kernel_rfl) (fun _ _ _ h => h) (Or.inl ⟨by kernel_rfl, ?hy6⟩) (by assumption) ?_
        case hy6 =>
          intro w9 hSw
          try dsimp only at hSw
          try simp only [List.getElem_toArray, List.getElem_cons_zero, List.getElem_cons_succ]
          go_simp
          try with_reducible rfl
        try simp only [Act.put, List.setIfInBounds_toArray, List.set_cons_zero, List.set_cons_succ, List.getElem_toArray, List.getElem_cons_zero, List.getElem_cons_succ]
        refine wpAnyH_take (i := 10) (oi := _) (v := ?_) rfl (by kernel_rfl) (by kernel_rfl) (by kernel_rfl) (fun _ _ _ h => h) (Or.inl ⟨by kernel_rfl, ?hy7⟩) (by assumption) ?_
        case hy7 =>
          intro w9 hSw
          try dsimp only at hSw
          try simp only [List.getElem_toArray, List.getElem_cons_zero, List.getElem_cons_succ]
          go_simp
          try with_reducible rfl
        try simp only [Act.put, List.setIfInBounds_toArray, List.set_cons_zero, List.set_cons_succ, List.getElem_toArray, List.getElem_cons_zero, List.getElem_cons_succ]
        refine wpAnyH_take (i := 11) (oi := _) (v := ?_) rfl (by kernel_rfl) (by kernel_rfl) (by kernel_rfl) (fun _ _ _ h => h) (Or.inl ⟨by kernel_rfl, ?hy8⟩) (by assumption) ?_
        case hy8 =>
          intro w9 hSw
          try dsimp only at hSw
          try simp only [List.getElem_toArray, List.getElem_cons_zero, List.getElem_cons_succ]
          go_simp
          try with_reducible rfl
        try simp only [Act.put, List.setIfInBounds_toArray, List.set_cons_zero, List.set_cons_succ, List.getElem_toArray, List.getElem_cons_zero, List.getElem_cons_succ]
        refine wpAnyH_take (i := 12) (oi := _) (v := ?_) rfl (by kernel_rfl) (by kernel_rfl) (by kernel_rfl) (fun _ _ _ h => h) (Or.inl ⟨by kernel_rfl, ?hy9⟩) (by assumption) ?_
        case hy9 =>
          intro w9 hSw
          try dsimp only at hSw
          try simp only [List.getElem_toArray, List.getElem_cons_zero, List.getElem_cons_succ]
          go_simp
          try with_reducible rfl
        try simp only [Act.put, List.setIfInBounds_toArray, List.set_cons_zero, List.set_cons_succ, List.getElem_toArray, List.getElem_cons_zero, List.getElem_cons_succ]
        refine wpAnyH_take (i := 13) (oi := _) (v := .slice py m cy) rfl (by kernel_rfl) (by kernel_rfl) (by kernel_rfl) (fun _ _ _ h => h) (Or.inl ⟨by kernel_rfl, ?hy10⟩) (by assumption) ?_
        case hy10 =>
          intro w9 hSw
          try dsimp only at hSw
          try simp only [List.getElem_toArray, List.getElem_cons_zero, List.getElem_cons_succ]
          go_simp
          have a0 := (hSw.cell (by rw [← HBB.out]; exact cell_lt HY.out)).trans HY.out
          try go_simp
          try rfl
        try simp only [Act.put, List.setIfInBounds_toArray, List.set_cons_zero, List.set_cons_succ, List.getElem_toArray, List.getElem_cons_zero, List.getElem_cons_succ]
        refine wpAnyH_take (i := 14) (oi := _) (v := ?_) rfl (by kernel_rfl) (by kernel_rfl) (by kernel_rfl) (fun _ _ _ h => h) (Or.inl ⟨by kernel_rfl, ?hy11⟩) (by assumption) ?_
        case hy11 =>
          intro w9 hSw
          try dsimp only at hSw
          try simp only [List.getElem_toArray, List.getElem_cons_zero, List.getElem_cons_succ]
          go_simp
          try with_reducible rfl
        try simp only [Act.put, List.setIfInBounds_toArray, List.set_cons_zero, List.set_cons_succ, List.getElem_toArray, List.getElem_cons_zero, List.getElem_cons_succ]
        have hP : Below W1.heap.size W1 W1.drew := (Below.refl W1.heap.size W1).drew
        obtain ⟨U0, hU0⟩ : ∃ U, W1.drew = U := ⟨_, rfl⟩
        rw [hU0] at hHeld hP ⊢
        clear hU0
        refine wpAnyH_ready (rs := [1, 8]) (by kernel_rfl) (by simp) (AllReadyH.cons (o := _) rfl (fun K hK => ?_) (AllReadyH.cons (o := _) rfl (fun K hK => ?_) AllReadyH.nil))
        · skip
          try simp only [List.getElem_toArray, List.getElem_cons_zero, List.getElem_cons_succ]
          go_simp
          have hbz0 := (Below.refl U0.heap.size U0).alloc (Nat.le_refl _) (.cells #[] 29)
          have hoz0 := OwnK.empty' U0 W1.heap.size 29 encI hP.size
          have hgs0 : (U0.alloc (.cells #[] 29)).heap.size = U0.heap.size + 1 := World.size_alloc _ _
          replace hP := hP.trans (hbz0.mono hP.size)
          refine hK.out _ _ (HBW1.out.trans (hP.mono HSW1.out)) (fun hHeld => ?_)
          clear hK K
          generalize (U0.alloc (.cells #[] 29)) = u10 at *
          obtain ⟨g0, hg0⟩ : ∃ g, U0.heap.size = g := ⟨_, rfl⟩
          rw [hg0] at hoz0 hgs0 ⊢
          have HOWN := Lib.hid hoz0
          have HGS0 := Lib.hid hgs0
          have HG0 := Lib.hid hg0
          clear hgs0 hg0
          clear hbz0 hoz0
          try simp only [Act.put, List.setIfInBounds_toArray, List.set_cons_zero, List.set_cons_succ, List.getElem_toArray, List.getElem_cons_zero, List.getElem_cons_succ]
          refine wpAnyH_ready (rs := [6, 8]) (by kernel_rfl) (by simp) (AllReadyH.cons (o := _) rfl (fun K hK => ?_) (AllReadyH.cons (o := _) rfl (fun K hK => ?_) AllReadyH.nil))
          · skip
            refine step_append_ka rfl (.tmp 43) (.tmp 47) 23 rfl W1.heap.size 29 encI _ 48 Try.underlying23 info_item rfl (by decide) (.slice (some ⟨g0, 0, none⟩) 0 0) [] rfl HOWN.out _ x rfl (HKX.out.below (by rw [HBB.out]; exact HBW1.out.trans (hP.mono HSW1.out))) (by have z := HM.out; show 0 + x.length ≤ 1000000000; omega) hP.size W1 hP (fun v4 u24 ho4 hb4 hg4 => ?_)
            rw [List.nil_append] at ho4
            replace hP := hb4
            refine hK.out _ _ (HBW1.out.trans (hP.mono HSW1.out)) (fun hHeld => ?_)
            clear hK K
            have HO4 := Lib.hid ho4
            clear ho4 hb4 hg4
            try simp only [Act.put, List.setIfInBounds_toArray, List.set_cons_zero, List.set_cons_succ, List.getElem_toArray, List.getElem_cons_zero, List.getElem_cons_succ]
            refine wpAnyH_ready (rs := [8]) (by kernel_rfl) (by simp) (AllReadyH.cons (o := _) rfl (fun K hK => ?_) AllReadyH.nil)
            try simp only [List.getElem_toArray, List.getElem_cons_zero, List.getElem_cons_succ]
            go_simp
            have hbz6 := (Below.refl u24.heap.size u24).alloc (Nat.le_refl _) (.cells #[.string ⟨#[113]⟩, .int .u64 0, .bool false, .string ⟨#[]⟩] 29)
            have hoz6 := one_item qItmM (heap_alloc_new u24 (.cells #[.string ⟨#[113]⟩, .int .u64 0, .bool false, .string ⟨#[]⟩] 29))
            have hgs6 : (u24.alloc (.cells #[.string ⟨#[113]⟩, .int .u64 0, .bool false, .string ⟨#[]⟩] 29)).heap.size = u24.heap.size + 1 := World.size_alloc _ _
            replace hP := hP.trans (hbz6.mono hP.size)
            refine hK.out _ _ (HBW1.out.trans (hP.mono HSW1.out)) (fun hHeld => ?_)
            clear hK K
            generalize (u24.alloc (.cells #[.string ⟨#[113]⟩, .int .u64 0, .bool false, .string ⟨#[]⟩] 29)) = u36 at *
            obtain ⟨g6, hg6⟩ : ∃ g, u24.heap.size = g := ⟨_, rfl⟩
            rw [hg6] at hoz6 hgs6 ⊢
            have HONE := Lib.hid hoz6
            have HGS6 := Lib.hid hgs6
            have HL6 := Lib.hid (show g6 < u36.heap.size by omega)
            have HG6 := Lib.hid hg6
            clear hgs6 hg6
            have HO4 := Lib.hid (HO4.out.below hbz6)
            clear hbz6 hoz6
            try simp only [Act.put, List.setIfInBounds_toArray, List.set_cons_zero, List.set_cons_succ, List.getElem_toArray, List.getElem_cons_zero, List.getElem_cons_succ]
            refine wpAnyH_ready (rs := [9]) (by kernel_rfl) (by simp) (AllReadyH.cons (o := _) rfl (fun K hK => ?_) AllReadyH.nil)
            refine step_append_k rfl (.tmp 48) (.tmp 50) 23 rfl W1.heap.size 29 encI _ 48 Try.underlying23 info_item rfl (by decide) v4 x rfl HO4.out _ [qItmM] rfl HONE.out Nat.one_pos (by have z := HM.out; show x.length + 1 ≤ 1000000000; omega) hP.size W1 hP (fun v7 u7 ho7 hb7 hg7 => ?_)
            replace hP := hb7
            refine hK.out _ _ (HBW1.out.trans (hP.mono HSW1.out)) (fun hHeld => ?_)
            clear hK K
            obtain ⟨g7, c7, rfl, hg71, hg72, hc71, hc72, -, -⟩ := ho7.form (by simp)
            have hm7 : m ≤ c7 := by have z := HM.out; simp only [List.length_append] at hc71; omega
            have sh := item_upto g7 (x ++ [qItmM]).length c7 m hm7 (by simp only [List.length_append, List.length_cons, List.length_nil] at hc71; omega)
            have hrow := ho7.first m (by have z := HM.out; simp only [List.length_append]; omega) (by simp)
            rw [show (x ++ [qItmM]).take m = x by rw [← HM.out]; exact List.take_left] at hrow
            have HROW := Lib.hid hrow
            obtain ⟨m7, hm7e⟩ : ∃ m, (x ++ [qItmM]).length = m := ⟨_, rfl⟩
            rw [hm7e] at sh ⊢
            clear ho7 hb7 hg7 hrow hm7e
            try simp only [Act.put, List.setIfInBounds_toArray, List.set_cons_zero, List.set_cons_succ, List.getElem_toArray, List.getElem_cons_zero, List.getElem_cons_succ]
            refine wpAnyH_take (i := 15) (oi := _) (v := ?_) rfl (by kernel_rfl) (by kernel_rfl) (by kernel_rfl) (fun _ _ _ h => h) (Or.inl ⟨by kernel_rfl, ?hy12⟩) (by assumption) ?_
            case hy12 =>
              intro w9 hSw
              try dsimp only at hSw
              try simp only [List.getElem_toArray, List.getElem_cons_zero, List.getElem_cons_succ]
              go_simp
              try with_reducible rfl
            try simp only [Act.put, List.setIfInBounds_toArray, List.set_cons_zero, List.set_cons_succ, List.getElem_toArray, List.getElem_cons_zero, List.getElem_cons_succ]
            clear sh
            refine wpAnyH_ready (rs := [16]) (by kernel_rfl) (by simp) (AllReadyH.cons (o := _) rfl (fun K hK => ?_) AllReadyH.nil)
            try simp only [List.getElem_toArray, List.getElem_cons_zero, List.getElem_cons_succ]
            go_simp
            have hbz8 := (Below.refl u7.heap.size u7).alloc (Nat.le_refl _) (.cells #[.slice (some ⟨g7, 0, none⟩) m c7] 23)
            have hoz8 := one_row ⟨some ⟨g7, 0, none⟩, m, c7, x⟩ (heap_alloc_new u7 (.cells #[.slice (some ⟨g7, 0, none⟩) m c7] 23))
            replace hP := hP.trans (hbz8.mono hP.size)
            refine hK.out _ _ (HBW1.out.trans (hP.mono HSW1.out)) (fun hHeld => ?_)
            clear hK K
            have HROW := Lib.hid (HROW.out.below hbz8)
            have HTW := Lib.hid hoz8
            generalize (u7.alloc (.cells #[.slice (some ⟨g7, 0, none⟩) m c7] 23)) = u8 at *
            have HOL8 := Lib.hid (HOL1.out.below hP)
            clear hbz8 hoz8
            try simp only [Act.put, List.setIfInBounds_toArray, List.set_cons_zero, List.set_cons_succ, List.getElem_toArray, List.getElem_cons_zero, List.getElem_cons_succ]
            refine wpAnyH_ready (rs := [17]) (by kernel_rfl) (by simp) (AllReadyH.cons (o := _) rfl (fun K hK => ?_) AllReadyH.nil)
            refine step_append_k rfl (.tmp 42) (.tmp 58) 30 rfl w1.heap.size 23 encS _ 24 Try.underlying30 info_rows rfl (by decide) va M rfl HOL8.out.row _ [⟨some ⟨g7, 0, none⟩, m, c7, x⟩] rfl HTW.out Nat.one_pos (by have z := HML.out; show M.length + 1 ≤ 1000000000; omega) (Nat.le_trans HS11.out hP.size) w1 (HB11.out.trans (hP.mono HS11.out)) (fun v9 u9 ho9 hb9 hg9 => ?_)
            have HOL9 := Lib.hid (HOL8.out.push (S := W1.heap.size) (x := ⟨some ⟨g7, 0, none⟩, m, c7, x⟩) (fun y hy g hg => ((HOL1.out.each y hy).lt g hg).2) HS11.out HROW.out ho9 hg9)
            have HB9 := Lib.hid hb9
            refine hK.out _ _ (HB1.out.trans (hb9.mono HSB1.out)) (fun hHeld => ?_)
            clear hK K ho9 hg9 hb9
            try simp only [Act.put, List.setIfInBounds_toArray, List.set_cons_zero, List.set_cons_succ, List.getElem_toArray, List.getElem_cons_zero, List.getElem_cons_succ]
            refine wpAnyH_take (i := 18) (oi := _) (v := ?_) rfl (by kernel_rfl) (by kernel_rfl) (by kernel_rfl) (fun _ _ _ h => h) (Or.inl ⟨by kernel_rfl, ?hy13⟩) (by assumption) ?_
            case hy13 =>
              intro w9 hSw
              try dsimp only at hSw
              try simp only [List.getElem_toArray, List.getElem_cons_zero, List.getElem_cons_succ]
              go_simp
              try with_reducible rfl
            try simp only [Act.put, List.setIfInBounds_toArray, List.set_cons_zero, List.set_cons_succ, List.getElem_toArray, List.getElem_cons_zero, List.getElem_cons_succ]
            refine wpAnyH_done (by kernel_rfl) ?_ _
            go_wp2
            go_roundw
            case rel => exact ⟨i + 1, M ++ [⟨some ⟨g7, 0, none⟩, m, c7, x⟩], _, rfl, by go_num, by omega, by rw [HALL.out], HOL9.out, HMAP.out _ rfl, HLEN.out _ rfl, HB9.out⟩
            case measure => simp [intOf] <;> omega
          · skip
            try simp only [List.getElem_toArray, List.getElem_cons_zero, List.getElem_cons_succ]
            go_simp
            have hbz6 := (Below.refl u10.heap.size u10).alloc (Nat.le_refl _) (.cells #[.string ⟨#[113]⟩, .int .u64 0, .bool false, .string ⟨#[]⟩] 29)
            have hoz6 := one_item qItmM (heap_alloc_new u10 (.cells #[.string ⟨#[113]⟩, .int .u64 0, .bool false, .string ⟨#[]⟩] 29))
            have hgs6 : (u10.alloc (.cells #[.string ⟨#[113]⟩, .int .u64 0, .bool false, .string ⟨#[]⟩] 29)).heap.size = u10.heap.size + 1 := World.size_alloc _ _
            replace hP := hP.trans (hbz6.mono hP.size)
            refine hK.out _ _ (HBW1.out.trans (hP.mono HSW1.out)) (fun hHeld => ?_)
            clear hK K
            generalize (u10.alloc (.cells #[.string ⟨#[113]⟩, .int .u64 0, .bool false, .string ⟨#[]⟩] 29)) = u26 at *
            obtain ⟨g6, hg6⟩ : ∃ g, u10.heap.size = g := ⟨_, rfl⟩
            rw [hg6] at hoz6 hgs6 ⊢
            have HONE := Lib.hid hoz6
            have HGS6 := Lib.hid hgs6
            have HL6 := Lib.hid (show g6 < u26.heap.size by omega)
            have HG6 := Lib.hid hg6
            clear hgs6 hg6
            have hne : g0 ≠ g6 := by
              have e1 := HG6.out
              have e2 := HGS0.out
              omega
            have HOWN := Lib.hid (HOWN.out.below hbz6)
            clear hbz6 hoz6
            try simp only [Act.put, List.setIfInBounds_toArray, List.set_cons_zero, List.set_cons_succ, List.getElem_toArray, List.getElem_cons_zero, List.getElem_cons_succ]
            refine wpAnyH_ready (rs := [6]) (by kernel_rfl) (by simp) (AllReadyH.cons (o := _) rfl (fun K hK => ?_) AllReadyH.nil)
            refine step_append_ka rfl (.tmp 43) (.tmp 47) 23 rfl W1.heap.size 29 encI _ 48 Try.underlying23 info_item rfl (by decide) (.slice (some ⟨g0, 0, none⟩) 0 0) [] rfl HOWN.out _ x rfl (HKX.out.below (by rw [HBB.out]; exact HBW1.out.trans (hP.mono HSW1.out))) (by have z := HM.out; show 0 + x.length ≤ 1000000000; omega) hP.size W1 hP (fun v4 u34 ho4 hb4 hg4 => ?_)
            rw [List.nil_append] at ho4
            replace hP := hb4
            refine hK.out _ _ (HBW1.out.trans (hP.mono HSW1.out)) (fun hHeld => ?_)
            clear hK K
            have HO4 := Lib.hid ho4
            have HONE := Lib.hid (HONE.out.same hg4.size (fun b h0 hb => by
              have e' : g6 = b := Option.some.inj hb
              subst e'
              exact hg4.block g6 HL6.out (fun e => hne (Option.some.inj e).symm)))
            clear ho4 hb4 hg4
            try simp only [Act.put, List.setIfInBounds_toArray, List.set_cons_zero, List.set_cons_succ, List.getElem_toArray, List.getElem_cons_zero, List.getElem_cons_succ]
            refine wpAnyH_ready (rs := [9]) (by kernel_rfl) (by simp) (AllReadyH.cons (o := _) rfl (fun K hK => ?_) AllReadyH.nil)
            refine step_append_k rfl (.tmp 48) (.tmp 50) 23 rfl W1.heap.size 29 encI _ 48 Try.underlying23 info_item rfl (by decide) v4 x rfl HO4.out _ [qItmM] rfl HONE.out Nat.one_pos (by have z := HM.out; show x.length + 1 ≤ 1000000000; omega) hP.size W1 hP (fun v7 u7 ho7 hb7 hg7 => ?_)
            replace hP := hb7
            refine hK.out _ _ (HBW1.out.trans (hP.mono HSW1.out)) (fun hHeld => ?_)
            clear hK K
            obtain ⟨g7, c7, rfl, hg71, hg72, hc71, hc72, -, -⟩ := ho7.form (by simp)
            have hm7 : m ≤ c7 := by have z := HM.out; simp only [List.length_append] at hc71; omega
            have sh := item_upto g7 (x ++ [qItmM]).length c7 m hm7 (by simp only [List.length_append, List.length_cons, List.length_nil] at hc71; omega)
            have hrow := ho7.first m (by have z := HM.out; simp only [List.length_append]; omega) (by simp)
            rw [show (x ++ [qItmM]).take m = x by rw [← HM.out]; exact List.take_left] at hrow
            have HROW := Lib.hid hrow
            obtain ⟨m7, hm7e⟩ : ∃ m, (x ++ [qItmM]).length = m := ⟨_, rfl⟩
            rw [hm7e] at sh ⊢
            clear ho7 hb7 hg7 hrow hm7e
            try simp only [Act.put, List.setIfInBounds_toArray, List.set_cons_zero, List.set_cons_succ, List.getElem_toArray, List.getElem_cons_zero, List.getElem_cons_succ]
            refine wpAnyH_take (i := 15) (oi := _) (v := ?_) rfl (by kernel_rfl) (by kernel_rfl) (by kernel_rfl) (fun _ _ _ h => h) (Or.inl ⟨by kernel_rfl, ?hy14⟩) (by assumption) ?_
            case hy14 =>
              intro w9 hSw
              try dsimp only at hSw
              try simp only [List.getElem_toArray, List.getElem_cons_zero, List.getElem_cons_succ]
              go_simp
              try with_reducible rfl
            try simp only [Act.put, List.setIfInBounds_toArray, List.set_cons_zero, List.set_cons_succ, List.getElem_toArray, List.getElem_cons_zero, List.getElem_cons_succ]
            clear sh
            refine wpAnyH_ready (rs := [16]) (by kernel_rfl) (by simp) (AllReadyH.cons (o := _) rfl (fun K hK => ?_) AllReadyH.nil)
            try simp only [List.getElem_toArray, List.getElem_cons_zero, List.getElem_cons_succ]
            go_simp
            have hbz8 := (Below.refl u7.heap.size u7).alloc (Nat.le_refl _) (.cells #[.slice (some ⟨g7, 0, none⟩) m c7] 23)
            have hoz8 := one_row ⟨some ⟨g7, 0, none⟩, m, c7, x⟩ (heap_alloc_new u7 (.cells #[.slice (some ⟨g7, 0, none⟩) m c7] 23))
            replace hP := hP.trans (hbz8.mono hP.size)
            refine hK.out _ _ (HBW1.out.trans (hP.mono HSW1.out)) (fun hHeld => ?_)
            clear hK K
            have HROW := Lib.hid (HROW.out.below hbz8)
            have HTW := Lib.hid hoz8
            generalize (u7.alloc (.cells #[.slice (some ⟨g7, 0, none⟩) m c7] 23)) = u8 at *
            have HOL8 := Lib.hid (HOL1.out.below hP)
            clear hbz8 hoz8
            try simp only [Act.put, List.setIfInBounds_toArray, List.set_cons_zero, List.set_cons_succ, List.getElem_toArray, List.getElem_cons_zero, List.getElem_cons_succ]
            refine wpAnyH_ready (rs := [17]) (by kernel_rfl) (by simp) (AllReadyH.cons (o := _) rfl (fun K hK => ?_) AllReadyH.nil)
            refine step_append_k rfl (.tmp 42) (.tmp 58) 30 rfl w1.heap.size 23 encS _ 24 Try.underlying30 info_rows rfl (by decide) va M rfl HOL8.out.row _ [⟨some ⟨g7, 0, none⟩, m, c7, x⟩] rfl HTW.out Nat.one_pos (by have z := HML.out; show M.length + 1 ≤ 1000000000; omega) (Nat.le_trans HS11.out hP.size) w1 (HB11.out.trans (hP.mono HS11.out)) (fun v9 u9 ho9 hb9 hg9 => ?_)
            have HOL9 := Lib.hid (HOL8.out.push (S := W1.heap.size) (x := ⟨some ⟨g7, 0, none⟩, m, c7, x⟩) (fun y hy g hg => ((HOL1.out.each y hy).lt g hg).2) HS11.out HROW.out ho9 hg9)
            have HB9 := Lib.hid hb9
            refine hK.out _ _ (HB1.out.trans (hb9.mono HSB1.out)) (fun hHeld => ?_)
            clear hK K ho9 hg9 hb9
            try simp only [Act.put, List.setIfInBounds_toArray, List.set_cons_zero, List.set_cons_succ, List.getElem_toArray, List.getElem_cons_zero, List.getElem_cons_succ]
            refine wpAnyH_take (i := 18) (oi := _) (v := ?_) rfl (by kernel_rfl) (by kernel_rfl) (by kernel_rfl) (fun _ _ _ h => h) (Or.inl ⟨by kernel_rfl, ?hy15⟩) (by assumption) ?_
            case hy15 =>
              intro w9 hSw
              try dsimp only at hSw
              try simp only [List.getElem_toArray, List.getElem_cons_zero, List.getElem_cons_succ]
              go_simp
              try with_reducible rfl
            try simp only [Act.put, List.setIfInBounds_toArray, List.set_cons_zero, List.set_cons_succ, List.getElem_toArray, List.getElem_cons_zero, List.getElem_cons_succ]
            refine wpAnyH_done (by kernel_rfl) ?_ _
            go_wp2
            go_roundw
            case rel => exact ⟨i + 1, M ++ [⟨some ⟨g7, 0, none⟩, m, c7, x⟩], _, rfl, by go_num, by omega, by rw [HALL.out], HOL9.out, HMAP.out _ rfl, HLEN.out _ rfl, HB9.out⟩
            case measure => simp [intOf] <;> omega
        · skip
          try simp only [List.getElem_toArray, List.getElem_cons_zero, List.getElem_cons_succ]
          go_simp
          have hbz6 := (Below.refl U0.heap.size U0).alloc (Nat.le_refl _) (.cells #[.string ⟨#[113]⟩, .int .u64 0, .bool false, .string ⟨#[]⟩] 29)
          have hoz6 := one_item qItmM (heap_alloc_new U0 (.cells #[.string ⟨#[113]⟩, .int .u64 0, .bool false, .string ⟨#[]⟩] 29))
          have hgs6 : (U0.alloc (.cells #[.string ⟨#[113]⟩, .int .u64 0, .bool false, .string ⟨#[]⟩] 29)).heap.size = U0.heap.size + 1 := World.size_alloc _ _
          replace hP := hP.trans (hbz6.mono hP.size)
          refine hK.out _ _ (HBW1.out.trans (hP.mono HSW1.out)) (fun hHeld => ?_)
          clear hK K
          generalize (U0.alloc (.cells #[.string ⟨#[113]⟩, .int .u64 0, .bool false, .string ⟨#[]⟩] 29)) = u16 at *
          obtain ⟨g6, hg6⟩ : ∃ g, U0.heap.size = g := ⟨_, rfl⟩
          rw [hg6] at hoz6 hgs6 ⊢
          have HONE := Lib.hid hoz6
          have HGS6 := Lib.hid hgs6
          have HL6 := Lib.hid (show g6 < u16.heap.size by omega)
          have HG6 := Lib.hid hg6
          clear hgs6 hg6
          clear hbz6 hoz6
          try simp only [Act.put, List.setIfInBounds_toArray, List.set_cons_zero, List.set_cons_succ, List.getElem_toArray, List.getElem_cons_zero, List.getElem_cons_succ]
          refine wpAnyH_ready (rs := [1]) (by kernel_rfl) (by simp) (AllReadyH.cons (o := _) rfl (fun K hK => ?_) AllReadyH.nil)
          try simp only [List.getElem_toArray, List.getElem_cons_zero, List.getElem_cons_succ]
          go_simp
          have hbz0 := (Below.refl u16.heap.size u16).alloc (Nat.le_refl _) (.cells #[] 29)
          have hoz0 := OwnK.empty' u16 W1.heap.size 29 encI hP.size
          have hgs0 : (u16.alloc (.cells #[] 29)).heap.size = u16.heap.size + 1 := World.size_alloc _ _
          replace hP := hP.trans (hbz0.mono hP.size)
          refine hK.out _ _ (HBW1.out.trans (hP.mono HSW1.out)) (fun hHeld => ?_)
          clear hK K
          generalize (u16.alloc (.cells #[] 29)) = u20 at *
          obtain ⟨g0, hg0⟩ : ∃ g, u16.heap.size = g := ⟨_, rfl⟩
          rw [hg0] at hoz0 hgs0 ⊢
          have HOWN := Lib.hid hoz0
          have HGS0 := Lib.hid hgs0
          have HG0 := Lib.hid hg0
          clear hgs0 hg0
          have hne : g0 ≠ g6 := by
            have e1 := HG0.out
            have e2 := HGS6.out
            omega
          have HONE := Lib.hid (HONE.out.below hbz0)
          have HL6 := Lib.hid (Nat.lt_of_lt_of_le HL6.out hbz0.size)
          clear hbz0 hoz0
          try simp only [Act.put, List.setIfInBounds_toArray, List.set_cons_zero, List.set_cons_succ, List.getElem_toArray, List.getElem_cons_zero, List.getElem_cons_succ]
          refine wpAnyH_ready (rs := [6]) (by kernel_rfl) (by simp) (AllReadyH.cons (o := _) rfl (fun K hK => ?_) AllReadyH.nil)
          refine step_append_ka rfl (.tmp 43) (.tmp 47) 23 rfl W1.heap.size 29 encI _ 48 Try.underlying23 info_item rfl (by decide) (.slice (some ⟨g0, 0, none⟩) 0 0) [] rfl HOWN.out _ x rfl (HKX.out.below (by rw [HBB.out]; exact HBW1.out.trans (hP.mono HSW1.out))) (by have z := HM.out; show 0 + x.length ≤ 1000000000; omega) hP.size W1 hP (fun v4 u34 ho4 hb4 hg4 => ?_)
          rw [List.nil_append] at ho4
          replace hP := hb4
          refine hK.out _ _ (HBW1.out.trans (hP.mono HSW1.out)) (fun hHeld => ?_)
          clear hK K
          have HO4 := Lib.hid ho4
          have HONE := Lib.hid (HONE.out.same hg4.size (fun b h0 hb => by
            have e' : g6 = b := Option.some.inj hb
            subst e'
            exact hg4.block g6 HL6.out (fun e => hne (Option.some.inj e).symm)))
          clear ho4 hb4 hg4
          try simp only [Act.put, List.setIfInBounds_toArray, List.set_cons_zero, List.set_cons_succ, List.getElem_toArray, List.getElem_cons_zero, List.getElem_cons_succ]
          refine wpAnyH_ready (rs := [9]) (by kernel_rfl) (by simp) (AllReadyH.cons (o := _) rfl (fun K hK => ?_) AllReadyH.nil)
          refine step_append_k rfl (.tmp 48) (.tmp 50) 23 rfl W1.heap.size 29 encI _ 48 Try.underlying23 info_item rfl (by decide) v4 x rfl HO4.out _ [qItmM] rfl HONE.out Nat.one_pos (by have z := HM.out; show x.length + 1 ≤ 1000000000; omega) hP.size W1 hP (fun v7 u7 ho7 hb7 hg7 => ?_)
          replace hP := hb7
          refine hK.out _ _ (HBW1.out.trans (hP.mono HSW1.out)) (fun hHeld => ?_)
          clear hK K
          obtain ⟨g7, c7, rfl, hg71, hg72, hc71, hc72, -, -⟩ := ho7.form (by simp)
          have hm7 : m ≤ c7 := by have z := HM.out; simp only [List.length_append] at hc71; omega
          have sh := item_upto g7 (x ++ [qItmM]).length c7 m hm7 (by simp only [List.length_append, List.length_cons, List.length_nil] at hc71; omega)
          have hrow := ho7.first m (by have z := HM.out; simp only [List.length_append]; omega) (by simp)
          rw [show (x ++ [qItmM]).take m = x by rw [← HM.out]; exact List.take_left] at hrow
          have HROW := Lib.hid hrow
          obtain ⟨m7, hm7e⟩ : ∃ m, (x ++ [qItmM]).length = m := ⟨_, rfl⟩
          rw [hm7e] at sh ⊢
          clear ho7 hb7 hg7 hrow hm7e
          try simp only [Act.put, List.setIfInBounds_toArray, List.set_cons_zero, List.set_cons_succ, List.getElem_toArray, List.getElem_cons_zero, List.getElem_cons_succ]
          refine wpAnyH_take (i := 15) (oi := _) (v := ?_) rfl (by kernel_rfl) (by kernel_rfl) (by kernel_rfl) (fun _ _ _ h => h) (Or.inl ⟨by kernel_rfl, ?hy16⟩) (by assumption) ?_
          case hy16 =>
            intro w9 hSw
            try dsimp only at hSw
            try simp only [List.getElem_toArray, List.getElem_cons_zero, List.getElem_cons_succ]
            go_simp
            try with_reducible rfl
          try simp only [Act.put, List.setIfInBounds_toArray, List.set_cons_zero, List.set_cons_succ, List.getElem_toArray, List.getElem_cons_zero, List.getElem_cons_succ]
          clear sh
          refine wpAnyH_ready (rs := [16]) (by kernel_rfl) (by simp) (AllReadyH.cons (o := _) rfl (fun K hK => ?_) AllReadyH.nil)
          try simp only [List.getElem_toArray, List.getElem_cons_zero, List.getElem_cons_succ]
          go_simp
          have hbz8 := (Below.refl u7.heap.size u7).alloc (Nat.le_refl _) (.cells #[.slice (some ⟨g7, 0, none⟩) m c7] 23)
          have hoz8 := one_row ⟨some ⟨g7, 0, none⟩, m, c7, x⟩ (heap_alloc_new u7 (.cells #[.slice (some ⟨g7, 0, none⟩) m c7] 23))
          replace hP := hP.trans (hbz8.mono hP.size)
          refine hK.out _ _ (HBW1.out.trans (hP.mono HSW1.out)) (fun hHeld => ?_)
          clear hK K
          have HROW := Lib.hid (HROW.out.below hbz8)
          have HTW := Lib.hid hoz8
          generalize (u7.alloc (.cells #[.slice (some ⟨g7, 0, none⟩) m c7] 23)) = u8 at *
          have HOL8 := Lib.hid (HOL1.out.below hP)
          clear hbz8 hoz8
          try simp only [Act.put, List.setIfInBounds_toArray, List.set_cons_zero, List.set_cons_succ, List.getElem_toArray, List.getElem_cons_zero, List.getElem_cons_succ]
          refine wpAnyH_ready (rs := [17]) (by kernel_rfl) (by simp) (AllReadyH.cons (o := _) rfl (fun K hK => ?_) AllReadyH.nil)
          refine step_append_k rfl (.tmp 42) (.tmp 58) 30 rfl w1.heap.size 23 encS _ 24 Try.underlying30 info_rows rfl (by decide) va M rfl HOL8.out.row _ [⟨some ⟨g7, 0, none⟩, m, c7, x⟩] rfl HTW.out Nat.one_pos (by have z := HML.out; show M.length + 1 ≤ 1000000000; omega) (Nat.le_trans HS11.out hP.size) w1 (HB11.out.trans (hP.mono HS11.out)) (fun v9 u9 ho9 hb9 hg9 => ?_)
          have HOL9 := Lib.hid (HOL8.out.push (S := W1.heap.size) (x := ⟨some ⟨g7, 0, none⟩, m, c7, x⟩) (fun y hy g hg => ((HOL1.out.each y hy).lt g hg).2) HS11.out HROW.out ho9 hg9)
          have HB9 := Lib.hid hb9
          refine hK.out _ _ (HB1.out.trans (hb9.mono HSB1.out)) (fun hHeld => ?_)
          clear hK K ho9 hg9 hb9
          try simp only [Act.put, List.setIfInBounds_toArray, List.set_cons_zero, List.set_cons_succ, List.getElem_toArray, List.getElem_cons_zero, List.getElem_cons_succ]
          refine wpAnyH_take (i := 18) (oi := _) (v := ?_) rfl (by kernel_rfl) (by kernel_rfl) (by kernel_rfl) (fun _ _ _ h => h) (Or.inl ⟨by kernel_rfl, ?hy17⟩) (by assumption) ?_
          case hy17 =>
            intro w9 hSw
            try dsimp only at hSw
            try simp only [List.getElem_toArray, List.getElem_cons_zero, List.getElem_cons_succ]
            go_simp
            try with_reducible rfl
          try simp only [Act.put, List.setIfInBounds_toArray, List.set_cons_zero, List.set_cons_succ, List.getElem_toArray, List.getElem_cons_zero, List.getElem_cons_succ]
          refine wpAnyH_done (by kernel_rfl) ?_ _
          go_wp2
          go_roundw
          case rel => exact ⟨i + 1, M ++ [⟨some ⟨g7, 0, none⟩, m, c7, x⟩], _, rfl, by go_num, by omega, by rw [HALL.out], HOL9.out, HMAP.out _ rfl, HLEN.out _ rfl, HB9.out⟩
          case measure => simp [intOf] <;> omega
    · have hI : ¬ (i : Int) < (N : Int) := by omega
      have htl : L.take i = L := List.take_of_length_le (by rw [HN.out]; exact hge)
      have hmapL : M.map Rw.list = L := by rw [HMAP0.out, htl]
      have hall : L.all sortedB = sb := by rw [← HSB.out, htl]
      have hia : HasI W0 va L := by
        have z := HOL0.out.has
        rw [hmapL] at z
        exact z
      have hMl : M.length = N := by rw [← HN.out, ← hmapL, List.length_map]
      have hfl : L.flatten.length ≤ 12 * 60 := flat60 L 12 (by rw [HN.out]; exact hn) (fun x hx => by
        rw [← hmapL] at hx
        obtain ⟨r, hr, rfl⟩ := List.mem_map.1 hx
        exact HLEN0.out r hr)
      have hlt : ∀ x ∈ M, ∀ g, x.val.ownBlock = some g → g < W0.heap.size := fun x hx g hg => ((HOL0.out.each x hx).lt g hg).2
      have HLX := Lib.hid (show ∀ i (h : i < L.length), L[i].length ≤ 1000000 from fun i h => by
        have z := flat_succ_le L i h
        omega)
      have HML := Lib.hid hMl
      have HMAPL := Lib.hid hmapL
      have HALL := Lib.hid hall
      have HIA := Lib.hid hia
      have HFL := Lib.hid hfl
      have HLT := Lib.hid hlt
      obtain ⟨pv, cv, rfl, hv1, hv2⟩ := HOL0.out.row.sl
      rw [hMl] at HOL0 HIA hv1 ⊢
      have hcV : (cv : Int) ≤ 9223372036854775807 := by unfold maxLen at hv2; omega
      clear hia hmapL hall htl hMl hfl hlt hv2 HLEN0 HMAP0 HSB
      go_wp2_with fail
      refine (Merge_any _ L W0 HIA.out (by have := HFL.out; omega) (by rw [HN.out]; omega)).mono ?_
      obtain ⟨mc, hmc⟩ : ∃ z, mergeCode L = z := ⟨_, rfl⟩
      rw [hmc]
      have HMC := Lib.hid hmc
      clear hmc
      rintro e w2 ⟨v8, m8, rfl, ho8, hm8, hb2⟩
      have HIA2 := Lib.hid (HIA.out.below hb2)
      have HO8 := Lib.hid ho8
      have HM8 := Lib.hid hm8
      have HB2 := Lib.hid hb2
      clear ho8 hm8 hb2
      go_wp2_with fail
      refine (Walk_any _ L w2 HIA2.out (by have := HFL.out; omega) (by rw [HN.out]; omega)).mono ?_
      rintro e w3 ⟨g, v10, m10, rfl, hg3, hgs3, ho10, hm10, hb3⟩
      obtain rfl := mergedOf.uniq HM8.out hm10
      have HS2 := Lib.hid (show W0.heap.size ≤ w2.heap.size from HB2.out.size)
      have HO8 := Lib.hid (HO8.out.below hb3)
      have HO10 := Lib.hid (ho10.mono HS2.out)
      have HG3 := Lib.hid hg3
      have HGS := Lib.hid (Nat.le_trans HS2.out hgs3)
      have hb03 := HB2.out.trans (hb3.mono HB2.out.size)
      have HOL3 := Lib.hid (HOL0.out.below hb03)
      have HBW3 := Lib.hid (HBW0.out.trans (hb03.mono (by have := HBW0.out.size; rw [HBB.out] at this; exact this)))
      have HB13 := Lib.hid (HB10.out.trans (hb03.mono HS10.out))
      have hfn := func_nil g
      clear hg3 hgs3 ho10 hm10 hb3 hb03 HOL0 HIA HIA2 HB2 HBW0 HB10 cR0 fR0
      go_wp2_with fail
      go_loopw [11] (fun vi wr => ∃ i : Nat, vi = .int .i64 (i : Int) ∧ i ≤ N ∧ OwnK wr w1.heap.size 23 encS (.slice pv N cv) M ∧ (∀ j (h : j < M.length), i ≤ j → OwnK wr w1.heap.size 29 encI M[j].val M[j].list) ∧ Sp w1.heap.size W0.heap.size w3 wr) (fun vi _ => N - (intOf vi).toNat)
      case atStart => exact ⟨0, by first | rfl | go_num, Nat.zero_le _, HOL3.out.row, fun j h _ => HOL3.out.each _ (List.getElem_mem h), Sp.refl _ _ _⟩
      case round =>
        obtain ⟨i, rfl, hi, ht, hrows, hsp⟩ := hrel
        obtain ⟨W4, rfl⟩ : ∃ W4, W4 = wr := ⟨wr, rfl⟩
        have HT := Lib.hid ht
        have HROWS := Lib.hid hrows
        have HSP := Lib.hid hsp
        have HS13 := Lib.hid HB13.out.size
        have HS14 := Lib.hid (Nat.le_trans HB13.out.size hsp.low.size)
        have HBW4 := Lib.hid (HBW3.out.trans (hsp.low.mono HSB1.out))
        clear ht hrows hsp
        rcases Nat.lt_or_ge i N with hlt | hge
        · have hI : (i : Int) < (N : Int) := by omega
          have hi0 : (0 : Int) ≤ (i : Int) := by omega
          have hiM : i < M.length := by rw [HML.out]; exact hlt
          have hil : i < L.length := by rw [HN.out]; exact hlt
          obtain ⟨b, o, y, rfl, hbl, hy, hk⟩ := HV.out.elem i hil
          obtain ⟨gt, rfl, hct⟩ := table_at HT.out i hiM
          have hri := HROWS.out i hiM (Nat.le_refl _)
          have hoff : ∀ j (h : j < M.length), i < j → (M[i].val.ownBlock ≠ none → M[i].val.ownBlock ≠ M[j].val.ownBlock) ∧ OwnK W4 w1.heap.size 29 encI M[j].val M[j].list := fun j h hij => ⟨List.pairwise_iff_getElem.1 HOL3.out.apart i j hiM h hij, HROWS.out j h (by omega)⟩
          have hltr := HLT.out M[i] (List.getElem_mem hiM)
          have hLi : M[i].list = L[i] := by
            have z : (M.map Rw.list)[i]'(by rw [List.length_map]; exact hiM) = L[i] := by simp only [HMAPL.out]
            rw [List.getElem_map] at z
            exact z
          obtain ⟨x, hx⟩ : ∃ x, L[i] = x := ⟨_, rfl⟩
          rw [hx] at hk hLi
          obtain ⟨r, hr⟩ : ∃ r, M[i] = r := ⟨_, rfl⟩
          rw [hr] at hct hri hoff hltr hLi
          obtain ⟨rp, rn, rc, rl⟩ := r
          obtain rfl : rl = x := hLi
          obtain ⟨hrn, hrc1, hrc2⟩ := row_len hri
          have hrn' : rl.length = rn := hrn.symm
          obtain ⟨py, cy, rfl, hc1, hc2⟩ := hk.form
          rw [hrn'] at hy hc1 hk
          have hcK : (cy : Int) ≤ 9223372036854775807 := by unfold maxLen at hc2; omega
          have hrc1' : rn ≤ rc := hrc1
          have hcL : (rc : Int) ≤ 9223372036854775807 := by have z : rc ≤ maxLen := hrc2; unfold maxLen at z; omega
          have HRN := Lib.hid hrn'
          have HRI := Lib.hid (show OwnK W4 w1.heap.size 29 encI (.slice rp rn rc) rl from hri)
          have HCT := Lib.hid (show W4.cell? ⟨gt, i, none⟩ = some (.slice rp rn rc) from hct)
          have HY4 := Lib.hid ((HBW4.out.cell (by rw [← HBB.out]; exact cell_lt hy)).trans hy)
          have HKX4 := Lib.hid (HKX_of hk (by rw [HBB.out]; exact HBW4.out))
          have HOFF := Lib.hid hoff
          have HLTR := Lib.hid (show ∀ g, (Value.slice rp rn rc).ownBlock = some g → g < W0.heap.size from hltr)
          have HR := Lib.hid (show ∀ h : i < M.length, M[i] = ⟨rp, rn, rc, rl⟩ from fun _ => hr)
          have HIM := Lib.hid hiM
          have HRL := Lib.hid (HLX.out i hil)
          rw [hx] at HRL
          clear hct hri hoff hltr hr hy hk hx hrn hrn' hrc1 hrc2 hc2 hil hiM
          go_upto_region 21 with fail
          refine AnyL.begin (S := fun W' => Below W4.heap.size W4 W') 9 (by kernel_rfl) (Below.refl W4.heap.size W4).drew (fun hHeld => ?_)
          refine AnyL.take (i := 0) (oi := _) (v := ?_) 30 rfl (by kernel_rfl) (by kernel_rfl) (by kernel_rfl) (by kernel_rfl) (by kernel_rfl) (fun _ _ _ h => h) (Or.inl ⟨by kernel_rfl, ?hy18⟩) (by assumption) ?_
          case hy18 =>
            intro w9 hSw
            try dsimp only at hSw
            try simp only [List.getElem_toArray, List.getElem_cons_zero, List.getElem_cons_succ]
            go_simp
            try with_reducible rfl
          try simp only [Act.put, List.setIfInBounds_toArray, List.set_cons_zero, List.set_cons_succ, List.getElem_toArray, List.getElem_cons_zero, List.getElem_cons_succ]
          refine AnyL.take (i := 1) (oi := _) (v := ?_) 30 rfl (by kernel_rfl) (by kernel_rfl) (by kernel_rfl) (by kernel_rfl) (by kernel_rfl) (fun _ _ _ h => h) (Or.inl ⟨by kernel_rfl, ?hy19⟩) (by assumption) ?_
          case hy19 =>
            intro w9 hSw
            try dsimp only at hSw
            try simp only [List.getElem_toArray, List.getElem_cons_zero, List.getElem_cons_succ]
            go_simp
            try with_reducible rfl
          try simp only [Act.put, List.setIfInBounds_toArray, List.set_cons_zero, List.set_cons_succ, List.getElem_toArray, List.getElem_cons_zero, List.getElem_cons_succ]
          refine AnyL.take (i := 2) (oi := _) (v := ?_) 30 rfl (by kernel_rfl) (by kernel_rfl) (by kernel_rfl) (by kernel_rfl) (by kernel_rfl) (fun _ _ _ h => h) (Or.inl ⟨by kernel_rfl, ?hy20⟩) (by assumption) ?_
          case hy20 =>
            intro w9 hSw
            try dsimp only at hSw
            try simp only [List.getElem_toArray, List.getElem_cons_zero, List.getElem_cons_succ]
            go_simp
            try with_reducible rfl
          try simp only [Act.put, List.setIfInBounds_toArray, List.set_cons_zero, List.set_cons_succ, List.getElem_toArray, List.getElem_cons_zero, List.getElem_cons_succ]
          refine AnyL.take (i := 3) (oi := _) (v := .slice rp rn rc) 30 rfl (by kernel_rfl) (by kernel_rfl) (by kernel_rfl) (by kernel_rfl) (by kernel_rfl) (fun _ _ _ h => h) (Or.inl ⟨by kernel_rfl, ?hy21⟩) (by assumption) ?_
          case hy21 =>
            intro w9 hSw
            try dsimp only at hSw
            try simp only [List.getElem_toArray, List.getElem_cons_zero, List.getElem_cons_succ]
            go_simp
            have a0 := (hSw.cell (cell_lt HCT.out)).trans HCT.out
            try go_simp
            try rfl
          try simp only [Act.put, List.setIfInBounds_toArray, List.set_cons_zero, List.set_cons_succ, List.getElem_toArray, List.getElem_cons_zero, List.getElem_cons_succ]
          refine AnyL.take (i := 4) (oi := _) (v := ?_) 30 rfl (by kernel_rfl) (by kernel_rfl) (by kernel_rfl) (by kernel_rfl) (by kernel_rfl) (fun _ _ _ h => h) (Or.inl ⟨by kernel_rfl, ?hy22⟩) (by assumption) ?_
          case hy22 =>
            intro w9 hSw
            try dsimp only at hSw
            try simp only [List.getElem_toArray, List.getElem_cons_zero, List.getElem_cons_succ]
            go_simp
            try with_reducible rfl
          try simp only [Act.put, List.setIfInBounds_toArray, List.set_cons_zero, List.set_cons_succ, List.getElem_toArray, List.getElem_cons_zero, List.getElem_cons_succ]
          refine AnyL.take (i := 5) (oi := _) (v := ?_) 30 rfl (by kernel_rfl) (by kernel_rfl) (by kernel_rfl) (by kernel_rfl) (by kernel_rfl) (fun _ _ _ h => h) (Or.inl ⟨by kernel_rfl, ?hy23⟩) (by assumption) ?_
          case hy23 =>
            intro w9 hSw
            try dsimp only at hSw
            try simp only [List.getElem_toArray, List.getElem_cons_zero, List.getElem_cons_succ]
            go_simp
            try with_reducible rfl
          try simp only [Act.put, List.setIfInBounds_toArray, List.set_cons_zero, List.set_cons_succ, List.getElem_toArray, List.getElem_cons_zero, List.getElem_cons_succ]
          refine AnyL.take (i := 6) (oi := _) (v := ?_) 30 rfl (by kernel_rfl) (by kernel_rfl) (by kernel_rfl) (by kernel_rfl) (by kernel_rfl) (fun _ _ _ h => h) (Or.inl ⟨by kernel_rfl, ?hy24⟩) (by assumption) ?_
          case hy24 =>
            intro w9 hSw
            try dsimp only at hSw
            try simp only [List.getElem_toArray, List.getElem_cons_zero, List.getElem_cons_succ]
            go_simp
            try with_reducible rfl
          try simp only [Act.put, List.setIfInBounds_toArray, List.set_cons_zero, List.set_cons_succ, List.getElem_toArray, List.getElem_cons_zero, List.getElem_cons_succ]
          refine AnyL.take (i := 7) (oi := _) (v := .slice py rn cy) 30 rfl (by kernel_rfl) (by kernel_rfl) (by kernel_rfl) (by kernel_rfl) (by kernel_rfl) (fun _ _ _ h => h) (Or.inl ⟨by kernel_rfl, ?hy25⟩) (by assumption) ?_
          case hy25 =>
            intro w9 hSw
            try dsimp only at hSw
            try simp only [List.getElem_toArray, List.getElem_cons_zero, List.getElem_cons_succ]
            go_simp
            have a0 := (hSw.cell (cell_lt HY4.out)).trans HY4.out
            try go_simp
            try rfl
          try simp only [Act.put, List.setIfInBounds_toArray, List.set_cons_zero, List.set_cons_succ, List.getElem_toArray, List.getElem_cons_zero, List.getElem_cons_succ]
          refine AnyL.one (i := 8) (o := _) (by kernel_rfl) rfl (fun K hK => ?_)
          try simp only [List.getElem_toArray, List.getElem_cons_zero, List.getElem_cons_succ]
          go_simp
          refine (Same_any _ _ rl rl _ (HRI.out.has.below hHeld) (HKX4.out.below hHeld) HRL.out).mono ?_
          rw [sameB_refl]
          rintro e w9 ⟨rfl, hb9⟩
          have HB9 := Lib.hid (hHeld.trans (hb9.mono hHeld.size))
          refine hK.out _ _ (fun _ => (hHeld.trans (hb9.mono hHeld.size))) (fun hHeld => ?_)
          replace hHeld := hHeld (by decide)
          clear hK K
          try simp only [Act.put, List.setIfInBounds_toArray, List.set_cons_zero, List.set_cons_succ, List.getElem_toArray, List.getElem_cons_zero, List.getElem_cons_succ]
          refine AnyL.one (i := 9) (o := _) (by kernel_rfl) rfl (fun K hK => ?_)
          try simp only [List.getElem_toArray, List.getElem_cons_zero, List.getElem_cons_succ]
          go_simp
          refine hK.out _ _ (fun h => absurd rfl h) (fun _ => ?_)
          clear hK K
          try simp only [Act.put, List.setIfInBounds_toArray, List.set_cons_zero, List.set_cons_succ, List.getElem_toArray, List.getElem_cons_zero, List.getElem_cons_succ]
          refine AnyL.done (by kernel_rfl) ?_ _
          clear hHeld hb9
          have HT9 := Lib.hid (HT.out.below HB9.out)
          have HR9 := Lib.hid (show ∀ j (h : j < M.length), i + 1 ≤ j → OwnK w9 w1.heap.size 29 encI M[j].val M[j].list from fun j h hij => ((HOFF.out j h hij).2).below HB9.out)
          have HBK9 := Lib.hid (show 0 < rn → ∃ g cur, rp = some ⟨g, 0, none⟩ ∧ w9.heap[g]? = some (.cells cur 29 (0, 0)) ∧ rn * 4 ≤ cur.size ∧ w1.heap.size ≤ g from fun h0 => row_block (x := ⟨rp, rn, rc, rl⟩) (HRI.out.below HB9.out) h0)
          have HSP9 := Lib.hid (HSP.out.below HB9.out HS14.out)
          go_wp2_with fail
          go_loopw [12] (fun vk wr => ∃ k : Nat, vk = .int .i64 (k : Int) ∧ k ≤ rn ∧ OwnK wr w1.heap.size 23 encS (.slice (some ⟨gt, 0, none⟩) N cv) M ∧ (∀ j (h : j < M.length), i + 1 ≤ j → OwnK wr w1.heap.size 29 encI M[j].val M[j].list) ∧ (0 < rn → ∃ g cur, rp = some ⟨g, 0, none⟩ ∧ wr.heap[g]? = some (.cells cur 29 (0, 0)) ∧ rn * 4 ≤ cur.size ∧ w1.heap.size ≤ g) ∧ Sp w1.heap.size W0.heap.size w3 wr) (fun vk _ => rn - (intOf vk).toNat)
          case atStart => exact ⟨0, by first | rfl | go_num, Nat.zero_le _, HT9.out, HR9.out, HBK9.out, HSP9.out⟩
          case round =>
            obtain ⟨k, rfl, hk, ht, hrows, hblk, hsp⟩ := hrel
            obtain ⟨W5, rfl⟩ : ∃ W5, W5 = wr := ⟨wr, rfl⟩
            obtain ⟨gt', hgt, hct⟩ := table_at ht i HIM.out
            obtain rfl : gt = gt' := by simpa using hgt
            rw [HR.out HIM.out] at hct
            have hct5 : W5.cell? ⟨gt, i, none⟩ = some (.slice rp rn rc) := hct
            have HT5 := Lib.hid ht
            have HR5 := Lib.hid hrows
            have HBK5 := Lib.hid hblk
            have HSP5 := Lib.hid hsp
            clear ht hrows hblk hsp hct hgt
            rcases Nat.lt_or_ge k rn with hkr | hkr
            · have hkI : (k : Int) < (rn : Int) := by omega
              have hk0 : (0 : Int) ≤ (k : Int) := by omega
              obtain ⟨gr, cur, rfl, hcur, hcs, hg1⟩ := HBK5.out (by omega)
              have hk4 : k * 4 < cur.size := by omega
              obtain ⟨u, hck⟩ : ∃ u, W5.cell? ⟨gr, k * 4, none⟩ = some u := ⟨cur[k * 4], by simp [World.cell?, hcur, hk4]⟩
              have hfk : W5.frozen? ⟨gr, k * 4, none⟩ = false := by simp [World.frozen?, hcur]
              have HCUR := Lib.hid hcur
              have HCS := Lib.hid hcs
              have hTB : (Value.slice (some ⟨gt, 0, none⟩) N cv).ownBlock ≠ some gr := fun e => by
                obtain ⟨c1, h1⟩ := HT5.out.typeM e
                have z := HCUR.out
                rw [h1] at z
                simp only [Option.some.injEq, Obj.cells.injEq] at z
                exact absurd z.2.1 (by decide)
              have HTS := Lib.hid (HT5.out.setOther gr (k * 4) hTB (.string ⟨#[115, 112, 111, 105, 108, 116]⟩))
              have HRS := Lib.hid (show ∀ j (h : j < M.length), i + 1 ≤ j → OwnK (W5.setCell ⟨gr, k * 4, none⟩ (.string ⟨#[115, 112, 111, 105, 108, 116]⟩)) w1.heap.size 29 encI M[j].val M[j].list from fun j h hij => (HR5.out j h hij).setOther gr (k * 4) (fun e => (HOFF.out j h hij).1 (by simp [Rw.val, Value.ownBlock]) (by rw [e]; rfl)) _)
              have HBS := Lib.hid (show ∃ g cur, (some (⟨gr, 0, none⟩ : Addr)) = some ⟨g, 0, none⟩ ∧ (W5.setCell ⟨gr, k * 4, none⟩ (.string ⟨#[115, 112, 111, 105, 108, 116]⟩)).heap[g]? = some (.cells cur 29 (0, 0)) ∧ rn * 4 ≤ cur.size ∧ w1.heap.size ≤ g from ⟨gr, _, rfl, heap_setCell_same _ _ _ _ _ _ HCUR.out, by simp only [Array.size_setIfInBounds]; exact HCS.out, hg1⟩)
              have HSS := Lib.hid (HSP5.out.set gr (k * 4) hg1 (HLTR.out gr rfl) (.string ⟨#[115, 112, 111, 105, 108, 116]⟩))
              clear hcur hcs hTB hk4
              go_wp2
              go_roundw
              case rel => exact ⟨k + 1, by go_num, by omega, HTS.out, HRS.out, fun _ => HBS.out, HSS.out⟩
              case measure => simp [intOf] <;> omega
            · have hkI : ¬ (k : Int) < (rn : Int) := by omega
              go_wp2
              go_roundw
              case rel => exact ⟨i + 1, by go_num, by omega, HT5.out, HR5.out, HSP5.out⟩
              case measure => simp [intOf] <;> omega
        · have hI : ¬ (i : Int) < (N : Int) := by omega
          have hb14 : Below w1.heap.size w1 W4 := HB13.out.trans HSP.out.low
          have HBR4 := Lib.hid (HBR.out.kept (row := none) ⟨hb14.os, hb14.tape, hb14.output, hb14.size, fun k hk _ => hb14.block k hk⟩ (by simp))
          have HBL4 := Lib.hid (HBL.out.kept (row := none) ⟨hb14.os, hb14.tape, hb14.output, hb14.size, fun k hk _ => hb14.block k hk⟩ (by simp))
          have HO8' := Lib.hid (HO8.out.same (fun q hq => HSP.out.high q (HO8.out.lt q hq).1 (HO8.out.lt q hq).2))
          have HO10' := Lib.hid (HO10.out.same (fun q hq => HSP.out.high q (HO10.out.lt q hq).1 (HO10.out.lt q hq).2))
          have HG4 := Lib.hid ((HSP.out.high g HGS.out (lt_of_block HG3.out)).trans HG3.out)
          clear hb14 HT HROWS HSP HOL3 HG3 HO8 HO10
          go_wp2_with fail
          refine (RefMerge_any _ L W4 (HV.out.below (by rw [HBB.out]; exact HBW4.out)) (by have := HFL.out; omega) (by rw [HN.out]; omega)).mono ?_
          rintro e w5 ⟨v13, rfl, hk13, hb5⟩
          obtain ⟨p13, c13, rfl, hd1, hd2⟩ := hk13.form
          obtain ⟨n13, hn13⟩ : ∃ z, (mergeL L).length = z := ⟨_, rfl⟩
          have HN13 := Lib.hid hn13
          have HK13 := Lib.hid hk13
          rw [hn13] at HK13 hd1 ⊢
          have hcM : (c13 : Int) ≤ 9223372036854775807 := by unfold maxLen at hd2; omega
          have HO85 := Lib.hid (HO8'.out.below hb5)
          have HO105 := Lib.hid (HO10'.out.below hb5)
          have HG5 := Lib.hid ((hb5.block g (lt_of_block HG4.out)).trans HG4.out)
          have HBR5 := Lib.hid (HBR4.out.kept (row := none) ⟨hb5.os, hb5.tape, hb5.output, hb5.size, fun k hk _ => hb5.block k hk⟩ (by simp))
          have HBL5 := Lib.hid (HBL4.out.kept (row := none) ⟨hb5.os, hb5.tape, hb5.output, hb5.size, fun k hk _ => hb5.block k hk⟩ (by simp))
          have HBW5 := Lib.hid (HBW4.out.trans (hb5.mono (by have := HBW4.out.size; rw [HBB.out] at this; exact this)))
          have HS5 := Lib.hid (show B ≤ w5.heap.size by have := HBW5.out.size; rw [HBB.out] at this; exact this)
          clear hk13 hb5 hn13 hd2 HO8' HO10' HG4 HBR4 HBL4
          obtain ⟨p8, c8, rfl, hz1, hz2⟩ := HO85.out.sl
          obtain ⟨n8, hn8⟩ : ∃ z, m8.length = z := ⟨_, rfl⟩
          have HN8 := Lib.hid hn8
          rw [hn8] at HO85 hz1 ⊢
          have hc8I : (c8 : Int) ≤ 9223372036854775807 := by unfold maxLen at hz2; omega
          have hba := (Below.refl w5.heap.size w5).alloc (Nat.le_refl _) (.cells #[.slice p13 n13 c13] 23)
          have bC := Boxed.new w5 23 (.slice p13 n13 c13)
          have bR6 := HBR5.out.alloc (.cells #[.slice p13 n13 c13] 23)
          have bL6 := HBL5.out.alloc (.cells #[.slice p13 n13 c13] 23)
          have HO86 := Lib.hid (HO85.out.below hba)
          have HO106 := Lib.hid (HO105.out.below hba)
          have HG6 := Lib.hid ((hba.block g (lt_of_block HG5.out)).trans HG5.out)
          have HK6 := Lib.hid (HK13.out.below hba)
          have HBW6 := Lib.hid (HBW5.out.trans (hba.mono HS5.out))
          go_upto_if 104 with fail
          obtain ⟨W6, hW6⟩ : ∃ W, w5.alloc (.cells #[.slice p13 n13 c13] 23) = W := ⟨_, rfl⟩
          obtain ⟨C, hC⟩ : ∃ C, w5.heap.size = C := ⟨_, rfl⟩
          rw [hW6] at bC bR6 bL6 HO86 HO106 HG6 HK6 HBW6 ⊢
          rw [hC] at bC HS5 ⊢
          have HBC6 := Lib.hid bC
          have HBR6 := Lib.hid bR6
          have HBL6 := Lib.hid bL6
          have HCB := Lib.hid (show W0.heap.size ≤ C ∧ w1.heap.size ≤ C by
            have z1 := lt_of_block HG5.out
            have z2 := HGS.out
            have z3 := HS10.out
            rw [hC] at z1
            omega)
          have HGC := Lib.hid (show g < C by have z1 := lt_of_block HG5.out; rw [hC] at z1; exact z1)
          clear hba bC bR6 bL6 hW6 hC HO85 HO105 HG5 HK13 HBW5 HBR5 HBL5 hz2 hn8 cR fR
          have cC := HBC6.out.cell
          have fC := HBC6.out.frozen
          go_cut [13] from 103 to 119 (fun u wz => u = .pointer (some ⟨C, 0, none⟩) ∧ ∃ W7 vw, W7 = wz ∧ Boxed W7 C 23 vw ∧ HasK W7 encI vw m8 ∧ Boxed W7 R 4 (.bool false) ∧ Boxed W7 B 3 (.int .i64 leave) ∧ W7.heap[g]? = some (.cells #[v10] 23 (0, 0)) ∧ OwnK W7 W0.heap.size 29 encI v10 m8 ∧ Below B w W7)
          case first =>
            cases sb with
            | true =>
              have hmc : mc = 0 := by rw [← HMC.out]; unfold mergeCode; rw [HALL.out]; rfl
              have hm : m8 = mergeL L := (HM8.out.1 HALL.out).ext (mergeL_is L) (fun _ _ => rfl)
              subst hmc
              go_wp2_with fail
              refine (Same_any _ _ m8 m8 W6 HO86.out.has (by rw [hm]; exact HK6.out) (by rw [hm]; have z := (mergeL_is L).len; have z2 := HFL.out; omega)).mono ?_
              rw [sameB_refl]
              rintro e w7 ⟨rfl, hb7⟩
              have HBC7 := Lib.hid (HBC6.out.kept (row := none) ⟨hb7.os, hb7.tape, hb7.output, hb7.size, fun k hk _ => hb7.block k hk⟩ (by simp))
              have HBR7 := Lib.hid (HBR6.out.kept (row := none) ⟨hb7.os, hb7.tape, hb7.output, hb7.size, fun k hk _ => hb7.block k hk⟩ (by simp))
              have HBL7 := Lib.hid (HBL6.out.kept (row := none) ⟨hb7.os, hb7.tape, hb7.output, hb7.size, fun k hk _ => hb7.block k hk⟩ (by simp))
              have HB7 := Lib.hid hb7
              clear hb7
              go_wp2
              go_meet
              exact ⟨rfl, _, _, rfl, HBC7.out, by rw [hm]; exact HK6.out.below HB7.out, HBR7.out, HBL7.out, (HB7.out.block g (lt_of_block HG6.out)).trans HG6.out, HO106.out.below HB7.out, HBW6.out.trans (HB7.out.mono (by have := HBW6.out.size; rw [HBB.out] at this; exact this))⟩
            | false =>
              have hmc : mc = 15 := by rw [← HMC.out]; unfold mergeCode; rw [HALL.out]; rfl
              have hm : m8 = [] := HM8.out.2 HALL.out
              subst hmc
              have hn0 : n8 = 0 := by rw [← HN8.out, hm]; rfl
              subst hn0
              have hrc : R ≠ C := by have z := HR1.out; have z2 := HCB.out.2; omega
              have hbc : B ≠ C := by have z := HR1.out; have z2 := HCB.out.2; have z3 := HRB.out; omega
              have hvc : v10.ownBlock ≠ some C := fun e => by
                obtain ⟨c1, q1⟩ := HO106.out.typeM e
                have z : W6.heap[C]? = some (.cells #[.slice p13 n13 c13] 23 (0, 0)) := HBC6.out
                rw [q1] at z
                simp only [Option.some.injEq, Obj.cells.injEq] at z
                exact absurd z.2.1 (by decide)
              have HE := Lib.hid (show Boxed (W6.setCell ⟨C, 0, none⟩ (.slice none 0 0)) C 23 (.slice none 0 0) ∧ HasK (W6.setCell ⟨C, 0, none⟩ (.slice none 0 0)) encI (.slice none 0 0) m8 ∧ Boxed (W6.setCell ⟨C, 0, none⟩ (.slice none 0 0)) R 4 (.bool false) ∧ Boxed (W6.setCell ⟨C, 0, none⟩ (.slice none 0 0)) B 3 (.int .i64 leave) ∧ (W6.setCell ⟨C, 0, none⟩ (.slice none 0 0)).heap[g]? = some (.cells #[v10] 23 (0, 0)) ∧ OwnK (W6.setCell ⟨C, 0, none⟩ (.slice none 0 0)) W0.heap.size 29 encI v10 m8 ∧ Below B w (W6.setCell ⟨C, 0, none⟩ (.slice none 0 0)) from
                ⟨HBC6.out.set _, by rw [hm]; exact HasK.nil _ _, HBR6.out.other hrc _, HBL6.out.other hbc _, (Below.heap_setCell _ _ _ _ (show g ≠ C by have := HGC.out; omega)).trans HG6.out, HO106.out.setOther C 0 hvc _, HBW6.out.setCell (p := ⟨C, 0, none⟩) (show B ≤ C from by have z := HSB1.out; have z2 := HCB.out.2; omega) _⟩)
              clear hrc hbc hvc
              go_wp2
              go_meet
              exact ⟨rfl, _, _, rfl, HE.out⟩
          case rest =>
            obtain ⟨rfl, W7, vw, rfl, hC7, hK7, hR7, hL7, hg7, ho7, hbw7⟩ := hcut
            obtain ⟨pw, cw, rfl, hw1, hw2⟩ := hK7.form
            obtain ⟨nw, hnw⟩ : ∃ z, m8.length = z := ⟨_, rfl⟩
            have HNW := Lib.hid hnw
            rw [hnw] at hC7 hK7 hw1
            have hcW : (cw : Int) ≤ 9223372036854775807 := by unfold maxLen at hw2; omega
            have hv7 := ho7.has
            have hgc7 : W7.cell? ⟨g, 0, none⟩ = some v10 := by simp [World.cell?, hg7]
            have hbb := (Below.refl W7.heap.size W7).alloc (Nat.le_refl _) (.cells #[.int .i64 0] 3)
            have bD := Boxed.new W7 3 (.int .i64 0)
            have HC8 := Lib.hid (hC7.alloc (.cells #[.int .i64 0] 3))
            have HR8 := Lib.hid (hR7.alloc (.cells #[.int .i64 0] 3))
            have HL8 := Lib.hid (hL7.alloc (.cells #[.int .i64 0] 3))
            have HK8 := Lib.hid (hK7.below hbb)
            have HV8 := Lib.hid (hv7.below hbb)
            have HGC8 := Lib.hid ((hbb.cell (p := ⟨g, 0, none⟩) (cell_lt hgc7)).trans hgc7)
            have HBW8 := Lib.hid (hbw7.trans (hbb.mono (by have := hbw7.size; rw [HBB.out] at this; exact this)))
            have HRl := Lib.hid hR7.lt
            have HLl := Lib.hid hL7.lt
            have HCl := Lib.hid hC7.lt
            have hsz8 : (W7.alloc (.cells #[.int .i64 0] 3)).heap.size = W7.heap.size + 1 := World.size_alloc _ _
            go_wp2_with fail
            obtain ⟨W8, hW8⟩ : ∃ W, W7.alloc (.cells #[.int .i64 0] 3) = W := ⟨_, rfl⟩
            obtain ⟨D, hD⟩ : ∃ D, W7.heap.size = D := ⟨_, rfl⟩
            rw [hW8] at bD HC8 HR8 HL8 HK8 HV8 HGC8 HBW8 hsz8 ⊢
            rw [hD] at bD HRl HLl HCl hsz8 ⊢
            have HBD := Lib.hid bD
            have HSZ8 := Lib.hid hsz8
            clear hbb bD hv7 hgc7 hC7 hK7 hR7 hL7 hg7 ho7 hbw7 hW8 hD hsz8 hnw hw2
            have cD := HBD.out.cell
            refine wp_loop_rounds 3 ?_
            rw [rounds_succ]
            have hba := (Below.refl W8.heap.size W8).alloc (Nat.le_refl _) (.cells #[.int .i64 0] 3)
            have hW9 : ∃ W9, W8.alloc (.cells #[.int .i64 0] 3) = W9 := ⟨_, rfl⟩
            go_wp2_with fail
            obtain ⟨W9, hW9⟩ := hW9
            rw [hW9] at hba ⊢
            obtain ⟨E, hE⟩ : ∃ E, W8.heap.size = E := ⟨_, rfl⟩
            rw [hE] at hba ⊢
            have HSE0 := Lib.hid hE
            have HW90 := Lib.hid hW9
            have HGC0 := HGC8
            have HV0 := HV8
            have HK0 := HK8
            have HC0 := HC8
            have HR0 := HR8
            have HL0 := HL8
            have HD0 := HBD
            have HLD0 := Lib.hid (show D < E by have := HSZ8.out; omega)
            have HLC0 := Lib.hid (show C < E by have := HSZ8.out; have := HCl.out; omega)
            have HLR0 := Lib.hid (show R < E by have := HSZ8.out; have := HRl.out; omega)
            have HLL0 := Lib.hid (show B < E by have := HSZ8.out; have := HLl.out; omega)
            have HE90 := Lib.hid (show E < W9.heap.size by rw [← hW9, World.size_alloc, hE]; omega)
            clear hba hE hW9 cD
            refine (wpIn_wide (n := 9)).1 ?_
            refine range_again (A := 0) (g := g) (E := E) (v10 := v10) (m := m8) (W00 := W8) rfl HSE0.out HW90.out HGC0.out HV0.out ?_ ?_ ?_
            · intro l x W' K hK
              unfold Itm.v at hK ⊢
              simp only [List.setIfInBounds_toArray, List.set_cons_zero, List.set_cons_succ] at hK ⊢
              gi_wp2
              exact hK _ _ rfl rfl
            · rintro l pre x Bx W' ⟨bE, hb⟩ hBx bX hlt
              unfold Itm.v
              simp only [List.setIfInBounds_toArray, List.set_cons_zero, List.set_cons_succ]
              have HTOLD := Lib.hid (show Told E W8 pre W' from ⟨bE, hb⟩)
              have hEl := bE.lt
              have HEL := Lib.hid hEl
              have HBX := Lib.hid hBx
              obtain ⟨k0, k1, k2, k3⟩ := bX.cells
              rw [Nat.zero_add] at k1 k2 k3
              have hIn : ¬ (nw : Int) ≤ (pre.length : Int) := by have := HNW.out; omega
              have hInb : decide ((nw : Int) ≤ (pre.length : Int)) = false := decide_eq_false hIn
              have hi0 : (0 : Int) ≤ (pre.length : Int) := by omega
              have hlt' : (pre.length : Int) < (nw : Int) := by omega
              have hKW := HK0.out.below (by rw [HSE0.out]; exact hb)
              obtain ⟨bw, ow, cap5, p5, hpe, -, -, HPP, HC⟩ := hKW.open
              simp only [Value.slice.injEq] at hpe
              obtain ⟨rfl, -, rfl⟩ := hpe
              obtain ⟨rfl, hbl⟩ := HPP.out (by omega)
              obtain ⟨y0, y1, y2, y3⟩ := HasK.itAt HC.out pre.length hlt
              obtain ⟨y, hy⟩ : ∃ y, m8[pre.length] = y := ⟨_, rfl⟩
              have HY := Lib.hid (show m8[pre.length]? = some y by rw [List.getElem?_eq_getElem hlt, hy])
              rw [hy] at y0 y1 y2 y3
              have cE := bE.cell
              have fE := bE.frozen
              have bCW : Boxed W' C 23 (.slice (some ⟨bw, ow, none⟩) nw cw) := (hb.block C HLC0.out).trans HC0.out
              have bRW : Boxed W' R 4 (.bool false) := (hb.block R HLR0.out).trans HR0.out
              have bDW : Boxed W' D 3 (.int .i64 0) := (hb.block _ HLD0.out).trans HD0.out
              have bLW : Boxed W' B 3 (.int .i64 leave) := (hb.block B HLL0.out).trans HL0.out
              have cC := bCW.cell
              have cR := bRW.cell
              have fR := bRW.frozen
              have cD := bDW.cell
              have cL := bLW.cell
              obtain ⟨i, hi⟩ : ∃ i, pre.length = i := ⟨_, rfl⟩
              have HI := Lib.hid hi
              rw [hi] at hIn hInb hi0 hlt' y0 y1 y2 y3 cE hlt
              have hI64 : (i : Int) + 1 ≤ 9223372036854775807 := by have z : nw ≤ cw := hw1; omega
              clear bE bX hy hKW HPP HC bCW bRW bDW bLW hi hEl hBx
              obtain ⟨ne, hne⟩ : ∃ ne, eqI x y = !ne := ⟨!eqI x y, by simp⟩
              have HNE := Lib.hid hne
              clear hne
              refine wpIn_block (wpIn_seq (wpIn_seq ?_))
              refine wpIn_region_quiet_round (F := Fence.wide) rfl (by simp) (by kernel_rfl) (by kernel_rfl) ?_
              iterate 10 (quiet_step_in (fail))
              refine wpQuietIn_neI (by kernel_rfl) (.tmp 131) (.tmp 135) 29 rfl x y rfl rfl ne HNE.out ?_
              simp only [Act.put, List.setIfInBounds_toArray, List.set_cons_zero, List.set_cons_succ]
              quiet_step_in (fail)
              refine wpQuietIn_nil ?_
              intro _ hw'
              obtain ⟨nq, hw''⟩ := hw'
              subst hw''
              obtain ⟨W'', hW''⟩ : ∃ W'', W'.drewN nq = W'' := ⟨_, rfl⟩
              have HKO := Lib.hid (show KeepsOthers W' W'' from hW'' ▸ ⟨Nat.le_refl _, fun _ _ h _ => h⟩)
              have HBL := Lib.hid (show Below E W' W'' from hW'' ▸ (Below.refl E W').trans ⟨rfl, rfl, rfl, Nat.le_refl _, fun _ _ => rfl⟩)
              have HTO := Lib.hid (show Told E W8 pre W'' from hW'' ▸ ⟨HTOLD.out.1, HTOLD.out.2.trans ⟨rfl, rfl, rfl, Nat.le_refl _, fun _ _ => rfl⟩⟩)
              have cE2 : W''.cell? ⟨E, 0, none⟩ = some (.int .i64 (i : Int)) := hW'' ▸ cE
              have fE2 : W''.frozen? ⟨E, 0, none⟩ = false := hW'' ▸ fE
              have cR2 : W''.cell? ⟨R, 0, none⟩ = some (.bool false) := hW'' ▸ cR
              have fR2 : W''.frozen? ⟨R, 0, none⟩ = false := hW'' ▸ fR
              have cD2 : W''.cell? ⟨D, 0, none⟩ = some (.int .i64 0) := hW'' ▸ cD
              have cL2 : W''.cell? ⟨B, 0, none⟩ = some (.int .i64 leave) := hW'' ▸ cL
              rw [hW'']
              clear hW'' cE fE cR fR cD cL cC y0 y1 y2 y3 k0 k1 k2 k3
              cases ne with
              | true =>
                gi_wp2
                exact ⟨(HKO.out.trans (KeepsOthers.setCell _ _ _)).from _, .inr ⟨rfl, pre, x, rfl, by
                  rw [HY.out]
                  intro e
                  cases e
                  have z := HNE.out
                  rw [(eqI_iff x x).2 rfl] at z
                  exact absurd z (by decide)⟩⟩
              | false =>
                have hEL := HEL.out
                have HT2 := Lib.hid (show Told E W8 (pre ++ [x]) (W''.setCell ⟨E, 0, none⟩ (.int .i64 ((i : Int) + 1))) from ⟨by
                  have e : ((pre ++ [x]).length : Int) = (i : Int) + 1 := by rw [List.length_append, HI.out]; rfl
                  rw [e]
                  exact HTO.out.1.set _, HTO.out.2.setCell (p := ⟨E, 0, none⟩) (by rw [← HSE0.out]; exact Nat.le_refl _) _⟩)
                have HB2 := Lib.hid (HBL.out.setCell (p := ⟨E, 0, none⟩) (Nat.le_refl _) (.int .i64 ((i : Int) + 1)))
                have HK2 := Lib.hid (HKO.out.trans (KeepsOthers.setCell W'' ⟨E, 0, none⟩ (.int .i64 ((i : Int) + 1))))
                have hde : D ≠ E := by have := HLD0.out; omega
                have hbe : B ≠ E := by have := HLL0.out; omega
                have cE3 : (W''.setCell ⟨E, 0, none⟩ (.int .i64 ((i : Int) + 1))).cell? ⟨E, 0, none⟩ = some (.int .i64 ((i : Int) + 1)) := World.cell?_setCell_same' W'' _ _ (by rw [cE2]; rfl)
                have bD3 : (W''.setCell ⟨E, 0, none⟩ (.int .i64 ((i : Int) + 1))).cell? ⟨D, 0, none⟩ = some (.int .i64 0) := (World.cell?_of_block (Below.heap_setCell W'' _ _ _ hde)).trans cD2
                have bL3 : (W''.setCell ⟨E, 0, none⟩ (.int .i64 ((i : Int) + 1))).cell? ⟨B, 0, none⟩ = some (.int .i64 leave) := (World.cell?_of_block (Below.heap_setCell W'' _ _ _ hbe)).trans cL2
                clear hde hbe hlt' hIn hInb
                rcases (by omega : (i : Int) + 1 = leave ∨ ¬ (i : Int) + 1 = leave) with hq | hq
                · subst hq
                  gi_wp2
                  exact ⟨HK2.out.from _, .inl ⟨rfl, rfl, HT2.out⟩⟩
                · obtain ⟨i1, hi1⟩ : ∃ z : Int, (i : Int) + 1 = z := ⟨_, rfl⟩
                  have hwi : IntKind.i64.wrap ((i : Int) + 1) = i1 := by rw [IntKind.wrap_i64]; omega
                  rw [hi1] at hq cE3 bD3 bL3 HT2 HB2 HK2
                  have heb : (i1 == leave) = false := by simp only [beq_eq_false_iff_ne, ne_eq]; exact hq
                  clear hi1 hI64
                  gi_wp2
                  exact ⟨HK2.out.from _, HB2.out, HT2.out⟩
            · rintro D3 W' k hD1 hk bE hb hdf e he
              have HCx := Lib.hid (show Boxed W' C 23 (.slice pw nw cw) from (hb.block C HLC0.out).trans HC0.out)
              have HRx := Lib.hid (show Boxed W' R 4 (.bool false) from (hb.block R HLR0.out).trans HR0.out)
              have HLx := Lib.hid (show Boxed W' B 3 (.int .i64 leave) from (hb.block B HLL0.out).trans HL0.out)
              have bDx : Boxed W' D 3 (.int .i64 0) := (hb.block D HLD0.out).trans HD0.out
              have HKx := Lib.hid (HK0.out.below (by rw [HSE0.out]; exact hb))
              have HVx := Lib.hid (HV0.out.below (by rw [HSE0.out]; exact hb))
              have HGCx := Lib.hid ((hb.cell (p := ⟨g, 0, none⟩) (by rw [← HSE0.out]; exact cell_lt HGC0.out)).trans HGC0.out)
              have HBWx := Lib.hid (HBW8.out.trans (hb.mono (Nat.le_of_lt HLL0.out)))
              have HDF := Lib.hid hdf
              have HD3 := Lib.hid hD1
              have cD := bDx.cell
              have bN := Boxed.new W' 3 (.int .i64 0)
              clear hk bE hb hdf hD1 bDx
              rcases he with rfl | rfl
              · go_wp2_with fail
                have hbb2 := (Below.refl W'.heap.size W').alloc (Nat.le_refl _) (.cells #[.int .i64 1] 3)
                have bD2 := Boxed.new W' 3 (.int .i64 1)
                have HC1 := Lib.hid (HCx.out.alloc (.cells #[.int .i64 1] 3))
                have HR1 := Lib.hid (HRx.out.alloc (.cells #[.int .i64 1] 3))
                have HL1 := Lib.hid (HLx.out.alloc (.cells #[.int .i64 1] 3))
                have HK1 := Lib.hid (HKx.out.below hbb2)
                have HV1 := Lib.hid (HVx.out.below hbb2)
                have HGC1 := Lib.hid ((hbb2.cell (p := ⟨g, 0, none⟩) (cell_lt HGCx.out)).trans HGCx.out)
                have HBW1 := Lib.hid (HBWx.out.trans (hbb2.mono (by have := HBWx.out.size; rw [HBB.out] at this; exact this)))
                have HDF1 := Lib.hid ((hbb2.block D3 (lt_of_block HDF.out)).trans HDF.out)
                have HD3l := Lib.hid (lt_of_block HDF.out)
                have HCl1 := Lib.hid HCx.out.lt
                have HRl1 := Lib.hid HRx.out.lt
                have HLl1 := Lib.hid HLx.out.lt
                have hsz2 : (W'.alloc (.cells #[.int .i64 1] 3)).heap.size = W'.heap.size + 1 := World.size_alloc _ _
                obtain ⟨W18, hW18⟩ : ∃ W, W'.alloc (.cells #[.int .i64 1] 3) = W := ⟨_, rfl⟩
                obtain ⟨D2, hD2⟩ : ∃ D, W'.heap.size = D := ⟨_, rfl⟩
                rw [hW18] at bD2 HC1 HR1 HL1 HK1 HV1 HGC1 HBW1 HDF1 hsz2 ⊢
                rw [hD2] at bD2 HD3l HCl1 HRl1 HLl1 hsz2 ⊢
                have HD1 := Lib.hid bD2
                have HSZ2 := Lib.hid hsz2
                clear hbb2 bD2 hsz2 hW18 hD2 bN cD HCx HRx HLx HKx HVx HGCx HBWx HDF
                have cD := HD1.out.cell
                rw [rounds_succ]
                have hW19 : ∃ W19, W18.alloc (.cells #[.int .i64 0] 3) = W19 := ⟨_, rfl⟩
                go_wp2_with fail
                obtain ⟨W19, hW19⟩ := hW19
                rw [hW19]
                obtain ⟨E2, hE2⟩ : ∃ E, W18.heap.size = E := ⟨_, rfl⟩
                rw [hE2]
                have HSE1 := Lib.hid hE2
                have HW91 := Lib.hid hW19
                have HLD1 := Lib.hid (show D2 < E2 by have := HSZ2.out; omega)
                have HLC1 := Lib.hid (show C < E2 by have := HSZ2.out; have := HCl1.out; omega)
                have HLR1 := Lib.hid (show R < E2 by have := HSZ2.out; have := HRl1.out; omega)
                have HLL1 := Lib.hid (show B < E2 by have := HSZ2.out; have := HLl1.out; omega)
                have HL31 := Lib.hid (show D3 < E2 by have := HSZ2.out; have := HD3l.out; omega)
                have HE19 := Lib.hid (show E2 < W19.heap.size by rw [← hW19, World.size_alloc, hE2]; omega)
                clear hE2 hW19 cD
                refine (wpIn_wide (n := 9)).1 ?_
                refine range_again (A := 1) (g := g) (E := E2) (v10 := v10) (m := m8) (W00 := W18) rfl HSE1.out HW91.out HGC1.out HV1.out ?_ ?_ ?_
                · intro l x W' K hK
                  unfold Itm.v at hK ⊢
                  simp only [List.setIfInBounds_toArray, List.set_cons_zero, List.set_cons_succ] at hK ⊢
                  gi_wp2
                  exact hK _ _ rfl rfl
                · rintro l pre x Bx W' ⟨bE, hb⟩ hBx bX hlt
                  unfold Itm.v
                  simp only [List.setIfInBounds_toArray, List.set_cons_zero, List.set_cons_succ]
                  have HTOLD := Lib.hid (show Told E2 W18 pre W' from ⟨bE, hb⟩)
                  have hEl := bE.lt
                  have HEL := Lib.hid hEl
                  have HBX := Lib.hid hBx
                  obtain ⟨k0, k1, k2, k3⟩ := bX.cells
                  rw [Nat.zero_add] at k1 k2 k3
                  have hIn : ¬ (nw : Int) ≤ (pre.length : Int) := by have := HNW.out; omega
                  have hInb : decide ((nw : Int) ≤ (pre.length : Int)) = false := decide_eq_false hIn
                  have hi0 : (0 : Int) ≤ (pre.length : Int) := by omega
                  have hlt' : (pre.length : Int) < (nw : Int) := by omega
                  have hKW := HK1.out.below (by rw [HSE1.out]; exact hb)
                  obtain ⟨bw, ow, cap5, p5, hpe, -, -, HPP, HC⟩ := hKW.open
                  simp only [Value.slice.injEq] at hpe
                  obtain ⟨rfl, -, rfl⟩ := hpe
                  obtain ⟨rfl, hbl⟩ := HPP.out (by omega)
                  obtain ⟨y0, y1, y2, y3⟩ := HasK.itAt HC.out pre.length hlt
                  obtain ⟨y, hy⟩ : ∃ y, m8[pre.length] = y := ⟨_, rfl⟩
                  have HY := Lib.hid (show m8[pre.length]? = some y by rw [List.getElem?_eq_getElem hlt, hy])
                  rw [hy] at y0 y1 y2 y3
                  have cE := bE.cell
                  have fE := bE.frozen
                  have bCW : Boxed W' C 23 (.slice (some ⟨bw, ow, none⟩) nw cw) := (hb.block C HLC1.out).trans HC1.out
                  have bRW : Boxed W' R 4 (.bool false) := (hb.block R HLR1.out).trans HR1.out
                  have bDW : Boxed W' D2 3 (.int .i64 1) := (hb.block _ HLD1.out).trans HD1.out
                  have bLW : Boxed W' B 3 (.int .i64 leave) := (hb.block B HLL1.out).trans HL1.out
                  have cC := bCW.cell
                  have cR := bRW.cell
                  have fR := bRW.frozen
                  have cD := bDW.cell
                  have cL := bLW.cell
                  obtain ⟨i, hi⟩ : ∃ i, pre.length = i := ⟨_, rfl⟩
                  have HI := Lib.hid hi
                  rw [hi] at hIn hInb hi0 hlt' y0 y1 y2 y3 cE hlt
                  have hI64 : (i : Int) + 1 ≤ 9223372036854775807 := by have z : nw ≤ cw := hw1; omega
                  clear bE bX hy hKW HPP HC bCW bRW bDW bLW hi hEl hBx
                  obtain ⟨ne, hne⟩ : ∃ ne, eqI x y = !ne := ⟨!eqI x y, by simp⟩
                  have HNE := Lib.hid hne
                  clear hne
                  refine wpIn_block (wpIn_seq (wpIn_seq ?_))
                  refine wpIn_region_quiet_round (F := Fence.wide) rfl (by simp) (by kernel_rfl) (by kernel_rfl) ?_
                  iterate 10 (quiet_step_in (fail))
                  refine wpQuietIn_neI (by kernel_rfl) (.tmp 131) (.tmp 135) 29 rfl x y rfl rfl ne HNE.out ?_
                  simp only [Act.put, List.setIfInBounds_toArray, List.set_cons_zero, List.set_cons_succ]
                  quiet_step_in (fail)
                  refine wpQuietIn_nil ?_
                  intro _ hw'
                  obtain ⟨nq, hw''⟩ := hw'
                  subst hw''
                  obtain ⟨W'', hW''⟩ : ∃ W'', W'.drewN nq = W'' := ⟨_, rfl⟩
                  have HKO := Lib.hid (show KeepsOthers W' W'' from hW'' ▸ ⟨Nat.le_refl _, fun _ _ h _ => h⟩)
                  have HBL := Lib.hid (show Below E2 W' W'' from hW'' ▸ (Below.refl E2 W').trans ⟨rfl, rfl, rfl, Nat.le_refl _, fun _ _ => rfl⟩)
                  have HTO := Lib.hid (show Told E2 W18 pre W'' from hW'' ▸ ⟨HTOLD.out.1, HTOLD.out.2.trans ⟨rfl, rfl, rfl, Nat.le_refl _, fun _ _ => rfl⟩⟩)
                  have cE2 : W''.cell? ⟨E2, 0, none⟩ = some (.int .i64 (i : Int)) := hW'' ▸ cE
                  have fE2 : W''.frozen? ⟨E2, 0, none⟩ = false := hW'' ▸ fE
                  have cR2 : W''.cell? ⟨R, 0, none⟩ = some (.bool false) := hW'' ▸ cR
                  have fR2 : W''.frozen? ⟨R, 0, none⟩ = false := hW'' ▸ fR
                  have cD2 : W''.cell? ⟨D2, 0, none⟩ = some (.int .i64 1) := hW'' ▸ cD
                  have cL2 : W''.cell? ⟨B, 0, none⟩ = some (.int .i64 leave) := hW'' ▸ cL
                  rw [hW'']
                  clear hW'' cE fE cR fR cD cL cC y0 y1 y2 y3 k0 k1 k2 k3
                  cases ne with
                  | true =>
                    gi_wp2
                    exact ⟨(HKO.out.trans (KeepsOthers.setCell _ _ _)).from _, .inr ⟨rfl, pre, x, rfl, by
                      rw [HY.out]
                      intro e
                      cases e
                      have z := HNE.out
                      rw [(eqI_iff x x).2 rfl] at z
                      exact absurd z (by decide)⟩⟩
                  | false =>
                    have hEL := HEL.out
                    have HT2 := Lib.hid (show Told E2 W18 (pre ++ [x]) (W''.setCell ⟨E2, 0, none⟩ (.int .i64 ((i : Int) + 1))) from ⟨by
                      have e : ((pre ++ [x]).length : Int) = (i : Int) + 1 := by rw [List.length_append, HI.out]; rfl
                      rw [e]
                      exact HTO.out.1.set _, HTO.out.2.setCell (p := ⟨E2, 0, none⟩) (by rw [← HSE1.out]; exact Nat.le_refl _) _⟩)
                    have HB2 := Lib.hid (HBL.out.setCell (p := ⟨E2, 0, none⟩) (Nat.le_refl _) (.int .i64 ((i : Int) + 1)))
                    have HK2 := Lib.hid (HKO.out.trans (KeepsOthers.setCell W'' ⟨E2, 0, none⟩ (.int .i64 ((i : Int) + 1))))
                    have hde : D2 ≠ E2 := by have := HLD1.out; omega
                    have hbe : B ≠ E2 := by have := HLL1.out; omega
                    have cE3 : (W''.setCell ⟨E2, 0, none⟩ (.int .i64 ((i : Int) + 1))).cell? ⟨E2, 0, none⟩ = some (.int .i64 ((i : Int) + 1)) := World.cell?_setCell_same' W'' _ _ (by rw [cE2]; rfl)
                    have bD3 : (W''.setCell ⟨E2, 0, none⟩ (.int .i64 ((i : Int) + 1))).cell? ⟨D2, 0, none⟩ = some (.int .i64 1) := (World.cell?_of_block (Below.heap_setCell W'' _ _ _ hde)).trans cD2
                    have bL3 : (W''.setCell ⟨E2, 0, none⟩ (.int .i64 ((i : Int) + 1))).cell? ⟨B, 0, none⟩ = some (.int .i64 leave) := (World.cell?_of_block (Below.heap_setCell W'' _ _ _ hbe)).trans cL2
                    clear hde hbe hlt' hIn hInb
                    gi_wp2
                    exact ⟨HK2.out.from _, HB2.out, HT2.out⟩
                · rintro D4 W' k hD1 hk bE hb hdf e he
                  obtain rfl : k = m8.length := hk (by decide)
                  rw [HNW.out] at bE
                  have bRy : Boxed W' R 4 (.bool false) := (hb.block R HLR1.out).trans HR1.out
                  have bDy : Boxed W' D2 3 (.int .i64 1) := (hb.block D2 HLD1.out).trans HD1.out
                  have bCy : Boxed W' C 23 (.slice pw nw cw) := (hb.block C HLC1.out).trans HC1.out
                  have HRy := Lib.hid (bRy.alloc (.cells #[.int .i64 2] 3))
                  have hbb3 := (Below.refl W'.heap.size W').alloc (Nat.le_refl _) (.cells #[.int .i64 2] 3)
                  have HBWy := Lib.hid ((HBW1.out.trans (hb.mono (Nat.le_of_lt HLL1.out))).trans (hbb3.mono (by have := HLL1.out; have := bE.lt; omega)))
                  have H4 := Lib.hid ((hbb3.block D4 (lt_of_block hdf)).trans hdf)
                  have H3 := Lib.hid ((hbb3.block D3 (lt_of_block ((hb.block D3 HL31.out).trans HDF1.out))).trans ((hb.block D3 HL31.out).trans HDF1.out))
                  have H34 := Lib.hid (show D3 ≠ D4 by have := HL31.out; have := HE19.out; omega)
                  have HB4 := Lib.hid (show B ≤ D4 by have := HLL1.out; have := HE19.out; omega)
                  have HB3 := Lib.hid (show B ≤ D3 by have := HD3.out; have := HLL0.out; have := HE90.out; omega)
                  have bN3 := Boxed.new W' 3 (.int .i64 2)
                  have cD := bDy.cell
                  have cC := bCy.cell
                  have cE := bE.cell
                  have cR3 := HRy.out.cell
                  have fR3 := HRy.out.frozen
                  have cN3 := bN3.cell
                  clear hk bE hb hdf hD1 bRy bDy bCy hbb3 bN3
                  rcases he with rfl | rfl
                  · go_wp2_with fail
                    rw [rounds_succ]
                    go_wp2
                    exact ret2_mm rfl HRy.out HBWy.out (by have := HRB.out; omega) HBB.out H4.out H3.out H34.out HB3.out HB4.out
                  · go_wp2_with fail
                    rw [rounds_succ]
                    go_wp2
                    exact ret2_mm rfl HRy.out HBWy.out (by have := HRB.out; omega) HBB.out H4.out H3.out H34.out HB3.out HB4.out
              · go_wp2_with fail
                have hbb2 := (Below.refl W'.heap.size W').alloc (Nat.le_refl _) (.cells #[.int .i64 1] 3)
                have bD2 := Boxed.new W' 3 (.int .i64 1)
                have HC1 := Lib.hid (HCx.out.alloc (.cells #[.int .i64 1] 3))
                have HR1 := Lib.hid (HRx.out.alloc (.cells #[.int .i64 1] 3))
                have HL1 := Lib.hid (HLx.out.alloc (.cells #[.int .i64 1] 3))
                have HK1 := Lib.hid (HKx.out.below hbb2)
                have HV1 := Lib.hid (HVx.out.below hbb2)
                have HGC1 := Lib.hid ((hbb2.cell (p := ⟨g, 0, none⟩) (cell_lt HGCx.out)).trans HGCx.out)
                have HBW1 := Lib.hid (HBWx.out.trans (hbb2.mono (by have := HBWx.out.size; rw [HBB.out] at this; exact this)))
                have HDF1 := Lib.hid ((hbb2.block D3 (lt_of_block HDF.out)).trans HDF.out)
                have HD3l := Lib.hid (lt_of_block HDF.out)
                have HCl1 := Lib.hid HCx.out.lt
                have HRl1 := Lib.hid HRx.out.lt
                have HLl1 := Lib.hid HLx.out.lt
                have hsz2 : (W'.alloc (.cells #[.int .i64 1] 3)).heap.size = W'.heap.size + 1 := World.size_alloc _ _
                obtain ⟨W18, hW18⟩ : ∃ W, W'.alloc (.cells #[.int .i64 1] 3) = W := ⟨_, rfl⟩
                obtain ⟨D2, hD2⟩ : ∃ D, W'.heap.size = D := ⟨_, rfl⟩
                rw [hW18] at bD2 HC1 HR1 HL1 HK1 HV1 HGC1 HBW1 HDF1 hsz2 ⊢
                rw [hD2] at bD2 HD3l HCl1 HRl1 HLl1 hsz2 ⊢
                have HD1 := Lib.hid bD2
                have HSZ2 := Lib.hid hsz2
                clear hbb2 bD2 hsz2 hW18 hD2 bN cD HCx HRx HLx HKx HVx HGCx HBWx HDF
                have cD := HD1.out.cell
                rw [rounds_succ]
                have hW19 : ∃ W19, W18.alloc (.cells #[.int .i64 0] 3) = W19 := ⟨_, rfl⟩
                go_wp2_with fail
                obtain ⟨W19, hW19⟩ := hW19
                rw [hW19]
                obtain ⟨E2, hE2⟩ : ∃ E, W18.heap.size = E := ⟨_, rfl⟩
                rw [hE2]
                have HSE1 := Lib.hid hE2
                have HW91 := Lib.hid hW19
                have HLD1 := Lib.hid (show D2 < E2 by have := HSZ2.out; omega)
                have HLC1 := Lib.hid (show C < E2 by have := HSZ2.out; have := HCl1.out; omega)
                have HLR1 := Lib.hid (show R < E2 by have := HSZ2.out; have := HRl1.out; omega)
                have HLL1 := Lib.hid (show B < E2 by have := HSZ2.out; have := HLl1.out; omega)
                have HL31 := Lib.hid (show D3 < E2 by have := HSZ2.out; have := HD3l.out; omega)
                have HE19 := Lib.hid (show E2 < W19.heap.size by rw [← hW19, World.size_alloc, hE2]; omega)
                clear hE2 hW19 cD
                refine (wpIn_wide (n := 9)).1 ?_
                refine range_again (A := 1) (g := g) (E := E2) (v10 := v10) (m := m8) (W00 := W18) rfl HSE1.out HW91.out HGC1.out HV1.out ?_ ?_ ?_
                · intro l x W' K hK
                  unfold Itm.v at hK ⊢
                  simp only [List.setIfInBounds_toArray, List.set_cons_zero, List.set_cons_succ] at hK ⊢
                  gi_wp2
                  exact hK _ _ rfl rfl
                · rintro l pre x Bx W' ⟨bE, hb⟩ hBx bX hlt
                  unfold Itm.v
                  simp only [List.setIfInBounds_toArray, List.set_cons_zero, List.set_cons_succ]
                  have HTOLD := Lib.hid (show Told E2 W18 pre W' from ⟨bE, hb⟩)
                  have hEl := bE.lt
                  have HEL := Lib.hid hEl
                  have HBX := Lib.hid hBx
                  obtain ⟨k0, k1, k2, k3⟩ := bX.cells
                  rw [Nat.zero_add] at k1 k2 k3
                  have hIn : ¬ (nw : Int) ≤ (pre.length : Int) := by have := HNW.out; omega
                  have hInb : decide ((nw : Int) ≤ (pre.length : Int)) = false := decide_eq_false hIn
                  have hi0 : (0 : Int) ≤ (pre.length : Int) := by omega
                  have hlt' : (pre.length : Int) < (nw : Int) := by omega
                  have hKW := HK1.out.below (by rw [HSE1.out]; exact hb)
                  obtain ⟨bw, ow, cap5, p5, hpe, -, -, HPP, HC⟩ := hKW.open
                  simp only [Value.slice.injEq] at hpe
                  obtain ⟨rfl, -, rfl⟩ := hpe
                  obtain ⟨rfl, hbl⟩ := HPP.out (by omega)
                  obtain ⟨y0, y1, y2, y3⟩ := HasK.itAt HC.out pre.length hlt
                  obtain ⟨y, hy⟩ : ∃ y, m8[pre.length] = y := ⟨_, rfl⟩
                  have HY := Lib.hid (show m8[pre.length]? = some y by rw [List.getElem?_eq_getElem hlt, hy])
                  rw [hy] at y0 y1 y2 y3
                  have cE := bE.cell
                  have fE := bE.frozen
                  have bCW : Boxed W' C 23 (.slice (some ⟨bw, ow, none⟩) nw cw) := (hb.block C HLC1.out).trans HC1.out
                  have bRW : Boxed W' R 4 (.bool false) := (hb.block R HLR1.out).trans HR1.out
                  have bDW : Boxed W' D2 3 (.int .i64 1) := (hb.block _ HLD1.out).trans HD1.out
                  have bLW : Boxed W' B 3 (.int .i64 leave) := (hb.block B HLL1.out).trans HL1.out
                  have cC := bCW.cell
                  have cR := bRW.cell
                  have fR := bRW.frozen
                  have cD := bDW.cell
                  have cL := bLW.cell
                  obtain ⟨i, hi⟩ : ∃ i, pre.length = i := ⟨_, rfl⟩
                  have HI := Lib.hid hi
                  rw [hi] at hIn hInb hi0 hlt' y0 y1 y2 y3 cE hlt
                  have hI64 : (i : Int) + 1 ≤ 9223372036854775807 := by have z : nw ≤ cw := hw1; omega
                  clear bE bX hy hKW HPP HC bCW bRW bDW bLW hi hEl hBx
                  obtain ⟨ne, hne⟩ : ∃ ne, eqI x y = !ne := ⟨!eqI x y, by simp⟩
                  have HNE := Lib.hid hne
                  clear hne
                  refine wpIn_block (wpIn_seq (wpIn_seq ?_))
                  refine wpIn_region_quiet_round (F := Fence.wide) rfl (by simp) (by kernel_rfl) (by kernel_rfl) ?_
                  iterate 10 (quiet_step_in (fail))
                  refine wpQuietIn_neI (by kernel_rfl) (.tmp 131) (.tmp 135) 29 rfl x y rfl rfl ne HNE.out ?_
                  simp only [Act.put, List.setIfInBounds_toArray, List.set_cons_zero, List.set_cons_succ]
                  quiet_step_in (fail)
                  refine wpQuietIn_nil ?_
                  intro _ hw'
                  obtain ⟨nq, hw''⟩ := hw'
                  subst hw''
                  obtain ⟨W'', hW''⟩ : ∃ W'', W'.drewN nq = W'' := ⟨_, rfl⟩
                  have HKO := Lib.hid (show KeepsOthers W' W'' from hW'' ▸ ⟨Nat.le_refl _, fun _ _ h _ => h⟩)
                  have HBL := Lib.hid (show Below E2 W' W'' from hW'' ▸ (Below.refl E2 W').trans ⟨rfl, rfl, rfl, Nat.le_refl _, fun _ _ => rfl⟩)
                  have HTO := Lib.hid (show Told E2 W18 pre W'' from hW'' ▸ ⟨HTOLD.out.1, HTOLD.out.2.trans ⟨rfl, rfl, rfl, Nat.le_refl _, fun _ _ => rfl⟩⟩)
                  have cE2 : W''.cell? ⟨E2, 0, none⟩ = some (.int .i64 (i : Int)) := hW'' ▸ cE
                  have fE2 : W''.frozen? ⟨E2, 0, none⟩ = false := hW'' ▸ fE
                  have cR2 : W''.cell? ⟨R, 0, none⟩ = some (.bool false) := hW'' ▸ cR
                  have fR2 : W''.frozen? ⟨R, 0, none⟩ = false := hW'' ▸ fR
                  have cD2 : W''.cell? ⟨D2, 0, none⟩ = some (.int .i64 1) := hW'' ▸ cD
                  have cL2 : W''.cell? ⟨B, 0, none⟩ = some (.int .i64 leave) := hW'' ▸ cL
                  rw [hW'']
                  clear hW'' cE fE cR fR cD cL cC y0 y1 y2 y3 k0 k1 k2 k3
                  cases ne with
                  | true =>
                    gi_wp2
                    exact ⟨(HKO.out.trans (KeepsOthers.setCell _ _ _)).from _, .inr ⟨rfl, pre, x, rfl, by
                      rw [HY.out]
                      intro e
                      cases e
                      have z := HNE.out
                      rw [(eqI_iff x x).2 rfl] at z
                      exact absurd z (by decide)⟩⟩
                  | false =>
                    have hEL := HEL.out
                    have HT2 := Lib.hid (show Told E2 W18 (pre ++ [x]) (W''.setCell ⟨E2, 0, none⟩ (.int .i64 ((i : Int) + 1))) from ⟨by
                      have e : ((pre ++ [x]).length : Int) = (i : Int) + 1 := by rw [List.length_append, HI.out]; rfl
                      rw [e]
                      exact HTO.out.1.set _, HTO.out.2.setCell (p := ⟨E2, 0, none⟩) (by rw [← HSE1.out]; exact Nat.le_refl _) _⟩)
                    have HB2 := Lib.hid (HBL.out.setCell (p := ⟨E2, 0, none⟩) (Nat.le_refl _) (.int .i64 ((i : Int) + 1)))
                    have HK2 := Lib.hid (HKO.out.trans (KeepsOthers.setCell W'' ⟨E2, 0, none⟩ (.int .i64 ((i : Int) + 1))))
                    have hde : D2 ≠ E2 := by have := HLD1.out; omega
                    have hbe : B ≠ E2 := by have := HLL1.out; omega
                    have cE3 : (W''.setCell ⟨E2, 0, none⟩ (.int .i64 ((i : Int) + 1))).cell? ⟨E2, 0, none⟩ = some (.int .i64 ((i : Int) + 1)) := World.cell?_setCell_same' W'' _ _ (by rw [cE2]; rfl)
                    have bD3 : (W''.setCell ⟨E2, 0, none⟩ (.int .i64 ((i : Int) + 1))).cell? ⟨D2, 0, none⟩ = some (.int .i64 1) := (World.cell?_of_block (Below.heap_setCell W'' _ _ _ hde)).trans cD2
                    have bL3 : (W''.setCell ⟨E2, 0, none⟩ (.int .i64 ((i : Int) + 1))).cell? ⟨B, 0, none⟩ = some (.int .i64 leave) := (World.cell?_of_block (Below.heap_setCell W'' _ _ _ hbe)).trans cL2
                    clear hde hbe hlt' hIn hInb
                    gi_wp2
                    exact ⟨HK2.out.from _, HB2.out, HT2.out⟩
                · rintro D4 W' k hD1 hk bE hb hdf e he
                  obtain rfl : k = m8.length := hk (by decide)
                  rw [HNW.out] at bE
                  have bRy : Boxed W' R 4 (.bool false) := (hb.block R HLR1.out).trans HR1.out
                  have bDy : Boxed W' D2 3 (.int .i64 1) := (hb.block D2 HLD1.out).trans HD1.out
                  have bCy : Boxed W' C 23 (.slice pw nw cw) := (hb.block C HLC1.out).trans HC1.out
                  have HRy := Lib.hid (bRy.alloc (.cells #[.int .i64 2] 3))
                  have hbb3 := (Below.refl W'.heap.size W').alloc (Nat.le_refl _) (.cells #[.int .i64 2] 3)
                  have HBWy := Lib.hid ((HBW1.out.trans (hb.mono (Nat.le_of_lt HLL1.out))).trans (hbb3.mono (by have := HLL1.out; have := bE.lt; omega)))
                  have H4 := Lib.hid ((hbb3.block D4 (lt_of_block hdf)).trans hdf)
                  have H3 := Lib.hid ((hbb3.block D3 (lt_of_block ((hb.block D3 HL31.out).trans HDF1.out))).trans ((hb.block D3 HL31.out).trans HDF1.out))
                  have H34 := Lib.hid (show D3 ≠ D4 by have := HL31.out; have := HE19.out; omega)
                  have HB4 := Lib.hid (show B ≤ D4 by have := HLL1.out; have := HE19.out; omega)
                  have HB3 := Lib.hid (show B ≤ D3 by have := HD3.out; have := HLL0.out; have := HE90.out; omega)
                  have bN3 := Boxed.new W' 3 (.int .i64 2)
                  have cD := bDy.cell
                  have cC := bCy.cell
                  have cE := bE.cell
                  have cR3 := HRy.out.cell
                  have fR3 := HRy.out.frozen
                  have cN3 := bN3.cell
                  clear hk bE hb hdf hD1 bRy bDy bCy hbb3 bN3
                  rcases he with rfl | rfl
                  · go_wp2_with fail
                    rw [rounds_succ]
                    go_wp2
                    exact ret2_mm rfl HRy.out HBWy.out (by have := HRB.out; omega) HBB.out H4.out H3.out H34.out HB3.out HB4.out
                  · go_wp2_with fail
                    rw [rounds_succ]
                    go_wp2
                    exact ret2_mm rfl HRy.out HBWy.out (by have := HRB.out; omega) HBB.out H4.out H3.out H34.out HB3.out HB4.out
end Go.Proofs.Ytfdafoibclfpgaa
