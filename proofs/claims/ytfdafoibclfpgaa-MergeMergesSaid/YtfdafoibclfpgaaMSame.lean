/-
  Two lists of items held against one another, as the document's own answer does it.
-/
import Derived.Test.YtfdafoibclfpgaaMEq
namespace Go.Proofs.Ytfdafoibclfpgaa
open Go.ChangeShapes Go.WideShapes Go.ChangeAt Go.RowKit Go.Deep
set_option linter.unusedVariables false
set_option linter.unusedSimpArgs false
set_option maxRecDepth 100000 in
set_option maxHeartbeats 8000000 in
theorem Same_any (v u : Value) (l k : List Itm) (w : World) (hv : HasK w encI v l) (hu : HasK w encI u k) (hl : l.length ≤ 1000000) :
    Calls Try.prog 16 #[v, u] w fun e w' => e = .returned (.bool (sameB l k)) ∧ Below w.heap.size w w' := by
  obtain ⟨p, cap, rfl, h1, h2⟩ := hv.form
  obtain ⟨p2, cap2, rfl, k1, k2⟩ := hu.form
  obtain ⟨m, hm⟩ : ∃ m, l.length = m := ⟨_, rfl⟩
  obtain ⟨n, hn⟩ : ∃ n, k.length = n := ⟨_, rfl⟩
  have HM := Lib.hid hm
  have HN := Lib.hid hn
  have HV := Lib.hid hv
  have HU := Lib.hid hu
  have hcI : (cap : Int) ≤ 9223372036854775807 := by unfold maxLen at h2; omega
  have hcJ : (cap2 : Int) ≤ 9223372036854775807 := by unfold maxLen at k2; omega
  rw [hm] at hl h1 HV ⊢
  rw [hn] at k1 HU ⊢
  clear hv hu hm hn h2 k2
  obtain ⟨sb, hsb⟩ : ∃ s, sameB l k = s := ⟨_, rfl⟩
  have HSB := Lib.hid hsb
  rw [hsb]
  clear hsb
  rcases Decidable.em (m = n) with hmn | hmn
  · subst hmn
    go_enter Try.func16, Try.ntmps16
    go_wp2_with fail
    go_loopw [5] (fun vi wr => ∃ i : Nat, vi = .int .i64 (i : Int) ∧ (i ≤ m) ∧ (∀ j (h : j < l.length) (h' : j < k.length), j < i → eqI l[j] k[j] = true) ∧ Below w.heap.size w wr) (fun vi _ => m - (intOf vi).toNat)
    case atStart => exact ⟨0, rfl, Nat.zero_le _, fun j _ _ h => absurd h (by omega), Below.refl _ _⟩
    case round =>
      obtain ⟨i, rfl, hi, hgo, hb⟩ := hrel
      obtain ⟨W0, rfl⟩ : ∃ W0, W0 = wr := ⟨wr, rfl⟩
      have HGO := Lib.hid hgo
      have HB := Lib.hid hb
      clear hgo hb
      rcases Nat.lt_or_ge i m with hlt | hge
      · have hI : (i : Int) < (m : Int) := by omega
        have hi0 : (0 : Int) ≤ (i : Int) := by omega
        have hil : i < l.length := by rw [HM.out]; exact hlt
        have hik : i < k.length := by rw [HN.out]; exact hlt
        obtain ⟨b, o, cap3, p3, hpe, -, -, HPP, HC⟩ := (HV.out.below HB.out).open
        simp only [Value.slice.injEq] at hpe
        obtain ⟨rfl, -, rfl⟩ := hpe
        obtain ⟨rfl, hbl⟩ := HPP.out (by rw [HM.out]; omega)
        obtain ⟨b', o', cap3, p3, hpe, -, -, HPP', HC'⟩ := (HU.out.below HB.out).open
        simp only [Value.slice.injEq] at hpe
        obtain ⟨rfl, -, rfl⟩ := hpe
        obtain ⟨rfl, hbl'⟩ := HPP'.out (by rw [HN.out]; omega)
        have hx := HasK.itAt HC.out i hil
        have hy := HasK.itAt HC'.out i hik
        have hst := sameB_ne (a := l) (b := k) i hil hik
        rw [HSB.out] at hst
        have hnx : ∀ h : eqI l[i] k[i] = true, ∀ j (h : j < l.length) (h' : j < k.length), j < i + 1 → eqI l[j] k[j] = true := fun h j hj hj' hji => by
          rcases Nat.lt_or_ge j i with h' | h'
          · exact HGO.out j hj hj' h'
          · obtain rfl : j = i := by omega
            exact h
        have HNX := Lib.hid hnx
        have HST := Lib.hid hst
        clear hnx hst
        obtain ⟨x, hxe⟩ : ∃ x, l[i] = x := ⟨_, rfl⟩
        obtain ⟨y, hye⟩ : ∃ y, k[i] = y := ⟨_, rfl⟩
        rw [hxe] at hx HNX HST
        rw [hye] at hy HNX HST
        obtain ⟨ne, hne⟩ : ∃ ne, eqI x y = !ne := ⟨!eqI x y, by simp⟩
        rw [hne] at HNX HST
        have HX := Lib.hid hx
        have HY := Lib.hid hy
        have HNE := Lib.hid hne
        clear hxe hye HC HPP HC' HPP' hx hy hil hik hne
        go_upto_region 6 with fail
        refine wp_region_held_drew (S := fun W => ItC W b (o + i * 4) x ∧ ItC W b' (o' + i * 4) y) (by kernel_rfl) ⟨HX.out.drew, HY.out.drew⟩ (fun hHeld => ?_)
        refine wpAnyH_take (i := 0) (oi := _) (v := ?_) rfl (by kernel_rfl) (by kernel_rfl) (by kernel_rfl) (fun _ _ _ h => h) (Or.inl ⟨by kernel_rfl, ?hy1⟩) (by assumption) ?_
        case hy1 =>
          intro w9 hSw
          try dsimp only at hSw
          try simp only [List.getElem_toArray, List.getElem_cons_zero, List.getElem_cons_succ]
          go_simp
          try with_reducible rfl
        try simp only [Act.put, List.setIfInBounds_toArray, List.set_cons_zero, List.set_cons_succ, List.getElem_toArray, List.getElem_cons_zero, List.getElem_cons_succ]
        refine wpAnyH_take (i := 1) (oi := _) (v := ?_) rfl (by kernel_rfl) (by kernel_rfl) (by kernel_rfl) (fun _ _ _ h => h) (Or.inl ⟨by kernel_rfl, ?hy2⟩) (by assumption) ?_
        case hy2 =>
          intro w9 hSw
          try dsimp only at hSw
          try simp only [List.getElem_toArray, List.getElem_cons_zero, List.getElem_cons_succ]
          go_simp
          try with_reducible rfl
        try simp only [Act.put, List.setIfInBounds_toArray, List.set_cons_zero, List.set_cons_succ, List.getElem_toArray, List.getElem_cons_zero, List.getElem_cons_succ]
        refine wpAnyH_take (i := 2) (oi := _) (v := ?_) rfl (by kernel_rfl) (by kernel_rfl) (by kernel_rfl) (fun _ _ _ h => h) (Or.inl ⟨by kernel_rfl, ?hy3⟩) (by assumption) ?_
        case hy3 =>
          intro w9 hSw
          try dsimp only at hSw
          try simp only [List.getElem_toArray, List.getElem_cons_zero, List.getElem_cons_succ]
          go_simp
          try with_reducible rfl
        try simp only [Act.put, List.setIfInBounds_toArray, List.set_cons_zero, List.set_cons_succ, List.getElem_toArray, List.getElem_cons_zero, List.getElem_cons_succ]
        refine wpAnyH_take (i := 3) (oi := _) (v := x.v) rfl (by kernel_rfl) (by kernel_rfl) (by kernel_rfl) (fun _ _ _ h => h) (Or.inl ⟨by kernel_rfl, ?hy4⟩) (by assumption) ?_
        case hy4 =>
          intro w9 hSw
          try dsimp only at hSw
          try simp only [List.getElem_toArray, List.getElem_cons_zero, List.getElem_cons_succ]
          go_simp
          obtain ⟨⟨a0, a1, a2, a3⟩, -⟩ := hSw
          try go_simp
          try rfl
        try simp only [Act.put, List.setIfInBounds_toArray, List.set_cons_zero, List.set_cons_succ, List.getElem_toArray, List.getElem_cons_zero, List.getElem_cons_succ]
        refine wpAnyH_take (i := 4) (oi := _) (v := ?_) rfl (by kernel_rfl) (by kernel_rfl) (by kernel_rfl) (fun _ _ _ h => h) (Or.inl ⟨by kernel_rfl, ?hy5⟩) (by assumption) ?_
        case hy5 =>
          intro w9 hSw
          try dsimp only at hSw
          try simp only [List.getElem_toArray, List.getElem_cons_zero, List.getElem_cons_succ]
          go_simp
          try with_reducible rfl
        try simp only [Act.put, List.setIfInBounds_toArray, List.set_cons_zero, List.set_cons_succ, List.getElem_toArray, List.getElem_cons_zero, List.getElem_cons_succ]
        refine wpAnyH_take (i := 5) (oi := _) (v := ?_) rfl (by kernel_rfl) (by kernel_rfl) (by kernel_rfl) (fun _ _ _ h => h) (Or.inl ⟨by kernel_rfl, ?hy6⟩) (by assumption) ?_
        case hy6 =>
          intro w9 hSw
          try dsimp only at hSw
          try simp only [List.getElem_toArray, List.getElem_cons_zero, List.getElem_cons_succ]
          go_simp
          try with_reducible rfl
        try simp only [Act.put, List.setIfInBounds_toArray, List.set_cons_zero, List.set_cons_succ, List.getElem_toArray, List.getElem_cons_zero, List.getElem_cons_succ]
        refine wpAnyH_take (i := 6) (oi := _) (v := ?_) rfl (by kernel_rfl) (by kernel_rfl) (by kernel_rfl) (fun _ _ _ h => h) (Or.inl ⟨by kernel_rfl, ?hy7⟩) (by assumption) ?_
        case hy7 =>
          intro w9 hSw
          try dsimp only at hSw
          try simp only [List.getElem_toArray, List.getElem_cons_zero, List.getElem_cons_succ]
          go_simp
          try with_reducible rfl
        try simp only [Act.put, List.setIfInBounds_toArray, List.set_cons_zero, List.set_cons_succ, List.getElem_toArray, List.getElem_cons_zero, List.getElem_cons_succ]
        refine wpAnyH_take (i := 7) (oi := _) (v := y.v) rfl (by kernel_rfl) (by kernel_rfl) (by kernel_rfl) (fun _ _ _ h => h) (Or.inl ⟨by kernel_rfl, ?hy8⟩) (by assumption) ?_
        case hy8 =>
          intro w9 hSw
          try dsimp only at hSw
          try simp only [List.getElem_toArray, List.getElem_cons_zero, List.getElem_cons_succ]
          go_simp
          obtain ⟨-, ⟨a0, a1, a2, a3⟩⟩ := hSw
          try go_simp
          try rfl
        try simp only [Act.put, List.setIfInBounds_toArray, List.set_cons_zero, List.set_cons_succ, List.getElem_toArray, List.getElem_cons_zero, List.getElem_cons_succ]
        refine wpAnyH_take (i := 8) (oi := _) (v := ?_) rfl (by kernel_rfl) (by kernel_rfl) (by kernel_rfl) (fun _ _ _ h => h) ?hl9 (by assumption) ?_
        case hl9 => refine yieldsIf_neI ?_ (.tmp 20) (.tmp 24) 29 ?_ x y ?_ ?_ ne HNE.out <;> kernel_rfl
        try simp only [Act.put, List.setIfInBounds_toArray, List.set_cons_zero, List.set_cons_succ, List.getElem_toArray, List.getElem_cons_zero, List.getElem_cons_succ]
        refine wpAnyH_done (by kernel_rfl) ?_ _
        cases ne with
        | false =>
          have hn := HNX.out rfl
          have HN2 := Lib.hid hn
          clear hn
          go_wp2
          go_roundw
          case rel => exact ⟨i + 1, by go_num, by omega, HN2.out, HB.out.drew⟩
          case measure => simp [intOf] <;> omega
        | true =>
          have hs := HST.out rfl
          subst hs
          go_wp2
          go_ret
          exact ⟨rfl, HB.out.drew⟩
      · have hI : ¬ (i : Int) < (m : Int) := by omega
        have hs : sb = true := by
          rw [← HSB.out]
          exact sameB_all (by rw [HM.out, HN.out]) fun j hj hj' => HGO.out j hj hj' (by rw [HM.out] at hj; omega)
        subst hs
        go_wp2
        go_ret
        exact ⟨rfl, HB.out⟩
  · have hI : ¬ (m : Int) = (n : Int) := by omega
    have hs : sb = false := by
      rw [← HSB.out]
      exact sameB_len (by rw [HM.out, HN.out]; exact hmn)
    subst hs
    have he2 : ((m : Int) == (n : Int)) = false := by simp only [beq_eq_false_iff_ne, ne_eq]; exact hI
    go_enter Try.func16, Try.ntmps16
    go_wp2
    go_ret
    exact ⟨rfl, Below.refl _ _⟩
end Go.Proofs.Ytfdafoibclfpgaa
