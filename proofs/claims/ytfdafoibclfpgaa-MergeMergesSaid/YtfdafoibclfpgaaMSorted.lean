/-
  Whether a list of items is in order, as package merge asks it and as the document's own answer does.
-/
import Derived.Test.YtfdafoibclfpgaaMAhead
namespace Go.Proofs.Ytfdafoibclfpgaa
open Go.ChangeShapes Go.WideShapes Go.ChangeAt Go.RowKit Go.Deep
set_option linter.unusedVariables false
set_option linter.unusedSimpArgs false
theorem cell_lt {w : World} {a : Addr} {v : Value} (h : w.cell? a = some v) : a.block < w.heap.size := by
  rcases Nat.lt_or_ge a.block w.heap.size with h' | h'
  · exact h'
  · simp [World.cell?, Array.getElem?_eq_none h'] at h
/-- An item's four cells. -/
def ItC (W : World) (b o : Nat) (x : Itm) : Prop := W.cell? ⟨b, o, none⟩ = some (.string x.key) ∧ W.cell? ⟨b, o + 1, none⟩ = some (.int .u64 (x.seq : Int)) ∧ W.cell? ⟨b, o + 2, none⟩ = some (.bool x.gone) ∧ W.cell? ⟨b, o + 3, none⟩ = some (.string x.val)
theorem ItC.below {W W' : World} {b o : Nat} {x : Itm} (h : ItC W b o x) (hb : Below W.heap.size W W') : ItC W' b o x := ⟨(hb.cell (cell_lt h.1)).trans h.1, (hb.cell (cell_lt h.2.1)).trans h.2.1, (hb.cell (cell_lt h.2.2.1)).trans h.2.2.1, (hb.cell (cell_lt h.2.2.2)).trans h.2.2.2⟩
theorem ItC.drew {W : World} {b o : Nat} {x : Itm} (h : ItC W b o x) : ItC W.drew b o x := h
theorem ItC.grown {W W' : World} {b o : Nat} {x : Itm} {row : Option Nat} (h : ItC W b o x) (hg : W.grownBy W' row) (hn : row ≠ some b) : ItC W' b o x := by
  have k : ∀ {a : Addr}, a.block = b → a.block < W.heap.size → W'.cell? a = W.cell? a := fun {a} e hl => World.cell?_of_block (hg.block a.block hl (fun e' => hn (by rw [← e', e])))
  exact ⟨(k rfl (cell_lt h.1)).trans h.1, (k rfl (cell_lt h.2.1)).trans h.2.1, (k rfl (cell_lt h.2.2.1)).trans h.2.2.1, (k rfl (cell_lt h.2.2.2)).trans h.2.2.2⟩
theorem HasK.itAt {w : World} {b o : Nat} {l : List Itm} (hc : ∀ i (h : i < l.length) (j : Nat) (u : Value), (encI.cells l[i])[j]? = some u → w.cell? ⟨b, o + i * encI.k + j, none⟩ = some u) (i : Nat) (h : i < l.length) : ItC w b (o + i * 4) l[i] :=
  ⟨hc i h 0 _ rfl, hc i h 1 _ rfl, hc i h 2 _ rfl, hc i h 3 _ rfl⟩
set_option maxRecDepth 100000 in
set_option maxHeartbeats 8000000 in
theorem Sorted_any (v : Value) (l : List Itm) (w : World) (hv : HasK w encI v l) (hl : l.length ≤ 1000000) :
    Calls Try.prog 20 #[v] w fun e w' => e = .returned (.bool (sortedB l)) ∧ Below w.heap.size w w' := by
  obtain ⟨p, cap, rfl, h1, h2⟩ := hv.form
  obtain ⟨m, hm⟩ : ∃ m, l.length = m := ⟨_, rfl⟩
  have HM := Lib.hid hm
  have HV := Lib.hid hv
  have hcI : (cap : Int) ≤ 9223372036854775807 := by unfold maxLen at h2; omega
  rw [hm] at hl h1 HV ⊢
  clear hv hm h2
  obtain ⟨sb, hsb⟩ : ∃ s, sortedB l = s := ⟨_, rfl⟩
  have HSB := Lib.hid hsb
  rw [hsb]
  clear hsb
  go_enter Try.func20, Try.ntmps20
  go_wp2_with fail
  go_loopw [3] (fun vi wr => ∃ i : Nat, vi = .int .i64 ((i : Int) + 1) ∧ (i ≤ m) ∧ (∀ j (h : j + 1 < l.length), j < i → aheadI (l[j]'(by omega)) l[j + 1] = true) ∧ Below w.heap.size w wr) (fun vi _ => m + 1 - (intOf vi).toNat)
  case atStart => exact ⟨0, rfl, Nat.zero_le _, fun j _ h => absurd h (by omega), Below.refl _ _⟩
  case round =>
    obtain ⟨i, rfl, hi, hgo, hb⟩ := hrel
    obtain ⟨W0, rfl⟩ : ∃ W0, W0 = wr := ⟨wr, rfl⟩
    have HGO := Lib.hid hgo
    have HB := Lib.hid hb
    clear hgo hb
    rcases Nat.lt_or_ge (i + 1) m with hlt | hge
    · have hI : (i : Int) + 1 < (m : Int) := by omega
      have hi0 : (0 : Int) ≤ (i : Int) := by omega
      have hi1 : (0 : Int) ≤ (i : Int) + 1 := by omega
      have hi2 : (i : Int) < (m : Int) := by omega
      have hwr : IntKind.i64.wrap (i : Int) = (i : Int) := by rw [IntKind.wrap_i64]; omega
      have hi3 : (i : Int) + 1 - 1 = (i : Int) := by omega
      have hil : i < l.length := by rw [HM.out]; omega
      have hil1 : i + 1 < l.length := by rw [HM.out]; exact hlt
      obtain ⟨b, o, cap2, p2, hpe, -, -, HPP, HC⟩ := (HV.out.below HB.out).open
      simp only [Value.slice.injEq] at hpe
      obtain ⟨rfl, -, rfl⟩ := hpe
      obtain ⟨rfl, hbl⟩ := HPP.out (by rw [HM.out]; omega)
      have hx := HasK.itAt HC.out i hil
      have hy := HasK.itAt HC.out (i + 1) hil1
      have hah : aheadI l[i] l[i + 1] = aheadI l[i] l[i + 1] := rfl
      have hst := sortedB_stop l i hil1
      rw [HSB.out] at hst
      have hnx : ∀ h : aheadI l[i] l[i + 1] = true, ∀ j (h : j + 1 < l.length), j < i + 1 → aheadI (l[j]'(by omega)) l[j + 1] = true := fun h j hj hji => by
        rcases Nat.lt_or_ge j i with h' | h'
        · exact HGO.out j hj h'
        · obtain rfl : j = i := by omega
          exact h
      have HNX := Lib.hid hnx
      have HST := Lib.hid hst
      clear hnx hst hah
      obtain ⟨x, hxe⟩ : ∃ x, l[i] = x := ⟨_, rfl⟩
      obtain ⟨y, hye⟩ : ∃ y, l[i + 1] = y := ⟨_, rfl⟩
      rw [hxe] at hx HNX HST
      rw [hye] at hy HNX HST
      obtain ⟨q, hq⟩ : ∃ q, o + (i + 1) * 4 = q := ⟨_, rfl⟩
      have HX := Lib.hid hx
      have HY := Lib.hid hy
      clear hxe hye HC HPP hx hy hq hil hil1
      go_upto_region 4 with fail
      refine AnyL.begin (S := fun W => ItC W b (o + i * 4) x ∧ ItC W b (o + (i + 1) * 4) y) 10 (by kernel_rfl) ⟨HX.out.drew, HY.out.drew⟩ (fun hHeld => ?_)
      refine AnyL.take (i := 0) (oi := _) (v := ?_) 30 rfl (by kernel_rfl) (by kernel_rfl) (by kernel_rfl) (by kernel_rfl) (by kernel_rfl) (fun _ _ _ h => h) (Or.inl ⟨by kernel_rfl, ?hy1⟩) (by assumption) ?_
      case hy1 =>
        intro w9 hSw
        try dsimp only at hSw
        try simp only [List.getElem_toArray, List.getElem_cons_zero, List.getElem_cons_succ]
        go_simp
        try with_reducible rfl
      try simp only [Act.put, List.setIfInBounds_toArray, List.set_cons_zero, List.set_cons_succ, List.getElem_toArray, List.getElem_cons_zero, List.getElem_cons_succ]
      refine AnyL.take (i := 1) (oi := _) (v := ?_) 30 rfl (by kernel_rfl) (by kernel_rfl) (by kernel_rfl) (by kernel_rfl) (by kernel_rfl) (fun _ _ _ h => h) (Or.inl ⟨by kernel_rfl, ?hy2⟩) (by assumption) ?_
      case hy2 =>
        intro w9 hSw
        try dsimp only at hSw
        try simp only [List.getElem_toArray, List.getElem_cons_zero, List.getElem_cons_succ]
        go_simp
        try with_reducible rfl
      try simp only [Act.put, List.setIfInBounds_toArray, List.set_cons_zero, List.set_cons_succ, List.getElem_toArray, List.getElem_cons_zero, List.getElem_cons_succ]
      refine AnyL.take (i := 2) (oi := _) (v := ?_) 30 rfl (by kernel_rfl) (by kernel_rfl) (by kernel_rfl) (by kernel_rfl) (by kernel_rfl) (fun _ _ _ h => h) (Or.inl ⟨by kernel_rfl, ?hy3⟩) (by assumption) ?_
      case hy3 =>
        intro w9 hSw
        try dsimp only at hSw
        try simp only [List.getElem_toArray, List.getElem_cons_zero, List.getElem_cons_succ]
        go_simp
        try with_reducible rfl
      try simp only [Act.put, List.setIfInBounds_toArray, List.set_cons_zero, List.set_cons_succ, List.getElem_toArray, List.getElem_cons_zero, List.getElem_cons_succ]
      refine AnyL.take (i := 3) (oi := _) (v := .pointer (some ⟨b, o + i * 4, none⟩)) 30 rfl (by kernel_rfl) (by kernel_rfl) (by kernel_rfl) (by kernel_rfl) (by kernel_rfl) (fun _ _ _ h => h) (Or.inl ⟨by kernel_rfl, ?hy4⟩) (by assumption) ?_
      case hy4 =>
        intro w9 hSw
        try dsimp only at hSw
        try simp only [List.getElem_toArray, List.getElem_cons_zero, List.getElem_cons_succ]
        go_simp
        try rw [hwr, if_pos ⟨hi0, hi2⟩, Int.toNat_natCast]
      try simp only [Act.put, List.setIfInBounds_toArray, List.set_cons_zero, List.set_cons_succ, List.getElem_toArray, List.getElem_cons_zero, List.getElem_cons_succ]
      refine AnyL.take (i := 4) (oi := _) (v := x.v) 30 rfl (by kernel_rfl) (by kernel_rfl) (by kernel_rfl) (by kernel_rfl) (by kernel_rfl) (fun _ _ _ h => h) (Or.inl ⟨by kernel_rfl, ?hy5⟩) (by assumption) ?_
      case hy5 =>
        intro w9 hSw
        try dsimp only at hSw
        try simp only [List.getElem_toArray, List.getElem_cons_zero, List.getElem_cons_succ]
        go_simp
        obtain ⟨⟨a0, a1, a2, a3⟩, -⟩ := hSw
        try go_simp
        try rfl
      try simp only [Act.put, List.setIfInBounds_toArray, List.set_cons_zero, List.set_cons_succ, List.getElem_toArray, List.getElem_cons_zero, List.getElem_cons_succ]
      refine AnyL.take (i := 5) (oi := _) (v := ?_) 30 rfl (by kernel_rfl) (by kernel_rfl) (by kernel_rfl) (by kernel_rfl) (by kernel_rfl) (fun _ _ _ h => h) (Or.inl ⟨by kernel_rfl, ?hy6⟩) (by assumption) ?_
      case hy6 =>
        intro w9 hSw
        try dsimp only at hSw
        try simp only [List.getElem_toArray, List.getElem_cons_zero, List.getElem_cons_succ]
        go_simp
        try with_reducible rfl
      try simp only [Act.put, List.setIfInBounds_toArray, List.set_cons_zero, List.set_cons_succ, List.getElem_toArray, List.getElem_cons_zero, List.getElem_cons_succ]
      refine AnyL.take (i := 6) (oi := _) (v := ?_) 30 rfl (by kernel_rfl) (by kernel_rfl) (by kernel_rfl) (by kernel_rfl) (by kernel_rfl) (fun _ _ _ h => h) (Or.inl ⟨by kernel_rfl, ?hy7⟩) (by assumption) ?_
      case hy7 =>
        intro w9 hSw
        try dsimp only at hSw
        try simp only [List.getElem_toArray, List.getElem_cons_zero, List.getElem_cons_succ]
        go_simp
        try with_reducible rfl
      try simp only [Act.put, List.setIfInBounds_toArray, List.set_cons_zero, List.set_cons_succ, List.getElem_toArray, List.getElem_cons_zero, List.getElem_cons_succ]
      refine AnyL.take (i := 7) (oi := _) (v := ?_) 30 rfl (by kernel_rfl) (by kernel_rfl) (by kernel_rfl) (by kernel_rfl) (by kernel_rfl) (fun _ _ _ h => h) (Or.inl ⟨by kernel_rfl, ?hy8⟩) (by assumption) ?_
      case hy8 =>
        intro w9 hSw
        try dsimp only at hSw
        try simp only [List.getElem_toArray, List.getElem_cons_zero, List.getElem_cons_succ]
        go_simp
        try with_reducible rfl
      try simp only [Act.put, List.setIfInBounds_toArray, List.set_cons_zero, List.set_cons_succ, List.getElem_toArray, List.getElem_cons_zero, List.getElem_cons_succ]
      refine AnyL.take (i := 8) (oi := _) (v := y.v) 30 rfl (by kernel_rfl) (by kernel_rfl) (by kernel_rfl) (by kernel_rfl) (by kernel_rfl) (fun _ _ _ h => h) (Or.inl ⟨by kernel_rfl, ?hy9⟩) (by assumption) ?_
      case hy9 =>
        intro w9 hSw
        try dsimp only at hSw
        try simp only [List.getElem_toArray, List.getElem_cons_zero, List.getElem_cons_succ]
        go_simp
        obtain ⟨-, ⟨a0, a1, a2, a3⟩⟩ := hSw
        try go_simp
        try rfl
      try simp only [Act.put, List.setIfInBounds_toArray, List.set_cons_zero, List.set_cons_succ, List.getElem_toArray, List.getElem_cons_zero, List.getElem_cons_succ]
      refine AnyL.one (i := 9) (o := _) (by kernel_rfl) rfl (fun K hK => ?_)
      try simp only [List.getElem_toArray, List.getElem_cons_zero, List.getElem_cons_succ]
      go_simp
      refine (Ahead_any x y _).mono ?_
      obtain ⟨ah, hah⟩ : ∃ a, aheadI x y = a := ⟨_, rfl⟩
      rw [hah]
      have HAH := Lib.hid hah
      clear hah
      rintro e w9 ⟨rfl, hb9⟩
      refine hK.out _ _ (fun _ => ⟨hHeld.1.below hb9, hHeld.2.below hb9⟩) (fun hHeld => ?_)
      replace hHeld := hHeld (by decide)
      clear hK K
      try simp only [Act.put, List.setIfInBounds_toArray, List.set_cons_zero, List.set_cons_succ, List.getElem_toArray, List.getElem_cons_zero, List.getElem_cons_succ]
      have HB9 := Lib.hid (HB.out.trans (((Below.refl W0.heap.size W0).drew.trans hb9).mono HB.out.size))
      clear hb9
      refine AnyL.one (i := 10) (o := _) (by kernel_rfl) rfl (fun K hK => ?_)
      try simp only [List.getElem_toArray, List.getElem_cons_zero, List.getElem_cons_succ]
      go_simp
      refine hK.out _ _ (fun h => absurd rfl h) (fun _ => ?_)
      clear hK K
      try simp only [Act.put, List.setIfInBounds_toArray, List.set_cons_zero, List.set_cons_succ, List.getElem_toArray, List.getElem_cons_zero, List.getElem_cons_succ]
      refine AnyL.done (by kernel_rfl) ?_ _
      cases ah with
      | true =>
        have hn := HNX.out HAH.out
        have HN := Lib.hid hn
        clear hn
        go_wp2
        go_roundw
        case rel => exact ⟨i + 1, by go_num, by omega, HN.out, HB9.out⟩
        case measure => simp [intOf] <;> omega
      | false =>
        have hs := HST.out HAH.out
        subst hs
        go_wp2
        go_ret
        exact ⟨rfl, HB9.out⟩
    · have hI : ¬ (i : Int) + 1 < (m : Int) := by omega
      have hs : sb = true := by
        rw [← HSB.out]
        exact sortedB_go l fun j hj => HGO.out j hj (by rw [HM.out] at hj; omega)
      subst hs
      go_wp2
      go_ret
      exact ⟨rfl, HB.out⟩
set_option maxRecDepth 100000 in
set_option maxHeartbeats 8000000 in
theorem RefSorted_any (v : Value) (l : List Itm) (w : World) (hv : HasK w encI v l) (hl : l.length ≤ 1000000) :
    Calls Try.prog 14 #[v] w fun e w' => e = .returned (.bool (sortedB l)) ∧ Below w.heap.size w w' := by
  obtain ⟨p, cap, rfl, h1, h2⟩ := hv.form
  obtain ⟨m, hm⟩ : ∃ m, l.length = m := ⟨_, rfl⟩
  have HM := Lib.hid hm
  have HV := Lib.hid hv
  have hcI : (cap : Int) ≤ 9223372036854775807 := by unfold maxLen at h2; omega
  rw [hm] at hl h1 HV ⊢
  clear hv hm h2
  obtain ⟨sb, hsb⟩ : ∃ s, sortedB l = s := ⟨_, rfl⟩
  have HSB := Lib.hid hsb
  rw [hsb]
  clear hsb
  go_enter Try.func14, Try.ntmps14
  go_wp2_with fail
  go_loopw [3] (fun vi wr => ∃ i : Nat, vi = .int .i64 ((i : Int) + 1) ∧ (i ≤ m) ∧ (∀ j (h : j + 1 < l.length), j < i → aheadI (l[j]'(by omega)) l[j + 1] = true) ∧ Below w.heap.size w wr) (fun vi _ => m + 1 - (intOf vi).toNat)
  case atStart => exact ⟨0, rfl, Nat.zero_le _, fun j _ h => absurd h (by omega), Below.refl _ _⟩
  case round =>
    obtain ⟨i, rfl, hi, hgo, hb⟩ := hrel
    obtain ⟨W0, rfl⟩ : ∃ W0, W0 = wr := ⟨wr, rfl⟩
    have HGO := Lib.hid hgo
    have HB := Lib.hid hb
    clear hgo hb
    rcases Nat.lt_or_ge (i + 1) m with hlt | hge
    · have hI : (i : Int) + 1 < (m : Int) := by omega
      have hi0 : (0 : Int) ≤ (i : Int) := by omega
      have hi1 : (0 : Int) ≤ (i : Int) + 1 := by omega
      have hi2 : (i : Int) < (m : Int) := by omega
      have hwr : IntKind.i64.wrap (i : Int) = (i : Int) := by rw [IntKind.wrap_i64]; omega
      have hi3 : (i : Int) + 1 - 1 = (i : Int) := by omega
      have hil : i < l.length := by rw [HM.out]; omega
      have hil1 : i + 1 < l.length := by rw [HM.out]; exact hlt
      obtain ⟨b, o, cap2, p2, hpe, -, -, HPP, HC⟩ := (HV.out.below HB.out).open
      simp only [Value.slice.injEq] at hpe
      obtain ⟨rfl, -, rfl⟩ := hpe
      obtain ⟨rfl, hbl⟩ := HPP.out (by rw [HM.out]; omega)
      have hx := HasK.itAt HC.out i hil
      have hy := HasK.itAt HC.out (i + 1) hil1
      have hah : aheadI l[i] l[i + 1] = aheadI l[i] l[i + 1] := rfl
      have hst := sortedB_stop l i hil1
      rw [HSB.out] at hst
      have hnx : ∀ h : aheadI l[i] l[i + 1] = true, ∀ j (h : j + 1 < l.length), j < i + 1 → aheadI (l[j]'(by omega)) l[j + 1] = true := fun h j hj hji => by
        rcases Nat.lt_or_ge j i with h' | h'
        · exact HGO.out j hj h'
        · obtain rfl : j = i := by omega
          exact h
      have HNX := Lib.hid hnx
      have HST := Lib.hid hst
      clear hnx hst hah
      obtain ⟨x, hxe⟩ : ∃ x, l[i] = x := ⟨_, rfl⟩
      obtain ⟨y, hye⟩ : ∃ y, l[i + 1] = y := ⟨_, rfl⟩
      rw [hxe] at hx HNX HST
      rw [hye] at hy HNX HST
      obtain ⟨q, hq⟩ : ∃ q, o + (i + 1) * 4 = q := ⟨_, rfl⟩
      have HX := Lib.hid hx
      have HY := Lib.hid hy
      clear hxe hye HC HPP hx hy hq hil hil1
      go_upto_region 4 with fail
      refine AnyL.begin (S := fun W => ItC W b (o + i * 4) x ∧ ItC W b (o + (i + 1) * 4) y) 10 (by kernel_rfl) ⟨HX.out.drew, HY.out.drew⟩ (fun hHeld => ?_)
      refine AnyL.take (i := 0) (oi := _) (v := ?_) 30 rfl (by kernel_rfl) (by kernel_rfl) (by kernel_rfl) (by kernel_rfl) (by kernel_rfl) (fun _ _ _ h => h) (Or.inl ⟨by kernel_rfl, ?hy10⟩) (by assumption) ?_
      case hy10 =>
        intro w9 hSw
        try dsimp only at hSw
        try simp only [List.getElem_toArray, List.getElem_cons_zero, List.getElem_cons_succ]
        go_simp
        try with_reducible rfl
      try simp only [Act.put, List.setIfInBounds_toArray, List.set_cons_zero, List.set_cons_succ, List.getElem_toArray, List.getElem_cons_zero, List.getElem_cons_succ]
      refine AnyL.take (i := 1) (oi := _) (v := ?_) 30 rfl (by kernel_rfl) (by kernel_rfl) (by kernel_rfl) (by kernel_rfl) (by kernel_rfl) (fun _ _ _ h => h) (Or.inl ⟨by kernel_rfl, ?hy11⟩) (by assumption) ?_
      case hy11 =>
        intro w9 hSw
        try dsimp only at hSw
        try simp only [List.getElem_toArray, List.getElem_cons_zero, List.getElem_cons_succ]
        go_simp
        try with_reducible rfl
      try simp only [Act.put, List.setIfInBounds_toArray, List.set_cons_zero, List.set_cons_succ, List.getElem_toArray, List.getElem_cons_zero, List.getElem_cons_succ]
      refine AnyL.take (i := 2) (oi := _) (v := ?_) 30 rfl (by kernel_rfl) (by kernel_rfl) (by kernel_rfl) (by kernel_rfl) (by kernel_rfl) (fun _ _ _ h => h) (Or.inl ⟨by kernel_rfl, ?hy12⟩) (by assumption) ?_
      case hy12 =>
        intro w9 hSw
        try dsimp only at hSw
        try simp only [List.getElem_toArray, List.getElem_cons_zero, List.getElem_cons_succ]
        go_simp
        try with_reducible rfl
      try simp only [Act.put, List.setIfInBounds_toArray, List.set_cons_zero, List.set_cons_succ, List.getElem_toArray, List.getElem_cons_zero, List.getElem_cons_succ]
      refine AnyL.take (i := 3) (oi := _) (v := .pointer (some ⟨b, o + i * 4, none⟩)) 30 rfl (by kernel_rfl) (by kernel_rfl) (by kernel_rfl) (by kernel_rfl) (by kernel_rfl) (fun _ _ _ h => h) (Or.inl ⟨by kernel_rfl, ?hy13⟩) (by assumption) ?_
      case hy13 =>
        intro w9 hSw
        try dsimp only at hSw
        try simp only [List.getElem_toArray, List.getElem_cons_zero, List.getElem_cons_succ]
        go_simp
        try rw [hwr, if_pos ⟨hi0, hi2⟩, Int.toNat_natCast]
      try simp only [Act.put, List.setIfInBounds_toArray, List.set_cons_zero, List.set_cons_succ, List.getElem_toArray, List.getElem_cons_zero, List.getElem_cons_succ]
      refine AnyL.take (i := 4) (oi := _) (v := x.v) 30 rfl (by kernel_rfl) (by kernel_rfl) (by kernel_rfl) (by kernel_rfl) (by kernel_rfl) (fun _ _ _ h => h) (Or.inl ⟨by kernel_rfl, ?hy14⟩) (by assumption) ?_
      case hy14 =>
        intro w9 hSw
        try dsimp only at hSw
        try simp only [List.getElem_toArray, List.getElem_cons_zero, List.getElem_cons_succ]
        go_simp
        obtain ⟨⟨a0, a1, a2, a3⟩, -⟩ := hSw
        try go_simp
        try rfl
      try simp only [Act.put, List.setIfInBounds_toArray, List.set_cons_zero, List.set_cons_succ, List.getElem_toArray, List.getElem_cons_zero, List.getElem_cons_succ]
      refine AnyL.take (i := 5) (oi := _) (v := ?_) 30 rfl (by kernel_rfl) (by kernel_rfl) (by kernel_rfl) (by kernel_rfl) (by kernel_rfl) (fun _ _ _ h => h) (Or.inl ⟨by kernel_rfl, ?hy15⟩) (by assumption) ?_
      case hy15 =>
        intro w9 hSw
        try dsimp only at hSw
        try simp only [List.getElem_toArray, List.getElem_cons_zero, List.getElem_cons_succ]
        go_simp
        try with_reducible rfl
      try simp only [Act.put, List.setIfInBounds_toArray, List.set_cons_zero, List.set_cons_succ, List.getElem_toArray, List.getElem_cons_zero, List.getElem_cons_succ]
      refine AnyL.take (i := 6) (oi := _) (v := ?_) 30 rfl (by kernel_rfl) (by kernel_rfl) (by kernel_rfl) (by kernel_rfl) (by kernel_rfl) (fun _ _ _ h => h) (Or.inl ⟨by kernel_rfl, ?hy16⟩) (by assumption) ?_
      case hy16 =>
        intro w9 hSw
        try dsimp only at hSw
        try simp only [List.getElem_toArray, List.getElem_cons_zero, List.getElem_cons_succ]
        go_simp
        try with_reducible rfl
      try simp only [Act.put, List.setIfInBounds_toArray, List.set_cons_zero, List.set_cons_succ, List.getElem_toArray, List.getElem_cons_zero, List.getElem_cons_succ]
      refine AnyL.take (i := 7) (oi := _) (v := ?_) 30 rfl (by kernel_rfl) (by kernel_rfl) (by kernel_rfl) (by kernel_rfl) (by kernel_rfl) (fun _ _ _ h => h) (Or.inl ⟨by kernel_rfl, ?hy17⟩) (by assumption) ?_
      case hy17 =>
        intro w9 hSw
        try dsimp only at hSw
        try simp only [List.getElem_toArray, List.getElem_cons_zero, List.getElem_cons_succ]
        go_simp
        try with_reducible rfl
      try simp only [Act.put, List.setIfInBounds_toArray, List.set_cons_zero, List.set_cons_succ, List.getElem_toArray, List.getElem_cons_zero, List.getElem_cons_succ]
      refine AnyL.take (i := 8) (oi := _) (v := y.v) 30 rfl (by kernel_rfl) (by kernel_rfl) (by kernel_rfl) (by kernel_rfl) (by kernel_rfl) (fun _ _ _ h => h) (Or.inl ⟨by kernel_rfl, ?hy18⟩) (by assumption) ?_
      case hy18 =>
        intro w9 hSw
        try dsimp only at hSw
        try simp only [List.getElem_toArray, List.getElem_cons_zero, List.getElem_cons_succ]
        go_simp
        obtain ⟨-, ⟨a0, a1, a2, a3⟩⟩ := hSw
        try go_simp
        try rfl
      try simp only [Act.put, List.setIfInBounds_toArray, List.set_cons_zero, List.set_cons_succ, List.getElem_toArray, List.getElem_cons_zero, List.getElem_cons_succ]
      refine AnyL.one (i := 9) (o := _) (by kernel_rfl) rfl (fun K hK => ?_)
      try simp only [List.getElem_toArray, List.getElem_cons_zero, List.getElem_cons_succ]
      go_simp
      refine (RefAhead_any x y _).mono ?_
      obtain ⟨ah, hah⟩ : ∃ a, aheadI x y = a := ⟨_, rfl⟩
      rw [hah]
      have HAH := Lib.hid hah
      clear hah
      rintro e w9 ⟨rfl, hb9⟩
      refine hK.out _ _ (fun _ => ⟨hHeld.1.below hb9, hHeld.2.below hb9⟩) (fun hHeld => ?_)
      replace hHeld := hHeld (by decide)
      clear hK K
      try simp only [Act.put, List.setIfInBounds_toArray, List.set_cons_zero, List.set_cons_succ, List.getElem_toArray, List.getElem_cons_zero, List.getElem_cons_succ]
      have HB9 := Lib.hid (HB.out.trans (((Below.refl W0.heap.size W0).drew.trans hb9).mono HB.out.size))
      clear hb9
      refine AnyL.one (i := 10) (o := _) (by kernel_rfl) rfl (fun K hK => ?_)
      try simp only [List.getElem_toArray, List.getElem_cons_zero, List.getElem_cons_succ]
      go_simp
      refine hK.out _ _ (fun h => absurd rfl h) (fun _ => ?_)
      clear hK K
      try simp only [Act.put, List.setIfInBounds_toArray, List.set_cons_zero, List.set_cons_succ, List.getElem_toArray, List.getElem_cons_zero, List.getElem_cons_succ]
      refine AnyL.done (by kernel_rfl) ?_ _
      cases ah with
      | true =>
        have hn := HNX.out HAH.out
        have HN := Lib.hid hn
        clear hn
        go_wp2
        go_roundw
        case rel => exact ⟨i + 1, by go_num, by omega, HN.out, HB9.out⟩
        case measure => simp [intOf] <;> omega
      | false =>
        have hs := HST.out HAH.out
        subst hs
        go_wp2
        go_ret
        exact ⟨rfl, HB9.out⟩
    · have hI : ¬ (i : Int) + 1 < (m : Int) := by omega
      have hs : sb = true := by
        rw [← HSB.out]
        exact sortedB_go l fun j hj => HGO.out j hj (by rw [HM.out] at hj; omega)
      subst hs
      go_wp2
      go_ret
      exact ⟨rfl, HB.out⟩
end Go.Proofs.Ytfdafoibclfpgaa
