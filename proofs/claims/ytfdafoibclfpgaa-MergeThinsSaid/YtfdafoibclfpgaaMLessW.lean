/-
  The statement MergeLess, walked: the more moments are kept the more is left.
-/
import Derived.Test.YtfdafoibclfpgaaMKeepsW
namespace Go.Proofs.Ytfdafoibclfpgaa
open Go.ChangeShapes Go.WideShapes Go.ChangeAt Go.RowKit Go.Deep
set_option linter.unusedVariables false
set_option linter.unusedSimpArgs false
/-- How many of a list's first items are met, in their order, going through another list. -/
def greedy : List Itm → List Itm → Nat
  | _, [] => 0
  | [], _ :: _ => 0
  | x :: a, y :: b => if eqI x y then 1 + greedy a b else greedy (x :: a) b
theorem greedy_nil (b : List Itm) : greedy [] b = 0 := by cases b <;> rfl
theorem greedy_end (a : List Itm) : greedy a [] = 0 := by cases a <;> rfl
theorem greedy_sub : ∀ (b a : List Itm), a.Sublist b → greedy a b = a.length
  | [], a, h => by
    obtain rfl := List.sublist_nil.1 h
    rfl
  | y :: b, [], _ => rfl
  | y :: b, x :: a, h => by
    unfold greedy
    by_cases he : x = y
    · subst he
      rw [if_pos ((eqI_iff x x).2 rfl), greedy_sub b a (List.cons_sublist_cons.1 h), List.length_cons, Nat.add_comm]
    · rw [if_neg (fun e => he ((eqI_iff x y).1 e))]
      refine greedy_sub b (x :: a) ?_
      cases h with
      | cons _ h => exact h
      | cons_cons _ h => exact absurd rfl he
theorem sub_of_mem {a b : List Itm} (ha : SortedI a) (hb : SortedI b) (h : ∀ x, x ∈ a → x ∈ b) : a.Sublist b := by
  have hf : b.filter (fun x => a.any (eqI x)) = a := by
    refine sorted_mem (List.Pairwise.sublist List.filter_sublist hb) ha fun x => ?_
    rw [List.mem_filter, List.any_eq_true]
    constructor
    · rintro ⟨_, y, hy, e⟩
      rw [(eqI_iff x y).1 e]; exact hy
    · intro hx
      exact ⟨h x hx, x, hx, (eqI_iff x x).2 rfl⟩
  rw [← hf]
  exact List.filter_sublist
theorem thin_less (keep more : List Nat) (l : List Itm) (hf : Fits l) (hs : sortedB l = true) : (thinC keep false l).Sublist (thinC (keep ++ more) false l) := by
  have hl := (sortedB_iff l).1 hs
  rw [thinC_sorted keep false l hs, thinC_sorted (keep ++ more) false l hs]
  refine sub_of_mem (thinL_sorted _ _ l hl) (thinL_sorted _ _ l hl) fun x hx => ?_
  rw [thinL_mem _ (List.mem_cons_self ..) false l hl hf.seqs] at hx ⊢
  obtain ⟨⟨h1, m, hm, h2⟩, _⟩ := hx
  refine ⟨⟨h1, m, ?_, h2⟩, fun e => absurd e (by decide)⟩
  rcases List.mem_cons.1 hm with rfl | hm
  · exact List.mem_cons_self ..
  · exact List.mem_cons_of_mem _ (List.mem_append_left _ hm)
theorem thin_all (l : List Itm) (hf : Fits l) (hs : sortedB l = true) : thinC (l.map Itm.seq) false l = l := by
  have hl := (sortedB_iff l).1 hs
  rw [thinC_sorted _ false l hs]
  refine sorted_mem (thinL_sorted _ _ l hl) hl fun x => ?_
  rw [thinL_mem _ (List.mem_cons_self ..) false l hl hf.seqs]
  constructor
  · rintro ⟨⟨h, _⟩, _⟩
    exact h
  · intro hx
    exact ⟨⟨hx, x.seq, List.mem_cons_of_mem _ (List.mem_map.2 ⟨x, hx, rfl⟩), Nat.le_refl _, fun y _ _ h => h⟩, fun e => absurd e (by decide)⟩
theorem has_num1 {w : World} {g n : Nat} {T : TypeId} (h : w.heap[g]? = some (.cells #[.int .u64 (n : Int)] T (0, 0))) : HasK w (encN .u64) (.slice (some ⟨g, 0, none⟩) 1 1) [n] := by
  refine ⟨_, 1, g, 0, rfl, Nat.le_refl _, by unfold maxLen; omega, fun _ => ⟨rfl, lt_of_block h⟩, fun i hi j u hu => ?_⟩
  obtain rfl : i = 0 := by simp at hi; omega
  cases j with
  | zero =>
    have hu' : Value.int .u64 (n : Int) = u := by simpa [encN] using hu
    subst hu'
    simp [World.cell?, h]
  | succ j => simp [encN] at hu
set_option maxRecDepth 100000 in
set_option maxHeartbeats 64000000 in
theorem Less_any (v u y : Value) (l : List Itm) (keep more : List Nat) (w : World) (hv : HasK w encI v l) (hu : HasK w (encN .u64) u keep) (hy : HasK w (encN .u64) y more) (hf : Fits l) :
    Calls Try.prog 8 #[v, u, y] w fun e w' => e = .returned (.bool true) ∧ Below w.heap.size w w' := by
  obtain ⟨p, cap, rfl, h1, h2⟩ := hv.form
  obtain ⟨p2, cap2, rfl, k1, k2⟩ := hu.form
  obtain ⟨p6, cap6, rfl, j1, j2⟩ := hy.form
  obtain ⟨n, hn⟩ : ∃ n, l.length = n := ⟨_, rfl⟩
  obtain ⟨r, hr⟩ : ∃ r, keep.length = r := ⟨_, rfl⟩
  obtain ⟨s, hs⟩ : ∃ s, more.length = s := ⟨_, rfl⟩
  have HN := Lib.hid hn
  have HR := Lib.hid hr
  have HSL := Lib.hid hs
  have HV := Lib.hid hv
  have HU := Lib.hid hu
  have HY := Lib.hid hy
  have HF := Lib.hid hf
  rw [hn] at h1 HV ⊢
  rw [hr] at k1 HU ⊢
  rw [hs] at j1 HY ⊢
  obtain ⟨B, hB⟩ : ∃ B, w.heap.size = B := ⟨_, rfl⟩
  have HBB := Lib.hid hB
  rw [hB]
  have hcI : (cap : Int) ≤ 9223372036854775807 := by unfold maxLen at h2; omega
  have hcJ : (cap2 : Int) ≤ 9223372036854775807 := by unfold maxLen at k2; omega
  have hcK : (cap6 : Int) ≤ 9223372036854775807 := by unfold maxLen at j2; omega
  clear hv hu hy hn hr hs h2 k2 j2 hB hf
  go_enter Try.func8, Try.ntmps8
  go_wp2_with fail
  refine (Awake_any w).mono ?_
  rintro e w1 ⟨rfl, hb1⟩
  have HV1 := Lib.hid (HV.out.below hb1)
  have HU1 := Lib.hid (HU.out.below hb1)
  have HY1 := Lib.hid (HY.out.below hb1)
  have HB1 := Lib.hid (show Below B w w1 by rw [HBB.out] at hb1; exact hb1)
  clear hb1
  rcases Nat.lt_or_ge 80 n with hn8 | hn8
  · have hI : (80 : Int) < (n : Int) := by omega
    go_wp2
    go_ret
    exact ⟨rfl, HB1.out⟩
  have hI : ¬ (80 : Int) < (n : Int) := by omega
  have hIb : decide ((80 : Int) < (n : Int)) = false := decide_eq_false hI
  rcases Nat.lt_or_ge 20 r with hr2 | hr2
  · have hJ : (20 : Int) < (r : Int) := by omega
    have hJb : decide ((20 : Int) < (r : Int)) = true := decide_eq_true hJ
    go_wp2
    go_ret
    exact ⟨rfl, HB1.out⟩
  have hJ : ¬ (20 : Int) < (r : Int) := by omega
  have hJb : decide ((20 : Int) < (r : Int)) = false := decide_eq_false hJ
  rcases Nat.lt_or_ge 20 s with hs2 | hs2
  · have hJ : (20 : Int) < (s : Int) := by omega
    have hJb : decide ((20 : Int) < (s : Int)) = true := decide_eq_true hJ
    go_wp2
    go_ret
    exact ⟨rfl, HB1.out⟩
  have hJ2 : ¬ (20 : Int) < (s : Int) := by omega
  have hJ2b : decide ((20 : Int) < (s : Int)) = false := decide_eq_false hJ2
  go_wp2_with fail
  refine (RefSorted_any _ l w1 HV1.out (by rw [HN.out]; omega)).mono ?_
  rcases hsb : sortedB l with _ | _
  · rintro e w2 ⟨rfl, hb2⟩
    have HB2 := Lib.hid (HB1.out.trans (hb2.mono (by have := HB1.out.size; rw [HBB.out] at this; exact this)))
    clear hb2
    go_wp2
    go_ret
    exact ⟨rfl, HB2.out⟩
  rintro e w2 ⟨rfl, hb2⟩
  have HV2 := Lib.hid (HV1.out.below hb2)
  have HU2 := Lib.hid (HU1.out.below hb2)
  have HY2 := Lib.hid (HY1.out.below hb2)
  have HB2 := Lib.hid (HB1.out.trans (hb2.mono (by have := HB1.out.size; rw [HBB.out] at this; exact this)))
  have HLESS := Lib.hid (thin_less keep more l HF.out hsb)
  have HALL := Lib.hid (thin_all l HF.out hsb)
  obtain ⟨X, hX⟩ : ∃ X, thinC keep false l = X := ⟨_, rfl⟩
  obtain ⟨Y, hY⟩ : ∃ Y, thinC (keep ++ more) false l = Y := ⟨_, rfl⟩
  have hXl : X.length ≤ n := by
    rw [← hX, ← HN.out, thinC_sorted keep false l hsb]
    exact (thinL_sub _ _ l ((sortedB_iff l).1 hsb)).length_le
  have hYl : Y.length ≤ n := by
    rw [← hY, ← HN.out, thinC_sorted (keep ++ more) false l hsb]
    exact (thinL_sub _ _ l ((sortedB_iff l).1 hsb)).length_le
  rw [hX, hY] at HLESS
  clear hb2 hsb
  go_wp2_with fail
  refine (Thin_any _ _ l keep false w2 HV2.out HU2.out (by rw [HN.out]; omega) (by rw [HR.out]; omega)).mono ?_
  rw [hX]
  rintro e w3 ⟨v3, rfl, ho3, hb3⟩
  obtain ⟨p3, c3, rfl, hc31, hc32⟩ := ho3.sl
  obtain ⟨na, hna⟩ : ∃ m, X.length = m := ⟨_, rfl⟩
  obtain ⟨nb, hnb⟩ : ∃ m, Y.length = m := ⟨_, rfl⟩
  have HNA := Lib.hid hna
  have HNB := Lib.hid hnb
  have HX3 := Lib.hid ho3.has
  rw [hna] at HX3 hXl hc31 ⊢
  rw [hnb] at hYl
  have hba := (Below.refl w3.heap.size w3).alloc (Nat.le_refl _) (.cells #[] 27)
  have hs3 : B ≤ w3.heap.size := Nat.le_trans (by have := HB2.out.size; rw [HBB.out] at this; exact this) hb3.size
  have hbA := ((HB2.out.trans (hb3.mono (by have := HB2.out.size; rw [HBB.out] at this; exact this))).trans (hba.mono hs3))
  have HBA := Lib.hid hbA
  have HOA := Lib.hid (OwnK.empty (E := encN .u64) w3 w3.heap.size 27 (Nat.le_refl _))
  have HUA := Lib.hid ((HU2.out.below hb3).below hba)
  have HYA := Lib.hid ((HY2.out.below hb3).below hba)
  have HXA := Lib.hid (HX3.out.below hba)
  have HVA := Lib.hid ((HV2.out.below hb3).below hba)
  have HSA := Lib.hid hba.size
  have HBA3 := Lib.hid hba
  have HS3 := Lib.hid hs3
  have HY3 := Lib.hid hY
  have hcX : (c3 : Int) ≤ 9223372036854775807 := by unfold maxLen at hc32; omega
  clear ho3 hb3 hna hnb hba hs3 hbA hX hY hc32
  go_wp2_with (at_builtin; first
    | (refine wpList_append_ka rfl (.tmp 37) (.tmp 38) 41 rfl w3.heap.size 27 (encN .u64) (.int .u64 0) 8 Try.underlying41 info_n64 rfl (by decide) _ [] rfl HOA.out _ keep rfl HUA.out (by show 0 + keep.length ≤ _; rw [HR.out]; omega) HSA.out _ (Below.refl _ _) (fun v7 w7 ho7 hb7 => ?_); have HO7 := Lib.hid ho7; have HB7 := Lib.hid hb7; have HS7 := Lib.hid (Nat.le_trans HSA.out hb7.size); have HBW7 := Lib.hid (HBA.out.trans (hb7.mono HS3.out)); have HY7 := Lib.hid (HY.out.below (by have z := HBW7.out; rw [← HBB.out] at z; exact z)); clear ho7 hb7)
    | (refine wpList_append_ka rfl (.tmp 39) (.tmp 40) 41 rfl w3.heap.size 27 (encN .u64) (.int .u64 0) 8 Try.underlying41 info_n64 rfl (by decide) _ ([] ++ keep) rfl HO7.out _ more rfl HY7.out (by show keep.length + more.length ≤ _; rw [HR.out, HSL.out]; omega) HS7.out _ HB7.out (fun v8 w8 ho8 hb8 => ?_); have HO8 := Lib.hid ho8; have HB8 := Lib.hid hb8; clear ho8 hb8))
  have hb38 := HBA3.out.trans HB8.out
  have HBW8 := Lib.hid (HBA.out.trans (HB8.out.mono HS3.out))
  have hbw8 : Below w.heap.size w w8 := by have z := HBW8.out; rw [← HBB.out] at z; exact z
  have HV8 := Lib.hid (HV.out.below hbw8)
  have HX8 := Lib.hid (HX3.out.below hb38)
  have HK8 := Lib.hid (show HasK w8 (encN .u64) v8 (keep ++ more) by have z := HO8.out.has; rw [List.nil_append] at z; exact z)
  have HS8 := Lib.hid (show B ≤ w8.heap.size by have := hbw8.size; rw [HBB.out] at this; exact this)
  clear hb38 hbw8
  refine (Thin_any _ _ l (keep ++ more) false w8 HV8.out HK8.out (by rw [HN.out]; omega) (by rw [List.length_append, HR.out, HSL.out]; omega)).mono ?_
  rw [HY3.out]
  rintro e w9 ⟨v9, rfl, ho9, hb9⟩
  obtain ⟨p9, c9, rfl, hc91, hc92⟩ := ho9.sl
  have HY9 := Lib.hid ho9.has
  have HX9 := Lib.hid (HX8.out.below hb9)
  have HV9 := Lib.hid (HV8.out.below hb9)
  have HB9 := Lib.hid (HBW8.out.trans (hb9.mono HS8.out))
  have HS9 := Lib.hid (Nat.le_trans HS8.out hb9.size)
  rw [HNB.out] at HY9 hc91 ⊢
  have hcY : (c9 : Int) ≤ 9223372036854775807 := by unfold maxLen at hc92; omega
  have HG := Lib.hid (show greedy X Y = na by rw [greedy_sub Y X HLESS.out, HNA.out])
  clear ho9 hb9 hc92 HB8 HO8 HO7 HB7 HS7 HY7 HBW7 HY3 HY2 HU2 HUA HYA HXA HVA HOA HSA HBA HBA3
  go_wp2_with fail
  go_loopw [9, 10] (fun va vi wr => ∃ at_ i : Nat, va = .int .i64 (at_ : Int) ∧ vi = .int .i64 (i : Int) ∧ i ≤ nb ∧ at_ ≤ na ∧ at_ + greedy (X.drop at_) (Y.drop i) = na ∧ Below w9.heap.size w9 wr) (fun _ vi _ => nb - (intOf vi).toNat)
  case atStart => exact ⟨0, 0, rfl, rfl, Nat.zero_le _, Nat.zero_le _, by rw [List.drop_zero, List.drop_zero, HG.out]; omega, Below.refl _ _⟩
  case round =>
    obtain ⟨at_, i, rfl, rfl, hi, hat, hg, hb⟩ := hrel
    obtain ⟨W0, rfl⟩ : ∃ W0, W0 = wr := ⟨wr, rfl⟩
    have HB := Lib.hid hb
    have HX0 := Lib.hid (HX9.out.below hb)
    have HY0 := Lib.hid (HY9.out.below hb)
    have HV0 := Lib.hid (HV9.out.below hb)
    have HGG := Lib.hid hg
    clear hb hg
    rcases Nat.lt_or_ge i nb with hlt | hge
    · have hI : (i : Int) < (nb : Int) := by omega
      have hi0 : (0 : Int) ≤ (i : Int) := by omega
      have ha0 : (0 : Int) ≤ (at_ : Int) := by omega
      have hil : i < Y.length := by rw [HNB.out]; exact hlt
      have hdi : Y.drop i = Y[i] :: Y.drop (i + 1) := List.drop_eq_getElem_cons hil
      have hcase : ∃ hit : Bool, (hit = true → at_ < na ∧ at_ + 1 + greedy (X.drop (at_ + 1)) (Y.drop (i + 1)) = na) ∧ (hit = false → at_ + greedy (X.drop at_) (Y.drop (i + 1)) = na) ∧ (at_ < na → ∃ h : at_ < X.length, eqI X[at_] Y[i] = hit) ∧ (na ≤ at_ → hit = false) := by
        have hgg := HGG.out
        rw [hdi] at hgg
        rcases Nat.lt_or_ge at_ na with hla | hla
        · have hal : at_ < X.length := by rw [HNA.out]; exact hla
          have hda : X.drop at_ = X[at_] :: X.drop (at_ + 1) := List.drop_eq_getElem_cons hal
          refine ⟨eqI X[at_] Y[i], fun h => ⟨hla, ?_⟩, fun h => ?_, fun _ => ⟨hal, rfl⟩, fun h => absurd h (by omega)⟩
          · rw [hda, greedy, if_pos h] at hgg; omega
          · rw [hda, greedy, if_neg (by rw [h]; decide), ← hda] at hgg; exact hgg
        · refine ⟨false, fun h => absurd h (by decide), fun _ => ?_, fun h => absurd h (by omega), fun _ => rfl⟩
          have hda : X.drop at_ = [] := List.drop_eq_nil_of_le (by rw [HNA.out]; exact hla)
          rw [hda, greedy_nil] at hgg ⊢
          exact hgg
      obtain ⟨hit, hh1, hh2, hh3, hh4⟩ := hcase
      have HH1 := Lib.hid hh1
      have HH2 := Lib.hid hh2
      have HH3 := Lib.hid hh3
      have HH4 := Lib.hid hh4
      clear hh1 hh2 hh3 hh4 hdi
      obtain ⟨bY, oY, cap3, q3, hpe, -, -, HPP, HC⟩ := HY0.out.open
      simp only [Value.slice.injEq] at hpe
      obtain ⟨rfl, -, rfl⟩ := hpe
      obtain ⟨rfl, hbY⟩ := HPP.out (by omega)
      have hyc := HasK.itAt HC.out i hil
      go_upto_region 11 with fail
      go_cut [63] (fun b wz => b = .bool hit ∧ ∃ k, wz = W0.drewN k)
      case first =>
        rcases Nat.lt_or_ge at_ na with hla | hla
        · have hlaI : (at_ : Int) < (na : Int) := by omega
          obtain ⟨hal, heq⟩ := HH3.out hla
          obtain ⟨bX, oX, cap4, q4, hpe, -, -, HPX, HCX⟩ := HX0.out.open
          simp only [Value.slice.injEq] at hpe
          obtain ⟨rfl, -, rfl⟩ := hpe
          obtain ⟨rfl, hbX⟩ := HPX.out (by omega)
          have hxc := HasK.itAt HCX.out at_ hal
          obtain ⟨x, hx⟩ : ∃ x, X[at_] = x := ⟨_, rfl⟩
          obtain ⟨y, hy⟩ : ∃ y, Y[i] = y := ⟨_, rfl⟩
          rw [hx] at hxc heq
          rw [hy] at hyc heq
          have HXC := Lib.hid hxc
          have HYC := Lib.hid hyc
          have HEQ := Lib.hid heq
          clear hx hy hxc hyc heq HPX HCX HC HPP hal
          refine wp_region_held_drew (S := fun W => ItC W bX (oX + at_ * 4) x ∧ ItC W bY (oY + i * 4) y) (by kernel_rfl) ⟨HXC.out.drew, HYC.out.drew⟩ (fun hHeld => ?_)
          refine wpAnyH_take (i := 0) (oi := _) (v := ?_) rfl (by kernel_rfl) (by kernel_rfl) (by kernel_rfl) (fun _ _ _ h => h) (Or.inl ⟨by kernel_rfl, ?hy1⟩) (by assumption) ?_
          case hy1 =>
            intro w9 hSw
            try dsimp only at hSw
            try simp only [List.getElem_toArray, List.getElem_cons_zero, List.getElem_cons_succ]
            go_simp
            try with_reducible rfl
          try simp only [Act.put, List.setIfInBounds_toArray, List.set_cons_zero, List.set_cons_succ, List.getElem_toArray, List.getElem_cons_zero, List.getElem_cons_succ]
          refine wpAnyH_take (i := 1) (oi := _) (v := ?_) rfl (by kernel_rfl) (by kernel_rfl) (by kernel_rfl) (fun _ _ _ h => h) (Or.inl ⟨by kernel_rfl, ?hy2⟩) (by assumption) ?_
          case hy2 =>
            intro w9 hSw
            try dsimp only at hSw
            try simp only [List.getElem_toArray, List.getElem_cons_zero, List.getElem_cons_succ]
            go_simp
            try with_reducible rfl
          try simp only [Act.put, List.setIfInBounds_toArray, List.set_cons_zero, List.set_cons_succ, List.getElem_toArray, List.getElem_cons_zero, List.getElem_cons_succ]
          refine wpAnyH_take (i := 2) (oi := _) (v := ?_) rfl (by kernel_rfl) (by kernel_rfl) (by kernel_rfl) (fun _ _ _ h => h) (Or.inl ⟨by kernel_rfl, ?hy3⟩) (by assumption) ?_
          case hy3 =>
            intro w9 hSw
            try dsimp only at hSw
            try simp only [List.getElem_toArray, List.getElem_cons_zero, List.getElem_cons_succ]
            go_simp
            try with_reducible rfl
          try simp only [Act.put, List.setIfInBounds_toArray, List.set_cons_zero, List.set_cons_succ, List.getElem_toArray, List.getElem_cons_zero, List.getElem_cons_succ]
          refine wpAnyH_take (i := 3) (oi := _) (v := ?_) rfl (by kernel_rfl) (by kernel_rfl) (by kernel_rfl) (fun _ _ _ h => h) (Or.inl ⟨by kernel_rfl, ?hy4⟩) (by assumption) ?_
          case hy4 =>
            intro w9 hSw
            try dsimp only at hSw
            try simp only [List.getElem_toArray, List.getElem_cons_zero, List.getElem_cons_succ]
            go_simp
            try with_reducible rfl
          try simp only [Act.put, List.setIfInBounds_toArray, List.set_cons_zero, List.set_cons_succ, List.getElem_toArray, List.getElem_cons_zero, List.getElem_cons_succ]
          refine wpAnyH_take (i := 4) (oi := _) (v := ?_) rfl (by kernel_rfl) (by kernel_rfl) (by kernel_rfl) (fun _ _ _ h => h) (Or.inl ⟨by kernel_rfl, ?hy5⟩) (by assumption) ?_
          case hy5 =>
            intro w9 hSw
            try dsimp only at hSw
            try simp only [List.getElem_toArray, List.getElem_cons_zero, List.getElem_cons_succ]
            go_simp
            try with_reducible rfl
          try simp only [Act.put, List.setIfInBounds_toArray, List.set_cons_zero, List.set_cons_succ, List.getElem_toArray, List.getElem_cons_zero, List.getElem_cons_succ]
          refine wpAnyH_take (i := 5) (oi := _) (v := ?_) rfl (by kernel_rfl) (by kernel_rfl) (by kernel_rfl) (fun _ _ _ h => h) (Or.inl ⟨by kernel_rfl, ?hy6⟩) (by assumption) ?_
          case hy6 =>
            intro w9 hSw
            try dsimp only at hSw
            try simp only [List.getElem_toArray, List.getElem_cons_zero, List.getElem_cons_succ]
            go_simp
            try with_reducible rfl
          try simp only [Act.put, List.setIfInBounds_toArray, List.set_cons_zero, List.set_cons_succ, List.getElem_toArray, List.getElem_cons_zero, List.getElem_cons_succ]
          refine wpAnyH_take (i := 6) (oi := _) (v := ?_) rfl (by kernel_rfl) (by kernel_rfl) (by kernel_rfl) (fun _ _ _ h => h) (Or.inl ⟨by kernel_rfl, ?hy7⟩) (by assumption) ?_
          case hy7 =>
            intro w9 hSw
            try dsimp only at hSw
            try simp only [List.getElem_toArray, List.getElem_cons_zero, List.getElem_cons_succ]
            go_simp
            try with_reducible rfl
          try simp only [Act.put, List.setIfInBounds_toArray, List.set_cons_zero, List.set_cons_succ, List.getElem_toArray, List.getElem_cons_zero, List.getElem_cons_succ]
          refine wpAnyH_take (i := 7) (oi := _) (v := ?_) rfl (by kernel_rfl) (by kernel_rfl) (by kernel_rfl) (fun _ _ _ h => h) (Or.inl ⟨by kernel_rfl, ?hy8⟩) (by assumption) ?_
          case hy8 =>
            intro w9 hSw
            try dsimp only at hSw
            try simp only [List.getElem_toArray, List.getElem_cons_zero, List.getElem_cons_succ]
            go_simp
            try with_reducible rfl
          try simp only [Act.put, List.setIfInBounds_toArray, List.set_cons_zero, List.set_cons_succ, List.getElem_toArray, List.getElem_cons_zero, List.getElem_cons_succ]
          refine wpAnyH_take (i := 8) (oi := _) (v := x.v) rfl (by kernel_rfl) (by kernel_rfl) (by kernel_rfl) (fun _ _ _ h => h) (Or.inl ⟨by kernel_rfl, ?hy9⟩) (by assumption) ?_
          case hy9 =>
            intro w9 hSw
            try dsimp only at hSw
            try simp only [List.getElem_toArray, List.getElem_cons_zero, List.getElem_cons_succ]
            go_simp
            obtain ⟨⟨a0, a1, a2, a3⟩, -⟩ := hSw
            try go_simp
            try rfl
          try simp only [Act.put, List.setIfInBounds_toArray, List.set_cons_zero, List.set_cons_succ, List.getElem_toArray, List.getElem_cons_zero, List.getElem_cons_succ]
          refine wpAnyH_take (i := 9) (oi := _) (v := ?_) rfl (by kernel_rfl) (by kernel_rfl) (by kernel_rfl) (fun _ _ _ h => h) (Or.inl ⟨by kernel_rfl, ?hy10⟩) (by assumption) ?_
          case hy10 =>
            intro w9 hSw
            try dsimp only at hSw
            try simp only [List.getElem_toArray, List.getElem_cons_zero, List.getElem_cons_succ]
            go_simp
            try with_reducible rfl
          try simp only [Act.put, List.setIfInBounds_toArray, List.set_cons_zero, List.set_cons_succ, List.getElem_toArray, List.getElem_cons_zero, List.getElem_cons_succ]
          refine wpAnyH_take (i := 10) (oi := _) (v := ?_) rfl (by kernel_rfl) (by kernel_rfl) (by kernel_rfl) (fun _ _ _ h => h) (Or.inl ⟨by kernel_rfl, ?hy11⟩) (by assumption) ?_
          case hy11 =>
            intro w9 hSw
            try dsimp only at hSw
            try simp only [List.getElem_toArray, List.getElem_cons_zero, List.getElem_cons_succ]
            go_simp
            try with_reducible rfl
          try simp only [Act.put, List.setIfInBounds_toArray, List.set_cons_zero, List.set_cons_succ, List.getElem_toArray, List.getElem_cons_zero, List.getElem_cons_succ]
          refine wpAnyH_take (i := 11) (oi := _) (v := ?_) rfl (by kernel_rfl) (by kernel_rfl) (by kernel_rfl) (fun _ _ _ h => h) (Or.inl ⟨by kernel_rfl, ?hy12⟩) (by assumption) ?_
          case hy12 =>
            intro w9 hSw
            try dsimp only at hSw
            try simp only [List.getElem_toArray, List.getElem_cons_zero, List.getElem_cons_succ]
            go_simp
            try with_reducible rfl
          try simp only [Act.put, List.setIfInBounds_toArray, List.set_cons_zero, List.set_cons_succ, List.getElem_toArray, List.getElem_cons_zero, List.getElem_cons_succ]
          refine wpAnyH_take (i := 12) (oi := _) (v := y.v) rfl (by kernel_rfl) (by kernel_rfl) (by kernel_rfl) (fun _ _ _ h => h) (Or.inl ⟨by kernel_rfl, ?hy13⟩) (by assumption) ?_
          case hy13 =>
            intro w9 hSw
            try dsimp only at hSw
            try simp only [List.getElem_toArray, List.getElem_cons_zero, List.getElem_cons_succ]
            go_simp
            obtain ⟨-, ⟨a0, a1, a2, a3⟩⟩ := hSw
            try go_simp
            try rfl
          try simp only [Act.put, List.setIfInBounds_toArray, List.set_cons_zero, List.set_cons_succ, List.getElem_toArray, List.getElem_cons_zero, List.getElem_cons_succ]
          refine wpAnyH_take (i := 13) (oi := _) (v := ?_) rfl (by kernel_rfl) (by kernel_rfl) (by kernel_rfl) (fun _ _ _ h => h) ?hl14 (by assumption) ?_
          case hl14 => refine yieldsIf_eqI ?_ (.tmp 57) (.tmp 61) 29 ?_ x y ?_ ?_ hit HEQ.out <;> kernel_rfl
          try simp only [Act.put, List.setIfInBounds_toArray, List.set_cons_zero, List.set_cons_succ, List.getElem_toArray, List.getElem_cons_zero, List.getElem_cons_succ]
          refine wpAnyH_take (i := 14) (oi := _) (v := ?_) rfl (by kernel_rfl) (by kernel_rfl) (by kernel_rfl) (fun _ _ _ h => h) (Or.inl ⟨by kernel_rfl, ?hy15⟩) (by assumption) ?_
          case hy15 =>
            intro w9 hSw
            try dsimp only at hSw
            try simp only [List.getElem_toArray, List.getElem_cons_zero, List.getElem_cons_succ]
            go_simp
            try with_reducible rfl
          try simp only [Act.put, List.setIfInBounds_toArray, List.set_cons_zero, List.set_cons_succ, List.getElem_toArray, List.getElem_cons_zero, List.getElem_cons_succ]
          refine wpAnyH_done (by kernel_rfl) ?_ _
          go_wp2
          go_meet
          exact ⟨rfl, 1, rfl⟩
        · have hlaI : ¬ (at_ : Int) < (na : Int) := by omega
          have hlaJ : decide ((at_ : Int) < (na : Int)) = false := decide_eq_false hlaI
          have hht := HH4.out hla
          subst hht
          go_quiet (fail)
          go_wp2
          go_meet
          exact ⟨rfl, _, rfl⟩
      case rest =>
        obtain ⟨rfl, kq, rfl⟩ := hcut
        have HB2 := Lib.hid (show Below w9.heap.size w9 (W0.drewN kq) from below_drewN' HB.out kq)
        obtain ⟨W2, hW2⟩ : ∃ W2, W0.drewN kq = W2 := ⟨_, rfl⟩
        rw [hW2] at HB2 ⊢
        clear hW2 hyc HC HPP
        cases hit with
        | true =>
          obtain ⟨hlt2, hg2⟩ := HH1.out rfl
          have HG2 := Lib.hid hg2
          clear hg2
          go_wp2
          go_roundw
          case rel => exact ⟨at_ + 1, i + 1, by go_num, by go_num, by omega, by omega, HG2.out, HB2.out⟩
          case measure => simp [intOf] <;> omega
        | false =>
          have HG2 := Lib.hid (HH2.out rfl)
          go_wp2
          go_roundw
          case rel => exact ⟨at_, i + 1, rfl, by go_num, by omega, hat, HG2.out, HB2.out⟩
          case measure => simp [intOf] <;> omega
    · have hI : ¬ (i : Int) < (nb : Int) := by omega
      have hatn : at_ = na := by
        have z := HGG.out
        have hd : Y.drop i = [] := List.drop_eq_nil_of_le (by rw [HNB.out]; exact hge)
        rw [hd, greedy_end] at z
        omega
      subst hatn
      obtain ⟨C, hC⟩ : ∃ C, W0.heap.size = C := ⟨_, rfl⟩
      have HCC := Lib.hid hC
      have HBW0 := Lib.hid (HB9.out.trans (HB.out.mono HS9.out))
      have HSC := Lib.hid (show B ≤ C by have := HBW0.out.size; rw [HBB.out, hC] at this; exact this)
      clear hC
      go_wp2_with fail
      go_loopw [11, 12] (fun vo vi wr => ∃ j : Nat, vi = .int .i64 (j : Int) ∧ j ≤ n ∧ OwnK wr C 27 (encN .u64) vo ((l.take j).map Itm.seq) ∧ Below C W0 wr) (fun _ vi _ => n - (intOf vi).toNat)
      case atStart => exact ⟨0, rfl, Nat.zero_le _, OwnK.nil _ _ _ _, Below.refl _ _⟩
      case round =>
        obtain ⟨j, rfl, hj, ho, hb⟩ := hrel
        obtain ⟨W3, rfl⟩ : ∃ W3, W3 = wr := ⟨wr, rfl⟩
        have HO3 := Lib.hid ho
        have HB3 := Lib.hid hb
        have HV3 := Lib.hid (HV0.out.below (hb.mono (by rw [HCC.out]; exact Nat.le_refl _)))
        have HS3 := Lib.hid (show C ≤ W3.heap.size by have := hb.size; rw [HCC.out] at this; exact this)
        clear ho hb
        rcases Nat.lt_or_ge j n with hjl | hjl
        · have hjI : (j : Int) < (n : Int) := by omega
          have hj0 : (0 : Int) ≤ (j : Int) := by omega
          have hjn : j < l.length := by rw [HN.out]; exact hjl
          obtain ⟨b, o, cap3, q3, hpe, -, -, HPP, HC⟩ := HV3.out.open
          simp only [Value.slice.injEq] at hpe
          obtain ⟨rfl, -, rfl⟩ := hpe
          obtain ⟨rfl, hbl⟩ := HPP.out (by rw [HN.out]; omega)
          obtain ⟨-, c1, -, -⟩ := HasK.itAt HC.out j hjn
          have htk : (l.take (j + 1)).map Itm.seq = (l.take j).map Itm.seq ++ [l[j].seq] := by rw [List.take_succ_eq_append_getElem hjn, List.map_append]; rfl
          obtain ⟨q, hq⟩ : ∃ q, l[j].seq = q := ⟨_, rfl⟩
          rw [hq] at c1 htk
          have HTK := Lib.hid htk
          have hba := (Below.refl W3.heap.size W3).alloc (Nat.le_refl _) (.cells #[.int .u64 (q : Int)] 27)
          have HQ1 := Lib.hid (has_num1 (n := q) (heap_alloc_new W3 (.cells #[.int .u64 (q : Int)] 27)))
          have HOX := Lib.hid (HO3.out.below hba)
          have HBX := Lib.hid (HB3.out.trans (hba.mono HS3.out))
          have HSX := Lib.hid (Nat.le_trans HS3.out hba.size)
          clear htk hq hba HC HPP hjn
          go_wp2_with (at_builtin; refine wpList_append_k rfl (.tmp 72) (.tmp 78) 41 rfl C 27 (encN .u64) (.int .u64 0) 8 Try.underlying41 info_n64 rfl (by decide) _ ((l.take j).map Itm.seq) rfl HOX.out _ [q] rfl HQ1.out Nat.one_pos (by rw [List.length_map, List.length_take]; simp only [List.length_cons, List.length_nil]; omega) HSX.out W0 HBX.out (fun v7 w7 ho7 hb7 _ _ => ?_); have HO7 := Lib.hid ho7; have HB7 := Lib.hid hb7; clear ho7 hb7)
          go_roundw
          case rel => exact ⟨j + 1, by go_num, by omega, by rw [HTK.out]; exact HO7.out, HB7.out⟩
          case measure => simp [intOf] <;> omega
        · have hjI : ¬ (j : Int) < (n : Int) := by omega
          have hfull : (l.take j).map Itm.seq = l.map Itm.seq := by rw [List.take_of_length_le (by rw [HN.out]; exact hjl)]
          have HK3 := Lib.hid (show HasK W3 (encN .u64) u11 (l.map Itm.seq) by have z := HO3.out.has; rw [hfull] at z; exact z)
          clear hfull
          go_wp2_with fail
          refine (Thin_any _ _ l (l.map Itm.seq) false W3 HV3.out HK3.out (by rw [HN.out]; omega) (by rw [List.length_map, HN.out]; omega)).mono ?_
          rw [HALL.out]
          rintro e w7 ⟨v7, rfl, ho7, hb7⟩
          have HK7 := Lib.hid ho7.has
          have HV7 := Lib.hid (HV3.out.below hb7)
          have HB7 := Lib.hid (HB3.out.trans (hb7.mono HS3.out))
          clear ho7 hb7
          go_wp2_with fail
          refine (Same_any _ _ l l w7 HK7.out HV7.out (by rw [HN.out]; omega)).mono ?_
          rw [sameB_refl]
          rintro e w8 ⟨rfl, hb8⟩
          have HB8 := Lib.hid (HB7.out.trans (hb8.mono (by have := HB7.out.size; rw [HCC.out] at this; exact this)))
          clear hb8
          go_wp2
          go_ret
          exact ⟨rfl, HBW0.out.trans (HB8.out.mono HSC.out)⟩
end Go.Proofs.Ytfdafoibclfpgaa
