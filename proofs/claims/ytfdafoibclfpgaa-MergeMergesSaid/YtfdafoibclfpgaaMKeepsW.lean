/-
  The statement MergeKeeps, walked: what is seen stays when a list is thinned out.
-/
import Derived.Test.YtfdafoibclfpgaaMAwake
import Derived.Test.YtfdafoibclfpgaaMOpen
namespace Go.Proofs.Ytfdafoibclfpgaa
open Go.ChangeShapes Go.WideShapes Go.ChangeAt Go.RowKit Go.Deep
set_option linter.unusedVariables false
set_option linter.unusedSimpArgs false
theorem thinC_sorted (keep : List Nat) (bt : Bool) (l : List Itm) (hs : sortedB l = true) : thinC keep bt l = thinL (alwaysN :: keep) bt l := by rw [thinC_eq, if_pos hs]
/-- What a thinned list is good for. -/
structure Thinned (keep : List Nat) (bt : Bool) (l T : List Itm) : Prop where
  is : thinC keep bt l = T
  fits : Fits T
  sorted : sortedB T = true
  len : T.length ≤ l.length
  again : thinC keep bt T = T
  seen : ∀ q, q ∈ alwaysN :: keep → seenL q T = seenL q l
theorem thinned (keep : List Nat) (bt : Bool) (l : List Itm) (hf : Fits l) (hs : sortedB l = true) : ∃ T, Thinned keep bt l T := by
  have hl := (sortedB_iff l).1 hs
  have e := thinC_sorted keep bt l hs
  have hsub := thinL_sub (alwaysN :: keep) bt l hl
  have hT := (sortedB_iff _).2 (thinL_sorted (alwaysN :: keep) bt l hl)
  exact ⟨_, e, hf.sub hsub, hT, hsub.length_le, by rw [thinC_sorted keep bt _ hT]; exact thin_again _ (List.mem_cons_self ..) bt l hl hf.seqs,
    fun q hq => seen_thin _ (List.mem_cons_self ..) bt l hl hf.seqs q hq⟩
set_option maxRecDepth 100000 in
set_option maxHeartbeats 32000000 in
theorem Keeps_any (v u : Value) (l : List Itm) (keep : List Nat) (bt : Bool) (w : World) (hv : HasK w encI v l) (hu : HasK w (encN .u64) u keep) (hf : Fits l) (hkn : ∀ x ∈ keep, x ≤ alwaysN) :
    Calls Try.prog 6 #[v, u, .bool bt] w fun e w' => e = .returned (.bool true) ∧ Below w.heap.size w w' := by
  obtain ⟨p, cap, rfl, h1, h2⟩ := hv.form
  obtain ⟨p2, cap2, rfl, k1, k2⟩ := hu.form
  obtain ⟨n, hn⟩ : ∃ n, l.length = n := ⟨_, rfl⟩
  obtain ⟨r, hr⟩ : ∃ r, keep.length = r := ⟨_, rfl⟩
  have HN := Lib.hid hn
  have HR := Lib.hid hr
  have HV := Lib.hid hv
  have HU := Lib.hid hu
  have HF := Lib.hid hf
  rw [hn] at h1 HV ⊢
  rw [hr] at k1 HU ⊢
  obtain ⟨B, hB⟩ : ∃ B, w.heap.size = B := ⟨_, rfl⟩
  have HBB := Lib.hid hB
  rw [hB]
  have hcI : (cap : Int) ≤ 9223372036854775807 := by unfold maxLen at h2; omega
  have hcJ : (cap2 : Int) ≤ 9223372036854775807 := by unfold maxLen at k2; omega
  clear hv hu hn hr h2 k2 hB hf
  go_enter Try.func6, Try.ntmps6
  go_wp2_with fail
  refine (Awake_any w).mono ?_
  rintro e w1 ⟨rfl, hb1⟩
  have HV1 := Lib.hid (HV.out.below hb1)
  have HU1 := Lib.hid (HU.out.below hb1)
  have HB1 := Lib.hid (show Below B w w1 by rw [HBB.out] at hb1; exact hb1)
  clear hb1
  rcases Nat.lt_or_ge 80 n with hn8 | hn8
  · have hI : (80 : Int) < (n : Int) := by omega
    go_wp2
    go_ret
    exact ⟨rfl, HB1.out⟩
  have hI : ¬ (80 : Int) < (n : Int) := by omega
  have hIb : decide ((80 : Int) < (n : Int)) = false := decide_eq_false hI
  rcases Nat.lt_or_ge 20 r with hr2 | hr2
  · have hJ : (20 : Int) < (r : Int) := by omega
    have hJb : decide ((20 : Int) < (r : Int)) = true := decide_eq_true hJ
    go_wp2
    go_ret
    exact ⟨rfl, HB1.out⟩
  have hJ : ¬ (20 : Int) < (r : Int) := by omega
  have hJb : decide ((20 : Int) < (r : Int)) = false := decide_eq_false hJ
  go_wp2_with fail
  refine (RefSorted_any _ l w1 HV1.out (by rw [HN.out]; omega)).mono ?_
  rcases hsb : sortedB l with _ | _
  · rintro e w2 ⟨rfl, hb2⟩
    have HB2 := Lib.hid (HB1.out.trans (hb2.mono (by have := HB1.out.size; rw [HBB.out] at this; exact this)))
    clear hb2
    go_wp2
    go_ret
    exact ⟨rfl, HB2.out⟩
  rintro e w2 ⟨rfl, hb2⟩
  have HV2 := Lib.hid (HV1.out.below hb2)
  have HU2 := Lib.hid (HU1.out.below hb2)
  have HB2 := Lib.hid (HB1.out.trans (hb2.mono (by have := HB1.out.size; rw [HBB.out] at this; exact this)))
  obtain ⟨T, hT⟩ := thinned keep bt l HF.out hsb
  have HT := Lib.hid hT
  have HSB := Lib.hid hsb
  clear hb2 hT hsb
  go_wp2_with fail
  refine (Thin_any _ _ l keep bt w2 HV2.out HU2.out (by rw [HN.out]; omega) (by rw [HR.out]; omega)).mono ?_
  rw [HT.out.is]
  rintro e w3 ⟨v3, rfl, ho3, hb3⟩
  obtain ⟨p3, c3, rfl, hc31, hc32⟩ := ho3.sl
  have HT3 := Lib.hid ho3.has
  have HV3 := Lib.hid (HV2.out.below hb3)
  have HU3 := Lib.hid (HU2.out.below hb3)
  have HB3 := Lib.hid (HB2.out.trans (hb3.mono (by have := HB2.out.size; rw [HBB.out] at this; exact this)))
  have hTn : T.length ≤ n := by have := HT.out.len; rw [HN.out] at this; exact this
  obtain ⟨m, hm⟩ : ∃ m, T.length = m := ⟨_, rfl⟩
  have HM := Lib.hid hm
  rw [hm] at HT3 hTn hc31 ⊢
  have hmn : ¬ (n : Int) < (m : Int) := by omega
  have hmnb : decide ((n : Int) < (m : Int)) = false := decide_eq_false hmn
  have hmnN : decide (n < m) = false := decide_eq_false (by omega)
  clear ho3 hb3 hm hc32
  go_wp2_with fail
  refine (RefSorted_any _ T w3 HT3.out (by rw [HM.out]; omega)).mono ?_
  rw [HT.out.sorted]
  rintro e w4 ⟨rfl, hb4⟩
  have HT4 := Lib.hid (HT3.out.below hb4)
  have HV4 := Lib.hid (HV3.out.below hb4)
  have HU4 := Lib.hid (HU3.out.below hb4)
  have HB4 := Lib.hid (HB3.out.trans (hb4.mono (by have := HB3.out.size; rw [HBB.out] at this; exact this)))
  clear hb4
  go_wp2_with fail
  refine (Thin_any _ _ T keep bt w4 HT4.out HU4.out (by rw [HM.out]; omega) (by rw [HR.out]; omega)).mono ?_
  rw [HT.out.again]
  rintro e w5 ⟨v5, rfl, ho5, hb5⟩
  have HA5 := Lib.hid ho5.has
  have HT5 := Lib.hid (HT4.out.below hb5)
  have HV5 := Lib.hid (HV4.out.below hb5)
  have HU5 := Lib.hid (HU4.out.below hb5)
  have HB5 := Lib.hid (HB4.out.trans (hb5.mono (by have := HB4.out.size; rw [HBB.out] at this; exact this)))
  clear hb5 ho5
  go_wp2_with fail
  refine (Same_any _ _ T T w5 HA5.out HT5.out (by rw [HM.out]; omega)).mono ?_
  rw [sameB_refl]
  rintro e w6 ⟨rfl, hb6⟩
  have HT6 := Lib.hid (HT5.out.below hb6)
  have HV6 := Lib.hid (HV5.out.below hb6)
  have HU6 := Lib.hid (HU5.out.below hb6)
  have HB6 := Lib.hid (HB5.out.trans (hb6.mono (by have := HB5.out.size; rw [HBB.out] at this; exact this)))
  clear hb6
  go_wp2_with fail
  go_loopw [8] (fun vi wr => ∃ i : Nat, vi = .int .i64 (i : Int) ∧ i ≤ r + 1 ∧ Below w6.heap.size w6 wr) (fun vi _ => r + 1 - (intOf vi).toNat)
  case atStart => exact ⟨0, rfl, Nat.zero_le _, Below.refl _ _⟩
  case round =>
    obtain ⟨i, rfl, hi, hb⟩ := hrel
    obtain ⟨W0, rfl⟩ : ∃ W0, W0 = wr := ⟨wr, rfl⟩
    have HB := Lib.hid hb
    have HT0 := Lib.hid (HT6.out.below hb)
    have HV0 := Lib.hid (HV6.out.below hb)
    have HU0 := Lib.hid (HU6.out.below hb)
    clear hb
    rcases Nat.lt_or_ge r i with hri | hri
    · have hiI : ¬ (i : Int) ≤ (r : Int) := by omega
      go_wp2
      go_ret
      exact ⟨rfl, HB6.out.trans (HB.out.mono (by have := HB6.out.size; rw [HBB.out] at this; exact this))⟩
    · have hiI : (i : Int) ≤ (r : Int) := by omega
      have hi0 : (0 : Int) ≤ (i : Int) := by omega
      have hmid : ∃ q : Nat, q ∈ alwaysN :: keep ∧ (i < r → ∃ b o, p2 = some ⟨b, o, none⟩ ∧ W0.cell? ⟨b, o + i, none⟩ = some (.int .u64 (q : Int))) ∧ (r ≤ i → q = alwaysN) := by
        rcases Nat.lt_or_ge i r with hir | hir
        · obtain ⟨b, o, cap3, p3, hpe, -, -, HPP, HC⟩ := HU0.out.open
          simp only [Value.slice.injEq] at hpe
          obtain ⟨rfl, -, rfl⟩ := hpe
          obtain ⟨rfl, hbl⟩ := HPP.out (by rw [HR.out]; omega)
          exact ⟨keep.getD i 0, List.mem_cons_of_mem _ (mem_getD keep i (by rw [HR.out]; exact hir)), fun _ => ⟨b, o, rfl, HasK.numAt HC.out i (by rw [HR.out]; exact hir)⟩, fun h => absurd h (by omega)⟩
        · exact ⟨alwaysN, List.mem_cons_self .., fun h => absurd h (by omega), fun _ => rfl⟩
      obtain ⟨q, hq, hq1, hq2⟩ := hmid
      have HQ := Lib.hid hq
      have HQ1 := Lib.hid hq1
      have HQ2 := Lib.hid hq2
      clear hq hq1 hq2
      go_upto_if 57 with (fail)
      go_cut [9] (fun v9 wz => v9 = .int .u64 (q : Int) ∧ wz = W0)
      case first =>
        rcases Nat.lt_or_ge i r with hir | hir
        · have hirI : (i : Int) < (r : Int) := by omega
          obtain ⟨b, o, rfl, hc⟩ := HQ1.out hir
          go_wp2
          go_meet
          exact ⟨rfl, rfl⟩
        · have hirI : ¬ (i : Int) < (r : Int) := by omega
          have hqa := HQ2.out hir
          subst hqa
          go_wp2
          go_meet
          exact ⟨rfl, rfl⟩
      case rest =>
        obtain ⟨rfl, rfl⟩ := hcut
        go_wp2_with fail
        refine (Seen_any _ T q _ HT0.out (by rw [HM.out]; omega) HT.out.fits.keys).mono ?_
        rw [HT.out.seen q HQ.out]
        rintro e w7 ⟨v7, rfl, ho7, hb7⟩
        have HS7 := Lib.hid ho7.has
        have HV7 := Lib.hid (HV0.out.below hb7)
        have HB7 := Lib.hid (HB.out.trans (hb7.mono HB.out.size))
        clear ho7 hb7
        go_wp2_with fail
        refine (Seen_any _ l q w7 HV7.out (by rw [HN.out]; omega) HF.out.keys).mono ?_
        rintro e w8 ⟨v8, rfl, ho8, hb8⟩
        have HS8 := Lib.hid ho8.has
        have HS78 := Lib.hid (HS7.out.below hb8)
        have HB8 := Lib.hid (HB7.out.trans (hb8.mono HB7.out.size))
        clear ho8 hb8
        go_wp2_with fail
        refine (Same_any _ _ (seenL q l) (seenL q l) w8 HS78.out HS8.out (by have := seenGo_len q l []; unfold seenL; rw [HN.out] at this; omega)).mono ?_
        rw [sameB_refl]
        rintro e w9 ⟨rfl, hb9⟩
        have HB9 := Lib.hid (HB8.out.trans (hb9.mono HB8.out.size))
        clear hb9
        go_wp2
        go_roundw
        case rel => exact ⟨i + 1, by go_num, by omega, HB9.out⟩
        case measure => simp [intOf] <;> omega
end Go.Proofs.Ytfdafoibclfpgaa
