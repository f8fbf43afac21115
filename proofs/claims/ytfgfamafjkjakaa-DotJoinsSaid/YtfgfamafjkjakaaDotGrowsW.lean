/-
  Layer 13's law: DotGrows walked.
-/
import Derived.Test.YtfgfamafjkjakaaDotGrowM
namespace Go.Proofs.Ytfgfamafjkjakaa
open Go.ChangeShapes Go.WideShapes Go.ChangeAt Go.RowKit Go.Deep
set_option linter.unusedVariables false
set_option linter.unusedSimpArgs false
/-- A row of dots. -/
def Dots (W : World) (b o n : Nat) (D : Nat → Int) (N : Nat → Nat) : Prop := ∀ i, i < n → W.cell? ⟨b, o + i * 2, none⟩ = some (.int .i64 (D i)) ∧ W.cell? ⟨b, o + i * 2 + 1, none⟩ = some (.int .u64 (N i : Int))
theorem Dots.below {W W' : World} {b o n : Nat} {D : Nat → Int} {N : Nat → Nat} (h : Dots W b o n D N) (hb : Below W.heap.size W W') : Dots W' b o n D N := fun i hi => ⟨(hb.cell (cell_lt (h i hi).1)).trans (h i hi).1, (hb.cell (cell_lt (h i hi).2)).trans (h i hi).2⟩
set_option maxRecDepth 100000 in
set_option maxHeartbeats 32000000 in
theorem DotGrows_any (p : Option Addr) (n cap b o : Nat) (D : Nat → Int) (N : Nat → Nat) (w : World) (hp : 0 < n → p = some ⟨b, o, none⟩) (hnc : n ≤ cap) (hcap : cap ≤ maxLen) (hD : Dots w b o n D N) :
    Calls Try.prog 8 #[.slice p n cap] w fun e w' => e = .returned (.bool true) ∧ Below w.heap.size w w' := by
  have HD := Lib.hid hD
  have HP := Lib.hid hp
  have hcI : (n : Int) ≤ 9223372036854775807 := by unfold maxLen at hcap; omega
  clear hD hp hcap
  rcases Nat.lt_or_ge 60 n with h60 | h60
  · have h60I : (60 : Int) < (n : Int) := by omega
    go_enter Try.func8, Try.ntmps8
    go_wp2_with fail
    refine (Awake_any w).mono ?_
    rintro e w1 ⟨rfl, hb1⟩
    have HB1 := Lib.hid hb1
    clear hb1
    go_wp2
    go_ret
    exact ⟨rfl, HB1.out⟩
  have h60I : ¬ (60 : Int) < (n : Int) := by omega
  go_enter Try.func8, Try.ntmps8
  go_wp2_with fail
  refine (Awake_any w).mono ?_
  rintro e w1 ⟨rfl, hb1⟩
  have HB1 := Lib.hid hb1
  clear hb1
  go_wp2_with fail
  refine (New_any w1).mono ?_
  rintro e w2 ⟨rfl, hs2, hb2⟩
  obtain ⟨S, hS⟩ : ∃ S, w1.heap.size = S := ⟨_, rfl⟩
  have hSw : w.heap.size ≤ S := by rw [← hS]; exact HB1.out.size
  have HB2 := Lib.hid (HB1.out.trans (hb2.mono HB1.out.size))
  rw [hS] at hs2 ⊢
  have HS2 := Lib.hid hs2
  clear hs2 hb2 hS
  go_wp2_with fail
  go_loopw [4] (fun vi wr => ∃ (i : Nat) (f : List Nm), vi = .int .i64 (i : Int) ∧ i ≤ n ∧ SetIs wr S f ∧ FewS f i ∧ Below w.heap.size w wr ∧ ∀ j, j < i → goodB (D j) (N j) = true → hasS f (D j) (N j) = true) (fun vi _ => n - (intOf vi).toNat)
  case atStart => exact ⟨0, none16, rfl, Nat.zero_le _, HS2.out, few_none, HB2.out, fun j hj => absurd hj (Nat.not_lt_zero _)⟩
  case round =>
    obtain ⟨i, f, rfl, hi, hs, hfew, hb, hseen⟩ := hrel
    obtain ⟨W0, rfl⟩ : ∃ W0, W0 = wr := ⟨wr, rfl⟩
    have HS0 := Lib.hid hs
    have HB0 := Lib.hid hb
    have HF := Lib.hid hfew
    have HSE := Lib.hid hseen
    clear hs hb hfew hseen
    rcases Nat.lt_or_ge i n with hlt | hge
    · have hI : (i : Int) < (n : Int) := by omega
      have hi0 : (0 : Int) ≤ (i : Int) := by omega
      obtain rfl := HP.out (by omega)
      have hst := step_of (d := D i) (n := N i) HF.out (by omega)
      obtain ⟨⟨g, ev⟩, hge⟩ : ∃ x, addS f (D i) (N i) = x := ⟨_, rfl⟩
      rw [hge] at hst
      have HGE := Lib.hid hge
      have HST := Lib.hid hst
      have hev := hst.e01
      simp only at hev
      obtain ⟨dd, hdd⟩ : ∃ d, D i = d := ⟨_, rfl⟩
      obtain ⟨nn, hnn⟩ : ∃ m, N i = m := ⟨_, rfl⟩
      rw [hdd, hnn] at HGE HST hev
      have HDD := Lib.hid hdd
      have HNN := Lib.hid hnn
      obtain ⟨old, hold⟩ : ∃ x, hasS f dd nn = x := ⟨_, rfl⟩
      have HOLD := Lib.hid hold
      clear hge hst hdd hnn hold
      go_wp2_with fail
      refine (Copy_any S f W0 HS0.out).mono ?_
      obtain ⟨C, hC⟩ : ∃ C, W0.heap.size = C := ⟨_, rfl⟩
      rw [hC]
      rintro e w3 ⟨rfl, hc3, hb3⟩
      rw [← hC] at hb3
      have hSC : S < C := by rw [← hC]; exact HS0.out.lt
      have HS3 := Lib.hid (HS0.out.below hb3)
      have HC3 := Lib.hid hc3
      have HB3 := Lib.hid (HB0.out.trans (hb3.mono HB0.out.size))
      clear hc3 hb3 hC
      obtain ⟨c0, c1⟩ := HD.out.below HB3.out i hlt
      rw [HDD.out] at c0
      rw [HNN.out] at c1
      go_wp2_with fail
      clear c0 c1
      refine (Has_any S f dd nn w3 HS3.out).mono ?_
      rw [HOLD.out]
      rintro e w4 ⟨rfl, hb4⟩
      have HS4 := Lib.hid (HS3.out.below hb4)
      have HC4 := Lib.hid (HC3.out.below hb4)
      have HB4 := Lib.hid (HB3.out.trans (hb4.mono HB3.out.size))
      clear hb4
      obtain ⟨c0, c1⟩ := HD.out.below HB4.out i hlt
      rw [HDD.out] at c0
      rw [HNN.out] at c1
      go_wp2_with fail
      clear c0 c1
      refine (Add_any S f dd nn w4 HS4.out).mono ?_
      rw [HGE.out]
      rintro e w5 ⟨rfl, hs5, hk5⟩
      have HS5 := Lib.hid hs5
      have HC5 := Lib.hid (HC4.out.kp HS4.out hk5 (by omega))
      have HB5 := Lib.hid (HB4.out.trans (hk5.below hSw HB4.out.size))
      clear hs5 hk5
      go_wp2_with fail
      refine (Within_any C S f g w5 HC5.out HS5.out).mono ?_
      rw [HST.out.up]
      rintro e w6 ⟨rfl, hb6⟩
      have HS6 := Lib.hid (HS5.out.below hb6)
      have HC6 := Lib.hid (HC5.out.below hb6)
      have HB6 := Lib.hid (HB5.out.trans (hb6.mono HB5.out.size))
      clear hb6
      have hseen2 : ∀ j, j < i + 1 → goodB (D j) (N j) = true → hasS g (D j) (N j) = true := fun j hj hg => by
        rcases (by omega : j < i ∨ j = i) with h | rfl
        · exact HST.out.keep _ _ (HSE.out j h hg)
        · rw [HDD.out, HNN.out] at hg ⊢
          rcases HST.out.e01 with ⟨h0, _⟩ | ⟨_, h1⟩
          · exact HST.out.has h0
          · rw [hg] at h1; cases h1
      have HSE2 := Lib.hid hseen2
      clear hseen2
      rcases hev with ⟨rfl, hgood⟩ | ⟨rfl, hgood⟩
      · obtain ⟨c0, c1⟩ := HD.out.below HB6.out i hlt
        rw [HDD.out] at c0
        rw [HNN.out] at c1
        clear hgood
        go_wp2_with fail
        clear c0 c1
        refine (Has_any S g dd nn w6 HS6.out).mono ?_
        rw [HST.out.has rfl]
        rintro e w7 ⟨rfl, hb7⟩
        have HS7 := Lib.hid (HS6.out.below hb7)
        have HC7 := Lib.hid (HC6.out.below hb7)
        have HB7 := Lib.hid (HB6.out.trans (hb7.mono HB6.out.size))
        clear hb7
        go_wp2_with fail
        refine (Within_any S C g f w7 HS7.out HC7.out).mono ?_
        rw [HST.out.down rfl, HOLD.out]
        rintro e w8 ⟨rfl, hb8⟩
        have HS8 := Lib.hid (HS7.out.below hb8)
        have HB8 := Lib.hid (HB7.out.trans (hb8.mono HB7.out.size))
        clear hb8
        go_wp2_with fail
        go_loopw [8] (fun v8 wr => ∃ k : Nat, v8 = .int .i64 (k : Int) ∧ k ≤ i ∧ SetIs wr S g ∧ Below w.heap.size w wr) (fun v8 _ => i - (intOf v8).toNat)
        case atStart => exact ⟨0, rfl, Nat.zero_le _, HS8.out, HB8.out⟩
        case round =>
          obtain ⟨k, rfl, hk, hs, hb⟩ := hrel
          obtain ⟨W1, rfl⟩ : ∃ W1, W1 = wr := ⟨wr, rfl⟩
          have HS9 := Lib.hid hs
          have HB9 := Lib.hid hb
          clear hs hb
          rcases Nat.lt_or_ge k i with hki | hki
          · have hkI : (k : Int) < (i : Int) := by omega
            have hkn : (k : Int) < (n : Int) := by omega
            have hk0 : (0 : Int) ≤ (k : Int) := by omega
            obtain ⟨c0, c1⟩ := HD.out.below HB9.out k (by omega)
            have hsk := HSE2.out k (by omega)
            obtain ⟨dk, hdk⟩ : ∃ d, D k = d := ⟨_, rfl⟩
            obtain ⟨nk, hnk⟩ : ∃ m, N k = m := ⟨_, rfl⟩
            rw [hdk, hnk] at hsk
            rw [hdk] at c0
            rw [hnk] at c1
            have HSK := Lib.hid hsk
            have HDK := Lib.hid hdk
            have HNK := Lib.hid hnk
            clear hdk hnk hsk
            go_wp2_with fail
            clear c0 c1
            refine (Good_any dk nk W1).mono ?_
            obtain ⟨gk, hgk⟩ : ∃ x, goodB dk nk = x := ⟨_, rfl⟩
            rw [hgk]
            have HGK := Lib.hid hgk
            clear hgk
            rintro e w10 ⟨rfl, hb10⟩
            have HS10 := Lib.hid (HS9.out.below hb10)
            have HB10 := Lib.hid (HB9.out.trans (hb10.mono HB9.out.size))
            clear hb10
            cases gk with
            | false =>
              go_wp2
              go_roundw
              case rel => exact ⟨k + 1, by go_num, hki, HS10.out, HB10.out⟩
              case measure => simp [intOf] <;> omega
            | true =>
              obtain ⟨c0, c1⟩ := HD.out.below HB10.out k (by omega)
              rw [HDK.out] at c0
              rw [HNK.out] at c1
              go_wp2_with fail
              clear c0 c1
              refine (Has_any S g dk nk w10 HS10.out).mono ?_
              rw [HSK.out HGK.out]
              rintro e w11 ⟨rfl, hb11⟩
              have HS11 := Lib.hid (HS10.out.below hb11)
              have HB11 := Lib.hid (HB10.out.trans (hb11.mono HB10.out.size))
              clear hb11
              go_wp2
              go_roundw
              case rel => exact ⟨k + 1, by go_num, hki, HS11.out, HB11.out⟩
              case measure => simp [intOf] <;> omega
          · obtain rfl : k = i := by omega
            have hkI : ¬ (k : Int) < (k : Int) := by omega
            go_wp2
            go_roundw
            case rel => exact ⟨k + 1, g, by go_num, hlt, HS9.out, HST.out.few, HB9.out, HSE2.out⟩
            case measure => simp [intOf] <;> omega
      · clear hgood
        go_wp2_with fail
        refine (Within_any S C g f w6 HS6.out HC6.out).mono ?_
        rw [HST.out.same (show (1 : Int) ≠ 0 by decide)]
        rintro e w8 ⟨rfl, hb8⟩
        have HS8 := Lib.hid (HS6.out.below hb8)
        have HB8 := Lib.hid (HB6.out.trans (hb8.mono HB6.out.size))
        clear hb8
        go_wp2_with fail
        go_loopw [8] (fun v8 wr => ∃ k : Nat, v8 = .int .i64 (k : Int) ∧ k ≤ i ∧ SetIs wr S g ∧ Below w.heap.size w wr) (fun v8 _ => i - (intOf v8).toNat)
        case atStart => exact ⟨0, rfl, Nat.zero_le _, HS8.out, HB8.out⟩
        case round =>
          obtain ⟨k, rfl, hk, hs, hb⟩ := hrel
          obtain ⟨W1, rfl⟩ : ∃ W1, W1 = wr := ⟨wr, rfl⟩
          have HS9 := Lib.hid hs
          have HB9 := Lib.hid hb
          clear hs hb
          rcases Nat.lt_or_ge k i with hki | hki
          · have hkI : (k : Int) < (i : Int) := by omega
            have hkn : (k : Int) < (n : Int) := by omega
            have hk0 : (0 : Int) ≤ (k : Int) := by omega
            obtain ⟨c0, c1⟩ := HD.out.below HB9.out k (by omega)
            have hsk := HSE2.out k (by omega)
            obtain ⟨dk, hdk⟩ : ∃ d, D k = d := ⟨_, rfl⟩
            obtain ⟨nk, hnk⟩ : ∃ m, N k = m := ⟨_, rfl⟩
            rw [hdk, hnk] at hsk
            rw [hdk] at c0
            rw [hnk] at c1
            have HSK := Lib.hid hsk
            have HDK := Lib.hid hdk
            have HNK := Lib.hid hnk
            clear hdk hnk hsk
            go_wp2_with fail
            clear c0 c1
            refine (Good_any dk nk W1).mono ?_
            obtain ⟨gk, hgk⟩ : ∃ x, goodB dk nk = x := ⟨_, rfl⟩
            rw [hgk]
            have HGK := Lib.hid hgk
            clear hgk
            rintro e w10 ⟨rfl, hb10⟩
            have HS10 := Lib.hid (HS9.out.below hb10)
            have HB10 := Lib.hid (HB9.out.trans (hb10.mono HB9.out.size))
            clear hb10
            cases gk with
            | false =>
              go_wp2
              go_roundw
              case rel => exact ⟨k + 1, by go_num, hki, HS10.out, HB10.out⟩
              case measure => simp [intOf] <;> omega
            | true =>
              obtain ⟨c0, c1⟩ := HD.out.below HB10.out k (by omega)
              rw [HDK.out] at c0
              rw [HNK.out] at c1
              go_wp2_with fail
              clear c0 c1
              refine (Has_any S g dk nk w10 HS10.out).mono ?_
              rw [HSK.out HGK.out]
              rintro e w11 ⟨rfl, hb11⟩
              have HS11 := Lib.hid (HS10.out.below hb11)
              have HB11 := Lib.hid (HB10.out.trans (hb11.mono HB10.out.size))
              clear hb11
              go_wp2
              go_roundw
              case rel => exact ⟨k + 1, by go_num, hki, HS11.out, HB11.out⟩
              case measure => simp [intOf] <;> omega
          · obtain rfl : k = i := by omega
            have hkI : ¬ (k : Int) < (k : Int) := by omega
            go_wp2
            go_roundw
            case rel => exact ⟨k + 1, g, by go_num, hlt, HS9.out, HST.out.few, HB9.out, HSE2.out⟩
            case measure => simp [intOf] <;> omega
    · obtain rfl : i = n := by omega
      have hI : ¬ (i : Int) < (i : Int) := by omega
      go_wp2
      go_ret
      exact ⟨rfl, HB0.out⟩
end Go.Proofs.Ytfgfamafjkjakaa
