/-
  Layer 13's law: awake walked.
-/
import Derived.Test.YtfgfamafjkjakaaDotAwake
namespace Go.Proofs.Ytfgfamafjkjakaa
open Go.ChangeShapes Go.WideShapes Go.ChangeAt Go.RowKit Go.Deep
set_option linter.unusedVariables false
set_option linter.unusedSimpArgs false
set_option maxRecDepth 100000 in
set_option maxHeartbeats 16000000 in
theorem Awake_any (w : World) :
    Calls Try.prog 9 #[] w fun e w' => e = .returned (.bool true) ∧ Below w.heap.size w w' := by
  obtain ⟨S, hS⟩ : ∃ S, w.heap.size = S := ⟨_, rfl⟩
  have HSS := Lib.hid hS
  go_enter Try.func9, Try.ntmps9
  go_wp2_with fail
  refine (New_any w).mono ?_
  rintro e w1 ⟨rfl, hs1, hb1⟩
  rw [hS] at hs1 hb1 ⊢
  have HS1 := Lib.hid hs1
  have HB1 := Lib.hid hb1
  clear hs1 hb1 hS
  go_wp2_with fail
  refine (Add_any S (none16) 2 1 w1 HS1.out).mono ?_
  rw [add_1]
  rintro e w2 ⟨rfl, hs2, hk2⟩
  have HS2 := Lib.hid hs2
  have HB2 := Lib.hid (HB1.out.trans (hk2.below (Nat.le_refl _) (Nat.le_of_lt HS1.out.lt)))
  clear hs2 hk2
  go_wp2_with fail
  refine (Add_any S (mk16 Nm.zero ⟨1, []⟩) 2 3 w2 HS2.out).mono ?_
  rw [add_2]
  rintro e w3 ⟨rfl, hs3, hk3⟩
  have HS3 := Lib.hid hs3
  have HB3 := Lib.hid (HB2.out.trans (hk3.below (Nat.le_refl _) (Nat.le_of_lt HS2.out.lt)))
  clear hs3 hk3
  go_wp2_with fail
  refine (Add_any S (mk16 Nm.zero ⟨1, [3]⟩) 2 4 w3 HS3.out).mono ?_
  rw [add_3]
  rintro e w4 ⟨rfl, hs4, hk4⟩
  have HS4 := Lib.hid hs4
  have HB4 := Lib.hid (HB3.out.trans (hk4.below (Nat.le_refl _) (Nat.le_of_lt HS3.out.lt)))
  clear hs4 hk4
  go_wp2_with fail
  refine (Add_any S (mk16 Nm.zero ⟨1, [3, 4]⟩) 0 5 w4 HS4.out).mono ?_
  rw [add_4]
  rintro e w5 ⟨rfl, hs5, hk5⟩
  have HS5 := Lib.hid hs5
  have HB5 := Lib.hid (HB4.out.trans (hk5.below (Nat.le_refl _) (Nat.le_of_lt HS4.out.lt)))
  clear hs5 hk5
  go_wp2_with fail
  refine (Parts_any S (mk16 ⟨0, [5]⟩ ⟨1, [3, 4]⟩) w5 HS5.out).mono ?_
  rw [parts_p]
  rintro e w6 ⟨vp, M, rfl, hM, hMp, hb6⟩
  have HS6 := Lib.hid (HS5.out.below hb6)
  have HB6 := Lib.hid (HB5.out.trans (hb6.mono (Nat.le_of_lt HS5.out.lt)))
  have HM6 := Lib.hid hM
  have HMP := Lib.hid hMp
  clear hM hMp hb6
  go_wp2_with fail
  refine (Add_any S (mk16 ⟨0, [5]⟩ ⟨1, [3, 4]⟩) 2 2 w6 HS6.out).mono ?_
  rw [add_5]
  rintro e w7 ⟨rfl, hs7, hk7⟩
  have HS7 := Lib.hid hs7
  have HB7 := Lib.hid (HB6.out.trans (hk7.below (Nat.le_refl _) (Nat.le_of_lt HS6.out.lt)))
  have HM7 := Lib.hid (HM6.out.kp HS6.out hk7)
  clear hs7 hk7
  go_wp2_with fail
  refine (Parts_any S fEnd w7 HS7.out).mono ?_
  rw [parts_q]
  rintro e w8 ⟨vq, N, rfl, hN, hNp, hb8⟩
  have HS8 := Lib.hid (HS7.out.below hb8)
  have HB8 := Lib.hid (HB7.out.trans (hb8.mono (Nat.le_of_lt HS7.out.lt)))
  have HM8 := Lib.hid (HM7.out.below hb8)
  have HN8 := Lib.hid hN
  have HNP := Lib.hid hNp
  clear hN hNp hb8
  go_wp2_with fail
  refine (Copy_any S fEnd w8 HS8.out).mono ?_
  obtain ⟨C, hC⟩ : ∃ C, w8.heap.size = C := ⟨_, rfl⟩
  rw [hC]
  rintro e w9 ⟨rfl, hc9, hb9⟩
  rw [← hC] at hb9
  have hSC : S < C := by rw [← hC]; exact HS8.out.lt
  have HS9 := Lib.hid (HS8.out.below hb9)
  have HB9 := Lib.hid (HB8.out.trans (hb9.mono (Nat.le_of_lt HS8.out.lt)))
  have HM9 := Lib.hid (HM8.out.below hb9)
  have HN9 := Lib.hid (HN8.out.below hb9)
  have HC9 := Lib.hid hc9
  clear hc9 hb9 hC
  go_wp2_with fail
  refine (Encode_any S fEnd w9 HS9.out).mono ?_
  rw [enc_end]
  rintro e w10 ⟨v10, rfl, ho10, hb10⟩
  have HS10 := Lib.hid (HS9.out.below hb10)
  have HB10 := Lib.hid (HB9.out.trans (hb10.mono (Nat.le_of_lt HS9.out.lt)))
  have HM10 := Lib.hid (HM9.out.below hb10)
  have HN10 := Lib.hid (HN9.out.below hb10)
  have HC10 := Lib.hid (HC9.out.below hb10)
  have HO10 := Lib.hid ho10
  clear ho10 hb10
  go_wp2_with fail
  refine (Decode_any v10 [2, 0, 0, 1, 5, 2, 4, 0] w10 HO10.out.has (by decide)).mono ?_
  rw [dec_end]
  rintro e w11 ⟨hb11, D, rfl, hD, hd11⟩
  have hCD : C < D := Nat.lt_of_lt_of_le HC10.out.lt hD
  have HS11 := Lib.hid (HS10.out.below hb11)
  have HB11 := Lib.hid (HB10.out.trans (hb11.mono (Nat.le_of_lt HS10.out.lt)))
  have HM11 := Lib.hid (HM10.out.below hb11)
  have HN11 := Lib.hid (HN10.out.below hb11)
  have HC11 := Lib.hid (HC10.out.below hb11)
  have HD11 := Lib.hid hd11
  clear hd11 hb11 hD
  obtain ⟨pp, pc, rfl, hpc, -⟩ := HM11.out.row.sl
  obtain ⟨qp, qc, rfl, hqc, -⟩ := HN11.out.row.sl
  have hMl : M.length = 2 := by have := congrArg List.length HMP.out; rw [List.length_map] at this; exact this
  have hNl : N.length = 2 := by have := congrArg List.length HNP.out; rw [List.length_map] at this; exact this
  rw [hMl] at hpc HM11 ⊢
  rw [hNl] at hqc HN11 ⊢
  have HML := Lib.hid hMl
  have HNL := Lib.hid hNl
  clear hMl hNl
  go_wp2_with fail
  refine (Join_self C D fEnd w11 HC11.out HD11.out few_end).mono ?_
  rintro e w12 ⟨rfl, hc12, hk12⟩
  have HS12 := Lib.hid (HS11.out.kp HC11.out hk12 (by omega))
  have HD12 := Lib.hid (HD11.out.kp HC11.out hk12 (by omega))
  have HM12 := Lib.hid (HM11.out.kp HC11.out hk12)
  have HN12 := Lib.hid (HN11.out.kp HC11.out hk12)
  have HC12 := Lib.hid hc12
  have HB12 := Lib.hid (HB11.out.trans (hk12.below (by omega) (Nat.le_of_lt HS11.out.lt)))
  clear hc12 hk12
  obtain ⟨pb, po, pcc, pp2, hpe, -, -, HPP, HPC⟩ := HM12.out.row.has.open
  obtain ⟨qb, qo, qcc, qp2, hqe, -, -, HQP, HQC⟩ := HN12.out.row.has.open
  rw [HML.out] at hpe HPP
  rw [HNL.out] at hqe HQP
  simp only [Value.slice.injEq] at hpe hqe
  obtain ⟨rfl, -, rfl⟩ := hpe
  obtain ⟨rfl, -, rfl⟩ := hqe
  obtain ⟨rfl, hpb⟩ := HPP.out (by decide)
  obtain ⟨rfl, hqb⟩ := HQP.out (by decide)
  have hM1 : (M[1]'(by rw [HML.out]; decide)).nm = ⟨1, [3, 4]⟩ := by
    have := congrArg (fun l => (l[1]?).map Prod.snd) HMP.out
    rw [List.getElem?_map, List.getElem?_eq_getElem (by rw [HML.out]; decide)] at this
    simpa [Pt.pair] using this
  have hN1 : (N[1]'(by rw [HNL.out]; decide)).nm = ⟨4, []⟩ := by
    have := congrArg (fun l => (l[1]?).map Prod.snd) HNP.out
    rw [List.getElem?_map, List.getElem?_eq_getElem (by rw [HNL.out]; decide)] at this
    simpa [Pt.pair] using this
  have d2 := HPC.out 1 (by rw [HML.out]; decide) 2 _ rfl
  have d1 := HQC.out 1 (by rw [HNL.out]; decide) 1 _ rfl
  unfold Pt.val at d2
  rw [hM1] at d2
  rw [hN1] at d1
  rw [show encP.k = 3 from rfl, Nat.one_mul] at d1 d2
  go_wp2_with fail
  refine (Encode_any S fEnd w12 HS12.out).mono ?_
  rw [enc_end]
  rintro e w13 ⟨v13, rfl, ho13, hb13⟩
  have HS13 := Lib.hid (HS12.out.below hb13)
  have HD13 := Lib.hid (HD12.out.below hb13)
  have HC13 := Lib.hid (HC12.out.below hb13)
  have HB13 := Lib.hid (HB12.out.trans (hb13.mono (Nat.le_of_lt HS12.out.lt)))
  obtain ⟨p13, c13, rfl, -, -⟩ := ho13.has.form
  have hcv := ho13.has.string (P := Try.prog) (src := 28) (dst := 9) (e := 5) Try.underlying28 Try.underlying5 Try.underlying9
  replace hcv : (convert 28 9 (.slice p13 8 c13)).run Try.prog w13 = .ok (.string ⟨#[2, 0, 0, 1, 5, 2, 4, 0]⟩) w13 := hcv
  clear ho13 hb13 d1 d2
  go_wp2_with fail
  refine (Within_any D S fEnd fEnd w13 HD13.out HS13.out).mono ?_
  rw [within_end]
  rintro e w14 ⟨rfl, hb14⟩
  have HS14 := Lib.hid (HS13.out.below hb14)
  have HD14 := Lib.hid (HD13.out.below hb14)
  have HC14 := Lib.hid (HC13.out.below hb14)
  have HB14 := Lib.hid (HB13.out.trans (hb14.mono (Nat.le_of_lt HS13.out.lt)))
  clear hb14 hcv
  go_wp2_with fail
  refine (Within_any S D fEnd fEnd w14 HS14.out HD14.out).mono ?_
  rw [within_end]
  rintro e w15 ⟨rfl, hb15⟩
  have HS15 := Lib.hid (HS14.out.below hb15)
  have HC15 := Lib.hid (HC14.out.below hb15)
  have HB15 := Lib.hid (HB14.out.trans (hb15.mono (Nat.le_of_lt HS14.out.lt)))
  clear hb15
  go_wp2_with fail
  refine (Has_any S fEnd 0 5 w15 HS15.out).mono ?_
  rw [has_end1]
  rintro e w16 ⟨rfl, hb16⟩
  have HS16 := Lib.hid (HS15.out.below hb16)
  have HC16 := Lib.hid (HC15.out.below hb16)
  have HB16 := Lib.hid (HB15.out.trans (hb16.mono (Nat.le_of_lt HS15.out.lt)))
  clear hb16
  go_wp2_with fail
  refine (Has_any S fEnd 0 1 w16 HS16.out).mono ?_
  rw [has_end2]
  rintro e w17 ⟨rfl, hb17⟩
  have HC17 := Lib.hid (HC16.out.below hb17)
  have HB17 := Lib.hid (HB16.out.trans (hb17.mono (Nat.le_of_lt HS16.out.lt)))
  have hsz17 : S ≤ w17.heap.size := Nat.le_trans (Nat.le_of_lt HS16.out.lt) hb17.size
  clear hb17
  go_wp2_with fail
  refine (Parts_any C fEnd w17 HC17.out).mono ?_
  rw [parts_q]
  rintro e w18 ⟨v18, K18, rfl, hM18, hMp18, hb18⟩
  have hl18 : K18.length = 2 := by have := congrArg List.length hMp18; rw [List.length_map] at this; exact this
  obtain ⟨p18, c18, rfl, -, -⟩ := hM18.row.sl
  rw [hl18]
  have HB18 := Lib.hid (HB17.out.trans (hb18.mono hsz17))
  have hsz18 := Nat.le_trans hsz17 hb18.size
  clear hM18 hMp18 hl18 hb18 hsz17
  go_wp2_with fail
  refine (Less_any 3 1 1 2 w18).mono ?_
  rw [show lessB 3 1 1 2 = true from rfl]
  rintro e w19 ⟨rfl, hb19⟩
  have HB19 := Lib.hid (HB18.out.trans (hb19.mono hsz18))
  have hsz19 := Nat.le_trans hsz18 hb19.size
  clear hb19 hsz18
  go_wp2_with fail
  refine (Good_any 0 1 w19).mono ?_
  rw [show goodB 0 1 = true from rfl]
  rintro e w20 ⟨rfl, hb20⟩
  have HB20 := Lib.hid (HB19.out.trans (hb20.mono hsz19))
  clear hb20 hsz19
  go_wp2
  go_ret
  rw [HSS.out]
  exact ⟨rfl, HB20.out⟩
end Go.Proofs.Ytfgfamafjkjakaa
