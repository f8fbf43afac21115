/-
  Layer 13's law: DotKnown walked.
-/
import Derived.Test.YtfgfamafjkjakaaDotAwakeW
namespace Go.Proofs.Ytfgfamafjkjakaa
open Go.ChangeShapes Go.WideShapes Go.ChangeAt Go.RowKit Go.Deep
set_option linter.unusedVariables false
set_option linter.unusedSimpArgs false
set_option maxRecDepth 100000 in
theorem dec_k1 : rDec [1, 0, 0, 0] = none := by kernel_rfl
set_option maxRecDepth 100000 in
theorem dec_k2 : rDec [1, 0, 0, 1, 1] = none := by kernel_rfl
set_option maxRecDepth 100000 in
theorem dec_k3 : rDec [0] = some none16 := by kernel_rfl
set_option maxRecDepth 100000 in
theorem add_k1 : addS none16 16 1 = (none16, 1) := by kernel_rfl
set_option maxRecDepth 100000 in
theorem add_k2 : addS none16 0 0 = (none16, 1) := by kernel_rfl
set_option maxRecDepth 100000 in
theorem add_k3 : addS none16 0 1099511627777 = (none16, 1) := by kernel_rfl
set_option maxRecDepth 100000 in
theorem add_k4 : (addS none16 0 1099511627776).2 = 0 := by kernel_rfl
set_option maxRecDepth 100000 in
theorem parts_k : partsS none16 = [] := by kernel_rfl
set_option maxRecDepth 100000 in
set_option maxHeartbeats 16000000 in
theorem DotKnown_any (w : World) :
    Calls Try.prog 3 #[] w fun e w' => e = .returned (.bool true) ∧ Below w.heap.size w w' := by
  go_enter Try.func3, Try.ntmps3
  go_wp2_with fail
  refine (Awake_any w).mono ?_
  rintro e w1 ⟨rfl, hb1⟩
  have HB1 := Lib.hid hb1
  clear hb1
  go_wp2_with fail
  refine (New_any w1).mono ?_
  rintro e w2 ⟨rfl, hs2, hb2⟩
  obtain ⟨S, hS⟩ : ∃ S, w1.heap.size = S := ⟨_, rfl⟩
  have hSw : w.heap.size ≤ S := by rw [← hS]; exact HB1.out.size
  have HB2 := Lib.hid (HB1.out.trans (hb2.mono HB1.out.size))
  rw [hS] at hs2 ⊢
  have HS2 := Lib.hid hs2
  clear hs2 hb2 hS
  go_wp2_with fail
  have hl2 := has_lits w2 5 [1, 0, 0, 0] (by unfold maxLen; decide)
  have hb2 := (Below.refl w2.heap.size w2).alloc (Nat.le_refl _) (.cells #[.int .u8 1, .int .u8 0, .int .u8 0, .int .u8 0] 5)
  replace hl2 : Has (w2.alloc (.cells #[.int .u8 1, .int .u8 0, .int .u8 0, .int .u8 0] 5)) (.slice (some ⟨w2.heap.size, 0, none⟩) 4 4) [1, 0, 0, 0] := hl2
  refine (Decode_any _ [1, 0, 0, 0] _ hl2 (by decide)).mono ?_
  rw [dec_k1]
  rintro e w3 ⟨hb, rfl⟩
  have hbb := hb2.trans (hb.mono hb2.size)
  have HS3 := Lib.hid (HS2.out.below hbb)
  have HB3 := Lib.hid (HB2.out.trans (hbb.mono HB2.out.size))
  clear hl2 hb2 hb hbb
  go_wp2_with fail
  have hl3 := has_lits w3 5 [1, 0, 0, 1, 1] (by unfold maxLen; decide)
  have hb3 := (Below.refl w3.heap.size w3).alloc (Nat.le_refl _) (.cells #[.int .u8 1, .int .u8 0, .int .u8 0, .int .u8 1, .int .u8 1] 5)
  replace hl3 : Has (w3.alloc (.cells #[.int .u8 1, .int .u8 0, .int .u8 0, .int .u8 1, .int .u8 1] 5)) (.slice (some ⟨w3.heap.size, 0, none⟩) 5 5) [1, 0, 0, 1, 1] := hl3
  refine (Decode_any _ [1, 0, 0, 1, 1] _ hl3 (by decide)).mono ?_
  rw [dec_k2]
  rintro e w4 ⟨hb, rfl⟩
  have hbb := hb3.trans (hb.mono hb3.size)
  have HS4 := Lib.hid (HS3.out.below hbb)
  have HB4 := Lib.hid (HB3.out.trans (hbb.mono HB3.out.size))
  clear hl3 hb3 hb hbb
  go_wp2_with fail
  have hl4 := has_lits w4 5 [0] (by unfold maxLen; decide)
  have hb4 := (Below.refl w4.heap.size w4).alloc (Nat.le_refl _) (.cells #[.int .u8 0] 5)
  replace hl4 : Has (w4.alloc (.cells #[.int .u8 0] 5)) (.slice (some ⟨w4.heap.size, 0, none⟩) 1 1) [0] := hl4
  refine (Decode_any _ [0] _ hl4 (by decide)).mono ?_
  rw [dec_k3]
  rintro e w5 ⟨hb, D, rfl, hD, hd⟩
  have hbb := hb4.trans (hb.mono hb4.size)
  have HS5 := Lib.hid (HS4.out.below hbb)
  have HB5 := Lib.hid (HB4.out.trans (hbb.mono HB4.out.size))
  have HD5 := Lib.hid hd
  have hSD : S < D := by have := HS4.out.lt; have h2 := hb4.size; omega
  clear hd hD
  clear hl4 hb4 hb hbb
  go_wp2_with fail
  refine (Add_any S none16 16 1 w5 HS5.out).mono ?_
  rw [add_k1]
  rintro e w6 ⟨rfl, hs, hk⟩
  have HS6 := Lib.hid hs
  have HD6 := Lib.hid (HD5.out.kp HS5.out hk (by omega))
  have HB6 := Lib.hid (HB5.out.trans (hk.below hSw HB5.out.size))
  clear hs hk
  go_wp2_with fail
  refine (Add_any S none16 0 0 w6 HS6.out).mono ?_
  rw [add_k2]
  rintro e w7 ⟨rfl, hs, hk⟩
  have HS7 := Lib.hid hs
  have HD7 := Lib.hid (HD6.out.kp HS6.out hk (by omega))
  have HB7 := Lib.hid (HB6.out.trans (hk.below hSw HB6.out.size))
  clear hs hk
  go_wp2_with fail
  refine (Add_any S none16 0 1099511627777 w7 HS7.out).mono ?_
  rw [add_k3]
  rintro e w8 ⟨rfl, hs, hk⟩
  have HS8 := Lib.hid hs
  have HD8 := Lib.hid (HD7.out.kp HS7.out hk (by omega))
  have HB8 := Lib.hid (HB7.out.trans (hk.below hSw HB7.out.size))
  clear hs hk
  go_wp2_with fail
  refine (Add_any S none16 0 1099511627776 w8 HS8.out).mono ?_
  rw [add_k4]
  rintro e w9 ⟨rfl, hs, hk⟩
  have HS9 := Lib.hid hs
  have HD9 := Lib.hid (HD8.out.kp HS8.out hk (by omega))
  have HB9 := Lib.hid (HB8.out.trans (hk.below hSw HB8.out.size))
  clear hs hk
  go_wp2_with fail
  refine (Parts_any D none16 w9 HD9.out).mono ?_
  rw [parts_k]
  rintro e w10 ⟨v10, K, rfl, hM, hMp, hb10⟩
  have hl : K.length = 0 := by have := congrArg List.length hMp; rw [List.length_map] at this; exact this
  obtain ⟨p10, c10, rfl, -, -⟩ := hM.row.sl
  rw [hl]
  have HB10 := Lib.hid (HB9.out.trans (hb10.mono HB9.out.size))
  clear hM hMp hl hb10
  go_wp2_with fail
  refine (Good_any (-1) 1 w10).mono ?_
  rw [show goodB (-1) 1 = false from rfl]
  rintro e w11 ⟨rfl, hb11⟩
  have HB11 := Lib.hid (HB10.out.trans (hb11.mono HB10.out.size))
  clear hb11
  go_wp2
  go_ret
  exact ⟨rfl, HB11.out⟩
end Go.Proofs.Ytfgfamafjkjakaa
