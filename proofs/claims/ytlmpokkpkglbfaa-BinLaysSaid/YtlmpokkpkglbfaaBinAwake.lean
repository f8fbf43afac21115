/-
  The closed run with which each law of package bin begins answers true.
-/
import Derived.Test.YtlmpokkpkglbfaaReader2
namespace Go.Proofs.Ytlmpokkpkglbfaa
open Go.ChangeShapes Go.WideShapes Go.ChangeAt Go.RowKit Go.Deep
set_option linter.unusedVariables false
theorem uv_300 : Lib.uvarint 300 = [172, 2] := by rw [Lib.uvarint_big (by decide), Lib.uvarint_small (by decide)]; rfl
theorem uv_2 : Lib.uvarint 2 = [2] := by rw [Lib.uvarint_small (by decide)]; rfl
theorem Uint_300 (w : World) : Calls Try.prog 17 #[.slice none 0 0, .int .u64 300] w fun e w' => ∃ p c, e = .returned (.slice p 2 c) ∧ Has w' (.slice p 2 c) [172, 2] ∧ Below w.heap.size w w' := by
  refine (Uint_any 300 (by omega) (.slice none 0 0) [] w (has_nil w) (by simp)).mono ?_
  rintro e w' ⟨v', rfl, ho, hb⟩
  rw [uv_300] at ho
  obtain ⟨p, c, rfl, _⟩ := ho.has.form
  exact ⟨p, c, rfl, ho.has, hb⟩
theorem Text_ab (w w0 : World) (v : Value) (hv : Has w v [5]) : Calls Try.prog 18 #[v, .string ⟨#[97, 98]⟩] w fun e w' => ∃ p c, e = .returned (.slice p 4 c) ∧ Has w' (.slice p 4 c) [5, 2, 97, 98] ∧ Below w.heap.size w w' := by
  refine (Text_any ⟨#[97, 98]⟩ v [5] w hv (by decide)).mono ?_
  rintro e w' ⟨v', rfl, ho, hb⟩
  have hs : (⟨#[97, 98]⟩ : ByteArray).size = 2 := rfl
  rw [hs, uv_2] at ho
  obtain ⟨p, c, rfl, _⟩ := ho.has.form
  exact ⟨p, c, rfl, ho.has, hb⟩

set_option maxRecDepth 100000 in
set_option maxHeartbeats 2000000 in
theorem awake (w : World) :
    Calls Try.prog 9 #[] w fun e w' => e = .returned (.bool true) ∧ Below w.heap.size w w' := by
  go_enter Try.func9, Try.ntmps9
  go_wp2_with fail
  refine (Read_any _ [172, 2, 1, 120] _ (has_lits w _ [172, 2, 1, 120] (by decide)) (by decide)).mono ?_
  rintro e w1 ⟨R, rfl, hR, hb⟩
  have hBR := hR.base
  simp only [World.size_alloc] at hBR
  have HR := Lib.hid hR
  have HB : Hid (Below w.heap.size w w1) := Lib.hid (((Below.refl _ _).alloc (Nat.le_refl _) _).trans (hb.mono (by simp)))
  clear hR hb
  go_wp2_with fail
  refine (Uint_at _ _ R _ 0 false HR.out 300 2 false (by decide)).mono ?_
  rintro e w2 ⟨rfl, hR, ho⟩
  have HR := Lib.hid hR
  have HB := Lib.hid (below_only HB.out ho (by omega))
  clear hR ho
  go_wp2_with fail
  refine (Left_at _ _ R _ 2 false HR.out 2 (by decide)).mono ?_
  rintro e w3 ⟨rfl, hR, ho⟩
  have HR := Lib.hid hR
  have HB := Lib.hid (below_only HB.out ho (by omega))
  clear hR ho
  go_wp2_with fail
  refine (Text_at _ _ R _ 2 false 5 (by decide) (by decide) HR.out [120] 4 false (by decide)).mono ?_
  rintro e w4 ⟨rfl, hR, ho⟩
  have HR := Lib.hid hR
  have HB := Lib.hid (below_only HB.out ho (by omega))
  clear hR ho
  go_wp2_with fail
  refine (End_at _ _ R _ 4 false HR.out 0 (by decide)).mono ?_
  rintro e w5 ⟨rfl, hR, ho⟩
  have HB := Lib.hid (below_only HB.out ho (by omega))
  have hsz := HB.out.size
  clear hR ho HR
  go_wp2_with fail
  refine (Read_any _ [128, 0] _ (has_lits w5 _ [128, 0] (by decide)) (by decide)).mono ?_
  rintro e w6 ⟨Q, rfl, hQ, hb⟩
  have hBQ := hQ.base
  have hQl := hQ.lt
  simp only [World.size_alloc] at hBQ
  have HQ := Lib.hid hQ
  have HB : Hid (Below w.heap.size w w6) := Lib.hid ((HB.out.alloc hsz _).trans (hb.mono (by simp; omega)))
  clear hQ hb
  go_wp2_with fail
  refine (Uint_at _ _ Q _ 0 false HQ.out 0 0 true (by decide)).mono ?_
  rintro e w7 ⟨rfl, hQ, ho⟩
  have HQ := Lib.hid hQ
  have HB := Lib.hid (below_only HB.out ho (by omega))
  have hsz7 := HB.out.size
  have hQl := hQ.lt
  clear hQ ho
  go_wp2_with fail
  refine (Read_any _ [7, 9] _ (has_lits w7 _ [7, 9] (by decide)) (by decide)).mono ?_
  rintro e w8 ⟨S, rfl, hS, hb⟩
  have hBS := hS.base
  simp only [World.size_alloc] at hBS
  have HS := Lib.hid hS
  have HQ := Lib.hid ((HQ.out.below ((Below.refl _ _).alloc (Nat.le_refl _) _)).below hb)
  have HB : Hid (Below w.heap.size w w8) := Lib.hid ((HB.out.alloc hsz7 _).trans (hb.mono (by simp; omega)))
  have hsz8 := HB.out.size
  clear hS hb
  go_wp2_with fail
  refine (Uint_300 w8).mono ?_
  rintro e w9 ⟨p9, c9, rfl, h9, hb⟩
  have hk9 := h9.string Try.underlying25 Try.underlying5 Try.underlying9
  have HS := Lib.hid (HS.out.below hb)
  have HQ := Lib.hid (HQ.out.below hb)
  have HB := Lib.hid (HB.out.trans (hb.mono hsz8))
  have hsz9 := HB.out.size
  clear h9 hb
  go_wp2_with fail
  refine (Text_ab _ w _ (has_lits w9 _ [5] (by decide))).mono ?_
  rintro e w10 ⟨p10, c10, rfl, h10, hb⟩
  have hk10 := h10.string Try.underlying25 Try.underlying5 Try.underlying9
  have hb' := ((Below.refl w9.heap.size w9).alloc (Nat.le_refl _) (.cells (Lib.byteCells [5]).toArray 5)).trans (hb.mono (by simp))
  have HS := Lib.hid (HS.out.below hb')
  have HQ := Lib.hid (HQ.out.below hb')
  have HB := Lib.hid (HB.out.trans (hb'.mono hsz9))
  clear h10 hb hb' hk9
  go_wp2_with fail
  refine (Err_at _ _ Q _ 0 true HQ.out 14 (by decide)).mono ?_
  rintro e w11 ⟨rfl, hQ, ho⟩
  have HS := Lib.hid (HS.out.other ho (.inl (by simp; omega)))
  have HB := Lib.hid (below_only HB.out ho (by omega))
  clear hQ ho HQ hk10
  go_wp2_with fail
  refine (Int_at _ _ S _ 0 false 7 (by decide) (by decide) HS.out 7 1 false (by decide)).mono ?_
  rintro e w12 ⟨rfl, hS, ho⟩
  have HS := Lib.hid hS
  have HB := Lib.hid (below_only HB.out ho (by omega))
  clear hS ho
  go_wp2_with fail
  refine (Byte_at _ _ S _ 1 false HS.out 9 2 false (by decide)).mono ?_
  rintro e w13 ⟨rfl, hS, ho⟩
  have HS := Lib.hid hS
  have HB := Lib.hid (below_only HB.out ho (by omega))
  clear hS ho
  go_wp2_with fail
  refine (Err_at _ _ S _ 2 false HS.out 0 (by decide)).mono ?_
  rintro e w14 ⟨rfl, hS, ho⟩
  have HB := Lib.hid (below_only HB.out ho (by omega))
  clear hS ho HS
  go_wp2
  go_ret
  exact ⟨rfl, HB.out⟩
end Go.Proofs.Ytlmpokkpkglbfaa
