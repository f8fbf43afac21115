/-
  The statement BinKnown holds: chapter 3, its examples: the closed law answers true, in whatever memory it is called. No condition.
-/
import Derived.Test.YtlmpokkpkglbfaaRows
import Derived.Test.YtlmpokkpkglbfaaStay
import Derived.Test.YtlmpokkpkglbfaaBinAwake
import Derived.WalkKit
import Derived.ProofKit
import Derived.OpenShut
namespace Go.Proofs.Ytlmpokkpkglbfaa.binKnown
open Go.ChangeShapes Go.WideShapes Go.ChangeAt Go.RowKit Go.Deep
set_option linter.unusedVariables false

theorem own : ownKnob Try.prog.godebug = none := by kernel_rfl
theorem laidOut : laidOutB Try.prog = true := by kernel_rfl
set_option maxRecDepth 100000 in
set_option maxHeartbeats 2000000 in
theorem walk (w : World) :
    Calls Try.prog 3 #[] w fun e w' => e = .returned (.bool true) ∧ Below w.heap.size w w' := by
  go_enter Try.func3, Try.ntmps3
  go_wp2_with fail
  refine (awake w).mono ?_
  rintro e w0 ⟨rfl, hb⟩
  have HB := Lib.hid hb
  have hs0 := hb.size
  clear hb
  go_wp2_with fail
  refine (Read_any _ [3, 97] _ (has_lits w0 _ [3, 97] (by decide)) (by decide)).mono ?_
  rintro e w1 ⟨R, rfl, hR, hb⟩
  have hBR := hR.base
  simp only [World.size_alloc] at hBR
  have HR := Lib.hid hR
  have HB : Hid (Below w.heap.size w w1) := Lib.hid ((HB.out.alloc hs0 _).trans (hb.mono (by simp; omega)))
  clear hR hb
  go_wp2_with fail
  refine (Text_at _ _ R _ 0 false 9 (by decide) (by decide) HR.out [] 1 true (by decide)).mono ?_
  rintro e w2 ⟨rfl, hR, ho⟩
  have HR := Lib.hid hR
  have HB := Lib.hid (below_only HB.out ho (by omega))
  have hs2 := HB.out.size
  have hRl := hR.lt
  clear hR ho
  go_wp2_with fail
  refine (Read_any _ [5, 1] _ (has_lits w2 _ [5, 1] (by decide)) (by decide)).mono ?_
  rintro e w3 ⟨Q, rfl, hQ, hb⟩
  have hBQ := hQ.base
  simp only [World.size_alloc] at hBQ
  have HQ := Lib.hid hQ
  have HR := Lib.hid ((HR.out.below ((Below.refl _ _).alloc (Nat.le_refl _) _)).below hb)
  have HB : Hid (Below w.heap.size w w3) := Lib.hid ((HB.out.alloc hs2 _).trans (hb.mono (by simp; omega)))
  clear hQ hb
  go_wp2_with fail
  refine (Int_at _ _ Q _ 0 false 4 (by decide) (by decide) HQ.out 0 1 true (by decide)).mono ?_
  rintro e w4 ⟨rfl, hQ, ho⟩
  have HQ := Lib.hid hQ
  have HR := Lib.hid (HR.out.other ho (.inr (by omega)))
  have HB := Lib.hid (below_only HB.out ho (by omega))
  clear hQ ho
  go_wp2_with fail
  refine (Err_at _ _ R _ 1 true HR.out 14 (by decide)).mono ?_
  rintro e w5 ⟨rfl, hR, ho⟩
  have HR := Lib.hid hR
  have HQ := Lib.hid (HQ.out.other ho (.inl (by simp; omega)))
  have HB := Lib.hid (below_only HB.out ho (by omega))
  clear hR ho
  go_wp2_with fail
  refine (Left_at _ _ R _ 1 true HR.out 0 (by decide)).mono ?_
  rintro e w6 ⟨rfl, hR, ho⟩
  have HR := Lib.hid hR
  have HQ := Lib.hid (HQ.out.other ho (.inl (by simp; omega)))
  have HB := Lib.hid (below_only HB.out ho (by omega))
  clear hR ho
  go_wp2_with fail
  refine (Byte_at _ _ R _ 1 true HR.out 0 1 true (by decide)).mono ?_
  rintro e w7 ⟨rfl, hR, ho⟩
  have HQ := Lib.hid (HQ.out.other ho (.inl (by simp; omega)))
  have HB := Lib.hid (below_only HB.out ho (by omega))
  clear hR ho HR
  go_wp2_with fail
  refine (Err_at _ _ Q _ 1 true HQ.out 14 (by decide)).mono ?_
  rintro e w8 ⟨rfl, hQ, ho⟩
  have HQ := Lib.hid hQ
  have HB := Lib.hid (below_only HB.out ho (by omega))
  clear hQ ho
  go_wp2_with fail
  refine (End_at _ _ Q _ 1 true HQ.out 14 (by decide)).mono ?_
  rintro e w9 ⟨rfl, hQ, ho⟩
  have HB := Lib.hid (below_only HB.out ho (by omega))
  have hs9 := HB.out.size
  clear hQ ho HQ
  go_wp2_with fail
  refine (Read_any _ [] _ (has_nil w9) (by decide)).mono ?_
  rintro e w10 ⟨S, rfl, hS, hb⟩
  have hBS := hS.base
  have HS := Lib.hid hS
  have HB := Lib.hid (HB.out.trans (hb.mono hs9))
  clear hS hb
  go_wp2_with fail
  refine (End_at _ _ S _ 0 false HS.out 0 (by decide)).mono ?_
  rintro e w11 ⟨rfl, hS, ho⟩
  have HB := Lib.hid (below_only HB.out ho (by omega))
  have hs11 := HB.out.size
  clear hS ho HS
  go_wp2_with fail
  refine (Read_any _ [1] _ (has_lits w11 _ [1] (by decide)) (by decide)).mono ?_
  rintro e w12 ⟨T, rfl, hT, hb⟩
  have hBT := hT.base
  simp only [World.size_alloc] at hBT
  have HT := Lib.hid hT
  have HB : Hid (Below w.heap.size w w12) := Lib.hid ((HB.out.alloc hs11 _).trans (hb.mono (by simp; omega)))
  clear hT hb
  go_wp2_with fail
  refine (End_at _ _ T _ 0 false HT.out 14 (by decide)).mono ?_
  rintro e w13 ⟨rfl, hT, ho⟩
  have HB := Lib.hid (below_only HB.out ho (by omega))
  clear hT ho HT
  go_wp2
  go_ret
  exact ⟨rfl, HB.out⟩

set_option maxRecDepth 100000 in
theorem lifted (os : Os) (started : os.Started) (H : Type) (enc : TypeId × Value → H) :
    ReturnsInHanded {} Try.checked os 3 .any (Rows.binKnownSpec.pre6 enc Try.prog Try.f3 Rows.binKnownRow.domain false) (Rows.binKnownSpec.post enc Try.prog Try.f3 false true false false) := by
  refine returnsInHanded_of_change (C := Try.checked) own started (by kernel_rfl) Try.func3
    (ChangeSpec.witness6 (enc := enc) (C := Try.checked) false ⟨#[], #[], []⟩ 8 (by kernel_rfl) (by kernel_rfl) (by kernel_rfl) (by kernel_rfl)) ?_
  intro W base args ds gs before hval0 hW hcnd _
  have hval : ∀ (j : Nat) t v, Try.f3.params[j]? = some t → args[j]? = some v → Value.okWide Try.prog W .any base t v := hval0
  have hW' := hW
  obtain ⟨p, q, hA0, hV, rfl, hfz, hnd⟩ := hW
  have hA : DataW.TrodAll enc Try.prog W 0 (fun _ => true) true Try.f3.params.toList args.toList ds p := hA0
  have hAk := hA
  rw [Try.params3] at hA hval
  obtain ⟨rfl, rfl, rfl⟩ := trodAll_none hA
  obtain ⟨rfl, rfl⟩ := trodVars_none hV
  skip
  clear hA0 hval0
  refine (walk   W).mono fun e W' ⟨he, hb⟩ => ?_
  subst he
  exact ⟨_, rfl, law_post laidOut rfl hW' hAk (by rw [Try.params3]; intro t ht; revert t; decide +kernel) (by kernel_rfl) Try.underlying4 rfl hb⟩

theorem over : Rows.binKnownRow.holds Try.pinned (OpenSpec.ofChange Rows.binKnownSpec) :=
  OpenClaim.holds_of_wide 3 Try.f3 rfl rfl rfl rfl rfl rfl rfl ⟨rfl, rfl, rfl, rfl, rfl⟩ rfl rfl rfl rfl rfl (by kernel_rfl) Try.func3 (by kernel_rfl)
    (of_decide_eq_true (by kernel_rfl)) (by unfold Func.isWrapper; first | (rw [if_pos (by decide +kernel)]; kernel_rfl) | (rw [if_neg (by decide +kernel)]; exact ⟨rfl, rfl⟩))
    (fun os started H enc _ => lifted os started H enc)

/-- The statement. -/
theorem proved : Rows.BinKnownSaid :=
  over
#print axioms proved
end Go.Proofs.Ytlmpokkpkglbfaa.binKnown
