/-
  The statement DotParts holds: a set's form tells just its dots; sets are the same just if they are within one another. No condition.
-/
import Derived.Test.YtfgfamafjkjakabRows
import Derived.Test.YtfgfamafjkjakabStay
import Derived.Test.YtfgfamafjkjakabDotPartsW
import Derived.Test.YtfgfamafjkjakabDotsOf
import Derived.WalkKit
import Derived.ProofKit
import Derived.OpenShut
import Derived.SizedLaws
namespace Go.Proofs.Ytfgfamafjkjakab.dotParts
open Go.ChangeShapes Go.WideShapes Go.ChangeAt Go.RowKit Go.Deep
set_option linter.unusedVariables false
set_option linter.unusedSimpArgs false

theorem own : ownKnob Try.prog.godebug = none := by kernel_rfl
theorem laidOut : laidOutB Try.prog = true := by kernel_rfl
theorem walk (W : World) (p : Option Addr) (n cap b o : Nat) (p' : Option Addr) (n' cap' b' o' : Nat) (hl : n ≤ cap) (hm : cap ≤ maxLen) (hp : 0 < n → p = some ⟨b, o, none⟩ ∧ b < W.heap.size) (hQ : ∃ (D : Nat → Int) (N : Nat → Nat), Dots W b o n D N) (hl' : n' ≤ cap') (hm' : cap' ≤ maxLen) (hp' : 0 < n' → p' = some ⟨b', o', none⟩ ∧ b' < W.heap.size) (hQ' : ∃ (D : Nat → Int) (N : Nat → Nat), Dots W b' o' n' D N) :
    Calls Try.prog 3 #[.slice p n cap, .slice p' n' cap'] W fun e w' => e = .returned (.bool true) ∧ Below W.heap.size W w' := by
  obtain ⟨D, N, hD⟩ := hQ
  obtain ⟨D', N', hD'⟩ := hQ'
  exact DotParts_any p n cap b o D N p' n' cap' b' o' D' N' W (fun h => (hp h).1) hl hm hD (fun h => (hp' h).1) hl' hm' hD'

set_option maxRecDepth 100000 in
theorem lifted (os : Os) (started : os.Started) (H : Type) (enc : TypeId × Value → H) :
    ReturnsInHanded {} Try.checked os 3 .any (Rows.dotPartsSpec.pre6 enc Try.prog Try.f3 Rows.dotPartsRow.domain false) (Rows.dotPartsSpec.post enc Try.prog Try.f3 false true false false) := by
  refine returnsInHanded_of_change_sized (C := Try.checked) own started (by kernel_rfl) Try.func3
    (ChangeSpec.witness6 (enc := enc) (C := Try.checked) false ⟨#[], #[.slice none 0 0, .slice none 0 0], []⟩ 8 (by kernel_rfl) (by kernel_rfl) (by kernel_rfl) (by kernel_rfl)) ?_
  intro W base args ds gs before hval0 hW hcnd hsz0 _
  have hsz : (DataW.weightsEach Try.prog (Try.f3.params.toList ++ Rows.dotPartsSpec.plain.varTypes Try.prog) (ds ++ gs)).all (· ≤ reachBytes) = true := hsz0
  clear hsz0
  have hval : ∀ (j : Nat) t v, Try.f3.params[j]? = some t → args[j]? = some v → Value.okWide Try.prog W .any base t v := hval0
  have hW' := hW
  obtain ⟨p, q, hA0, hV, rfl, hfz, hnd⟩ := hW
  have hA : DataW.TrodAll enc Try.prog W 0 (fun _ => true) true Try.f3.params.toList args.toList ds p := hA0
  have hAk := hA
  rw [Try.params3] at hA hval hsz
  obtain ⟨v0, vs0, d0, ds0, p0, q0, hargs, rfl, rfl, h0, r0⟩ := trodAll_cons hA
  obtain ⟨v1, vs1, d1, ds1, p1, q1, rfl, rfl, rfl, h1, r1⟩ := trodAll_cons r0
  obtain ⟨rfl, rfl, rfl⟩ := trodAll_nil r1
  obtain rfl : args = #[v0, v1] := by cases args; simp_all
  obtain ⟨rfl, rfl⟩ := trodVars_none hV
  obtain ⟨pt0, len0, cap0, rfl⟩ := okWide_slice Try.underlying22 (hval 0 22 v0 rfl rfl)
  obtain ⟨hl0, hm0, hs0, b0, o0, hp0, hF0⟩ := open_structsR hsz (j := 0) (t := 22) rfl rfl Try.underlying22 Try.underlying37 (by kernel_rfl) (by kernel_rfl) (by decide) h0
  have hQ0 := dots_of Try.underlying37 hF0
  obtain ⟨pt1, len1, cap1, rfl⟩ := okWide_slice Try.underlying22 (hval 1 22 v1 rfl rfl)
  obtain ⟨hl1, hm1, hs1, b1, o1, hp1, hF1⟩ := open_structsR hsz (j := 1) (t := 22) rfl rfl Try.underlying22 Try.underlying37 (by kernel_rfl) (by kernel_rfl) (by decide) h1
  have hQ1 := dots_of Try.underlying37 hF1
  clear hA0 hval0
  refine (walk W pt0 len0 cap0 b0 o0 pt1 len1 cap1 b1 o1 hl0 hm0 hp0 hQ0 hl1 hm1 hp1 hQ1).mono fun e W' ⟨he, hb⟩ => ?_
  subst he
  exact ⟨_, rfl, law_post laidOut rfl hW' hAk (by rw [Try.params3]; intro t ht; revert t; decide +kernel) (by kernel_rfl) Try.underlying4 rfl hb⟩

theorem over : Rows.dotPartsRow.holds Try.pinned (OpenSpec.ofChange Rows.dotPartsSpec) :=
  OpenClaim.holds_of_wide 3 Try.f3 rfl rfl rfl rfl rfl rfl rfl ⟨rfl, rfl, rfl, rfl, rfl⟩ rfl rfl rfl rfl rfl (by kernel_rfl) Try.func3 (by kernel_rfl)
    (of_decide_eq_true (by kernel_rfl)) (by unfold Func.isWrapper; first | (rw [if_pos (by decide +kernel)]; kernel_rfl) | (rw [if_neg (by decide +kernel)]; exact ⟨rfl, rfl⟩))
    (fun os started H enc _ => lifted os started H enc)

/-- The statement. -/
theorem proved : Rows.DotPartsSaid :=
  over
#print axioms proved
end Go.Proofs.Ytfgfamafjkjakab.dotParts
