/-
  The statement DotSets holds: a set of any dots is, in its form and its bytes, what the document says; asked for any dot; copied and read back. No condition.
-/
import Derived.Test.YtfgfamafjkjakaaRows
import Derived.Test.YtfgfamafjkjakaaStay
import Derived.Test.YtfgfamafjkjakaaDotSetsW
import Derived.Test.YtfgfamafjkjakaaDotsOf
import Derived.Test.YtfgfamafjkjakaaOpenGS
import Derived.WalkKit
import Derived.ProofKit
import Derived.OpenShut
import Derived.SizedLaws
namespace Go.Proofs.Ytfgfamafjkjakaa.dotSets
open Go.ChangeShapes Go.WideShapes Go.ChangeAt Go.RowKit Go.Deep
set_option linter.unusedVariables false
set_option linter.unusedSimpArgs false

theorem own : ownKnob Try.prog.godebug = none := by kernel_rfl
theorem laidOut : laidOutB Try.prog = true := by kernel_rfl
theorem walk (W : World) (p : Option Addr) (n cap b o : Nat) (a1 b1 : Int) (hl : n ≤ cap) (hm : cap ≤ maxLen) (hp : 0 < n → p = some ⟨b, o, none⟩ ∧ b < W.heap.size) (hQ : ∃ (D : Nat → Int) (N : Nat → Nat), Dots W b o n D N) (wa1 : (Lit.int .i64 a1).wf = true) (wb1 : (Lit.int .u64 b1).wf = true) :
    Calls Try.prog 4 #[.slice p n cap, .agg #[.int .i64 a1, .int .u64 b1]] W fun e w' => e = .returned (.bool true) ∧ Below W.heap.size W w' := by
  obtain ⟨D, N, hD⟩ := hQ
  have h : IntKind.u64.min ≤ b1 ∧ b1 ≤ IntKind.u64.max := by simpa [Lit.wf] using wb1
  have h0 : IntKind.u64.min = 0 := by rfl
  obtain ⟨m, rfl⟩ : ∃ m : Nat, b1 = (m : Int) := ⟨b1.toNat, by omega⟩
  exact DotSets_any p n cap b o D N a1 m W (fun h => (hp h).1) hl hm hD

set_option maxRecDepth 100000 in
theorem lifted (os : Os) (started : os.Started) (H : Type) (enc : TypeId × Value → H) :
    ReturnsInHanded {} Try.checked os 4 .any (Rows.dotSetsSpec.pre6 enc Try.prog Try.f4 Rows.dotSetsRow.domain false) (Rows.dotSetsSpec.post enc Try.prog Try.f4 false true false false) := by
  refine returnsInHanded_of_change_sized (C := Try.checked) own started (by kernel_rfl) Try.func4
    (ChangeSpec.witness6 (enc := enc) (C := Try.checked) false ⟨#[], #[.slice none 0 0, .agg #[.int .i64 0, .int .u64 0]], []⟩ 8 (by kernel_rfl) (by kernel_rfl) (by kernel_rfl) (by kernel_rfl)) ?_
  intro W base args ds gs before hval0 hW hcnd hsz0 _
  have hsz : (DataW.weightsEach Try.prog (Try.f4.params.toList ++ Rows.dotSetsSpec.plain.varTypes Try.prog) (ds ++ gs)).all (· ≤ reachBytes) = true := hsz0
  clear hsz0
  have hval : ∀ (j : Nat) t v, Try.f4.params[j]? = some t → args[j]? = some v → Value.okWide Try.prog W .any base t v := hval0
  have hW' := hW
  obtain ⟨p, q, hA0, hV, rfl, hfz, hnd⟩ := hW
  have hA : DataW.TrodAll enc Try.prog W 0 (fun _ => true) true Try.f4.params.toList args.toList ds p := hA0
  have hAk := hA
  rw [Try.params4] at hA hval hsz
  obtain ⟨v0, vs0, d0, ds0, p0, q0, hargs, rfl, rfl, h0, r0⟩ := trodAll_cons hA
  obtain ⟨v1, vs1, d1, ds1, p1, q1, rfl, rfl, rfl, h1, r1⟩ := trodAll_cons r0
  obtain ⟨rfl, rfl, rfl⟩ := trodAll_nil r1
  obtain rfl : args = #[v0, v1] := by cases args; simp_all
  obtain ⟨rfl, rfl⟩ := trodVars_none hV
  obtain ⟨pt0, len0, cap0, rfl⟩ := okWide_slice Try.underlying36 (hval 0 36 v0 rfl rfl)
  obtain ⟨hl0, hm0, hs0, b0, o0, hp0, hF0⟩ := open_structsR hsz (j := 0) (t := 36) rfl rfl Try.underlying36 Try.underlying32 (by kernel_rfl) (by kernel_rfl) (by decide) h0
  have hQ0 := dots_of Try.underlying32 hF0
  obtain ⟨a1, b1, rfl, wa1, wb1⟩ := open_pair Try.underlying32 Try.underlying3 Try.underlying30 rfl rfl (by kernel_rfl) (by kernel_rfl) (by kernel_rfl) (hval 1 32 v1 rfl rfl) h1
  clear hA0 hval0
  refine (walk W pt0 len0 cap0 b0 o0 a1 b1 hl0 hm0 hp0 hQ0 wa1 wb1).mono fun e W' ⟨he, hb⟩ => ?_
  subst he
  exact ⟨_, rfl, law_post laidOut rfl hW' hAk (by rw [Try.params4]; intro t ht; revert t; decide +kernel) (by kernel_rfl) Try.underlying4 rfl hb⟩

theorem over : Rows.dotSetsRow.holds Try.pinned (OpenSpec.ofChange Rows.dotSetsSpec) :=
  OpenClaim.holds_of_wide 4 Try.f4 rfl rfl rfl rfl rfl rfl rfl ⟨rfl, rfl, rfl, rfl, rfl⟩ rfl rfl rfl rfl rfl (by kernel_rfl) Try.func4 (by kernel_rfl)
    (of_decide_eq_true (by kernel_rfl)) (by unfold Func.isWrapper; first | (rw [if_pos (by decide +kernel)]; kernel_rfl) | (rw [if_neg (by decide +kernel)]; exact ⟨rfl, rfl⟩))
    (fun os started H enc _ => lifted os started H enc)

/-- The statement. -/
theorem proved : Rows.DotSetsSaid :=
  over
#print axioms proved
end Go.Proofs.Ytfgfamafjkjakaa.dotSets
