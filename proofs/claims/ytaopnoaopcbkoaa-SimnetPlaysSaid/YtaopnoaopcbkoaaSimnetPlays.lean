/-
  The statement SimnetPlays holds: the network does, call by call, what the document says. No condition.
-/
import Derived.Test.YtaopnoaopcbkoaaRows
import Derived.Test.YtaopnoaopcbkoaaStay
import Derived.Test.YtaopnoaopcbkoaaOpenS
import Derived.Test.YtaopnoaopcbkoaaPlaysWalk
import Derived.WalkKit
import Derived.ProofKit
import Derived.OpenShut
import Derived.SizedLaws
namespace Go.Proofs.Ytaopnoaopcbkoaa.simnetPlays
open Go.ChangeShapes Go.WideShapes Go.ChangeAt Go.RowKit Go.Deep
set_option linter.unusedVariables false
set_option linter.unusedSimpArgs false

theorem own : ownKnob Try.prog.godebug = none := by kernel_rfl
theorem laidOut : laidOutB Try.prog = true := by kernel_rfl
theorem asked_of {H : Type} {enc : TypeId × Value → H} {W : World} {b o len : Nat} {fs : Array Field} (he : Try.prog.underlying 44 = some (.struct fs))
    (h : ∀ i, i < len → ∀ (j : Nat) (f : Field), fs[j]? = some f → ∃ v, W.cell? ⟨b, o + i * fs.size + j, none⟩ = some v ∧ Fld enc Try.prog W f.type v) : Asked W b o len := by
  rw [Try.underlying44] at he
  cases he
  intro i hi
  obtain ⟨v0, c0, F0⟩ := h i hi 0 _ rfl
  obtain ⟨v1, c1, F1⟩ := h i hi 1 _ rfl
  obtain ⟨v2, c2, F2⟩ := h i hi 2 _ rfl
  obtain ⟨v3, c3, F3⟩ := h i hi 3 _ rfl
  obtain ⟨z0, rfl, w0⟩ := F0.int Try.underlying3
  obtain ⟨z1, rfl, w1⟩ := F1.int Try.underlying3
  obtain ⟨z2, rfl, w2⟩ := F2.int Try.underlying3
  obtain ⟨s, rfl, hs⟩ := F3.string Try.underlying9
  simp only [Lit.wf, Bool.and_eq_true, decide_eq_true_eq] at w1 w2
  exact ⟨z0, z1, z2, s, c0, c1, c2, c3, w1, w2, hs⟩
theorem walk : type_of% @plays_any := @plays_any

set_option maxRecDepth 100000 in
theorem lifted (os : Os) (started : os.Started) (H : Type) (enc : TypeId × Value → H) :
    ReturnsInHanded {} Try.checked os 4 .any (Rows.simnetPlaysSpec.pre6 enc Try.prog Try.f4 Rows.simnetPlaysRow.domain false) (Rows.simnetPlaysSpec.post enc Try.prog Try.f4 false true false false) := by
  refine returnsInHanded_of_change_sized (C := Try.checked) own started (by kernel_rfl) Try.func4
    (ChangeSpec.witness6 (enc := enc) (C := Try.checked) false ⟨#[], #[.slice none 0 0], []⟩ 8 (by kernel_rfl) (by kernel_rfl) (by kernel_rfl) (by kernel_rfl)) ?_
  intro W base args ds gs before hval0 hW hcnd hsz0 _
  have hsz : (DataW.weightsEach Try.prog (Try.f4.params.toList ++ Rows.simnetPlaysSpec.plain.varTypes Try.prog) (ds ++ gs)).all (· ≤ reachBytes) = true := hsz0
  clear hsz0
  have hval : ∀ (j : Nat) t v, Try.f4.params[j]? = some t → args[j]? = some v → Value.okWide Try.prog W .any base t v := hval0
  have hW' := hW
  obtain ⟨p, q, hA0, hV, rfl, hfz, hnd⟩ := hW
  have hA : DataW.TrodAll enc Try.prog W 0 (fun _ => true) true Try.f4.params.toList args.toList ds p := hA0
  have hAk := hA
  rw [Try.params4] at hA hval hsz
  obtain ⟨v0, vs0, d0, ds0, p0, q0, hargs, rfl, rfl, h0, r0⟩ := trodAll_cons hA
  obtain ⟨rfl, rfl, rfl⟩ := trodAll_nil r0
  obtain rfl : args = #[v0] := by cases args; simp_all
  obtain ⟨rfl, rfl⟩ := trodVars_none hV
  obtain ⟨pt0, len0, cap0, rfl⟩ := okWide_slice Try.underlying36 (hval 0 36 v0 rfl rfl)
  obtain ⟨hl0, hm0, hs0, b0, o0, hp0, hF0⟩ := open_structsR hsz (j := 0) (t := 36) rfl rfl Try.underlying36 Try.underlying44 (by kernel_rfl) (by kernel_rfl) (by decide) h0
  have hQ0 := asked_of Try.underlying44 hF0
  clear hA0 hval0
  refine (walk W pt0 len0 cap0 b0 o0 hl0 hm0 hp0 hQ0).mono fun e W' ⟨he, hb⟩ => ?_
  subst he
  exact ⟨_, rfl, law_post laidOut rfl hW' hAk (by rw [Try.params4]; intro t ht; revert t; decide +kernel) (by kernel_rfl) Try.underlying4 rfl hb⟩

theorem over : Rows.simnetPlaysRow.holds Try.pinned (OpenSpec.ofChange Rows.simnetPlaysSpec) :=
  OpenClaim.holds_of_wide 4 Try.f4 rfl rfl rfl rfl rfl rfl rfl ⟨rfl, rfl, rfl, rfl, rfl⟩ rfl rfl rfl rfl rfl (by kernel_rfl) Try.func4 (by kernel_rfl)
    (of_decide_eq_true (by kernel_rfl)) (by unfold Func.isWrapper; first | (rw [if_pos (by decide +kernel)]; kernel_rfl) | (rw [if_neg (by decide +kernel)]; exact ⟨rfl, rfl⟩))
    (fun os started H enc _ => lifted os started H enc)

/-- The statement. -/
theorem proved : Rows.SimnetPlaysSaid :=
  over
#print axioms proved
end Go.Proofs.Ytaopnoaopcbkoaa.simnetPlays
