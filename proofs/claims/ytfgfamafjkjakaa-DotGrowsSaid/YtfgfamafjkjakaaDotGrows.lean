/-
  The statement DotGrows holds: a set only grows, dot by dot. No condition.
-/
import Derived.Test.YtfgfamafjkjakaaRows
import Derived.Test.YtfgfamafjkjakaaStay
import Derived.Test.YtfgfamafjkjakaaDotGrowsW
import Derived.Test.YtfgfamafjkjakaaOpenS
import Derived.WalkKit
import Derived.ProofKit
import Derived.OpenShut
import Derived.SizedLaws
namespace Go.Proofs.Ytfgfamafjkjakaa.dotGrows
open Go.ChangeShapes Go.WideShapes Go.ChangeAt Go.RowKit Go.Deep
set_option linter.unusedVariables false
set_option linter.unusedSimpArgs false

theorem own : ownKnob Try.prog.godebug = none := by kernel_rfl
theorem laidOut : laidOutB Try.prog = true := by kernel_rfl
theorem dots_of {H : Type} {enc : TypeId × Value → H} {W : World} {b o len : Nat} {fs : Array Field} (he : Try.prog.underlying 32 = some (.struct fs))
    (h : ∀ i, i < len → ∀ (j : Nat) (f : Field), fs[j]? = some f → ∃ v, W.cell? ⟨b, o + i * fs.size + j, none⟩ = some v ∧ Fld enc Try.prog W f.type v) : ∃ (D : Nat → Int) (N : Nat → Nat), Dots W b o len D N := by
  rw [Try.underlying32] at he
  cases he
  have hone : ∀ i, i < len → ∃ (d : Int) (n : Nat), W.cell? ⟨b, o + i * 2, none⟩ = some (.int .i64 d) ∧ W.cell? ⟨b, o + i * 2 + 1, none⟩ = some (.int .u64 (n : Int)) := by
    intro i hi
    obtain ⟨v0, c0, F0⟩ := h i hi 0 _ rfl
    obtain ⟨v1, c1, F1⟩ := h i hi 1 _ rfl
    obtain ⟨z0, rfl, w0⟩ := F0.int Try.underlying3
    obtain ⟨z1, rfl, w1⟩ := F1.int Try.underlying30
    have h : IntKind.u64.min ≤ z1 ∧ z1 ≤ IntKind.u64.max := by simpa [Lit.wf] using w1
    have h0 : IntKind.u64.min = 0 := by rfl
    obtain ⟨m, rfl⟩ : ∃ m : Nat, z1 = (m : Int) := ⟨z1.toNat, by omega⟩
    exact ⟨z0, m, c0, c1⟩
  refine ⟨fun i => if h : i < len then Classical.choose (hone i h) else 0, fun i => if h : i < len then Classical.choose (Classical.choose_spec (hone i h)) else 0, fun i hi => ?_⟩
  simp only [hi, dif_pos]
  exact Classical.choose_spec (Classical.choose_spec (hone i hi))
theorem walk (W : World) (p : Option Addr) (n cap b o : Nat) (hl : n ≤ cap) (hm : cap ≤ maxLen) (hp : 0 < n → p = some ⟨b, o, none⟩ ∧ b < W.heap.size) (hQ : ∃ (D : Nat → Int) (N : Nat → Nat), Dots W b o n D N) :
    Calls Try.prog 8 #[.slice p n cap] W fun e w' => e = .returned (.bool true) ∧ Below W.heap.size W w' := by
  obtain ⟨D, N, hD⟩ := hQ
  exact DotGrows_any p n cap b o D N W (fun h => (hp h).1) hl hm hD

set_option maxRecDepth 100000 in
theorem lifted (os : Os) (started : os.Started) (H : Type) (enc : TypeId × Value → H) :
    ReturnsInHanded {} Try.checked os 8 .any (Rows.dotGrowsSpec.pre6 enc Try.prog Try.f8 Rows.dotGrowsRow.domain false) (Rows.dotGrowsSpec.post enc Try.prog Try.f8 false true false false) := by
  refine returnsInHanded_of_change_sized (C := Try.checked) own started (by kernel_rfl) Try.func8
    (ChangeSpec.witness6 (enc := enc) (C := Try.checked) false ⟨#[], #[.slice none 0 0], []⟩ 8 (by kernel_rfl) (by kernel_rfl) (by kernel_rfl) (by kernel_rfl)) ?_
  intro W base args ds gs before hval0 hW hcnd hsz0 _
  have hsz : (DataW.weightsEach Try.prog (Try.f8.params.toList ++ Rows.dotGrowsSpec.plain.varTypes Try.prog) (ds ++ gs)).all (· ≤ reachBytes) = true := hsz0
  clear hsz0
  have hval : ∀ (j : Nat) t v, Try.f8.params[j]? = some t → args[j]? = some v → Value.okWide Try.prog W .any base t v := hval0
  have hW' := hW
  obtain ⟨p, q, hA0, hV, rfl, hfz, hnd⟩ := hW
  have hA : DataW.TrodAll enc Try.prog W 0 (fun _ => true) true Try.f8.params.toList args.toList ds p := hA0
  have hAk := hA
  rw [Try.params8] at hA hval hsz
  obtain ⟨v0, vs0, d0, ds0, p0, q0, hargs, rfl, rfl, h0, r0⟩ := trodAll_cons hA
  obtain ⟨rfl, rfl, rfl⟩ := trodAll_nil r0
  obtain rfl : args = #[v0] := by cases args; simp_all
  obtain ⟨rfl, rfl⟩ := trodVars_none hV
  obtain ⟨pt0, len0, cap0, rfl⟩ := okWide_slice Try.underlying36 (hval 0 36 v0 rfl rfl)
  obtain ⟨hl0, hm0, hs0, b0, o0, hp0, hF0⟩ := open_structsR hsz (j := 0) (t := 36) rfl rfl Try.underlying36 Try.underlying32 (by kernel_rfl) (by kernel_rfl) (by decide) h0
  have hQ0 := dots_of Try.underlying32 hF0
  clear hA0 hval0
  refine (walk W pt0 len0 cap0 b0 o0 hl0 hm0 hp0 hQ0).mono fun e W' ⟨he, hb⟩ => ?_
  subst he
  exact ⟨_, rfl, law_post laidOut rfl hW' hAk (by rw [Try.params8]; intro t ht; revert t; decide +kernel) (by kernel_rfl) Try.underlying4 rfl hb⟩

theorem over : Rows.dotGrowsRow.holds Try.pinned (OpenSpec.ofChange Rows.dotGrowsSpec) :=
  OpenClaim.holds_of_wide 8 Try.f8 rfl rfl rfl rfl rfl rfl rfl ⟨rfl, rfl, rfl, rfl, rfl⟩ rfl rfl rfl rfl rfl (by kernel_rfl) Try.func8 (by kernel_rfl)
    (of_decide_eq_true (by kernel_rfl)) (by unfold Func.isWrapper; first | (rw [if_pos (by decide +kernel)]; kernel_rfl) | (rw [if_neg (by decide +kernel)]; exact ⟨rfl, rfl⟩))
    (fun os started H enc _ => lifted os started H enc)

/-- The statement. -/
theorem proved : Rows.DotGrowsSaid :=
  over
#print axioms proved
end Go.Proofs.Ytfgfamafjkjakaa.dotGrows
