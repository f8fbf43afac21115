/-
  A row of dots that came in, opened.
-/
import Derived.Test.YtfgfamafjkjakaaDotGrowsW
import Derived.Test.YtfgfamafjkjakaaOpenGS
namespace Go.Proofs.Ytfgfamafjkjakaa
open Go.ChangeShapes Go.WideShapes Go.ChangeAt Go.RowKit Go.Deep
set_option linter.unusedVariables false
theorem dots_of {H : Type} {enc : TypeId × Value → H} {W : World} {b o len : Nat} {fs : Array Field} (he : Try.prog.underlying 32 = some (.struct fs))
    (h : ∀ i, i < len → ∀ (j : Nat) (f : Field), fs[j]? = some f → ∃ v, W.cell? ⟨b, o + i * fs.size + j, none⟩ = some v ∧ Fld enc Try.prog W f.type v) : ∃ (D : Nat → Int) (N : Nat → Nat), Dots W b o len D N := by
  rw [Try.underlying32] at he
  cases he
  have hone : ∀ i, i < len → ∃ (d : Int) (n : Nat), W.cell? ⟨b, o + i * 2, none⟩ = some (.int .i64 d) ∧ W.cell? ⟨b, o + i * 2 + 1, none⟩ = some (.int .u64 (n : Int)) := by
    intro i hi
    obtain ⟨v0, c0, F0⟩ := h i hi 0 _ rfl
    obtain ⟨v1, c1, F1⟩ := h i hi 1 _ rfl
    obtain ⟨z0, rfl, w0⟩ := F0.int Try.underlying3
    obtain ⟨z1, rfl, w1⟩ := F1.int Try.underlying30
    have h : IntKind.u64.min ≤ z1 ∧ z1 ≤ IntKind.u64.max := by simpa [Lit.wf] using w1
    have h0 : IntKind.u64.min = 0 := by rfl
    obtain ⟨m, rfl⟩ : ∃ m : Nat, z1 = (m : Int) := ⟨z1.toNat, by omega⟩
    exact ⟨z0, m, c0, c1⟩
  refine ⟨fun i => if h : i < len then Classical.choose (hone i h) else 0, fun i => if h : i < len then Classical.choose (Classical.choose_spec (hone i h)) else 0, fun i hi => ?_⟩
  simp only [hi, dif_pos]
  exact Classical.choose_spec (Classical.choose_spec (hone i hi))
end Go.Proofs.Ytfgfamafjkjakaa
