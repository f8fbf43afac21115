/-
  Layer 13's law: DotGrows walked.
-/
import Derived.Test.YtfgfamafjkjakabDotGrowM
namespace Go.Proofs.Ytfgfamafjkjakab
open Go.ChangeShapes Go.WideShapes Go.ChangeAt Go.RowKit Go.Deep
set_option linter.unusedVariables false
set_option linter.unusedSimpArgs false
/-- A row of dots. -/
def Dots (W : World) (b o n : Nat) (D : Nat → Int) (N : Nat → Nat) : Prop := ∀ i, i < n → W.cell? ⟨b, o + i * 2, none⟩ = some (.int .i64 (D i)) ∧ W.cell? ⟨b, o + i * 2 + 1, none⟩ = some (.int .u64 (N i : Int))
theorem Dots.below {W W' : World} {b o n : Nat} {D : Nat → Int} {N : Nat → Nat} (h : Dots W b o n D N) (hb : Below W.heap.size W W') : Dots W' b o n D N := fun i hi => ⟨(hb.cell (cell_lt (h i hi).1)).trans (h i hi).1, (hb.cell (cell_lt (h i hi).2)).trans (h i hi).2⟩
end Go.Proofs.Ytfgfamafjkjakab
