/-
  Package dot: which dots may be, their order; the library's search in a rising row of numbers.
-/
import Derived.Test.YtfdafoibclfpgaaDotMath
import Derived.Test.YtfdafoibclfpgaaRowsK
namespace Go.Proofs.Ytfdafoibclfpgaa
open Go.ChangeShapes Go.WideShapes Go.ChangeAt Go.RowKit Go.Deep
set_option linter.unusedVariables false
set_option linter.unusedSimpArgs false
def goodB (d : Int) (n : Nat) : Bool := decide (0 ≤ d ∧ d < 16 ∧ 1 ≤ n ∧ n ≤ 1099511627776)
def lessB (d : Int) (n : Nat) (d' : Int) (n' : Nat) : Bool := decide (n < n' ∨ n = n' ∧ d < d')
def aheadB (d : Int) (n : Nat) (d' : Int) (n' : Nat) : Bool := decide (d < d' ∨ d = d' ∧ n < n')
def ltB (x y : Nat) : Bool := decide (x < y)
theorem ret_bool {a b : Bool} (h : a = b) : Ending.returned (.bool a) = .returned (.bool b) := by rw [h]
set_option maxRecDepth 100000 in
theorem isNaN_any (x : Int) (w : World) : Calls Try.prog 51 #[.int .u64 x] w fun e w' => e = .returned (.bool false) ∧ w = w' := by
  go_enter Try.func51, Try.ntmps51
  go_wp2
  go_ret
  exact ⟨rfl, rfl⟩
set_option maxRecDepth 100000 in
theorem isNaN2_any (x : Int) (w : World) : Calls Try.prog 45 #[.int .u64 x] w fun e w' => e = .returned (.bool false) ∧ w = w' := by
  go_enter Try.func45, Try.ntmps45
  go_wp2
  go_ret
  exact ⟨rfl, rfl⟩
end Go.Proofs.Ytfdafoibclfpgaa
