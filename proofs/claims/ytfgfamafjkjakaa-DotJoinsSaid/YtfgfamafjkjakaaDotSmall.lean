/-
  Package dot: which dots may be, their order; the library's search in a rising row of numbers.
-/
import Derived.Test.YtfgfamafjkjakaaDotMath
import Derived.Test.YtfgfamafjkjakaaRowsK
namespace Go.Proofs.Ytfgfamafjkjakaa
open Go.ChangeShapes Go.WideShapes Go.ChangeAt Go.RowKit Go.Deep
set_option linter.unusedVariables false
set_option linter.unusedSimpArgs false
def goodB (d : Int) (n : Nat) : Bool := decide (0 ≤ d ∧ d < 16 ∧ 1 ≤ n ∧ n ≤ 1099511627776)
def lessB (d : Int) (n : Nat) (d' : Int) (n' : Nat) : Bool := decide (n < n' ∨ n = n' ∧ d < d')
def aheadB (d : Int) (n : Nat) (d' : Int) (n' : Nat) : Bool := decide (d < d' ∨ d = d' ∧ n < n')
def ltB (x y : Nat) : Bool := decide (x < y)
theorem ret_bool {a b : Bool} (h : a = b) : Ending.returned (.bool a) = .returned (.bool b) := by rw [h]
set_option maxRecDepth 100000 in
set_option maxHeartbeats 4000000 in
theorem Good_any (d : Int) (n : Nat) (w : World) :
    Calls Try.prog 14 #[.agg #[.int .i64 d, .int .u64 (n : Int)]] w fun e w' => e = .returned (.bool (goodB d n)) ∧ Below w.heap.size w w' := by
  rcases (by omega : d < 0 ∨ 0 ≤ d) with h1 | h1
  · go_enter Try.func14, Try.ntmps14
    go_wp2
    go_ret
    exact ⟨ret_bool (by unfold goodB; symm; rw [decide_eq_false_iff_not]; omega), (Below.refl _ _).alloc (Nat.le_refl _) _⟩
  rcases (by omega : ¬ d < 16 ∨ d < 16) with h2 | h2
  · go_enter Try.func14, Try.ntmps14
    go_wp2
    go_ret
    exact ⟨ret_bool (by unfold goodB; symm; rw [decide_eq_false_iff_not]; omega), (Below.refl _ _).alloc (Nat.le_refl _) _⟩
  rcases (by omega : ¬ (1 : Int) ≤ (n : Int) ∨ (1 : Int) ≤ (n : Int)) with h3 | h3
  · go_enter Try.func14, Try.ntmps14
    go_wp2
    go_ret
    exact ⟨ret_bool (by unfold goodB; symm; rw [decide_eq_false_iff_not]; omega), (Below.refl _ _).alloc (Nat.le_refl _) _⟩
  rcases (by omega : ¬ (n : Int) ≤ 1099511627776 ∨ (n : Int) ≤ 1099511627776) with h4 | h4
  · go_enter Try.func14, Try.ntmps14
    go_wp2
    go_ret
    exact ⟨ret_bool (by unfold goodB; symm; rw [decide_eq_false_iff_not]; omega), (Below.refl _ _).alloc (Nat.le_refl _) _⟩
  · go_enter Try.func14, Try.ntmps14
    go_wp2
    go_ret
    exact ⟨ret_bool (by unfold goodB; symm; rw [decide_eq_true_eq]; omega), (Below.refl _ _).alloc (Nat.le_refl _) _⟩
set_option maxRecDepth 100000 in
set_option maxHeartbeats 4000000 in
theorem RefGood_any (d : Int) (n : Nat) (w : World) :
    Calls Try.prog 15 #[.agg #[.int .i64 d, .int .u64 (n : Int)]] w fun e w' => e = .returned (.bool (goodB d n)) ∧ Below w.heap.size w w' := by
  rcases (by omega : d < 0 ∨ 0 ≤ d) with h1 | h1
  · go_enter Try.func15, Try.ntmps15
    go_wp2
    go_ret
    exact ⟨ret_bool (by unfold goodB; symm; rw [decide_eq_false_iff_not]; omega), (Below.refl _ _).alloc (Nat.le_refl _) _⟩
  rcases (by omega : ¬ d < 16 ∨ d < 16) with h2 | h2
  · go_enter Try.func15, Try.ntmps15
    go_wp2
    go_ret
    exact ⟨ret_bool (by unfold goodB; symm; rw [decide_eq_false_iff_not]; omega), (Below.refl _ _).alloc (Nat.le_refl _) _⟩
  rcases (by omega : ¬ (1 : Int) ≤ (n : Int) ∨ (1 : Int) ≤ (n : Int)) with h3 | h3
  · go_enter Try.func15, Try.ntmps15
    go_wp2
    go_ret
    exact ⟨ret_bool (by unfold goodB; symm; rw [decide_eq_false_iff_not]; omega), (Below.refl _ _).alloc (Nat.le_refl _) _⟩
  rcases (by omega : ¬ (n : Int) ≤ 1099511627776 ∨ (n : Int) ≤ 1099511627776) with h4 | h4
  · go_enter Try.func15, Try.ntmps15
    go_wp2
    go_ret
    exact ⟨ret_bool (by unfold goodB; symm; rw [decide_eq_false_iff_not]; omega), (Below.refl _ _).alloc (Nat.le_refl _) _⟩
  · go_enter Try.func15, Try.ntmps15
    go_wp2
    go_ret
    exact ⟨ret_bool (by unfold goodB; symm; rw [decide_eq_true_eq]; omega), (Below.refl _ _).alloc (Nat.le_refl _) _⟩
set_option maxRecDepth 100000 in
set_option maxHeartbeats 4000000 in
theorem Less_any (d : Int) (n : Nat) (d' : Int) (n' : Nat) (w : World) :
    Calls Try.prog 26 #[.agg #[.int .i64 d, .int .u64 (n : Int)], .agg #[.int .i64 d', .int .u64 (n' : Int)]] w fun e w' => e = .returned (.bool (lessB d n d' n')) ∧ Below w.heap.size w w' := by
  rcases (by omega : (n : Int) < (n' : Int) ∨ ¬ (n : Int) < (n' : Int)) with h1 | h1
  · go_enter Try.func26, Try.ntmps26
    go_wp2
    go_ret
    exact ⟨ret_bool (by unfold lessB; symm; rw [decide_eq_true_eq]; omega), ((Below.refl _ _).alloc (Nat.le_refl _) _).alloc (by rw [World.size_alloc]; omega) _⟩
  rcases (by omega : ¬ (n : Int) = (n' : Int) ∨ (n : Int) = (n' : Int)) with h2 | h2
  · go_enter Try.func26, Try.ntmps26
    go_wp2
    go_ret
    exact ⟨ret_bool (by unfold lessB; symm; rw [decide_eq_false_iff_not]; omega), ((Below.refl _ _).alloc (Nat.le_refl _) _).alloc (by rw [World.size_alloc]; omega) _⟩
  rcases (by omega : d < d' ∨ ¬ d < d') with h3 | h3
  · go_enter Try.func26, Try.ntmps26
    go_wp2
    go_ret
    exact ⟨ret_bool (by unfold lessB; symm; rw [decide_eq_true_eq]; omega), ((Below.refl _ _).alloc (Nat.le_refl _) _).alloc (by rw [World.size_alloc]; omega) _⟩
  · go_enter Try.func26, Try.ntmps26
    go_wp2
    go_ret
    exact ⟨ret_bool (by unfold lessB; symm; rw [decide_eq_false_iff_not]; omega), ((Below.refl _ _).alloc (Nat.le_refl _) _).alloc (by rw [World.size_alloc]; omega) _⟩
set_option maxRecDepth 100000 in
set_option maxHeartbeats 4000000 in
theorem RefLess_any (d : Int) (n : Nat) (d' : Int) (n' : Nat) (w : World) :
    Calls Try.prog 27 #[.agg #[.int .i64 d, .int .u64 (n : Int)], .agg #[.int .i64 d', .int .u64 (n' : Int)]] w fun e w' => e = .returned (.bool (lessB d n d' n')) ∧ Below w.heap.size w w' := by
  rcases (by omega : (n : Int) < (n' : Int) ∨ ¬ (n : Int) < (n' : Int)) with h1 | h1
  · go_enter Try.func27, Try.ntmps27
    go_wp2
    go_ret
    exact ⟨ret_bool (by unfold lessB; symm; rw [decide_eq_true_eq]; omega), ((Below.refl _ _).alloc (Nat.le_refl _) _).alloc (by rw [World.size_alloc]; omega) _⟩
  rcases (by omega : ¬ (n : Int) = (n' : Int) ∨ (n : Int) = (n' : Int)) with h2 | h2
  · go_enter Try.func27, Try.ntmps27
    go_wp2
    go_ret
    exact ⟨ret_bool (by unfold lessB; symm; rw [decide_eq_false_iff_not]; omega), ((Below.refl _ _).alloc (Nat.le_refl _) _).alloc (by rw [World.size_alloc]; omega) _⟩
  rcases (by omega : d < d' ∨ ¬ d < d') with h3 | h3
  · go_enter Try.func27, Try.ntmps27
    go_wp2
    go_ret
    exact ⟨ret_bool (by unfold lessB; symm; rw [decide_eq_true_eq]; omega), ((Below.refl _ _).alloc (Nat.le_refl _) _).alloc (by rw [World.size_alloc]; omega) _⟩
  · go_enter Try.func27, Try.ntmps27
    go_wp2
    go_ret
    exact ⟨ret_bool (by unfold lessB; symm; rw [decide_eq_false_iff_not]; omega), ((Below.refl _ _).alloc (Nat.le_refl _) _).alloc (by rw [World.size_alloc]; omega) _⟩
set_option maxRecDepth 100000 in
set_option maxHeartbeats 4000000 in
theorem RefAhead_any (d : Int) (n : Nat) (d' : Int) (n' : Nat) (w : World) :
    Calls Try.prog 35 #[.agg #[.int .i64 d, .int .u64 (n : Int)], .agg #[.int .i64 d', .int .u64 (n' : Int)]] w fun e w' => e = .returned (.bool (aheadB d n d' n')) ∧ Below w.heap.size w w' := by
  rcases (by omega : d < d' ∨ ¬ d < d') with h1 | h1
  · go_enter Try.func35, Try.ntmps35
    go_wp2
    go_ret
    exact ⟨ret_bool (by unfold aheadB; symm; rw [decide_eq_true_eq]; omega), ((Below.refl _ _).alloc (Nat.le_refl _) _).alloc (by rw [World.size_alloc]; omega) _⟩
  rcases (by omega : ¬ d = d' ∨ d = d') with h2 | h2
  · go_enter Try.func35, Try.ntmps35
    go_wp2
    go_ret
    exact ⟨ret_bool (by unfold aheadB; symm; rw [decide_eq_false_iff_not]; omega), ((Below.refl _ _).alloc (Nat.le_refl _) _).alloc (by rw [World.size_alloc]; omega) _⟩
  rcases (by omega : (n : Int) < (n' : Int) ∨ ¬ (n : Int) < (n' : Int)) with h3 | h3
  · go_enter Try.func35, Try.ntmps35
    go_wp2
    go_ret
    exact ⟨ret_bool (by unfold aheadB; symm; rw [decide_eq_true_eq]; omega), ((Below.refl _ _).alloc (Nat.le_refl _) _).alloc (by rw [World.size_alloc]; omega) _⟩
  · go_enter Try.func35, Try.ntmps35
    go_wp2
    go_ret
    exact ⟨ret_bool (by unfold aheadB; symm; rw [decide_eq_false_iff_not]; omega), ((Below.refl _ _).alloc (Nat.le_refl _) _).alloc (by rw [World.size_alloc]; omega) _⟩
set_option maxRecDepth 100000 in
theorem isNaN_any (x : Int) (w : World) : Calls Try.prog 67 #[.int .u64 x] w fun e w' => e = .returned (.bool false) ∧ w = w' := by
  go_enter Try.func67, Try.ntmps67
  go_wp2
  go_ret
  exact ⟨rfl, rfl⟩
set_option maxRecDepth 100000 in
theorem isNaN2_any (x : Int) (w : World) : Calls Try.prog 54 #[.int .u64 x] w fun e w' => e = .returned (.bool false) ∧ w = w' := by
  go_enter Try.func54, Try.ntmps54
  go_wp2
  go_ret
  exact ⟨rfl, rfl⟩
end Go.Proofs.Ytfgfamafjkjakaa
