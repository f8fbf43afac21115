/-
  Package merge: whether an item stands ahead of another one.
-/
import Derived.Test.YtfdafoibclfpgaaMItem
import Derived.Test.YtfdafoibclfpgaaAnyM
import Derived.Sort.LotA
import Derived.Deep.DeepCutAuto
import Derived.Deep.CutBlock
import Derived.Deep.QuietTactic
import Derived.BigQuiet
import Derived.IntWalk
import Derived.RegionTactic
import Derived.BigRegion
import Derived.ChangeAlike
import Derived.LoopTactic
namespace Go.Proofs.Ytfdafoibclfpgaa
open Go.ChangeShapes Go.WideShapes Go.ChangeAt Go.RowKit Go.Deep
set_option linter.unusedVariables false
set_option linter.unusedSimpArgs false
theorem ret_b {a b : Bool} (h : a = b) : Ending.returned (.bool a) = .returned (.bool b) := by rw [h]
set_option maxRecDepth 100000 in
set_option maxHeartbeats 4000000 in
theorem Ahead_any (x y : Itm) (w : World) :
    Calls Try.prog 28 #[x.v, y.v] w fun e w' => e = .returned (.bool (aheadI x y)) ∧ Below w.heap.size w w' := by
  obtain ⟨k, s, g, u⟩ := x
  obtain ⟨k', s', g', u'⟩ := y
  unfold Itm.v aheadI kLt kEq
  dsimp only
  rcases h1 : Op.bytesLess k.toList k'.toList with _ | _
  · rcases h2 : (k.toList == k'.toList) with _ | _
    · go_enter Try.func28, Try.ntmps28
      go_wp2
      go_ret
      exact ⟨ret_b (by simp), ((Below.refl _ _).alloc (Nat.le_refl _) _).alloc (by rw [World.size_alloc]; omega) _⟩
    · rcases (by omega : (s' : Int) < (s : Int) ∨ ¬ (s' : Int) < (s : Int)) with h3 | h3
      · go_enter Try.func28, Try.ntmps28
        go_wp2
        go_ret
        exact ⟨ret_b (by rw [decide_eq_true (by omega : s' < s)] <;> rfl), ((Below.refl _ _).alloc (Nat.le_refl _) _).alloc (by rw [World.size_alloc]; omega) _⟩
      · go_enter Try.func28, Try.ntmps28
        go_wp2
        go_ret
        exact ⟨ret_b (by rw [decide_eq_false (by omega : ¬ s' < s)] <;> rfl), ((Below.refl _ _).alloc (Nat.le_refl _) _).alloc (by rw [World.size_alloc]; omega) _⟩
  · go_enter Try.func28, Try.ntmps28
    go_wp2
    go_ret
    exact ⟨ret_b (by simp), ((Below.refl _ _).alloc (Nat.le_refl _) _).alloc (by rw [World.size_alloc]; omega) _⟩
set_option maxRecDepth 100000 in
set_option maxHeartbeats 4000000 in
theorem RefAhead_any (x y : Itm) (w : World) :
    Calls Try.prog 24 #[x.v, y.v] w fun e w' => e = .returned (.bool (aheadI x y)) ∧ Below w.heap.size w w' := by
  obtain ⟨k, s, g, u⟩ := x
  obtain ⟨k', s', g', u'⟩ := y
  unfold Itm.v aheadI kLt kEq
  dsimp only
  rcases h2 : (k.toList == k'.toList) with _ | _
  · rcases h1 : Op.bytesLess k.toList k'.toList with _ | _
    · go_enter Try.func24, Try.ntmps24
      go_wp2
      go_ret
      exact ⟨ret_b (by simp), ((Below.refl _ _).alloc (Nat.le_refl _) _).alloc (by rw [World.size_alloc]; omega) _⟩
    · go_enter Try.func24, Try.ntmps24
      go_wp2
      go_ret
      exact ⟨ret_b (by simp), ((Below.refl _ _).alloc (Nat.le_refl _) _).alloc (by rw [World.size_alloc]; omega) _⟩
  · have h1 : Op.bytesLess k.toList k'.toList = false := by
      have := (kEq_iff k k').1 h2
      subst this
      exact kLt_irrefl k
    rw [h1]
    rcases (by omega : (s' : Int) < (s : Int) ∨ ¬ (s' : Int) < (s : Int)) with h3 | h3
    · go_enter Try.func24, Try.ntmps24
      go_wp2
      go_ret
      exact ⟨ret_b (by rw [decide_eq_true (by omega : s' < s)] <;> rfl), ((Below.refl _ _).alloc (Nat.le_refl _) _).alloc (by rw [World.size_alloc]; omega) _⟩
    · go_enter Try.func24, Try.ntmps24
      go_wp2
      go_ret
      exact ⟨ret_b (by rw [decide_eq_false (by omega : ¬ s' < s)] <;> rfl), ((Below.refl _ _).alloc (Nat.le_refl _) _).alloc (by rw [World.size_alloc]; omega) _⟩
end Go.Proofs.Ytfdafoibclfpgaa
