/-
  Package sha: a digit read; the document's own turn of a word.
-/
import Derived.Test.YtjopfhmloklhdaaDoorRot
namespace Go.Proofs.YtjopfhmloklhdaaDoor
open Go.ChangeShapes Go.WideShapes Go.ChangeAt Go.RowKit Go.Deep
set_option linter.unusedVariables false
set_option linter.unusedSimpArgs false

/-- What a digit is worth; none: it is none. -/
def digV (c : Nat) : Nat := if 48 ≤ c ∧ c ≤ 57 then c - 48 else if 97 ≤ c ∧ c ≤ 102 then c - 87 else 0
def digB (c : Nat) : Bool := decide (48 ≤ c ∧ c ≤ 57) || decide (97 ≤ c ∧ c ≤ 102)
theorem digV_lt (c : Nat) : digV c < 16 := by
  unfold digV
  split
  · omega
  · split <;> omega
set_option maxRecDepth 100000 in
set_option maxHeartbeats 2000000 in
theorem digit_any (c : Nat) (hc : c < 256) (w : World) :
    Calls Tryd.prog 23 #[.int .u8 (c : Int)] w fun e w' => e = .returned (.tuple #[.int .u8 ((digV c : Nat) : Int), .bool (digB c)]) ∧ w' = w := by
  by_cases h1 : 48 ≤ c
  · by_cases h2 : c ≤ 57
    · have hv : digV c = c - 48 := by unfold digV; rw [if_pos ⟨h1, h2⟩]
      have hb : digB c = true := by unfold digB; simp [h1, h2]
      rw [hv, hb]
      have g1 : (48 : Int) ≤ (c : Int) := by omega
      have g2 : (c : Int) ≤ 57 := by omega
      have g3 : (((c - 48 : Nat)) : Int) = (c : Int) - 48 := by omega
      rw [g3]
      clear h1 h2 hv hb g3
      go_enter Tryd.func23, Tryd.ntmps23
      go_wp2
      go_ret2
      exact ⟨rfl, rfl⟩
    · by_cases h3 : 97 ≤ c
      · by_cases h4 : c ≤ 102
        · have hv : digV c = c - 87 := by unfold digV; rw [if_neg (by omega), if_pos ⟨h3, h4⟩]
          have hb : digB c = true := by unfold digB; simp [h3, h4]
          rw [hv, hb]
          have g1 : (48 : Int) ≤ (c : Int) := by omega
          have g2 : ¬ (c : Int) ≤ 57 := by omega
          have g2' : (57 : Int) < (c : Int) := by omega
          have g4 : (97 : Int) ≤ (c : Int) := by omega
          have g5 : (c : Int) ≤ 102 := by omega
          have g3 : (((c - 87 : Nat)) : Int) = (c : Int) - 97 + 10 := by omega
          rw [g3]
          clear h1 h2 h3 h4 hv hb g3
          go_enter Tryd.func23, Tryd.ntmps23
          go_wp2
          go_ret2
          exact ⟨rfl, rfl⟩
        · have hv : digV c = 0 := by unfold digV; rw [if_neg (by omega), if_neg (by omega)]
          have hb : digB c = false := by unfold digB; simp; omega
          rw [hv, hb]
          have g2' : (57 : Int) < (c : Int) := by omega
          have g5 : (102 : Int) < (c : Int) := by omega
          clear h1 h2 h3 h4 hv hb
          go_enter Tryd.func23, Tryd.ntmps23
          go_wp2
          all_goals
            go_ret2
            exact ⟨rfl, rfl⟩
      · have hv : digV c = 0 := by unfold digV; rw [if_neg (by omega), if_neg (by omega)]
        have hb : digB c = false := by unfold digB; simp; omega
        rw [hv, hb]
        have g2' : (57 : Int) < (c : Int) := by omega
        have g5 : (c : Int) < 97 := by omega
        clear h1 h2 h3 hv hb
        go_enter Tryd.func23, Tryd.ntmps23
        go_wp2
        all_goals
          go_ret2
          exact ⟨rfl, rfl⟩
  · have hv : digV c = 0 := by unfold digV; rw [if_neg (by omega), if_neg (by omega)]
    have hb : digB c = false := by unfold digB; simp; omega
    rw [hv, hb]
    have g2' : (c : Int) < 48 := by omega
    have g5 : (c : Int) < 97 := by omega
    clear h1 hv hb
    go_enter Tryd.func23, Tryd.ntmps23
    go_wp2
    all_goals
      go_ret2
      exact ⟨rfl, rfl⟩
end Go.Proofs.YtjopfhmloklhdaaDoor
