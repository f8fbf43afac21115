/-
  Layer 13's law: awake.
-/
import Derived.Test.YtfgfamafjkjakaaDotJoinS
import Derived.Test.YtfgfamafjkjakaaDotWithin
import Derived.Test.YtfgfamafjkjakaaDotCopy
import Derived.Test.YtfgfamafjkjakaaDotEncode
import Derived.Test.YtfgfamafjkjakaaDotDecode
namespace Go.Proofs.Ytfgfamafjkjakaa
open Go.ChangeShapes Go.WideShapes Go.ChangeAt Go.RowKit Go.Deep
set_option linter.unusedVariables false
set_option linter.unusedSimpArgs false
def mk16 (a b : Nm) : List Nm := [a, Nm.zero, b, Nm.zero, Nm.zero, Nm.zero, Nm.zero, Nm.zero, Nm.zero, Nm.zero, Nm.zero, Nm.zero, Nm.zero, Nm.zero, Nm.zero, Nm.zero]
set_option maxRecDepth 100000 in
theorem add_1 : addS none16 2 1 = (mk16 Nm.zero ⟨1, []⟩, 0) := by kernel_rfl
set_option maxRecDepth 100000 in
theorem add_2 : addS (mk16 Nm.zero ⟨1, []⟩) 2 3 = (mk16 Nm.zero ⟨1, [3]⟩, 0) := by kernel_rfl
set_option maxRecDepth 100000 in
theorem add_3 : addS (mk16 Nm.zero ⟨1, [3]⟩) 2 4 = (mk16 Nm.zero ⟨1, [3, 4]⟩, 0) := by kernel_rfl
set_option maxRecDepth 100000 in
theorem add_4 : addS (mk16 Nm.zero ⟨1, [3, 4]⟩) 0 5 = (mk16 ⟨0, [5]⟩ ⟨1, [3, 4]⟩, 0) := by kernel_rfl
set_option maxRecDepth 100000 in
theorem add_5 : addS (mk16 ⟨0, [5]⟩ ⟨1, [3, 4]⟩) 2 2 = (mk16 ⟨0, [5]⟩ ⟨4, []⟩, 0) := by kernel_rfl
def fEnd : List Nm := mk16 ⟨0, [5]⟩ ⟨4, []⟩
set_option maxRecDepth 100000 in
theorem parts_p : partsS (mk16 ⟨0, [5]⟩ ⟨1, [3, 4]⟩) = [(0, ⟨0, [5]⟩), (2, ⟨1, [3, 4]⟩)] := by kernel_rfl
set_option maxRecDepth 100000 in
theorem parts_q : partsS fEnd = [(0, ⟨0, [5]⟩), (2, ⟨4, []⟩)] := by kernel_rfl
theorem enc_end : encS fEnd = [2, 0, 0, 1, 5, 2, 4, 0] := by
  unfold encS encParts
  rw [parts_q]
  simp [encPart, encHead, encMore, lastN, Lib.uvarint_small]
set_option maxRecDepth 100000 in
theorem dec_end : rDec [2, 0, 0, 1, 5, 2, 4, 0] = some fEnd := by kernel_rfl
set_option maxRecDepth 100000 in
theorem within_end : withinS fEnd fEnd = true := by kernel_rfl
set_option maxRecDepth 100000 in
theorem has_end1 : hasS fEnd 0 5 = true := by kernel_rfl
set_option maxRecDepth 100000 in
theorem has_end2 : hasS fEnd 0 1 = false := by kernel_rfl
theorem few_end : ∀ i, i < 16 → (fEnd.getD i Nm.zero).more.length ≤ 1 := by
  intro i hi
  rcases (by omega : i = 0 ∨ i = 2 ∨ (i ≠ 0 ∧ i ≠ 2)) with rfl | rfl | ⟨h0, h2⟩
  · exact Nat.le_refl _
  · exact Nat.zero_le _
  · have : fEnd.getD i Nm.zero = Nm.zero := by
      rcases (by omega : i = 1 ∨ i = 3 ∨ i = 4 ∨ i = 5 ∨ i = 6 ∨ i = 7 ∨ i = 8 ∨ i = 9 ∨ i = 10 ∨ i = 11 ∨ i = 12 ∨ i = 13 ∨ i = 14 ∨ i = 15) with rfl | rfl | rfl | rfl | rfl | rfl | rfl | rfl | rfl | rfl | rfl | rfl | rfl | rfl <;> rfl
    rw [this]; exact Nat.zero_le _
theorem OwnK.kp {α : Type} {w w' : World} {B R : Nat} {e T : TypeId} {E : Enc α} {v : Value} {l : List α} {c : Array Value} (h : OwnK w B e E v l) (hr : w.heap[R]? = some (.cells c T (0, 0))) (hT : T ≠ e) (hk : Kp R w w') : OwnK w' B e E v l :=
  h.same (fun g hg => by
    obtain ⟨cur, hc⟩ := h.type hg
    refine hk.block g (lt_of_block hc) (fun e0 => ?_)
    subst e0
    rw [hr] at hc
    simp only [Option.some.injEq, Obj.cells.injEq] at hc
    exact hT hc.2.1)
theorem OwnP.kp {w w' : World} {B S : Nat} {v : Value} {M : List Pt} {f : List Nm} (h : OwnP w B v M) (hs : SetIs w S f) (hk : Kp S w w') : OwnP w' B v M := by
  obtain ⟨_, _, _, hh, _⟩ := hs
  exact ⟨h.row.kp hh (by decide) hk, fun x hx => (h.each x hx).kp hh (by decide) hk, h.apart⟩
end Go.Proofs.Ytfgfamafjkjakaa
