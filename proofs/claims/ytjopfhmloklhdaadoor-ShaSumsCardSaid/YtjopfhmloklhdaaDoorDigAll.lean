/-
  Texts that are all digits. No function of the project is named here.
-/
import Derived.Test.YtjopfhmloklhdaaDoorShaDig
namespace Go.Proofs.YtjopfhmloklhdaaDoor
open Go.ChangeShapes Go.WideShapes Go.ChangeAt Go.RowKit Go.Deep
set_option linter.unusedVariables false
set_option linter.unusedSimpArgs false

def digAll (l : List UInt8) : Bool := l.all fun c => digB c.toNat
theorem digAll_take (l : List UInt8) (k : Nat) (h : k < l.length) : digAll (l.take (k + 1)) = (digAll (l.take k) && digB l[k].toNat) := by
  unfold digAll
  rw [List.take_succ_eq_append_getElem h, List.all_append]
  simp
theorem digAll_not (l : List UInt8) (k : Nat) (h : k < l.length) (hd : digB l[k].toNat = false) : digAll l = false := by
  unfold digAll
  rw [List.all_eq_false]
  exact ⟨_, List.getElem_mem h, by simp [hd]⟩
end Go.Proofs.YtjopfhmloklhdaaDoor
