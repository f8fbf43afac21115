/-
  How a set of dots is laid into bytes: plain mathematics. No function of the project is named here.
-/
import Derived.Test.YtfgfamafjkjakaaDotRow
import Derived.Test.YtfgfamafjkjakaaPut
import Derived.Test.YtfgfamafjkjakaaNum
namespace Go.Proofs.Ytfgfamafjkjakaa
open Go.ChangeShapes Go.WideShapes Go.ChangeAt Go.RowKit Go.Deep
set_option linter.unusedVariables false
set_option linter.unusedSimpArgs false
/-- The number ahead of number j of more. -/
def lastN (p : Nm) (j : Nat) : Nat := if j = 0 then p.upto else p.more.getD (j - 1) 0
def encMore (p : Nm) (j : Nat) : List UInt8 := (List.range j).flatMap fun i => Lib.uvarint (p.more.getD i 0 - lastN p i)
theorem encMore_step (p : Nm) (j : Nat) : encMore p (j + 1) = encMore p j ++ Lib.uvarint (p.more.getD j 0 - lastN p j) := by
  unfold encMore
  rw [List.range_succ, List.flatMap_append]
  simp
theorem lastN_step (p : Nm) (j : Nat) : lastN p (j + 1) = p.more.getD j 0 := by unfold lastN; rw [if_neg (by omega), Nat.add_sub_cancel]
theorem lastN_le {p : Nm} (h : p.Ok) (j : Nat) (hj : j < p.more.length) : lastN p j ≤ p.more.getD j 0 := by
  unfold lastN
  split
  · have := h.far _ (mem_getD p.more j hj); omega
  · exact Nat.le_of_lt (rising_get h.rise (j - 1) j (by omega) hj)
theorem getD_most {p : Nm} (h : p.Ok) (j : Nat) (hj : j < p.more.length) : p.more.getD j 0 ≤ 1099511627776 := h.mostM _ (mem_getD p.more j hj)
def encHead (x : Nat × Nm) : List UInt8 := Lib.uvarint x.1 ++ Lib.uvarint x.2.upto ++ Lib.uvarint x.2.more.length
def encPart (x : Nat × Nm) : List UInt8 := encHead x ++ encMore x.2 x.2.more.length
def encParts (L : List (Nat × Nm)) (k : Nat) : List UInt8 := Lib.uvarint L.length ++ (L.take k).flatMap encPart
def encS (f : List Nm) : List UInt8 := encParts (partsS f) (partsS f).length
theorem encParts_zero (L : List (Nat × Nm)) : encParts L 0 = Lib.uvarint L.length := by unfold encParts; rw [List.take_zero, List.flatMap_nil, List.append_nil]
theorem encParts_step (L : List (Nat × Nm)) (k : Nat) (h : k < L.length) : encParts L (k + 1) = encParts L k ++ encPart L[k] := by
  unfold encParts
  rw [List.take_succ_eq_append_getElem h, List.flatMap_append, List.flatMap_singleton, List.append_assoc]
theorem encMore_len {p : Nm} (h : p.Ok) : ∀ j, j ≤ p.more.length → (encMore p j).length ≤ j * 10
  | 0, _ => by show 0 ≤ _; omega
  | j + 1, hj => by
    have h1 := encMore_len h j (by omega)
    have h2 := getD_most h j (by omega)
    have h3 := uv_len (x := p.more.getD j 0 - lastN p j) (by omega)
    rw [encMore_step, List.length_append]
    omega
theorem encHead_len {x : Nat × Nm} (h1 : x.1 < 16) (h2 : x.2.Ok) (h3 : x.2.more.length ≤ 4096) : (encHead x).length ≤ 30 := by
  have a := uv_len (x := x.1) (by omega)
  have b := uv_len (x := x.2.upto) (by have := h2.most; omega)
  have c := uv_len (x := x.2.more.length) (by omega)
  unfold encHead
  rw [List.length_append, List.length_append]
  omega
theorem encPart_len {x : Nat × Nm} (h1 : x.1 < 16) (h2 : x.2.Ok) (h3 : x.2.more.length ≤ 4096) : (encPart x).length ≤ 41000 := by
  have a := encHead_len h1 h2 h3
  have b := encMore_len h2 _ (Nat.le_refl _)
  unfold encPart
  rw [List.length_append]
  omega
theorem encParts_len {L : List (Nat × Nm)} (hL : L.length ≤ 16) (hx : ∀ x ∈ L, x.1 < 16 ∧ x.2.Ok ∧ x.2.more.length ≤ 4096) : ∀ k, k ≤ L.length → (encParts L k).length ≤ 10 + k * 41000
  | 0, _ => by rw [encParts_zero]; have := uv_len (x := L.length) (by omega); omega
  | k + 1, hk => by
    have h1 := encParts_len hL hx k (by omega)
    obtain ⟨a, b, c⟩ := hx _ (List.getElem_mem (show k < L.length by omega))
    have h2 := encPart_len a b c
    rw [encParts_step L k (by omega), List.length_append]
    omega
/-- What the parts of a set are. -/
theorem parts_ok {w : World} {R : Nat} {f : List Nm} (hS : SetIs w R f) : ∀ x ∈ partsS f, x.1 < 16 ∧ x.2.Ok ∧ x.2.more.length ≤ 4096 := fun x hx => by
  unfold partsS partsUpto at hx
  obtain ⟨i, hi, rfl⟩ := List.mem_map.1 hx
  have hi' := List.mem_range.1 (List.mem_filter.1 hi).1
  obtain ⟨_, _, _, _, h1, h2, _, _⟩ := hS.at_ i hi'
  exact ⟨hi', h1, h2⟩
end Go.Proofs.Ytfgfamafjkjakaa
