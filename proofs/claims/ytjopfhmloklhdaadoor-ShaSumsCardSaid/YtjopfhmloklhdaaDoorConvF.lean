/-
  What a text made bytes is: a row of the call's own, with what is behind it; an append to it.
-/
import Derived.Test.YtjopfhmloklhdaaDoorMine2
import Derived.Lib.ConvBytes
import Derived.Test.YtjopfhmloklhdaaDoorSlices
import Derived.Test.YtjopfhmloklhdaaDoorShaEqualW
namespace Go.Proofs.YtjopfhmloklhdaaDoor
open Go.ChangeShapes Go.WideShapes Go.ChangeAt Go.RowKit Go.Deep
set_option linter.unusedVariables false
set_option linter.unusedSimpArgs false
/-- What a conversion of a text to bytes makes. -/
structure ConvIs (w0 : World) (l : List UInt8) (W1 : World) (C1 : Nat) (CC : Array Value) (f : Nat × Nat) : Prop where
  ge : l.length ≤ C1
  le : C1 ≤ maxLen
  lt : w0.heap.size < W1.heap.size
  cells : ∀ j (h : j < l.length), W1.cell? ⟨w0.heap.size, j, none⟩ = some (.int .u8 (l[j].toNat : Int))
  blk : W1.heap[w0.heap.size]? = some (.cells CC 5 f)
  size : CC.size = C1
  frozen : CC.size ≤ f.1
  bel : Below w0.heap.size w0 W1
theorem conv_is (w0 : World) (l : List UInt8) (hl : l.length ≤ 1099511627775) : ∃ W1 C1 CC f, (convert 9 31 (.string ⟨l.toArray⟩)).run Tryd.prog w0 = .ok (.slice (some ⟨w0.heap.size, 0, none⟩) l.length C1) W1 ∧ ConvIs w0 l W1 C1 CC f := by
  have hk2 := Lib.run_convert_string_bytes (P := Tryd.prog) w0 9 31 5 ⟨l.toArray⟩ Tryd.underlying9 Tryd.underlying31 Tryd.underlying5
  have hsz : (⟨l.toArray⟩ : ByteArray).size = l.length := rfl
  rw [hsz] at hk2
  have hcapge : l.length ≤ grownCap w0 l.length 0 5 := grownCap_ge _ _ _ _
  have hcaple : grownCap w0 l.length 0 5 ≤ maxLen := grownCap_le_maxLen _ _ _ _ (by unfold maxLen; omega)
  have hbs := Lib.bytesWorld_size w0 5 ⟨l.toArray⟩
  have hcells : ∀ j (h : j < l.length), (Lib.bytesWorld w0 5 ⟨l.toArray⟩).cell? ⟨w0.heap.size, j, none⟩ = some (.int .u8 (l[j].toNat : Int)) := fun j hj => by
    rw [Lib.bytesWorld_cell w0 5 ⟨l.toArray⟩ j hj]
    simp [List.getD, hj]
  have hblk := Lib.bytesWorld_at_new w0 5 ⟨l.toArray⟩
  have hbc : (Lib.bytesCells w0 5 ⟨l.toArray⟩).size = grownCap w0 l.length 0 5 := by
    have h0 : l.length ≤ grownCap w0 l.length 0 5 := hcapge
    unfold Lib.bytesCells
    simp only [Array.size_append, Array.size_replicate, Array.size_map, List.size_toArray, hsz]
    omega
  have hbw : Below w0.heap.size w0 (Lib.bytesWorld w0 5 ⟨l.toArray⟩) := ⟨rfl, rfl, rfl, by rw [hbs]; omega, fun k hk => Lib.bytesWorld_at_old w0 5 ⟨l.toArray⟩ k hk⟩
  exact ⟨_, _, _, _, hk2, hcapge, hcaple, by rw [hbs]; omega, hcells, hblk, hbc, Nat.le_refl _, hbw⟩
theorem has_lit1 (W : World) (f : Nat × Nat) (x : UInt8) : Has (W.alloc (.cells #[.int .u8 (x.toNat : Int)] 5 f)) (.slice (some ⟨W.heap.size, 0, none⟩) 1 1) [x] := by
  refine .inr ⟨W.heap.size, 0, 1, rfl, Nat.le_refl _, by decide, by rw [size_alloc1]; omega, fun j hj => ?_⟩
  obtain rfl : j = 0 := by simp at hj; exact hj
  unfold World.cell?
  rw [heap_alloc_new]
  rfl
section
variable {ops : Array Oper} {S : World → Prop}
theorem yieldsIf_textS {op : Oper} {a : Act} (hw : Region.wanted op (yielded ops a.tmps) = true) (x : Operand) (ho : op.op = .convert 31 9 x) (v : Value) (l : List UInt8) (hx : a.eval x = v) (hS : ∀ w, S w → HasA w v l) (s : ByteArray) (hs : s = ⟨l.toArray⟩) : YieldsIf Tryd.prog ops S op (.string s) a := by
  subst hs
  exact yieldsIf_text hw x ho v l hx hS
end
end Go.Proofs.YtjopfhmloklhdaaDoor
