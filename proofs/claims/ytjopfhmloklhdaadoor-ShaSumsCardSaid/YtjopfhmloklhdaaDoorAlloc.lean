/-
  Package sha: new arrays of bytes and words, at whole laws: made, a part of one taken, cleared.
-/
import Derived.Test.YtjopfhmloklhdaaDoorWrite
import Derived.Lib.SliceRun
namespace Go.Proofs.YtjopfhmloklhdaaDoor
open Go.ChangeShapes Go.WideShapes Go.ChangeAt Go.RowKit Go.Deep
set_option linter.unusedVariables false
set_option linter.unusedSimpArgs false

section
variable {P : Program}
theorem wp_alloc_of {op : Oper} {a : Act} {w : World} {K : Act → World → Prop} {Q : Exit → Act → World → Prop} (ty : TypeId) (cs : Array Value) (ho : op.op = .alloc ty)
    (hz : ∀ w : World, (Instr.alloc ty true (.tuple #[])).run P w = .ok (.pointer (some ⟨w.heap.size, 0, none⟩)) (w.alloc (.cells cs ty)))
    (h : K (a.put op.dst (.pointer (some ⟨w.heap.size, 0, none⟩))) (w.alloc (.cells cs ty))) : op.wp P a w K Q := by
  unfold Oper.wp execOp
  simp only [ho, Sem.run_bind, hz, Result.andThen_ok, Sem.run_pure]
  exact h
theorem wpList_alloc_of {ops : Array Oper} {rest : List Oper} {op : Oper} {a : Act} {w : World} {Q : Exit → Act → World → Prop} (hgd : op.guard = none) (ty : TypeId) (cs : Array Value) (ho : op.op = .alloc ty)
    (hz : ∀ w : World, (Instr.alloc ty true (.tuple #[])).run P w = .ok (.pointer (some ⟨w.heap.size, 0, none⟩)) (w.alloc (.cells cs ty)))
    (h : wpList P ops Q rest (a.put op.dst (.pointer (some ⟨w.heap.size, 0, none⟩))) (w.alloc (.cells cs ty))) : wpList P ops Q (op :: rest) a w :=
  wpList_plain hgd fun _ hK => wp_alloc_of ty cs ho hz (hK _ _ h)
end
/-- Words 0, bytes 0: what is made. -/
def noWords : List Value := words [0, 0, 0, 0, 0, 0, 0, 0]
def noBytes (n : Nat) : List Value := Lib.byteCells (zeros n)
theorem made8 (w : World) : (Instr.alloc 47 true (.tuple #[])).run Tryd.prog w = .ok (.pointer (some ⟨w.heap.size, 0, none⟩)) (w.alloc (.cells noWords.toArray 47)) := by
  kernel_rfl
theorem made64 (w : World) : (Instr.alloc 48 true (.tuple #[])).run Tryd.prog w = .ok (.pointer (some ⟨w.heap.size, 0, none⟩)) (w.alloc (.cells (noBytes 64).toArray 48)) := by
  kernel_rfl
theorem made32 (w : World) : (Instr.alloc 23 true (.tuple #[])).run Tryd.prog w = .ok (.pointer (some ⟨w.heap.size, 0, none⟩)) (w.alloc (.cells (noBytes 32).toArray 23)) := by
  kernel_rfl
theorem noWords_len : noWords.length = 8 := rfl
theorem noBytes_len (n : Nat) : (noBytes n).length = n := by unfold noBytes; rw [Lib.byteCells_length]; simp [zeros]
theorem info8 : (Tryd.prog.info? 47).map (·.size) = some 8 := by kernel_rfl
theorem info64 : (Tryd.prog.info? 48).map (·.size) = some 64 := by kernel_rfl
theorem info32 : (Tryd.prog.info? 23).map (·.size) = some 32 := by kernel_rfl
/-- A row of bytes, a row of words, each a block of its own. -/
def BRow (w : World) (t : TypeId) (g : Nat) (l : List UInt8) : Prop := w.heap[g]? = some (.cells (Lib.byteCells l).toArray t (0, 0))
def WRow8 (w : World) (g : Nat) (s : Wk) : Prop := w.heap[g]? = some (.cells (words s.list).toArray 47 (0, 0))
theorem BRow.below {w w' : World} {t : TypeId} {g B : Nat} {l : List UInt8} (h : BRow w t g l) (hb : Below B w w') (hg : g < B) : BRow w' t g l := (hb.block g hg).trans h
theorem WRow8.below {w w' : World} {g B : Nat} {s : Wk} (h : WRow8 w g s) (hb : Below B w w') (hg : g < B) : WRow8 w' g s := (hb.block g hg).trans h
theorem BRow.lt {w : World} {t : TypeId} {g : Nat} {l : List UInt8} (h : BRow w t g l) : g < w.heap.size := lt_of_block h
theorem WRow8.lt {w : World} {g : Nat} {s : Wk} (h : WRow8 w g s) : g < w.heap.size := lt_of_block h
theorem WRow8.range {w : World} {g : Nat} {s : Wk} (h : WRow8 w g s) : w.rangeAt g 0 (words s.list) := fun j v hj => by
  rw [Nat.zero_add, World.cell?, h]
  simpa using hj
theorem BRow.range {w : World} {t : TypeId} {g : Nat} {l : List UInt8} (h : BRow w t g l) : w.rangeAt g 0 (Lib.byteCells l) := fun j v hj => by
  rw [Nat.zero_add, World.cell?, h]
  simpa using hj
theorem BRow.cell {w : World} {t : TypeId} {g : Nat} {l : List UInt8} (h : BRow w t g l) (j : Nat) (hj : j < l.length) : w.cell? ⟨g, j, none⟩ = some (.int .u8 ((l.getD j 0).toNat : Int)) := by
  rw [World.cell?, h]
  show (Lib.byteCells l).toArray[j]? = _
  rw [List.getElem?_toArray, byteCells_get hj, List.getD_eq_getElem?_getD, List.getElem?_eq_getElem hj]
  rfl
theorem BRow.free {w : World} {t : TypeId} {g : Nat} {l : List UInt8} (h : BRow w t g l) (j : Nat) : w.frozen? ⟨g, j, none⟩ = false := by
  simp [World.frozen?, show w.heap[g]? = _ from h]
theorem BRow.there {w : World} {t : TypeId} {g : Nat} {l : List UInt8} (h : BRow w t g l) (n : Nat) (hn : n ≤ l.length) : w.there g 0 n := fun j hj => by
  rw [Nat.zero_add]
  exact ⟨by rw [h.cell j (by omega)]; rfl, h.free j⟩
theorem WRow8.free {w : World} {g : Nat} {s : Wk} (h : WRow8 w g s) (j : Nat) : w.frozen? ⟨g, j, none⟩ = false := by
  simp [World.frozen?, show w.heap[g]? = _ from h]
theorem WRow8.there {w : World} {g : Nat} {s : Wk} (h : WRow8 w g s) (n : Nat) (hn : n ≤ 8) : w.there g 0 n := fun j hj => by
  rw [Nat.zero_add]
  refine ⟨?_, h.free j⟩
  rw [World.cell?, show w.heap[g]? = _ from h]
  show ((words s.list).toArray[j]?).isSome = true
  rw [List.getElem?_toArray, List.getElem?_eq_getElem (by rw [words_len]; omega)]
  rfl
theorem BRow.blk {w : World} {t : TypeId} {g : Nat} {l : List UInt8} (h : BRow w t g l) (hl : l.length = 64) : Blk w g 0 l := fun j hj => by
  have hq := h.cell j (by omega)
  rw [Nat.zero_add]
  exact hq
theorem byteCells_set (l : List UInt8) (j : Nat) (x : UInt8) : (Lib.byteCells l).toArray.setIfInBounds j (.int .u8 (x.toNat : Int)) = (Lib.byteCells (l.set j x)).toArray := by
  rw [List.setIfInBounds_toArray]
  congr 1
  show (l.map _).set j _ = (l.set j x).map _
  rw [List.map_set]
theorem BRow.set {w : World} {t : TypeId} {g : Nat} {l : List UInt8} (h : BRow w t g l) (j : Nat) (x : UInt8) : BRow (w.setCell ⟨g, j, none⟩ (.int .u8 (x.toNat : Int))) t g (l.set j x) := by
  unfold BRow
  rw [heap_setCell_same _ _ _ _ _ _ h, byteCells_set]
/-- Bytes 0 laid from o on. -/
theorem BRow.clear {w : World} {t : TypeId} {g : Nat} {l : List UInt8} (h : BRow w t g l) (o n : Nat) (hn : o + n ≤ l.length) : BRow (w.setCells g o (List.replicate n (.int .u8 0))) t g (l.take o ++ (zeros n ++ l.drop (o + n))) := by
  unfold BRow
  have e : (List.replicate n (Value.int .u8 0)) = Lib.byteCells (zeros n) := by unfold Lib.byteCells zeros; rw [List.map_replicate]; rfl
  rw [heap_setCells_splice _ _ _ _ h (by rw [List.length_replicate, bytes_len]; exact hn), e]
  congr 2
  unfold splice
  rw [Lib.byteCells_append, Lib.byteCells_append, bytes_len]
  have hz : (zeros n).length = n := by simp [zeros]
  rw [hz]
  unfold Lib.byteCells
  rw [← List.map_take, ← List.map_drop]
theorem run_clear_none (w : World) (t e ty : TypeId) (ht : Tryd.prog.underlying t = some (.slice e)) (p : Option Addr) (c : Nat) : (Builtin.clear_ #[t] ty #[.slice p 0 c]).run Tryd.prog w = .ok (.tuple #[]) w := by
  cases p <;> simp [Builtin.clear_, run_underlying ht]
/-- Bytes cleared. -/
theorem run_clear_bytes (w : World) (ty : TypeId) (b o n c : Nat) (hn : 0 < n) (hc : ∀ j, j < n → (w.cell? ⟨b, o + j, none⟩).isSome = true) (hf : ∀ j, j < n → w.frozen? ⟨b, o + j, none⟩ = false) :
    (Builtin.clear_ #[31] ty #[.slice (some ⟨b, o, none⟩) n c]).run Tryd.prog w = .ok (.tuple #[]) (w.setCells b o (List.replicate n (.int .u8 0))) :=
  Lib.run_clear_slice w 31 5 ty (.int .u8 0) Tryd.underlying31 (fun _ => by kernel_rfl) rfl rfl b o n c hn hc hf
theorem len64 : Tryd.prog.arrayLen 48 = 64 := by kernel_rfl
theorem size_u8 (W : World) : (sizeOf 5).run Tryd.prog W = .ok 1 W := by kernel_rfl
theorem elem64 : Tryd.prog.elem 48 = 5 := by kernel_rfl
/-- What is behind a place of an array of 64 bytes. -/
theorem run_part64 (g lo : Nat) (i : Int) (hi : i = (lo : Int)) (h : lo ≤ 64) (W : World) : (Instr.sliceAt 48 (.pointer (some ⟨g, 0, none⟩)) (some (.int .i64 i)) none none).run Tryd.prog W = .ok (.slice (some ⟨g, if 64 = lo then 0 else lo, none⟩) (64 - lo) (64 - lo)) W := by
  subst hi
  have e := run_sliceAt_array_l (P := Tryd.prog) W 48 ⟨g, 0, none⟩ (by rw [len64, elem64]; exact Tryd.underlying48) .i64 (lo : Int) (by omega) (by rw [len64]; omega)
  rw [e, elem64, size_u8, len64]
  simp only [Result.andThen, slicedAt, Int.toNat_natCast]
  by_cases h64 : 64 = lo
  · rw [if_pos h64, if_pos h64]
  · rw [if_neg h64, if_neg h64]
    simp [add_plain]
theorem run_all64 (g : Nat) (W : World) : (Instr.sliceAt 48 (.pointer (some ⟨g, 0, none⟩)) none none none).run Tryd.prog W = .ok (.slice (some ⟨g, 0, none⟩) 64 64) W := by
  have e := run_sliceAt_array_all (P := Tryd.prog) W 48 ⟨g, 0, none⟩ (by rw [len64, elem64]; exact Tryd.underlying48)
  rw [e, elem64, size_u8, len64]
  simp [Result.andThen, slicedAt, add_plain]
theorem len32 : Tryd.prog.arrayLen 23 = 32 := by kernel_rfl
theorem elem32 : Tryd.prog.elem 23 = 5 := by kernel_rfl
theorem run_all32 (g : Nat) (W : World) : (Instr.sliceAt 23 (.pointer (some ⟨g, 0, none⟩)) none none none).run Tryd.prog W = .ok (.slice (some ⟨g, 0, none⟩) 32 32) W := by
  have e := run_sliceAt_array_all (P := Tryd.prog) W 23 ⟨g, 0, none⟩ (by rw [len32, elem32]; exact Tryd.underlying23)
  rw [e, elem32, size_u8, len32]
  simp [Result.andThen, slicedAt, add_plain]
end Go.Proofs.YtjopfhmloklhdaaDoor
