/-
  Package sha: a hash in memory; New.
-/
import Derived.Test.YtjopfhmloklhdaaDoorMixed
import Derived.Test.YtjopfhmloklhdaaDoorAppA
namespace Go.Proofs.YtjopfhmloklhdaaDoor
open Go.ChangeShapes Go.WideShapes Go.ChangeAt Go.RowKit Go.Deep
set_option linter.unusedVariables false
set_option linter.unusedSimpArgs false

/-- A hash: the words, the rest of a block, how many bytes it took, whether it is closed, its digest; the Once's own numbers. -/
structure HashV where
  st : Wk
  rest : List UInt8
  len : Nat
  closed : Bool
  dig : List UInt8
  done : Nat
  lock : Int
def hashCells (h : HashV) : List Value := words h.st.list ++ (Lib.byteCells h.rest ++ ([.int .i64 (h.len : Int), .bool h.closed] ++ (Lib.byteCells h.dig ++ [.int .u32 (h.done : Int), .int .i32 h.lock, .int .u32 0])))
/-- It lies in block R. -/
def HashIs (w : World) (R : Nat) (h : HashV) : Prop := w.heap[R]? = some (.cells (hashCells h).toArray 61 (0, 0)) ∧ h.rest.length = 64 ∧ h.dig.length = 32
theorem HashIs.below {w w' : World} {R : Nat} {h : HashV} (hi : HashIs w R h) (hb : Below w.heap.size w w') : HashIs w' R h := ⟨(hb.block R (lt_of_block hi.1)).trans hi.1, hi.2⟩
theorem HashIs.at {w : World} {R : Nat} {h : HashV} (hi : HashIs w R h) (j : Nat) : w.cell? ⟨R, j, none⟩ = (hashCells h)[j]? ∧ w.frozen? ⟨R, j, none⟩ = false := by
  obtain ⟨hh, _⟩ := hi
  exact ⟨by simp [World.cell?, hh], by simp [World.frozen?, hh]⟩
theorem words_len (s : Wk) : (words s.list).length = 8 := by simp [words, Wk.list]
theorem HashIs.word {w : World} {R : Nat} {h : HashV} (hi : HashIs w R h) : w.rangeAt R 0 (words h.st.list) := fun j v hj => by
  have hjl : j < 8 := by have := (List.getElem?_eq_some_iff.1 hj).1; rw [words_len] at this; exact this
  rw [Nat.zero_add, (hi.at j).1, hashCells, List.getElem?_append_left (by rw [words_len]; exact hjl), hj]
theorem HashIs.byte {w : World} {R : Nat} {h : HashV} (hi : HashIs w R h) : w.rangeAt R 8 (Lib.byteCells h.rest) := fun j v hj => by
  have hjl : j < 64 := by have := (List.getElem?_eq_some_iff.1 hj).1; rw [Lib.byteCells_length, hi.2.1] at this; exact this
  rw [(hi.at (8 + j)).1, hashCells, List.getElem?_append_right (by rw [words_len]; omega), words_len, show 8 + j - 8 = j by omega, List.getElem?_append_left (by rw [Lib.byteCells_length, hi.2.1]; exact hjl), hj]
theorem HashIs.len {w : World} {R : Nat} {h : HashV} (hi : HashIs w R h) : w.cell? ⟨R, 72, none⟩ = some (.int .i64 (h.len : Int)) := by
  rw [(hi.at 72).1, hashCells, List.getElem?_append_right (by rw [words_len]; omega), words_len, List.getElem?_append_right (by rw [Lib.byteCells_length, hi.2.1]; omega), Lib.byteCells_length, hi.2.1]
  rfl
theorem HashIs.shut {w : World} {R : Nat} {h : HashV} (hi : HashIs w R h) : w.cell? ⟨R, 73, none⟩ = some (.bool h.closed) := by
  rw [(hi.at 73).1, hashCells, List.getElem?_append_right (by rw [words_len]; omega), words_len, List.getElem?_append_right (by rw [Lib.byteCells_length, hi.2.1]; omega), Lib.byteCells_length, hi.2.1]
  rfl
theorem HashIs.once {w : World} {R : Nat} {h : HashV} (hi : HashIs w R h) : w.cell? ⟨R, 106, none⟩ = some (.int .u32 (h.done : Int)) ∧ w.cell? ⟨R, 107, none⟩ = some (.int .i32 h.lock) := by
  constructor
  · rw [(hi.at 106).1, hashCells, List.getElem?_append_right (by rw [words_len]; omega), words_len, List.getElem?_append_right (by rw [Lib.byteCells_length, hi.2.1]; omega), Lib.byteCells_length, hi.2.1]
    show (Lib.byteCells h.dig ++ _)[32]? = _
    rw [List.getElem?_append_right (by rw [Lib.byteCells_length, hi.2.2]; omega), Lib.byteCells_length, hi.2.2]
    rfl
  · rw [(hi.at 107).1, hashCells, List.getElem?_append_right (by rw [words_len]; omega), words_len, List.getElem?_append_right (by rw [Lib.byteCells_length, hi.2.1]; omega), Lib.byteCells_length, hi.2.1]
    show (Lib.byteCells h.dig ++ _)[33]? = _
    rw [List.getElem?_append_right (by rw [Lib.byteCells_length, hi.2.2]; omega), Lib.byteCells_length, hi.2.2]
    rfl
theorem HashIs.digs {w : World} {R : Nat} {h : HashV} (hi : HashIs w R h) : w.rangeAt R 74 (Lib.byteCells h.dig) := fun j v hj => by
  have hjl : j < 32 := by have := (List.getElem?_eq_some_iff.1 hj).1; rw [Lib.byteCells_length, hi.2.2] at this; exact this
  rw [(hi.at (74 + j)).1, hashCells, List.getElem?_append_right (by rw [words_len]; omega), words_len, List.getElem?_append_right (by rw [Lib.byteCells_length, hi.2.1]; omega), Lib.byteCells_length, hi.2.1, show 74 + j - 8 - 64 = j + 2 by omega]
  show (Lib.byteCells h.dig ++ _)[j]? = _
  rw [List.getElem?_append_left (by rw [Lib.byteCells_length, hi.2.2]; exact hjl), hj]
set_option maxRecDepth 100000 in
set_option maxHeartbeats 2000000 in
theorem Len_any (w : World) (R : Nat) (h : HashV) (hi : HashIs w R h) : Calls Tryd.prog 15 #[.pointer (some ⟨R, 0, none⟩)] w fun e w' => e = .returned (.int .i64 (h.len : Int)) ∧ w' = w := by
  have c := hi.len
  generalize h.len = n at c ⊢
  clear hi
  go_enter Tryd.func15, Tryd.ntmps15
  go_wp2
  go_ret
  exact ⟨rfl, rfl⟩
/-- Bytes 0. -/
def zeros (n : Nat) : List UInt8 := List.replicate n 0
def newV (s : Wk) : HashV := ⟨s, zeros 64, 0, false, zeros 32, 0, 0⟩
theorem built_hash (s : Wk) : Tryd.prog.built 61 [(0, s.val)] = some (hashCells (newV s)).toArray := by
  obtain ⟨a, b, c, d, e, f, g, h⟩ := s
  kernel_rfl
theorem wpList_build_hash {ops : Array Oper} {rest : List Oper} {o : Oper} {a : Act} {w : World} {Q : Exit → Act → World → Prop} (hg : o.guard = none) (s : Wk) (x : Operand) (ho : o.op = .build 61 [(0, x)].toArray) (hx : a.eval x = s.val) (C : Array Value) (hC : (hashCells (newV s)).toArray = C)
    (h : wpList Tryd.prog ops Q rest (a.put o.dst (.agg C)) w) : wpList Tryd.prog ops Q (o :: rest) a w := by
  have hb := built_hash s
  rw [← hx, hC] at hb
  have e1 : ([(0, x)].toArray.map fun (i, x) => (i, a.eval x)).toList = [(0, a.eval x)] := by
    rw [Array.toList_map]
    rfl
  refine wpList_plain hg fun _ hK => wp_build 61 [(0, x)].toArray ho ?_ ?_
  · rw [e1, hb]; rfl
  · rw [e1, hb]; exact hK _ _ h
/-- The words at first lie where the program laid them. -/
def Sta (w : World) (s : Wk) : Prop := w.rangeAt 0 0 (words s.list)
set_option maxRecDepth 100000 in
set_option maxHeartbeats 4000000 in
theorem New_any (w : World) (s : Wk) (hs : Sta w s) : Calls Tryd.prog 11 #[] w fun e w' => e = .returned (.pointer (some ⟨w.heap.size, 0, none⟩)) ∧ HashIs w' w.heap.size (newV s) ∧ Below w.heap.size w w' := by
  have HS := Lib.hid hs
  have hi8 : (Tryd.prog.info? 47).map (·.size) = some (words s.list).length := by
    rw [words_len]
    kernel_rfl
  have HI8 := Lib.hid hi8
  obtain ⟨C, hC⟩ : ∃ C, (hashCells (newV s)).toArray = C := ⟨_, rfl⟩
  have HC := Lib.hid hC
  have hv : Value.agg (words s.list).toArray = s.val := rfl
  have HV := Lib.hid hv
  clear hs hi8 hC hv
  go_enter Tryd.func11, Tryd.ntmps11
  go_wp2_with (first | (refine wpList_load_mid rfl 47 (.global 0) rfl 0 0 rfl (words s.list) _ HS.out Tryd.underlying47 rfl HI8.out ?_) | (refine wpList_build_hash rfl s (.tmp 1) rfl HV.out C HC.out ?_))
  go_ret
  have hh := heap_alloc_new w (.cells C 61)
  exact ⟨rfl, ⟨by rw [HC.out]; exact hh, by simp [newV, zeros], by simp [newV, zeros]⟩, (Below.refl _ _).alloc (Nat.le_refl _) _⟩
end Go.Proofs.YtjopfhmloklhdaaDoor
