/-
  Package sha: a hash in memory, changed: its length, its mark, its words, its digest, bytes put into its block. The document's own turn of a word.
-/
import Derived.Test.YtjopfhmloklhdaaDoorHash
import Derived.Laws.CopyOwn
namespace Go.Proofs.YtjopfhmloklhdaaDoor
open Go.ChangeShapes Go.WideShapes Go.ChangeAt Go.RowKit Go.Deep
set_option linter.unusedVariables false
set_option linter.unusedSimpArgs false

theorem bytes_len (l : List UInt8) : (Lib.byteCells l).length = l.length := Lib.byteCells_length l
/-- The five parts. -/
theorem parts_at (A B C D E : List Value) (n : Nat) : (A ++ (B ++ (C ++ (D ++ E)))).length = A.length + (B.length + (C.length + (D.length + E.length))) := by simp
theorem set_mid {α : Type} (A B : List α) (x y : α) (n : Nat) (hn : n = A.length) : (A ++ (x :: B)).set n y = A ++ (y :: B) := by
  subst hn
  rw [List.set_append_right _ _ (Nat.le_refl _), Nat.sub_self]
  rfl
theorem hash_len (h : HashV) (hr : h.rest.length = 64) (n : Nat) : (hashCells h).set 72 (.int .i64 (n : Int)) = hashCells { h with len := n } := by
  have e : hashCells h = (words h.st.list ++ Lib.byteCells h.rest) ++ (.int .i64 (h.len : Int) :: (.bool h.closed :: (Lib.byteCells h.dig ++ [.int .u32 (h.done : Int), .int .i32 h.lock, .int .u32 0]))) := by simp [hashCells]
  rw [e, set_mid _ _ _ _ 72 (by rw [List.length_append, words_len, bytes_len, hr])]
  simp [hashCells]
theorem hash_shut (h : HashV) (hr : h.rest.length = 64) (b : Bool) : (hashCells h).set 73 (.bool b) = hashCells { h with closed := b } := by
  have e : hashCells h = (words h.st.list ++ Lib.byteCells h.rest ++ [.int .i64 (h.len : Int)]) ++ (.bool h.closed :: (Lib.byteCells h.dig ++ [.int .u32 (h.done : Int), .int .i32 h.lock, .int .u32 0])) := by simp [hashCells]
  rw [e, set_mid _ _ _ _ 73 (by rw [List.length_append, List.length_append, words_len, bytes_len, hr]; rfl)]
  simp [hashCells]
theorem hash_done (h : HashV) (hr : h.rest.length = 64) (hd : h.dig.length = 32) (n : Nat) : (hashCells h).set 106 (.int .u32 (n : Int)) = hashCells { h with done := n } := by
  have e : hashCells h = (words h.st.list ++ Lib.byteCells h.rest ++ [.int .i64 (h.len : Int), .bool h.closed] ++ Lib.byteCells h.dig) ++ (.int .u32 (h.done : Int) :: [.int .i32 h.lock, .int .u32 0]) := by simp [hashCells]
  rw [e, set_mid _ _ _ _ 106 (by simp only [List.length_append, words_len, bytes_len, hr, hd]; rfl)]
  simp [hashCells]
theorem hash_lock (h : HashV) (hr : h.rest.length = 64) (hd : h.dig.length = 32) (n : Int) : (hashCells h).set 107 (.int .i32 n) = hashCells { h with lock := n } := by
  have e : hashCells h = (words h.st.list ++ Lib.byteCells h.rest ++ [.int .i64 (h.len : Int), .bool h.closed] ++ Lib.byteCells h.dig ++ [.int .u32 (h.done : Int)]) ++ (.int .i32 h.lock :: [.int .u32 0]) := by simp [hashCells]
  rw [e, set_mid _ _ _ _ 107 (by simp only [List.length_append, words_len, bytes_len, hr, hd]; rfl)]
  simp [hashCells]
theorem splice_mid {α : Type} (A B C D : List α) (o : Nat) (ho : o = A.length) (hl : D.length = B.length) : splice (A ++ (B ++ C)) o D = A ++ (D ++ C) := by
  subst ho
  unfold splice
  rw [List.take_left, hl, ← List.append_assoc, List.drop_append, List.drop_eq_nil_of_le (by omega), List.nil_append, Nat.add_sub_cancel_left, List.drop_append, List.drop_eq_nil_of_le (Nat.le_refl _), List.nil_append, Nat.sub_self]
  simp
theorem hash_word (h : HashV) (s : Wk) : splice (hashCells h) 0 (words s.list) = hashCells { h with st := s } :=
  splice_mid [] (words h.st.list) _ (words s.list) 0 rfl (by rw [words_len, words_len])
theorem hash_dig (h : HashV) (hr : h.rest.length = 64) (hd : h.dig.length = 32) (d : List UInt8) (hdl : d.length = 32) : splice (hashCells h) 74 (Lib.byteCells d) = hashCells { h with dig := d } := by
  have e : hashCells h = (words h.st.list ++ Lib.byteCells h.rest ++ [.int .i64 (h.len : Int), .bool h.closed]) ++ (Lib.byteCells h.dig ++ [.int .u32 (h.done : Int), .int .i32 h.lock, .int .u32 0]) := by simp [hashCells]
  rw [e, splice_mid _ _ _ _ 74 (by simp only [List.length_append, words_len, bytes_len, hr]; rfl) (by rw [bytes_len, bytes_len, hdl, hd])]
  simp [hashCells]
theorem cells_split (l : List UInt8) (at_ : Nat) (bs : List UInt8) (h : at_ + bs.length ≤ l.length) : Lib.byteCells l = Lib.byteCells (l.take at_) ++ (Lib.byteCells ((l.drop at_).take bs.length) ++ Lib.byteCells (l.drop (at_ + bs.length))) := by
  rw [← Lib.byteCells_append, ← Lib.byteCells_append]
  congr 1
  rw [← List.drop_drop, List.take_append_drop, List.take_append_drop]
theorem hash_rest (h : HashV) (hr : h.rest.length = 64) (at_ : Nat) (bs : List UInt8) (hf : at_ + bs.length ≤ 64) : splice (hashCells h) (8 + at_) (Lib.byteCells bs) = hashCells { h with rest := splice h.rest at_ bs } := by
  have hs := cells_split h.rest at_ bs (by omega)
  have e : hashCells h = (words h.st.list ++ Lib.byteCells (h.rest.take at_)) ++ (Lib.byteCells ((h.rest.drop at_).take bs.length) ++ (Lib.byteCells (h.rest.drop (at_ + bs.length)) ++ ([.int .i64 (h.len : Int), .bool h.closed] ++ (Lib.byteCells h.dig ++ [.int .u32 (h.done : Int), .int .i32 h.lock, .int .u32 0])))) := by
    unfold hashCells
    rw [hs]
    simp only [List.append_assoc]
  rw [e, splice_mid _ _ _ _ (8 + at_) (by rw [List.length_append, words_len, bytes_len, List.length_take]; omega) (by rw [bytes_len, bytes_len, List.length_take, List.length_drop]; omega)]
  simp only [hashCells, splice, Lib.byteCells_append, List.append_assoc]
theorem splice_length {α : Type} (l : List α) (o : Nat) (d : List α) (h : o + d.length ≤ l.length) : (splice l o d).length = l.length := length_splice l o d h

/-- Cells stored one behind the other are laid over those that were there. -/
theorem heap_setCells_splice {b : Nat} {t : TypeId} (vs : List Value) (o : Nat) (w : World) (L : List Value) (h : w.heap[b]? = some (.cells L.toArray t (0, 0))) (hs : o + vs.length ≤ L.length) :
    (w.setCells b o vs).heap[b]? = some (.cells (splice L o vs).toArray t (0, 0)) := by
  obtain ⟨C', h1, h2, h3, h4, h5⟩ := heap_setCells_list vs o w L.toArray h (by simpa using hs)
  rw [h1]
  congr 2
  apply Array.ext'
  apply List.ext_getElem?
  intro j
  rw [Array.getElem?_toList]
  simp only [List.getElem?_toArray] at h3 h4 h5
  unfold splice
  rcases Nat.lt_or_ge j o with hj | hj
  · rw [h3 j hj, List.getElem?_append_left (by rw [List.length_take]; omega), List.getElem?_take_of_lt hj]
  · have hl : (L.take o).length = o := by rw [List.length_take]; omega
    rw [List.getElem?_append_right (by omega), hl]
    rcases Nat.lt_or_ge j (o + vs.length) with hj2 | hj2
    · have := h4 (j - o) (by omega)
      rw [show o + (j - o) = j by omega] at this
      rw [this, List.getElem?_append_left (by omega)]
    · rw [h5 j hj2, List.getElem?_append_right (by omega), List.getElem?_drop]
      congr 1
      omega
theorem HashIs.setLen {w : World} {R : Nat} {h : HashV} (hi : HashIs w R h) (n : Nat) : HashIs (w.setCell ⟨R, 72, none⟩ (.int .i64 (n : Int))) R { h with len := n } := by
  refine ⟨?_, hi.2⟩
  rw [heap_setCell_same _ _ _ _ _ _ hi.1, List.setIfInBounds_toArray, hash_len h hi.2.1]
theorem HashIs.setShut {w : World} {R : Nat} {h : HashV} (hi : HashIs w R h) (b : Bool) : HashIs (w.setCell ⟨R, 73, none⟩ (.bool b)) R { h with closed := b } := by
  refine ⟨?_, hi.2⟩
  rw [heap_setCell_same _ _ _ _ _ _ hi.1, List.setIfInBounds_toArray, hash_shut h hi.2.1]
theorem HashIs.setDone {w : World} {R : Nat} {h : HashV} (hi : HashIs w R h) (n : Nat) : HashIs (w.setCell ⟨R, 106, none⟩ (.int .u32 (n : Int))) R { h with done := n } := by
  refine ⟨?_, hi.2⟩
  rw [heap_setCell_same _ _ _ _ _ _ hi.1, List.setIfInBounds_toArray, hash_done h hi.2.1 hi.2.2]
theorem HashIs.setLock {w : World} {R : Nat} {h : HashV} (hi : HashIs w R h) (n : Int) : HashIs (w.setCell ⟨R, 107, none⟩ (.int .i32 n)) R { h with lock := n } := by
  refine ⟨?_, hi.2⟩
  rw [heap_setCell_same _ _ _ _ _ _ hi.1, List.setIfInBounds_toArray, hash_lock h hi.2.1 hi.2.2]
theorem hash_size (h : HashV) (hr : h.rest.length = 64) (hd : h.dig.length = 32) : (hashCells h).length = 109 := by
  simp only [hashCells, List.length_append, words_len, bytes_len, hr, hd]
  rfl
theorem HashIs.setWord {w : World} {R : Nat} {h : HashV} (hi : HashIs w R h) (s : Wk) : HashIs (w.setCells R 0 (words s.list)) R { h with st := s } := by
  refine ⟨?_, hi.2⟩
  rw [heap_setCells_splice _ _ _ _ hi.1 (by rw [hash_size h hi.2.1 hi.2.2, words_len]; omega), hash_word]
theorem HashIs.setDig {w : World} {R : Nat} {h : HashV} (hi : HashIs w R h) (d : List UInt8) (hd : d.length = 32) : HashIs (w.setCells R 74 (Lib.byteCells d)) R { h with dig := d } := by
  refine ⟨?_, hi.2.1, hd⟩
  rw [heap_setCells_splice _ _ _ _ hi.1 (by rw [hash_size h hi.2.1 hi.2.2, bytes_len, hd]; omega), hash_dig h hi.2.1 hi.2.2 d hd]
theorem HashIs.setRest {w : World} {R : Nat} {h : HashV} (hi : HashIs w R h) (at_ : Nat) (bs : List UInt8) (hf : at_ + bs.length ≤ 64) :
    HashIs (w.setRow R ((hashCells h).toArray.toList.take (8 + at_) ++ (Lib.byteCells bs ++ (hashCells h).toArray.toList.drop (8 + at_ + (Lib.byteCells bs).length))).toArray) R { h with rest := splice h.rest at_ bs } := by
  refine ⟨?_, ?_, hi.2.2⟩
  · rw [setRow_heap _ _ _ _ _ _ hi.1, ← hash_rest h hi.2.1 at_ bs hf]
    rfl
  · show (splice h.rest at_ bs).length = 64
    rw [splice_length _ _ _ (by rw [hi.2.1]; exact hf)]
    exact hi.2.1
end Go.Proofs.YtjopfhmloklhdaaDoor
