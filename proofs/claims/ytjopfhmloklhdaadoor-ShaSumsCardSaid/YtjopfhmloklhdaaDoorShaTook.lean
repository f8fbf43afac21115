/-
  SHA-256 in parts: what stands behind some bytes, and behind some more.
-/
import Derived.Test.YtjopfhmloklhdaaDoorShaSpec
namespace Go.Proofs.YtjopfhmloklhdaaDoor
set_option linter.unusedVariables false
set_option linter.unusedSimpArgs false

/-- Behind the bytes l: the words of the whole blocks; what is behind those stands at the beginning of the rest. -/
structure Took (l : List UInt8) (st : Wk) (rest : List UInt8) (at_ : Nat) : Prop where
  words : st = mixMany shaStart (l.length / 64) l
  pos : at_ = l.length % 64
  part : rest.take at_ = l.drop (64 * (l.length / 64))
  size : rest.length = 64
theorem mixMany_pre (s : Wk) : ∀ (n : Nat) (l m : List UInt8), 64 * n ≤ l.length → mixMany s n (l ++ m) = mixMany s n l
  | 0, _, _, _ => rfl
  | n + 1, l, m, h => by
    simp only [mixMany]
    rw [List.take_append_of_le_length (by omega), List.drop_append_of_le_length (by omega)]
    exact mixMany_pre _ n (l.drop 64) m (by rw [List.length_drop]; omega)
theorem Took.start (rest : List UInt8) (h : rest.length = 64) : Took [] shaStart rest 0 := ⟨rfl, rfl, rfl, h⟩
theorem Took.lt {l : List UInt8} {st : Wk} {rest : List UInt8} {at_ : Nat} (h : Took l st rest at_) : at_ < 64 := by rw [h.pos]; exact Nat.mod_lt _ (by omega)
/-- Some more, and the block is not full. -/
theorem Took.less {l : List UInt8} {st : Wk} {rest : List UInt8} {at_ : Nat} (h : Took l st rest at_) (b rest' : List UInt8) (hb : at_ + b.length < 64) (hr : rest'.take (at_ + b.length) = rest.take at_ ++ b) (hl : rest'.length = 64) : Took (l ++ b) st rest' (at_ + b.length) := by
  have ha := h.pos
  have hd : (l ++ b).length / 64 = l.length / 64 := by rw [List.length_append]; omega
  refine ⟨?_, ?_, ?_, hl⟩
  · rw [hd, mixMany_pre _ _ _ _ (by omega)]
    exact h.words
  · rw [List.length_append]; omega
  · rw [hd, hr, h.part, List.drop_append_of_le_length (by omega)]
/-- Some more, and the block is full. -/
theorem Took.full {l : List UInt8} {st : Wk} {rest : List UInt8} {at_ : Nat} (h : Took l st rest at_) (b rest' : List UInt8) (hb : at_ + b.length = 64) (hr : rest' = rest.take at_ ++ b) : Took (l ++ b) (mixW shaK st rest') rest' 0 := by
  have ha := h.pos
  have hrl : (rest.take at_).length = at_ := by rw [List.length_take, h.size]; omega
  have hd : (l ++ b).length / 64 = l.length / 64 + 1 := by rw [List.length_append]; omega
  have hl : rest'.length = 64 := by rw [hr, List.length_append, hrl, hb]
  refine ⟨?_, ?_, ?_, hl⟩
  · rw [hd, mixMany_add, mixMany_pre _ _ _ _ (by omega), ← h.words]
    simp only [mixMany]
    have e : (l ++ b).drop (64 * (l.length / 64)) = rest' := by rw [List.drop_append_of_le_length (by omega), ← h.part, hr]
    rw [e, List.take_of_length_le (by omega)]
  · rw [List.length_append]; omega
  · rw [hd, List.take_zero, List.drop_eq_nil_of_le (by rw [List.length_append]; omega)]
theorem Took.st_lt {l : List UInt8} {st : Wk} {rest : List UInt8} {at_ : Nat} (h : Took l st rest at_) : st.Lt := by rw [h.words]; exact mixMany_lt shaStart_lt _ _
/-- The digest of what was taken: the rest is padded, one block or two. -/
theorem Took.one {l : List UInt8} {st : Wk} {rest : List UInt8} {at_ : Nat} (h : Took l st rest at_) (hs : at_ + 1 ≤ 56) : shaOf l = wordsOut (mixW shaK st (rest.take at_ ++ (128 :: (List.replicate (55 - at_) 0 ++ be8 (l.length * 8 % 18446744073709551616))))) := by
  have ha := h.pos
  have hn : (l.length + 8) / 64 + 1 = l.length / 64 + 1 := by omega
  unfold shaOf
  rw [hn, mixMany_add, mixMany_pre _ _ _ _ (by omega), ← h.words]
  simp only [mixMany]
  rw [List.drop_append_of_le_length (by omega), ← h.part]
  have hz : (119 - l.length % 64) % 64 = 55 - at_ := by omega
  have hlen : (rest.take at_).length = at_ := by rw [List.length_take, h.size]; omega
  unfold padBy
  rw [hz, List.take_of_length_le (by
    simp only [be8, List.length_append, List.length_cons, List.length_replicate, List.length_nil, hlen]
    omega)]
theorem Took.two {l : List UInt8} {st : Wk} {rest : List UInt8} {at_ : Nat} (h : Took l st rest at_) (hs : 56 < at_ + 1) : shaOf l = wordsOut (mixW shaK (mixW shaK st (rest.take at_ ++ (128 :: List.replicate (63 - at_) 0))) (List.replicate 56 0 ++ be8 (l.length * 8 % 18446744073709551616))) := by
  have ha := h.pos
  have hat := h.lt
  have hn : (l.length + 8) / 64 + 1 = l.length / 64 + 2 := by omega
  unfold shaOf
  rw [hn, mixMany_add, mixMany_pre _ _ _ _ (by omega), ← h.words]
  simp only [mixMany]
  rw [List.drop_append_of_le_length (by omega), ← h.part]
  have hz : (119 - l.length % 64) % 64 = (63 - at_) + 56 := by omega
  have hlen : (rest.take at_).length = at_ := by rw [List.length_take, h.size]; omega
  have e : rest.take at_ ++ padBy l.length = (rest.take at_ ++ (128 :: List.replicate (63 - at_) 0)) ++ (List.replicate 56 0 ++ be8 (l.length * 8 % 18446744073709551616)) := by
    unfold padBy
    rw [hz, ← List.replicate_append_replicate]
    simp
  have hf : (rest.take at_ ++ (128 :: List.replicate (63 - at_) (0 : UInt8))).length = 64 := by
    simp only [List.length_append, List.length_cons, List.length_replicate, hlen]
    omega
  have hb : (List.replicate 56 (0 : UInt8) ++ be8 (l.length * 8 % 18446744073709551616)).length = 64 := by
    rw [List.length_append, List.length_replicate]
    rfl
  rw [e]
  generalize (rest.take at_ ++ (128 :: List.replicate (63 - at_) (0 : UInt8))) = X at *
  generalize (List.replicate 56 (0 : UInt8) ++ be8 (l.length * 8 % 18446744073709551616)) = Y at *
  rw [List.take_append_of_le_length (by omega), List.take_of_length_le (by omega : X.length ≤ 64), List.drop_append_of_le_length (by omega), List.drop_eq_nil_of_le (by omega), List.nil_append, List.take_of_length_le (by omega : Y.length ≤ 64)]
end Go.Proofs.YtjopfhmloklhdaaDoor
