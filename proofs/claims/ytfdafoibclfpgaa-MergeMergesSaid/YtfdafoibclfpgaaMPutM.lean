/-
  Items put one by one into a sorted list: what they come to.
-/
import Derived.Test.YtfdafoibclfpgaaMItem
namespace Go.Proofs.Ytfdafoibclfpgaa
open Go.ChangeShapes Go.WideShapes Go.ChangeAt Go.RowKit Go.Deep
set_option linter.unusedVariables false
set_option linter.unusedSimpArgs false
/-- A sorted list with one more; one with that key and number stays. -/
def putL (x : Itm) : List Itm → List Itm
  | [] => [x]
  | y :: r => if aheadI y x then y :: putL x r else if aheadI x y then x :: y :: r else y :: r
theorem putL_mem (x z : Itm) : ∀ l : List Itm, z ∈ putL x l → z = x ∨ z ∈ l
  | [], h => .inl (List.mem_singleton.1 h)
  | y :: r, h => by
    unfold putL at h
    split at h
    · rcases List.mem_cons.1 h with h | h
      · exact .inr (h ▸ List.mem_cons_self ..)
      · exact (putL_mem x z r h).imp id (List.mem_cons_of_mem _)
    · split at h
      · rcases List.mem_cons.1 h with h | h
        · exact .inl h
        · exact .inr h
      · exact .inr h
theorem putL_len (x : Itm) : ∀ l : List Itm, (putL x l).length ≤ l.length + 1
  | [] => Nat.le_refl _
  | y :: r => by
    unfold putL
    split
    · have := putL_len x r; simp only [List.length_cons]; omega
    · split <;> simp only [List.length_cons] <;> omega
theorem putL_sorted (x : Itm) : ∀ l : List Itm, SortedI l → SortedI (putL x l)
  | [], _ => List.pairwise_singleton _ _
  | y :: r, h => by
    obtain ⟨h1, h2⟩ := List.pairwise_cons.1 h
    unfold putL
    split
    · rename_i hy
      refine List.pairwise_cons.2 ⟨fun z hz => ?_, putL_sorted x r h2⟩
      rcases putL_mem x z r hz with rfl | hz
      · exact hy
      · exact h1 z hz
    · split
      · rename_i hx
        refine List.pairwise_cons.2 ⟨fun z hz => ?_, h⟩
        rcases List.mem_cons.1 hz with rfl | hz
        · exact hx
        · exact aheadI_trans hx (h1 z hz)
      · exact h
theorem putL_at (x : Itm) (k : ByteArray) (s : Nat) : ∀ l : List Itm, SortedI l → atI (putL x l) k s = (atI l k s).or (atI [x] k s)
  | [], _ => by simp [putL, atI]
  | y :: r, h => by
    obtain ⟨h1, h2⟩ := List.pairwise_cons.1 h
    unfold putL
    split
    · rw [atI_cons, atI_cons, putL_at x k s r h2]
      split <;> rfl
    · split
      · rename_i hx
        rw [atI_cons x]
        by_cases hm : matchI k s x = true
        · rw [if_pos hm, show atI (y :: r) k s = none from atI_none fun z hz hk => by
            obtain ⟨e1, e2⟩ := (matchI_iff k s x).1 hm
            have hxz : aheadI x z = true := by
              rcases List.mem_cons.1 hz with rfl | hz
              · exact hx
              · exact aheadI_trans hx (h1 z hz)
            exact aheadI_no hxz ⟨e1.trans hk.1.symm, e2.trans hk.2.symm⟩]
          rw [atI_cons, if_pos hm]; rfl
        · rw [if_neg hm, show atI [x] k s = none by rw [atI_cons, if_neg hm]; rfl]
          simp
      · rename_i hy hx
        obtain ⟨e1, e2⟩ := aheadI_tri (by simpa using hx) (by simpa using hy)
        by_cases hm : matchI k s x = true
        · have hmy : matchI k s y = true := by rw [matchI_iff] at hm ⊢; exact ⟨e1 ▸ hm.1, e2 ▸ hm.2⟩
          rw [atI_cons, if_pos hmy]; rfl
        · rw [show atI [x] k s = none by rw [atI_cons, if_neg hm]; rfl]
          simp
/-- Put in one by one. -/
def putAll (m : List Itm) (l : List Itm) : List Itm := l.foldl (fun m x => putL x m) m
theorem putAll_cons (m : List Itm) (x : Itm) (l : List Itm) : putAll m (x :: l) = putAll (putL x m) l := rfl
theorem putAll_append (m a b : List Itm) : putAll m (a ++ b) = putAll (putAll m a) b := List.foldl_append ..
theorem putAll_all (l : List Itm) : ∀ m : List Itm, SortedI m → SortedI (putAll m l) ∧ (∀ k s, atI (putAll m l) k s = (atI m k s).or (atI l k s)) ∧ (putAll m l).length ≤ m.length + l.length := by
  induction l with
  | nil => exact fun m h => ⟨h, fun k s => by simp [putAll, atI], Nat.le_refl _⟩
  | cons x l ih =>
    intro m h
    obtain ⟨h1, h2, h3⟩ := ih (putL x m) (putL_sorted x m h)
    refine ⟨h1, fun k s => ?_, ?_⟩
    · rw [putAll_cons, h2, putL_at x k s m h, atI_cons x l, Option.or_assoc, atI_cons]
      split
      · cases atI m k s <;> rfl
      · cases atI m k s <;> simp [atI]
    · rw [putAll_cons]
      have := putL_len x m
      simp only [List.length_cons]
      omega
/-- Any lists merged: their items, put in one by one. -/
def mergeL (L : List (List Itm)) : List Itm := putAll [] L.flatten
theorem mergeL_is (L : List (List Itm)) : Merged L (mergeL L) := by
  obtain ⟨h1, h2, h3⟩ := putAll_all L.flatten [] List.Pairwise.nil
  refine ⟨h1, fun k s => ?_, by unfold mergeL; simpa using h3⟩
  unfold mergeL
  rw [h2]
  rfl
/-- How far the search goes: the first i are ahead. -/
theorem putL_go (x : Itm) : ∀ (i : Nat) (l : List Itm), i ≤ l.length → (∀ j (h : j < l.length), j < i → aheadI l[j] x = true) → putL x l = l.take i ++ putL x (l.drop i)
  | 0, l, _, _ => by simp
  | i + 1, [], h, _ => absurd h (by simp)
  | i + 1, y :: r, h, hj => by
    have hy : aheadI y x = true := hj 0 (by simp) (by omega)
    conv => lhs; unfold putL
    rw [if_pos hy, putL_go x i r (by simp at h; exact h) (fun j hh hji => hj (j + 1) (by simp; omega) (by omega))]
    rfl
theorem putL_end (x : Itm) (l : List Itm) (h : ∀ j (h : j < l.length), aheadI l[j] x = true) : putL x l = l.take l.length ++ [x] ++ l.drop l.length := by
  rw [putL_go x l.length l (Nat.le_refl _) (fun j hh _ => h j hh), List.drop_length]
  simp [putL]
theorem putL_in (x : Itm) (l : List Itm) (i : Nat) (hi : i < l.length) (h : ∀ j (h : j < l.length), j < i → aheadI l[j] x = true) (hn : aheadI l[i] x = false) (hx : aheadI x l[i] = true) : putL x l = l.take i ++ [x] ++ l.drop i := by
  rw [putL_go x i l (by omega) h, List.drop_eq_getElem_cons hi]
  unfold putL
  rw [if_neg (by rw [hn]; decide), if_pos hx, List.append_assoc]
  rfl
theorem putL_same (x : Itm) (l : List Itm) (i : Nat) (hi : i < l.length) (h : ∀ j (h : j < l.length), j < i → aheadI l[j] x = true) (hn : aheadI l[i] x = false) (hx : aheadI x l[i] = false) : putL x l = l := by
  rw [putL_go x i l (by omega) h, List.drop_eq_getElem_cons hi]
  unfold putL
  rw [if_neg (by rw [hn]; decide), if_neg (by rw [hx]; decide), ← List.drop_eq_getElem_cons hi, List.take_append_drop]
end Go.Proofs.Ytfdafoibclfpgaa
