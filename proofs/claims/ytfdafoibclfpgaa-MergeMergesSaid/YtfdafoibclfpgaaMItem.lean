/-
  Items (a key, a number, whether it is gone, a value), their order; sorted lists, merged ones, what is seen of them, what is left when they are thinned out. No function of the project is named here.
-/
import Derived.Test.YtfdafoibclfpgaaRowsK
import Derived.Lib.Strings
namespace Go.Proofs.Ytfdafoibclfpgaa
open Go.ChangeShapes Go.WideShapes Go.ChangeAt Go.RowKit Go.Deep
set_option linter.unusedVariables false
set_option linter.unusedSimpArgs false
structure Itm where
  key : ByteArray
  seq : Nat
  gone : Bool
  val : ByteArray
def Itm.cs (x : Itm) : List Value := [.string x.key, .int .u64 (x.seq : Int), .bool x.gone, .string x.val]
def Itm.v (x : Itm) : Value := .agg #[.string x.key, .int .u64 (x.seq : Int), .bool x.gone, .string x.val]
def encI : Enc Itm := ⟨4, Itm.cs, fun _ => rfl, fun x u hu => by
  simp only [Itm.cs, List.mem_cons, List.not_mem_nil, or_false] at hu
  rcases hu with rfl | rfl | rfl | rfl <;> rfl, by decide⟩
/-! ### Keys -/
theorem less_is : ∀ (x y : List UInt8), Op.bytesLess x y = decide (x < y)
  | [], [] => by simp [Op.bytesLess]
  | _ :: _, [] => by simp [Op.bytesLess]
  | [], _ :: _ => by simp [Op.bytesLess]
  | a :: x, b :: y => by
    rw [Op.bytesLess, less_is x y]
    simp only [List.cons_lt_cons_iff]
    by_cases h1 : a < b <;> by_cases h2 : a = b <;> by_cases h3 : x < y <;> simp [h1, h2, h3]
def kLt (a b : ByteArray) : Bool := Op.bytesLess a.toList b.toList
def kEq (a b : ByteArray) : Bool := a.toList == b.toList
theorem kEq_iff (a b : ByteArray) : kEq a b = true ↔ a = b := by
  unfold kEq
  rw [Lib.toList_data, Lib.toList_data, beq_iff_eq]
  constructor
  · intro h
    cases a; cases b
    simp only at h
    rw [Array.toList_inj.1 h]
  · rintro rfl; rfl
theorem kEq_refl (a : ByteArray) : kEq a a = true := (kEq_iff a a).2 rfl
theorem kEq_comm (a b : ByteArray) : kEq a b = kEq b a := by
  rw [Bool.eq_iff_iff, kEq_iff, kEq_iff]; exact eq_comm
theorem kLt_irrefl (a : ByteArray) : kLt a a = false := by
  unfold kLt
  rw [less_is, decide_eq_false_iff_not]
  exact List.lt_irrefl _
theorem kLt_trans {a b c : ByteArray} (h : kLt a b = true) (k : kLt b c = true) : kLt a c = true := by
  unfold kLt at *
  rw [less_is, decide_eq_true_eq] at *
  exact List.lt_trans h k
theorem kLt_tri {a b : ByteArray} (h : kLt a b = false) (k : kLt b a = false) : a = b := by
  rw [← kEq_iff]
  unfold kLt kEq at *
  rw [less_is, decide_eq_false_iff_not] at *
  rw [beq_iff_eq]
  exact List.le_antisymm (List.not_lt.1 k) (List.not_lt.1 h)
theorem kLt_asymm {a b : ByteArray} (h : kLt a b = true) : kLt b a = false := by
  rcases hb : kLt b a with _ | _
  · rfl
  · have := kLt_trans h hb
    rw [kLt_irrefl] at this
    exact absurd this (by decide)
theorem kLt_ne {a b : ByteArray} (h : kLt a b = true) : kEq a b = false := by
  rcases hb : kEq a b with _ | _
  · rfl
  · rw [kEq_iff] at hb
    subst hb
    rw [kLt_irrefl] at h
    exact absurd h (by decide)
/-! ### The order of items -/
def aheadI (x y : Itm) : Bool := kLt x.key y.key || (kEq x.key y.key && decide (y.seq < x.seq))
theorem aheadI_iff (x y : Itm) : aheadI x y = true ↔ kLt x.key y.key = true ∨ x.key = y.key ∧ y.seq < x.seq := by
  unfold aheadI
  rw [Bool.or_eq_true, Bool.and_eq_true, kEq_iff, decide_eq_true_eq]
theorem aheadI_irrefl (x : Itm) : aheadI x x = false := by
  rcases h : aheadI x x with _ | _
  · rfl
  · rcases (aheadI_iff x x).1 h with h | ⟨_, h⟩
    · rw [kLt_irrefl] at h; exact absurd h (by decide)
    · omega
theorem aheadI_trans {x y z : Itm} (h : aheadI x y = true) (k : aheadI y z = true) : aheadI x z = true := by
  rw [aheadI_iff] at *
  rcases h with h | ⟨h1, h2⟩
  · rcases k with k | ⟨k1, k2⟩
    · exact .inl (kLt_trans h k)
    · exact .inl (by rw [← k1]; exact h)
  · rcases k with k | ⟨k1, k2⟩
    · exact .inl (by rw [h1]; exact k)
    · exact .inr ⟨h1.trans k1, by omega⟩
theorem aheadI_asymm {x y : Itm} (h : aheadI x y = true) : aheadI y x = false := by
  rcases hb : aheadI y x with _ | _
  · rfl
  · have := aheadI_trans h hb
    rw [aheadI_irrefl] at this
    exact absurd this (by decide)
def matchI (k : ByteArray) (s : Nat) (x : Itm) : Bool := kEq x.key k && decide (x.seq = s)
theorem matchI_iff (k : ByteArray) (s : Nat) (x : Itm) : matchI k s x = true ↔ x.key = k ∧ x.seq = s := by
  unfold matchI
  rw [Bool.and_eq_true, kEq_iff, decide_eq_true_eq]
theorem aheadI_tri {x y : Itm} (h : aheadI x y = false) (k : aheadI y x = false) : x.key = y.key ∧ x.seq = y.seq := by
  unfold aheadI at *
  rw [Bool.or_eq_false_iff, Bool.and_eq_false_iff, decide_eq_false_iff_not] at *
  have e := kLt_tri h.1 k.1
  refine ⟨e, ?_⟩
  have h2 := h.2
  have k2 := k.2
  rw [e, kEq_refl] at h2
  rw [e, kEq_refl] at k2
  simp at h2 k2
  omega
theorem aheadI_no {x y : Itm} (h : aheadI x y = true) : ¬ (x.key = y.key ∧ x.seq = y.seq) := by
  rintro ⟨h1, h2⟩
  rcases (aheadI_iff x y).1 h with h | ⟨_, h⟩
  · rw [h1, kLt_irrefl] at h; exact absurd h (by decide)
  · omega
/-! ### Sorted lists -/
def SortedI (l : List Itm) : Prop := l.Pairwise fun x y => aheadI x y = true
def sortedB : List Itm → Bool
  | [] => true
  | x :: r => (match r with | [] => true | y :: _ => aheadI x y) && sortedB r
theorem sortedB_iff : ∀ l : List Itm, sortedB l = true ↔ SortedI l
  | [] => by simp [sortedB, SortedI]
  | x :: r => by
    have ih := sortedB_iff r
    unfold sortedB SortedI
    rw [List.pairwise_cons, Bool.and_eq_true, ih]
    cases r with
    | nil => simp [SortedI]
    | cons y r =>
      constructor
      · rintro ⟨h1, h2⟩
        refine ⟨fun z hz => ?_, h2⟩
        rcases List.mem_cons.1 hz with rfl | hz
        · exact h1
        · exact aheadI_trans h1 ((List.pairwise_cons.1 h2).1 z hz)
      · rintro ⟨h1, h2⟩
        exact ⟨h1 y (List.mem_cons_self ..), h2⟩
theorem sortedB_go : ∀ (l : List Itm), (∀ i (h : i + 1 < l.length), aheadI (l[i]'(by omega)) l[i + 1] = true) → sortedB l = true
  | [], _ => rfl
  | [x], _ => rfl
  | x :: y :: r, h => by
    unfold sortedB
    rw [Bool.and_eq_true]
    refine ⟨h 0 (by simp), sortedB_go (y :: r) fun i hi => ?_⟩
    have := h (i + 1) (by simp only [List.length_cons] at hi ⊢; omega)
    simpa using this
theorem sortedB_stop (l : List Itm) (i : Nat) (h : i + 1 < l.length) (hb : aheadI (l[i]'(by omega)) l[i + 1] = false) : sortedB l = false := by
  rcases hs : sortedB l with _ | _
  · rfl
  · have := List.pairwise_iff_getElem.1 ((sortedB_iff l).1 hs) i (i + 1) (by omega) h (by omega)
    rw [this] at hb
    exact absurd hb (by decide)
/-- The first item with a key and a number. -/
def atI (l : List Itm) (k : ByteArray) (s : Nat) : Option Itm := l.find? (matchI k s)
theorem atI_none {l : List Itm} {k : ByteArray} {s : Nat} (h : ∀ x ∈ l, ¬ (x.key = k ∧ x.seq = s)) : atI l k s = none := by
  unfold atI
  rw [List.find?_eq_none]
  intro x hx hm
  exact h x hx ((matchI_iff k s x).1 hm)
theorem atI_cons (x : Itm) (r : List Itm) (k : ByteArray) (s : Nat) : atI (x :: r) k s = if matchI k s x then some x else atI r k s := by
  unfold atI
  rw [List.find?_cons]
  cases matchI k s x <;> rfl
theorem atI_append (a b : List Itm) (k : ByteArray) (s : Nat) : atI (a ++ b) k s = (atI a k s).or (atI b k s) := by
  unfold atI
  rw [List.find?_append]
theorem atI_mem {l : List Itm} {k : ByteArray} {s : Nat} {x : Itm} (h : atI l k s = some x) : x ∈ l ∧ x.key = k ∧ x.seq = s := ⟨List.mem_of_find?_eq_some h, (matchI_iff k s x).1 (by have := List.find?_some h; simpa using this)⟩
theorem sorted_ext : ∀ a b : List Itm, SortedI a → SortedI b → (∀ k s, atI a k s = atI b k s) → a = b
  | [], [], _, _, _ => rfl
  | [], y :: t, _, _, h => by
    have := h y.key y.seq
    rw [atI_cons, if_pos ((matchI_iff _ _ _).2 ⟨rfl, rfl⟩)] at this
    simp [atI] at this
  | x :: r, [], _, _, h => by
    have := h x.key x.seq
    rw [atI_cons, if_pos ((matchI_iff _ _ _).2 ⟨rfl, rfl⟩)] at this
    simp [atI] at this
  | x :: r, y :: t, ha, hb, h => by
    have ha' := List.pairwise_cons.1 ha
    have hb' := List.pairwise_cons.1 hb
    have hx := h x.key x.seq
    rw [atI_cons, if_pos ((matchI_iff _ _ _).2 ⟨rfl, rfl⟩)] at hx
    have hy := h y.key y.seq
    rw [atI_cons y, if_pos ((matchI_iff _ _ _).2 ⟨rfl, rfl⟩)] at hy
    have e : x = y := by
      rcases List.mem_cons.1 (atI_mem hx.symm).1 with e | hm
      · exact e
      · rcases List.mem_cons.1 (atI_mem hy).1 with e | hm'
        · exact e.symm
        · have h1 := hb'.1 x hm
          have h2 := ha'.1 y hm'
          rw [aheadI_asymm h1] at h2
          exact absurd h2 (by decide)
    subst e
    rw [sorted_ext r t ha'.2 hb'.2 fun k s => ?_]
    have hk := h k s
    rw [atI_cons, atI_cons] at hk
    by_cases hm : matchI k s x = true
    · obtain ⟨rfl, rfl⟩ := (matchI_iff k s x).1 hm
      rw [atI_none (fun z hz e => aheadI_no (ha'.1 z hz) ⟨e.1.symm, e.2.symm⟩), atI_none (fun z hz e => aheadI_no (hb'.1 z hz) ⟨e.1.symm, e.2.symm⟩)]
    · rw [if_neg hm, if_neg hm] at hk
      exact hk
/-! ### Merged -/
def pairL : List Itm → List Itm → List Itm
  | [], b => b
  | x :: a, [] => x :: a
  | x :: a, y :: b => if aheadI x y then x :: pairL a (y :: b) else if aheadI y x then y :: pairL (x :: a) b else pairL (x :: a) b
termination_by a b => a.length + b.length
theorem pairL_nil (b : List Itm) : pairL [] b = b := by rw [pairL]
theorem pairL_nil' (a : List Itm) : pairL a [] = a := by cases a <;> rw [pairL]
theorem pairL_cons (x : Itm) (a : List Itm) (y : Itm) (b : List Itm) : pairL (x :: a) (y :: b) = if aheadI x y then x :: pairL a (y :: b) else if aheadI y x then y :: pairL (x :: a) b else pairL (x :: a) b := by rw [pairL]
theorem pairL_mem (z : Itm) : ∀ (n : Nat) (a b : List Itm), a.length + b.length ≤ n → z ∈ pairL a b → z ∈ a ∨ z ∈ b
  | _, [], b, _, h => .inr (by rw [pairL_nil] at h; exact h)
  | _, x :: a, [], _, h => .inl (by rw [pairL_nil'] at h; exact h)
  | 0, x :: a, y :: b, hn, _ => absurd hn (by simp)
  | n + 1, x :: a, y :: b, hn, h => by
    simp only [List.length_cons] at hn
    rw [pairL_cons] at h
    split at h
    · rcases List.mem_cons.1 h with rfl | h
      · exact .inl (List.mem_cons_self ..)
      · rcases pairL_mem z n a (y :: b) (by simp only [List.length_cons]; omega) h with h | h
        · exact .inl (List.mem_cons_of_mem _ h)
        · exact .inr h
    · split at h
      · rcases List.mem_cons.1 h with rfl | h
        · exact .inr (List.mem_cons_self ..)
        · rcases pairL_mem z n (x :: a) b (by simp only [List.length_cons]; omega) h with h | h
          · exact .inl h
          · exact .inr (List.mem_cons_of_mem _ h)
      · rcases pairL_mem z n (x :: a) b (by simp only [List.length_cons]; omega) h with h | h
        · exact .inl h
        · exact .inr (List.mem_cons_of_mem _ h)
theorem pairL_len : ∀ (n : Nat) (a b : List Itm), a.length + b.length ≤ n → (pairL a b).length ≤ a.length + b.length
  | _, [], b, _ => by rw [pairL_nil]; simp
  | _, x :: a, [], _ => by rw [pairL_nil']; simp
  | 0, x :: a, y :: b, hn => absurd hn (by simp)
  | n + 1, x :: a, y :: b, hn => by
    simp only [List.length_cons] at hn
    rw [pairL_cons]
    split
    · have := pairL_len n a (y :: b) (by simp only [List.length_cons]; omega)
      simp only [List.length_cons] at this ⊢
      omega
    · split
      · have := pairL_len n (x :: a) b (by simp only [List.length_cons]; omega)
        simp only [List.length_cons] at this ⊢
        omega
      · have := pairL_len n (x :: a) b (by simp only [List.length_cons]; omega)
        simp only [List.length_cons] at this ⊢
        omega
theorem pairL_sorted : ∀ (n : Nat) (a b : List Itm), a.length + b.length ≤ n → SortedI a → SortedI b → SortedI (pairL a b)
  | _, [], b, _, _, hb => by rw [pairL_nil]; exact hb
  | _, x :: a, [], _, ha, _ => by rw [pairL_nil']; exact ha
  | 0, x :: a, y :: b, hn, _, _ => absurd hn (by simp)
  | n + 1, x :: a, y :: b, hn, ha, hb => by
    simp only [List.length_cons] at hn
    have ha' := List.pairwise_cons.1 ha
    have hb' := List.pairwise_cons.1 hb
    rw [pairL_cons]
    split
    · rename_i h
      refine List.pairwise_cons.2 ⟨fun z hz => ?_, pairL_sorted n a (y :: b) (by simp only [List.length_cons]; omega) ha'.2 hb⟩
      rcases pairL_mem z _ a (y :: b) (Nat.le_refl _) hz with hz | hz
      · exact ha'.1 z hz
      · rcases List.mem_cons.1 hz with rfl | hz
        · exact h
        · exact aheadI_trans h (hb'.1 z hz)
    · split
      · rename_i h
        refine List.pairwise_cons.2 ⟨fun z hz => ?_, pairL_sorted n (x :: a) b (by simp only [List.length_cons]; omega) ha hb'.2⟩
        rcases pairL_mem z _ (x :: a) b (Nat.le_refl _) hz with hz | hz
        · rcases List.mem_cons.1 hz with rfl | hz
          · exact h
          · exact aheadI_trans h (ha'.1 z hz)
        · exact hb'.1 z hz
      · exact pairL_sorted n (x :: a) b (by simp only [List.length_cons]; omega) ha hb'.2
theorem pairL_at (k : ByteArray) (s : Nat) : ∀ (n : Nat) (a b : List Itm), a.length + b.length ≤ n → SortedI a → SortedI b → atI (pairL a b) k s = (atI a k s).or (atI b k s)
  | _, [], b, _, _, _ => by rw [pairL_nil]; simp [atI]
  | _, x :: a, [], _, _, _ => by rw [pairL_nil']; simp [atI]
  | 0, x :: a, y :: b, hn, _, _ => absurd hn (by simp)
  | n + 1, x :: a, y :: b, hn, ha, hb => by
    simp only [List.length_cons] at hn
    have ha' := List.pairwise_cons.1 ha
    have hb' := List.pairwise_cons.1 hb
    rw [pairL_cons]
    split
    · rw [atI_cons, atI_cons x, pairL_at k s n a (y :: b) (by simp only [List.length_cons]; omega) ha'.2 hb]
      split <;> simp
    · split
      · rename_i h
        rw [atI_cons, pairL_at k s n (x :: a) b (by simp only [List.length_cons]; omega) ha hb'.2, atI_cons y]
        split
        · rename_i hm
          obtain ⟨rfl, rfl⟩ := (matchI_iff k s y).1 hm
          rw [atI_none (l := x :: a) (fun z hz e => ?_)]
          · rfl
          · refine aheadI_no (x := y) (y := z) ?_ ⟨e.1.symm, e.2.symm⟩
            rcases List.mem_cons.1 hz with rfl | hz
            · exact h
            · exact aheadI_trans h (ha'.1 z hz)
        · rfl
      · rename_i h1 h2
        rw [pairL_at k s n (x :: a) b (by simp only [List.length_cons]; omega) ha hb'.2, atI_cons y]
        split
        · rename_i hm
          have e := aheadI_tri (by simpa using h1) (by simpa using h2)
          have hx : matchI k s x = true := (matchI_iff k s x).2 (by have := (matchI_iff k s y).1 hm; exact ⟨e.1.trans this.1, e.2.trans this.2⟩)
          rw [atI_cons, if_pos hx]
          rfl
        · rfl
/-- m is what the lists are, merged. -/
structure Merged (L : List (List Itm)) (m : List Itm) : Prop where
  sorted : SortedI m
  at_ : ∀ k s, atI m k s = atI L.flatten k s
  len : m.length ≤ L.flatten.length
theorem Merged.ext {L L' : List (List Itm)} {m m' : List Itm} (h : Merged L m) (h' : Merged L' m') (e : ∀ k s, atI L.flatten k s = atI L'.flatten k s) : m = m' := sorted_ext m m' h.sorted h'.sorted fun k s => by rw [h.at_, h'.at_, e]
theorem Merged.nil : Merged [] [] := ⟨List.Pairwise.nil, fun _ _ => rfl, Nat.le_refl _⟩
theorem Merged.one {l : List Itm} (h : SortedI l) : Merged [l] l := ⟨h, fun _ _ => by simp, by simp⟩
theorem Merged.two {A B : List (List Itm)} {a b : List Itm} (ha : Merged A a) (hb : Merged B b) : Merged (A ++ B) (pairL a b) :=
  ⟨pairL_sorted _ a b (Nat.le_refl _) ha.sorted hb.sorted, fun k s => by rw [pairL_at k s _ a b (Nat.le_refl _) ha.sorted hb.sorted, ha.at_, hb.at_, List.flatten_append, atI_append],
    by have h1 := pairL_len _ a b (Nat.le_refl _); have := ha.len; have := hb.len; rw [List.flatten_append, List.length_append]; omega⟩
/-! ### What is seen -/
def seenGo (q : Nat) : List ByteArray → List Itm → List Itm
  | _, [] => []
  | d, x :: r => if q < x.seq then seenGo q d r else if d.any (kEq x.key) then seenGo q d r else if x.gone then seenGo q (d ++ [x.key]) r else x :: seenGo q (d ++ [x.key]) r
def seenL (q : Nat) (l : List Itm) : List Itm := seenGo q [] l
theorem seenGo_len (q : Nat) : ∀ (l : List Itm) (d : List ByteArray), (seenGo q d l).length ≤ l.length
  | [], d => Nat.le_refl _
  | x :: r, d => by
    unfold seenGo
    have h1 := seenGo_len q r d
    have h2 := seenGo_len q r (d ++ [x.key])
    simp only [List.length_cons]
    split
    · omega
    · split
      · omega
      · split
        · omega
        · simp only [List.length_cons]; omega
/-! ### Thinned out -/
/-- Is x kept, with that item of its key ahead of it, or none? -/
def keptI (ms : List Nat) (p : Option Itm) (x : Itm) : Bool := match p with
  | none => true
  | some y => ms.any fun m => decide (x.seq ≤ m) && decide (m < y.seq)
def keptL (ms : List Nat) : Option Itm → List Itm → List Itm
  | _, [] => []
  | p, x :: r => if keptI ms p x then x :: keptL ms (some x) r else keptL ms (some x) r
/-- Items that are gone, taken off a list's end. -/
def cutGone : List Itm → List Itm
  | [] => []
  | x :: r => match cutGone r with
    | [] => if x.gone then [] else [x]
    | y :: t => x :: y :: t
def thinKeyL (ms : List Nat) (bottom : Bool) (l : List Itm) : List Itm := if bottom then cutGone (keptL ms none l) else keptL ms none l
/-- The group of the first item's key. -/
def groupL (k : ByteArray) : List Itm → List Itm
  | [] => []
  | x :: r => if kEq x.key k then x :: groupL k r else []
theorem groupL_le (k : ByteArray) : ∀ l : List Itm, (groupL k l).length ≤ l.length
  | [] => Nat.le_refl _
  | x :: r => by
    unfold groupL
    split
    · simp only [List.length_cons]; have := groupL_le k r; omega
    · simp
def thinF (ms : List Nat) (bottom : Bool) : Nat → List Itm → List Itm
  | 0, _ => []
  | _, [] => []
  | n + 1, x :: r => thinKeyL ms bottom (x :: groupL x.key r) ++ thinF ms bottom n (r.drop (groupL x.key r).length)
def thinL (ms : List Nat) (bottom : Bool) (l : List Itm) : List Itm := thinF ms bottom l.length l
end Go.Proofs.Ytfdafoibclfpgaa
