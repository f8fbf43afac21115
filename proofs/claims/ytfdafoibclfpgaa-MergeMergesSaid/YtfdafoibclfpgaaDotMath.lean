/-
  Sets of dots as plain mathematics: a device's numbers are all up to one, and more, rising, beyond it. No function of the project is named here.
-/
import Derived.Test.YtfdafoibclfpgaaRows
namespace Go.Proofs.Ytfdafoibclfpgaa
set_option linter.unusedVariables false
/-- A device's numbers. -/
structure Nm where
  upto : Nat
  more : List Nat
deriving DecidableEq
def Nm.zero : Nm := ⟨0, []⟩
/-- Rising. -/
def rising : List Nat → Prop
  | [] => True
  | x :: r => (∀ y ∈ r, x < y) ∧ rising r
theorem rising_tail {x : Nat} {r : List Nat} (h : rising (x :: r)) : rising r := h.2
theorem rising_get : ∀ {l : List Nat}, rising l → ∀ i j, i < j → j < l.length → l.getD i 0 < l.getD j 0
  | [], _, _, _, _, h => absurd h (Nat.not_lt_zero _)
  | x :: r, h, 0, j + 1, _, hj => by
    rw [List.getD_cons_zero, List.getD_cons_succ]
    have hjl : j < r.length := by simpa using hj
    rw [List.getD_eq_getElem?_getD, List.getElem?_eq_getElem hjl]
    exact h.1 _ (List.getElem_mem hjl)
  | x :: r, h, i + 1, j + 1, hij, hj => by
    rw [List.getD_cons_succ, List.getD_cons_succ]
    exact rising_get h.2 i j (by omega) (by simpa using hj)
theorem rising_append : ∀ {l m : List Nat}, rising l → rising m → (∀ x ∈ l, ∀ y ∈ m, x < y) → rising (l ++ m)
  | [], _, _, h, _ => h
  | x :: r, m, h1, h2, h3 => ⟨fun y hy => by
      rcases List.mem_append.1 hy with h | h
      · exact h1.1 y h
      · exact h3 x (List.mem_cons_self ..) y h, rising_append h1.2 h2 (fun a ha b hb => h3 a (List.mem_cons_of_mem _ ha) b hb)⟩
/-- What may be: more lies beyond upto by more than one, and rises. -/
structure Nm.Ok (p : Nm) : Prop where
  rise : rising p.more
  far : ∀ x ∈ p.more, p.upto + 1 < x
  most : p.upto ≤ 1099511627776
  mostM : ∀ x ∈ p.more, x ≤ 1099511627776
theorem Nm.zero_ok : Nm.zero.Ok := ⟨trivial, (fun x h => nomatch h), by decide, (fun x h => nomatch h)⟩
def Nm.has (p : Nm) (n : Nat) : Bool := decide (n ≤ p.upto) || decide (n ∈ p.more)
/-- Those that go on from upto are taken in. -/
def closeN : Nat → List Nat → Nm
  | u, [] => ⟨u, []⟩
  | u, x :: r => if x ≤ u + 1 then closeN (max u x) r else ⟨u, x :: r⟩
/-- One put in its place. -/
def insN (n : Nat) : List Nat → List Nat
  | [] => [n]
  | x :: r => if n < x then n :: x :: r else x :: insN n r
theorem mem_insN (n : Nat) : ∀ (l : List Nat) (y : Nat), y ∈ insN n l ↔ y = n ∨ y ∈ l
  | [], y => by simp [insN]
  | x :: r, y => by
    unfold insN
    split
    · simp [List.mem_cons]
    · rw [List.mem_cons, mem_insN n r y, List.mem_cons]
      constructor
      · rintro (h | h | h)
        · exact .inr (.inl h)
        · exact .inl h
        · exact .inr (.inr h)
      · rintro (h | h | h)
        · exact .inr (.inl h)
        · exact .inl h
        · exact .inr (.inr h)
theorem rising_insN (n : Nat) : ∀ (l : List Nat), rising l → n ∉ l → rising (insN n l)
  | [], _, _ => ⟨(fun y hy => nomatch hy), trivial⟩
  | x :: r, h, hn => by
    unfold insN
    have hne : n ≠ x := fun e => hn (by rw [e]; exact List.mem_cons_self ..)
    split
    · rename_i hlt
      exact ⟨fun y hy => by
        rcases List.mem_cons.1 hy with rfl | hy
        · exact hlt
        · have := h.1 y hy; omega, h⟩
    · rename_i hlt
      refine ⟨fun y hy => ?_, rising_insN n r h.2 (fun hm => hn (List.mem_cons_of_mem _ hm))⟩
      rcases (mem_insN n r y).1 hy with rfl | hy
      · omega
      · exact h.1 y hy
theorem insN_len (n : Nat) : ∀ l : List Nat, (insN n l).length = l.length + 1
  | [] => rfl
  | x :: r => by
    unfold insN
    split
    · rfl
    · rw [List.length_cons, insN_len n r, List.length_cons]
/-- The numbers and one more, which they have not. -/
def Nm.with (p : Nm) (n : Nat) : Nm := if n = p.upto + 1 then closeN n p.more else ⟨p.upto, insN n p.more⟩
/-- The form of a rising list. -/
def canon (l : List Nat) : Nm := closeN 0 l
theorem close_ins (n : Nat) : ∀ (l : List Nat) (u : Nat), rising l → (∀ x ∈ l, u < x) → u < n → n ∉ l → closeN u (insN n l) = (closeN u l).with n
  | [], u, _, _, hn, _ => by
    unfold insN Nm.with closeN
    by_cases h : n ≤ u + 1
    · have e : n = u + 1 := by omega
      rw [if_pos h]
      simp only
      rw [if_pos e]
      have : max u n = n := by omega
      rw [this]
      rfl
    · rw [if_neg h]
      simp only
      rw [if_neg (by omega)]
      rfl
  | x :: r, u, hr, hx, hn, hni => by
    have hxu := hx x (List.mem_cons_self ..)
    have hne : n ≠ x := fun e => hni (by rw [e]; exact List.mem_cons_self ..)
    have hnr : n ∉ r := fun hm => hni (List.mem_cons_of_mem _ hm)
    by_cases h1 : x ≤ u + 1
    · have hxe : x = u + 1 := by omega
      have hm : max u x = x := by omega
      rw [insN, if_neg (by omega), closeN, if_pos h1, hm, closeN, if_pos h1, hm]
      exact close_ins n r x hr.2 hr.1 (by omega) hnr
    · have e : closeN u (x :: r) = ⟨u, x :: r⟩ := by rw [closeN, if_neg h1]
      rw [e]
      by_cases h2 : n = u + 1
      · have hm : max u n = n := by omega
        rw [insN, if_pos (by omega), closeN, if_pos (by omega), hm, Nm.with, if_pos h2]
      · rw [Nm.with, if_neg h2]
        simp only
        by_cases h3 : n < x
        · rw [insN, if_pos h3, closeN, if_neg (by omega)]
        · rw [insN, if_neg h3, closeN, if_neg h1]
theorem canon_ins (n : Nat) (l : List Nat) (h : rising l) (h1 : ∀ x ∈ l, 0 < x) (hn : 0 < n) (hni : n ∉ l) : canon (insN n l) = (canon l).with n := close_ins n l 0 h h1 hn hni
theorem close_len : ∀ (l : List Nat) (u : Nat), (closeN u l).more.length ≤ l.length
  | [], _ => Nat.le_refl _
  | x :: r, u => by
    unfold closeN
    split
    · exact Nat.le_trans (close_len r _) (Nat.le_succ _)
    · exact Nat.le_refl _
theorem close_ok : ∀ (l : List Nat) (u : Nat), rising l → (∀ x ∈ l, x ≤ 1099511627776) → u ≤ 1099511627776 → (closeN u l).Ok
  | [], u, _, _, hu => ⟨trivial, (fun x h => nomatch h), hu, (fun x h => nomatch h)⟩
  | x :: r, u, h, hm, hu => by
    unfold closeN
    have hx := hm x (List.mem_cons_self ..)
    split
    · exact close_ok r _ h.2 (fun y hy => hm y (List.mem_cons_of_mem _ hy)) (by omega)
    · rename_i hlt
      refine ⟨h, fun y hy => ?_, hu, hm⟩
      rcases List.mem_cons.1 hy with rfl | hy
      · show u + 1 < y; omega
      · have := h.1 y hy; show u + 1 < y; omega
theorem Nm.with_ok {p : Nm} (h : p.Ok) (n : Nat) (hn : n ≤ 1099511627776) (hnh : p.has n = false) : (p.with n).Ok := by
  unfold Nm.has at hnh
  simp only [Bool.or_eq_false_iff, decide_eq_false_iff_not] at hnh
  unfold Nm.with
  split
  · exact close_ok _ _ h.rise h.mostM hn
  · rename_i hne
    refine ⟨rising_insN _ _ h.rise hnh.2, fun y hy => ?_, h.most, fun y hy => ?_⟩
    · rcases (mem_insN _ _ _).1 hy with rfl | hy
      · show p.upto + 1 < y; omega
      · exact h.far y hy
    · rcases (mem_insN _ _ _).1 hy with rfl | hy
      · exact hn
      · exact h.mostM y hy
theorem close_has : ∀ (l : List Nat) (u : Nat), rising l → ∀ y, (closeN u l).has y = (decide (y ≤ u) || decide (y ∈ l))
  | [], u, _, y => rfl
  | x :: r, u, h, y => by
    unfold closeN
    split
    · rename_i hx
      rw [close_has r _ h.2 y, Bool.eq_iff_iff]
      simp only [Bool.or_eq_true, decide_eq_true_eq, List.mem_cons]
      constructor
      · rintro (h1 | h1)
        · rcases (by omega : y ≤ u ∨ y = x) with h | h
          · exact .inl h
          · exact .inr (.inl h)
        · exact .inr (.inr h1)
      · rintro (h1 | h1 | h1)
        · exact .inl (by omega)
        · exact .inl (by omega)
        · exact .inr h1
    · rfl
theorem Nm.with_has {p : Nm} (h : p.Ok) (n : Nat) (y : Nat) : (p.with n).has y = (decide (y = n) || p.has y) := by
  unfold Nm.with
  split
  · rename_i hn
    rw [close_has _ _ h.rise, Nm.has, Bool.eq_iff_iff]
    simp only [Bool.or_eq_true, decide_eq_true_eq]
    constructor
    · rintro (h1 | h1)
      · rcases (by omega : y = n ∨ y ≤ p.upto) with h | h
        · exact .inl h
        · exact .inr (.inl h)
      · exact .inr (.inr h1)
    · rintro (h1 | h1 | h1)
      · exact .inl (by omega)
      · exact .inl (by omega)
      · exact .inr h1
  · simp only [Nm.has]
    rw [Bool.eq_iff_iff]
    simp only [Bool.or_eq_true, decide_eq_true_eq, mem_insN]
    constructor
    · rintro (h1 | h1 | h1)
      · exact .inr (.inl h1)
      · exact .inl h1
      · exact .inr (.inr h1)
    · rintro (h1 | h1 | h1)
      · exact .inr (.inl h1)
      · exact .inl h1
      · exact .inr (.inr h1)
/-- One device's numbers, as the document's own answer folds them. -/
def foldStep (p : Nm) (n : Nat) : Nm := if p.more = [] ∧ n = p.upto + 1 then ⟨p.upto + 1, []⟩ else ⟨p.upto, p.more ++ [n]⟩
theorem fold_more (u : Nat) : ∀ (l m : List Nat), m ≠ [] → l.foldl foldStep ⟨u, m⟩ = ⟨u, m ++ l⟩
  | [], m, _ => by simp
  | x :: r, m, hm => by
    rw [List.foldl_cons]
    have e : foldStep ⟨u, m⟩ x = ⟨u, m ++ [x]⟩ := by unfold foldStep; rw [if_neg (fun h => hm h.1)]
    rw [e, fold_more u r (m ++ [x]) (by simp), List.append_assoc]
    rfl
theorem fold_close : ∀ (l : List Nat) (u : Nat), rising l → (∀ x ∈ l, u < x) → l.foldl foldStep ⟨u, []⟩ = closeN u l
  | [], u, _, _ => rfl
  | x :: r, u, h, hx => by
    have hxu := hx x (List.mem_cons_self ..)
    rw [List.foldl_cons]
    unfold closeN
    by_cases h1 : x ≤ u + 1
    · have e : x = u + 1 := by omega
      have hm : max u x = x := by omega
      rw [if_pos h1, hm]
      have e2 : foldStep ⟨u, []⟩ x = ⟨x, []⟩ := by unfold foldStep; rw [if_pos ⟨rfl, e⟩, e]
      rw [e2]
      exact fold_close r x h.2 h.1
    · rw [if_neg h1]
      have e2 : foldStep ⟨u, []⟩ x = ⟨u, [x]⟩ := by unfold foldStep; rw [if_neg (fun h => h1 (by have := h.2; simp only at this; omega))]; rfl
      rw [e2, fold_more u r [x] (by simp)]
      rfl
end Go.Proofs.Ytfdafoibclfpgaa
