/-
  A dot put into a set: what that does to it: plain mathematics.
-/
import Derived.Test.YtfgfamafjkjakaaDotAwakeW
namespace Go.Proofs.Ytfgfamafjkjakaa
open Go.ChangeShapes Go.WideShapes Go.ChangeAt Go.RowKit Go.Deep
set_option linter.unusedVariables false
set_option linter.unusedSimpArgs false
theorem withinN_iff (p q : Nm) : withinN p q = true ↔ p.upto ≤ q.upto ∧ ∀ x ∈ p.more, q.has x = true := by
  unfold withinN
  simp only [Bool.and_eq_true, decide_eq_true_eq, List.all_eq_true]
theorem within_refl (p : Nm) : withinN p p = true := (withinN_iff p p).2 ⟨Nat.le_refl _, fun x hx => by
  unfold Nm.has; rw [decide_eq_true hx, Bool.or_true]⟩
theorem close_upto : ∀ (l : List Nat) (u : Nat), u ≤ (closeN u l).upto
  | [], u => Nat.le_refl _
  | x :: r, u => by
    unfold closeN
    split
    · exact Nat.le_trans (Nat.le_max_left u x) (close_upto r _)
    · exact Nat.le_refl _
theorem not_has {p : Nm} {n : Nat} (h : p.has n = false) : p.upto < n ∧ n ∉ p.more := by
  unfold Nm.has at h
  simp only [Bool.or_eq_false_iff, decide_eq_false_iff_not] at h
  exact ⟨by omega, h.2⟩
theorem with_upto {p : Nm} (n : Nat) (hn : p.has n = false) : p.upto ≤ (p.with n).upto := by
  unfold Nm.with
  split
  · have := close_upto p.more n; have := (not_has hn).1; omega
  · exact Nat.le_refl _
theorem within_with {p : Nm} (h : p.Ok) (n : Nat) (hn : p.has n = false) : withinN p (p.with n) = true :=
  (withinN_iff _ _).2 ⟨with_upto n hn, fun x hx => by
    rw [Nm.with_has h]
    have : p.has x = true := by unfold Nm.has; rw [decide_eq_true hx, Bool.or_true]
    rw [this, Bool.or_true]⟩
theorem with_within {p : Nm} (h : p.Ok) (n : Nat) (hn : p.has n = false) : withinN (p.with n) p = false := by
  rw [Bool.eq_false_iff]
  intro e
  obtain ⟨h1, h2⟩ := (withinN_iff _ _).1 e
  obtain ⟨k1, k2⟩ := not_has hn
  unfold Nm.with at h1 h2
  by_cases hu : n = p.upto + 1
  · rw [if_pos hu] at h1
    have := close_upto p.more n
    omega
  · rw [if_neg hu] at h2
    have := h2 n ((mem_insN _ _ _).2 (.inl rfl))
    rw [hn] at this
    exact Bool.false_ne_true this
theorem with_len (p : Nm) (n : Nat) : (p.with n).more.length ≤ p.more.length + 1 := by
  unfold Nm.with
  split
  · exact Nat.le_trans (close_len _ _) (Nat.le_succ _)
  · rw [show (⟨p.upto, insN n p.more⟩ : Nm).more = insN n p.more from rfl, insN_len]; exact Nat.le_refl _
theorem getD_set (f : List Nm) (d i : Nat) (q : Nm) (hd : d < f.length) : (f.set d q).getD i Nm.zero = if i = d then q else f.getD i Nm.zero := by
  rw [List.getD_eq_getElem?_getD, List.getElem?_set]
  by_cases h : d = i
  · subst h
    rw [if_pos rfl, if_pos hd, if_pos rfl]; rfl
  · rw [if_neg h, if_neg (fun e => h e.symm), List.getD_eq_getElem?_getD]
/-- What a set is like while few dots were put in. -/
structure FewS (f : List Nm) (k : Nat) : Prop where
  len : f.length = 16
  ok : ∀ i, i < 16 → (f.getD i Nm.zero).Ok
  few : ∀ i, i < 16 → (f.getD i Nm.zero).more.length ≤ k
theorem withinS_refl (f : List Nm) : withinS f f = true := within_yes fun i _ => within_refl _
/-- One dot more. -/
structure Step (f : List Nm) (d : Int) (n k : Nat) (g : List Nm) (e : Int) : Prop where
  few : FewS g (k + 1)
  e01 : (e = 0 ∧ goodB d n = true) ∨ (e = 1 ∧ goodB d n = false)
  up : withinS f g = true
  has : e = 0 → hasS g d n = true
  down : e = 0 → withinS g f = hasS f d n
  same : e ≠ 0 → withinS g f = true
  keep : ∀ d' n', hasS f d' n' = true → hasS g d' n' = true
theorem step_of {f : List Nm} {d : Int} {n k : Nat} (hf : FewS f k) (hk : k ≤ 1000) : Step f d n k (addS f d n).1 (addS f d n).2 := by
  unfold addS
  have few1 : FewS f (k + 1) := ⟨hf.len, hf.ok, fun i hi => Nat.le_succ_of_le (hf.few i hi)⟩
  by_cases hg : goodB d n = true
  · rw [if_pos hg]
    have hg' := hg
    unfold goodB at hg'
    rw [decide_eq_true_eq] at hg'
    obtain ⟨g1, g2, g3, g4⟩ := hg'
    obtain ⟨D, rfl⟩ : ∃ D : Nat, d = (D : Int) := ⟨d.toNat, by omega⟩
    have hD : D < 16 := by omega
    rw [Int.toNat_natCast]
    obtain ⟨q, hq⟩ : ∃ q, f.getD D Nm.zero = q := ⟨_, rfl⟩
    have hhas : hasS f (D : Int) n = q.has n := by unfold hasS; rw [hg, Bool.true_and, Int.toNat_natCast, hq]
    have hok : q.Ok := hq ▸ hf.ok D hD
    have hlen : q.more.length ≤ k := hq ▸ hf.few D hD
    rw [hq]
    by_cases hh : q.has n = true
    · rw [if_pos hh]
      exact ⟨few1, .inl ⟨rfl, hg⟩, withinS_refl f, fun _ => by rw [hhas, hh], fun _ => by rw [hhas, hh]; exact withinS_refl f, fun h => absurd rfl h, fun _ _ h => h⟩
    · have hh' : q.has n = false := Bool.eq_false_iff.2 hh
      have hwl := with_len q n
      rw [if_neg hh, if_neg (by omega)]
      have hget : ∀ i, (f.set D (q.with n)).getD i Nm.zero = if i = D then q.with n else f.getD i Nm.zero := fun i => getD_set f D i _ (by rw [hf.len]; exact hD)
      refine ⟨⟨by rw [List.length_set]; exact hf.len, fun i hi => ?_, fun i hi => ?_⟩, .inl ⟨rfl, hg⟩, within_yes fun i hi => ?_, fun _ => ?_, fun _ => ?_, fun h => absurd rfl h, fun d' n' h => ?_⟩
      · rw [hget]; split
        · exact Nm.with_ok hok n g4 hh'
        · exact hf.ok i hi
      · rw [hget]; split
        · omega
        · exact Nat.le_succ_of_le (hf.few i hi)
      · rw [hget]; split
        · rename_i e; rw [e, hq]; exact within_with hok n hh'
        · exact within_refl _
      · unfold hasS
        rw [hg, Bool.true_and, Int.toNat_natCast]
        show ((f.set D (q.with n)).getD D Nm.zero).has n = true
        rw [hget, if_pos rfl, Nm.with_has hok, decide_eq_true rfl, Bool.true_or]
      · rw [hhas, hh']
        refine within_no hD ?_
        show withinN ((f.set D (q.with n)).getD D Nm.zero) _ = false
        rw [hget, if_pos rfl, hq]
        exact with_within hok n hh'
      · unfold hasS at h ⊢
        rw [Bool.and_eq_true] at h ⊢
        refine ⟨h.1, ?_⟩
        show ((f.set D (q.with n)).getD d'.toNat Nm.zero).has n' = true
        rw [hget]; split
        · rename_i e; rw [e, hq] at h; rw [Nm.with_has hok, h.2, Bool.or_true]
        · exact h.2
  · have hg' : goodB d n = false := Bool.eq_false_iff.2 hg
    rw [if_neg hg]
    exact ⟨few1, .inr ⟨rfl, hg'⟩, withinS_refl f, fun (h : (1 : Int) = 0) => absurd h (by decide), fun (h : (1 : Int) = 0) => absurd h (by decide), fun _ => withinS_refl f, fun _ _ h => h⟩
theorem few_none : FewS none16 0 := by
  have h : ∀ i, none16.getD i Nm.zero = Nm.zero := fun i => by
    unfold none16
    rw [List.getD_eq_getElem?_getD, List.getElem?_replicate]
    split <;> rfl
  exact ⟨rfl, fun i _ => by rw [h]; exact Nm.zero_ok, fun i _ => by rw [h]; exact Nat.le_refl _⟩
end Go.Proofs.Ytfgfamafjkjakaa
