/-
  What is seen of a sorted list, and what thinning leaves of it, by their members. No function of the project is named here.
-/
import Derived.Test.YtfdafoibclfpgaaMThinM
namespace Go.Proofs.Ytfdafoibclfpgaa
open Go.ChangeShapes Go.WideShapes Go.ChangeAt Go.RowKit Go.Deep
set_option linter.unusedVariables false
set_option linter.unusedSimpArgs false
/-! ### Sorted lists and their members -/
theorem sorted_unique {l : List Itm} (hl : SortedI l) {x y : Itm} (hx : x ∈ l) (hy : y ∈ l) (hk : x.key = y.key) (hs : x.seq = y.seq) : x = y := by
  obtain ⟨i, hi, rfl⟩ := List.getElem_of_mem hx
  obtain ⟨j, hj, rfl⟩ := List.getElem_of_mem hy
  rcases Nat.lt_trichotomy i j with h | h | h
  · exact absurd ⟨hk, hs⟩ (aheadI_no (List.pairwise_iff_getElem.1 hl i j hi hj h))
  · subst h; rfl
  · exact absurd ⟨hk.symm, hs.symm⟩ (aheadI_no (List.pairwise_iff_getElem.1 hl j i hj hi h))
theorem atI_some {l : List Itm} {k : ByteArray} {s : Nat} {x : Itm} (hx : x ∈ l) (hk : x.key = k) (hs : x.seq = s) : ∃ y, atI l k s = some y := by
  unfold atI
  rcases h : l.find? (matchI k s) with _ | y
  · rw [List.find?_eq_none] at h
    exact absurd ((matchI_iff k s x).2 ⟨hk, hs⟩) (h x hx)
  · exact ⟨y, rfl⟩
/-- The first item of a key and a number hangs on the members alone, where no two have the same. -/
theorem at_mem {a l : List Itm} (hl : SortedI l) (h : ∀ x, x ∈ a ↔ x ∈ l) (k : ByteArray) (s : Nat) : atI a k s = atI l k s := by
  rcases ha : atI a k s with _ | x
  · rcases hb : atI l k s with _ | y
    · rfl
    · obtain ⟨hy, h1, h2⟩ := atI_mem hb
      obtain ⟨z, hz⟩ := atI_some ((h y).2 hy) h1 h2
      rw [ha] at hz
      cases hz
  · obtain ⟨hx, h1, h2⟩ := atI_mem ha
    obtain ⟨y, hy⟩ := atI_some ((h x).1 hx) h1 h2
    rw [hy]
    obtain ⟨hy1, k1, k2⟩ := atI_mem hy
    rw [sorted_unique hl ((h x).1 hx) hy1 (h1.trans k1.symm) (h2.trans k2.symm)]
theorem sorted_mem {a l : List Itm} (ha : SortedI a) (hl : SortedI l) (h : ∀ x, x ∈ a ↔ x ∈ l) : a = l := sorted_ext a l ha hl (at_mem hl h)
theorem key_between {y z x : Itm} (h : aheadI y z = true) (k : aheadI z x = true) (e : y.key = x.key) : z.key = x.key := by
  rw [aheadI_iff] at h k
  rcases k with k | ⟨k, _⟩
  · rcases h with h | ⟨h, _⟩
    · have := kLt_trans h k
      rw [e, kLt_irrefl] at this
      exact absurd this (by decide)
    · rw [← h, e, kLt_irrefl] at k
      exact absurd k (by decide)
  · exact k
theorem ahead_seq {y z : Itm} (h : aheadI y z = true) (e : y.key = z.key) : z.seq < y.seq := by
  rcases (aheadI_iff y z).1 h with h | ⟨_, h⟩
  · rw [e, kLt_irrefl] at h; exact absurd h (by decide)
  · exact h
theorem ahead_not {l : List Itm} {x : Itm} (h : ∀ z ∈ l, aheadI x z = true) : x ∉ l := fun hx => by
  have := h x hx
  rw [aheadI_irrefl] at this
  exact absurd this (by decide)
/-! ### Thinned out, the list as a whole -/
def shownAt (l : List Itm) (m : Nat) (x : Itm) : Prop := x.seq ≤ m ∧ ∀ y ∈ l, y.key = x.key → y.seq ≤ m → y.seq ≤ x.seq
def seqOk (l : List Itm) : Prop := ∀ x ∈ l, x.seq ≤ alwaysN
def keepQ (ms : List Nat) (p : Option Itm) (x : Itm) : Bool := match p with
  | none => true
  | some y => !kEq y.key x.key || ms.any fun m => decide (x.seq ≤ m) && decide (m < y.seq)
def keptG (ms : List Nat) : Option Itm → List Itm → List Itm
  | _, [] => []
  | p, x :: r => if keepQ ms p x then x :: keptG ms (some x) r else keptG ms (some x) r
def headDiff (k : ByteArray) : List Itm → Bool
  | [] => true
  | y :: _ => !kEq y.key k
def cutG : List Itm → List Itm
  | [] => []
  | x :: r => if x.gone && headDiff x.key (cutG r) then cutG r else x :: cutG r
def lastOf (q : Itm) : List Itm → Itm
  | [] => q
  | z :: t => lastOf z t
theorem keptG_cons (ms : List Nat) (p : Option Itm) (x : Itm) (r : List Itm) : keptG ms p (x :: r) = if keepQ ms p x then x :: keptG ms (some x) r else keptG ms (some x) r := by cases p <;> rfl
theorem cutG_cons (x : Itm) (r : List Itm) : cutG (x :: r) = if x.gone && headDiff x.key (cutG r) then cutG r else x :: cutG r := rfl
theorem keptG_sub (ms : List Nat) : ∀ (l : List Itm) (p : Option Itm), (keptG ms p l).Sublist l
  | [], p => by cases p <;> exact List.Sublist.refl _
  | x :: r, p => by
    unfold keptG
    split
    · exact (keptG_sub ms r _).cons_cons x
    · exact (keptG_sub ms r _).cons x
theorem cutG_sub : ∀ l : List Itm, (cutG l).Sublist l
  | [] => List.Sublist.refl _
  | x :: r => by
    unfold cutG
    split
    · exact (cutG_sub r).cons x
    · exact (cutG_sub r).cons_cons x
theorem keptG_mem (ms : List Nat) (ha : alwaysN ∈ ms) (x : Itm) : ∀ (r : List Itm) (p : Option Itm), SortedI r → seqOk r → (∀ y, p = some y → ∀ z ∈ r, aheadI y z = true) →
    (x ∈ keptG ms p r ↔ x ∈ r ∧ ∃ m ∈ ms, shownAt r m x ∧ ∀ y, p = some y → y.key = x.key → m < y.seq)
  | [], p, _, _, _ => by cases p <;> simp [keptG]
  | z :: r, p, hs, hq, hp => by
    have hs' := List.pairwise_cons.1 hs
    have ih := keptG_mem ms ha x r (some z) hs'.2 (fun w hw => hq w (List.mem_cons_of_mem _ hw)) (fun y e => by cases e; exact hs'.1)
    have hzr := ahead_not hs'.1
    have hin : x ∈ keptG ms p (z :: r) ↔ (x = z ∧ keepQ ms p z = true) ∨ x ∈ keptG ms (some z) r := by
      rw [keptG_cons]
      split
      · rename_i h
        rw [List.mem_cons]
        exact ⟨fun h' => h'.imp (fun e => ⟨e, h⟩) id, fun h' => h'.imp (fun e => e.1) id⟩
      · rename_i h
        exact ⟨.inr, fun h' => h'.elim (fun e => absurd e.2 h) id⟩
    rw [hin, ih]
    constructor
    · rintro (⟨rfl, hk⟩ | ⟨hx, m, hm, ⟨h1, h2⟩, h3⟩)
      · refine ⟨List.mem_cons_self .., ?_⟩
        have hself : ∀ m, x.seq ≤ m → shownAt (x :: r) m x := fun m hm => ⟨hm, fun y hy hk _ => by
          rcases List.mem_cons.1 hy with rfl | hy
          · exact Nat.le_refl _
          · exact Nat.le_of_lt (ahead_seq (hs'.1 y hy) hk.symm)⟩
        cases p with
        | none => exact ⟨alwaysN, ha, hself _ (hq x (List.mem_cons_self ..)), fun y e => nomatch e⟩
        | some y =>
          by_cases hyk : y.key = x.key
          · unfold keepQ at hk
            dsimp only at hk
            rw [(kEq_iff _ _).2 hyk, Bool.not_true, Bool.false_or, List.any_eq_true] at hk
            obtain ⟨m, hm, h⟩ := hk
            rw [Bool.and_eq_true, decide_eq_true_eq, decide_eq_true_eq] at h
            exact ⟨m, hm, hself m h.1, fun y' e _ => by cases e; exact h.2⟩
          · exact ⟨alwaysN, ha, hself _ (hq x (List.mem_cons_self ..)), fun y' e h => by cases e; exact absurd h hyk⟩
      · refine ⟨List.mem_cons_of_mem _ hx, m, hm, ⟨h1, fun y hy hk hym => ?_⟩, fun y e hk => ?_⟩
        · rcases List.mem_cons.1 hy with rfl | hy
          · have := h3 y rfl hk; omega
          · exact h2 y hy hk hym
        · have hyz := hp y e z (List.mem_cons_self ..)
          have hkz := key_between hyz (hs'.1 x hx) hk
          have h4 := h3 z rfl hkz
          have := ahead_seq hyz (hk.trans hkz.symm)
          omega
    · rintro ⟨hx, m, hm, ⟨h1, h2⟩, h3⟩
      rcases List.mem_cons.1 hx with rfl | hx
      · refine .inl ⟨rfl, ?_⟩
        cases p with
        | none => rfl
        | some y =>
          unfold keepQ
          dsimp only
          by_cases hyk : y.key = x.key
          · rw [(kEq_iff _ _).2 hyk, Bool.not_true, Bool.false_or, List.any_eq_true]
            exact ⟨m, hm, by rw [Bool.and_eq_true, decide_eq_true_eq, decide_eq_true_eq]; exact ⟨h1, h3 y rfl hyk⟩⟩
          · have : kEq y.key x.key = false := by
              rcases hb : kEq y.key x.key with _ | _
              · rfl
              · exact absurd ((kEq_iff _ _).1 hb) hyk
            rw [this]; rfl
      · refine .inr ⟨hx, m, hm, ⟨h1, fun y hy hk hym => h2 y (List.mem_cons_of_mem _ hy) hk hym⟩, fun y e hk => ?_⟩
        cases e
        have h4 := ahead_seq (hs'.1 x hx) hk
        rcases Nat.lt_or_ge m z.seq with h | h
        · exact h
        · have := h2 z (List.mem_cons_self ..) hk h; omega
theorem headDiff_iff (k : ByteArray) (l : List Itm) : headDiff k l = false ↔ ∃ y t, l = y :: t ∧ y.key = k := by
  cases l with
  | nil => simp [headDiff]
  | cons y t =>
    unfold headDiff
    rw [Bool.not_eq_false', kEq_iff]
    constructor
    · intro h; exact ⟨y, t, rfl, h⟩
    · rintro ⟨y', t', e, h⟩; cases e; exact h
theorem cutG_mem (x : Itm) : ∀ (A : List Itm), SortedI A → (x ∈ cutG A ↔ x ∈ A ∧ (x.gone = false ∨ ∃ z ∈ A, z.key = x.key ∧ z.gone = false ∧ z.seq < x.seq))
  | [], _ => by simp [cutG]
  | z :: r, hs => by
    have hs' := List.pairwise_cons.1 hs
    have ih := cutG_mem x r hs'.2
    have hin : x ∈ cutG (z :: r) ↔ (x = z ∧ ¬ (z.gone = true ∧ headDiff z.key (cutG r) = true)) ∨ x ∈ cutG r := by
      rw [cutG_cons]
      split
      · rename_i h
        rw [Bool.and_eq_true] at h
        exact ⟨.inr, fun h' => h'.elim (fun e => absurd h e.2) id⟩
      · rename_i h
        rw [Bool.and_eq_true] at h
        rw [List.mem_cons]
        exact ⟨fun h' => h'.imp (fun e => ⟨e, h⟩) id, fun h' => h'.imp (fun e => e.1) id⟩
    rw [hin, ih]
    constructor
    · rintro (⟨rfl, hk⟩ | ⟨hx, hg⟩)
      · refine ⟨List.mem_cons_self .., ?_⟩
        by_cases hg : x.gone = true
        · have hd : headDiff x.key (cutG r) = false := by
            rcases hb : headDiff x.key (cutG r) with _ | _
            · rfl
            · exact absurd ⟨hg, hb⟩ hk
          obtain ⟨y, t, e, hy⟩ := (headDiff_iff _ _).1 hd
          have hyc : y ∈ cutG r := by rw [e]; exact List.mem_cons_self ..
          obtain ⟨hyr, hyg⟩ := (cutG_mem y r hs'.2).1 hyc
          refine .inr ?_
          rcases hyg with hyg | ⟨w, hw, hwk, hwg, hws⟩
          · exact ⟨y, List.mem_cons_of_mem _ hyr, hy, hyg, ahead_seq (hs'.1 y hyr) hy.symm⟩
          · exact ⟨w, List.mem_cons_of_mem _ hw, hwk.trans hy, hwg, ahead_seq (hs'.1 w hw) (hwk.trans hy).symm⟩
        · exact .inl (by simpa using hg)
      · refine ⟨List.mem_cons_of_mem _ hx, hg.imp id ?_⟩
        rintro ⟨w, hw, h⟩
        exact ⟨w, List.mem_cons_of_mem _ hw, h⟩
    · rintro ⟨hx, hg⟩
      rcases List.mem_cons.1 hx with rfl | hxr
      · refine .inl ⟨rfl, ?_⟩
        rintro ⟨h1, h2⟩
        rcases hg with hg | ⟨w, hw, hwk, hwg, hws⟩
        · rw [hg] at h1; exact absurd h1 (by decide)
        · have hwr : w ∈ r := by
            rcases List.mem_cons.1 hw with rfl | hw
            · omega
            · exact hw
          have hwc : w ∈ cutG r := (cutG_mem w r hs'.2).2 ⟨hwr, .inl hwg⟩
          rcases hc : cutG r with _ | ⟨y, t⟩
          · rw [hc] at hwc; exact absurd hwc List.not_mem_nil
          · have hyr : y ∈ r := (cutG_sub r).subset (by rw [hc]; exact List.mem_cons_self ..)
            have hyk : y.key = x.key := by
              rw [hc] at hwc
              rcases List.mem_cons.1 hwc with rfl | hwt
              · exact hwk
              · have hsc : SortedI (cutG r) := List.Pairwise.sublist (cutG_sub r) hs'.2
                rw [hc] at hsc
                have := key_between (hs'.1 y hyr) ((List.pairwise_cons.1 hsc).1 w hwt) hwk.symm
                exact this.trans hwk
            rw [hc] at h2
            have : headDiff x.key (y :: t) = false := (headDiff_iff _ _).2 ⟨y, t, rfl, hyk⟩
            rw [this] at h2
            exact absurd h2 (by decide)
      · refine .inr ⟨hxr, hg.imp id ?_⟩
        rintro ⟨w, hw, hwk, hwg, hws⟩
        rcases List.mem_cons.1 hw with rfl | hw
        · have := ahead_seq (hs'.1 x hxr) hwk; omega
        · exact ⟨w, hw, hwk, hwg, hws⟩
theorem keptG_group (ms : List Nat) (k : ByteArray) : ∀ (r : List Itm) (q : Itm), q.key = k → keptG ms (some q) r = keptL ms (some q) (groupL k r) ++ keptG ms (some (lastOf q (groupL k r))) (r.drop (groupL k r).length)
  | [], q, _ => rfl
  | z :: r, q, hq => by
    by_cases hz : z.key = k
    · have hzk := (kEq_iff z.key k).2 hz
      have ih := keptG_group ms k r z hz
      have e : keepQ ms (some q) z = keptI ms (some q) z := by
        unfold keepQ keptI
        dsimp only
        rw [(kEq_iff q.key z.key).2 (hq.trans hz.symm)]
        rfl
      rw [groupL, if_pos hzk, keptG, keptL, e, lastOf, List.length_cons, List.drop_succ_cons, ih]
      split <;> rfl
    · have hzk : ¬ kEq z.key k = true := fun h => hz ((kEq_iff _ _).1 h)
      rw [groupL, if_neg hzk]
      rfl
theorem lastOf_key (k : ByteArray) : ∀ (r : List Itm) (q : Itm), q.key = k → (lastOf q (groupL k r)).key = k
  | [], q, hq => hq
  | z :: r, q, hq => by
    unfold groupL
    split
    · rename_i h
      exact lastOf_key k r z ((kEq_iff _ _).1 h)
    · exact hq
theorem keptL_subset (ms : List Nat) : ∀ (l : List Itm) (p : Option Itm) (x : Itm), x ∈ keptL ms p l → x ∈ l
  | [], p, x, h => by rw [keptL_nil] at h; exact h
  | y :: r, p, x, h => by
    unfold keptL at h
    split at h
    · rcases List.mem_cons.1 h with rfl | h
      · exact List.mem_cons_self ..
      · exact List.mem_cons_of_mem _ (keptL_subset ms r _ x h)
    · exact List.mem_cons_of_mem _ (keptL_subset ms r _ x h)
theorem group_key (k : ByteArray) : ∀ (r : List Itm) (x : Itm), x ∈ groupL k r → x.key = k
  | [], x, h => nomatch h
  | y :: r, x, h => by
    unfold groupL at h
    split at h
    · rename_i hy
      rcases List.mem_cons.1 h with rfl | h
      · exact (kEq_iff _ _).1 hy
      · exact group_key k r x h
    · exact nomatch h
theorem cutGone_sub : ∀ (A : List Itm) (x : Itm), x ∈ cutGone A → x ∈ A
  | [], x, h => nomatch h
  | z :: r, x, h => by
    have ih := cutGone_sub r
    unfold cutGone at h
    rcases hc : cutGone r with _ | ⟨y, t⟩
    · rw [hc] at h
      dsimp only at h
      split at h
      · exact nomatch h
      · rw [List.mem_singleton] at h; rw [h]; exact List.mem_cons_self ..
    · rw [hc] at h ih
      dsimp only at h
      rcases List.mem_cons.1 h with rfl | h
      · exact List.mem_cons_self ..
      · exact List.mem_cons_of_mem _ (ih x h)
theorem cutG_append (k : ByteArray) : ∀ (A R : List Itm), (∀ z ∈ A, z.key = k) → (∀ z ∈ R, z.key ≠ k) → cutG (A ++ R) = cutGone A ++ cutG R
  | [], R, _, _ => rfl
  | z :: A, R, hA, hR => by
    have ih := cutG_append k A R (fun w hw => hA w (List.mem_cons_of_mem _ hw)) hR
    have hz := hA z (List.mem_cons_self ..)
    rw [List.cons_append, cutG, ih]
    rcases hc : cutGone A with _ | ⟨y, t⟩
    · have hd : headDiff z.key ([] ++ cutG R) = true := by
        rcases hb : headDiff z.key ([] ++ cutG R) with _ | _
        · obtain ⟨y, t, e, hy⟩ := (headDiff_iff _ _).1 hb
          have hyR : y ∈ R := (cutG_sub R).subset (by rw [List.nil_append] at e; rw [e]; exact List.mem_cons_self ..)
          exact absurd (hy.trans hz) (hR y hyR)
        · rfl
      rw [hd, Bool.and_true, cutGone, hc]
      dsimp only
      split <;> rfl
    · have hyA : y ∈ A := cutGone_sub A y (by rw [hc]; exact List.mem_cons_self ..)
      have hd : headDiff z.key (y :: t ++ cutG R) = false := (headDiff_iff _ _).2 ⟨y, t ++ cutG R, rfl, (hA y (List.mem_cons_of_mem _ hyA)).trans hz.symm⟩
      rw [hd, Bool.and_false, cutGone, hc]
      rfl
def endG (bt : Bool) (l : List Itm) : List Itm := if bt then cutG l else l
theorem thinF_is (ms : List Nat) (bt : Bool) : ∀ (f : Nat) (l : List Itm) (p : Option Itm), l.length ≤ f → SortedI l → (∀ y, p = some y → ∀ z t, l = z :: t → y.key ≠ z.key) → thinF ms bt f l = endG bt (keptG ms p l)
  | 0, l, p, hf, _, _ => by
    obtain rfl : l = [] := List.eq_nil_of_length_eq_zero (by omega)
    cases p <;> cases bt <;> rfl
  | f + 1, [], p, _, _, _ => by cases p <;> cases bt <;> rfl
  | f + 1, x :: r, p, hf, hs, hp => by
    have hs' := List.pairwise_cons.1 hs
    have hk : keepQ ms p x = true := by
      cases p with
      | none => rfl
      | some y =>
        have : kEq y.key x.key = false := by
          rcases hb : kEq y.key x.key with _ | _
          · rfl
          · exact absurd ((kEq_iff _ _).1 hb) (hp y rfl x r rfl)
        unfold keepQ
        dsimp only
        rw [this]; rfl
    have hdl : (r.drop (groupL x.key r).length).Sublist r := List.drop_sublist _ _
    have hsd : SortedI (r.drop (groupL x.key r).length) := List.Pairwise.sublist hdl hs'.2
    have hhead : ∀ z t, r.drop (groupL x.key r).length = z :: t → x.key ≠ z.key := fun z t e hz => by
      have hlt : (groupL x.key r).length < r.length := by
        rcases Nat.lt_or_ge (groupL x.key r).length r.length with h | h
        · exact h
        · rw [List.drop_eq_nil_of_le h] at e; cases e
      have := group_stop x.key r hlt
      rw [List.drop_eq_getElem_cons hlt] at e
      cases e
      rw [(kEq_iff _ _).2 hz.symm] at this
      exact absurd this (by decide)
    have ih := thinF_is ms bt f (r.drop (groupL x.key r).length) (some (lastOf x (groupL x.key r))) (by rw [List.length_drop]; simp only [List.length_cons] at hf; omega) hsd
      (fun y e z t ht => by cases e; rw [lastOf_key x.key r x rfl]; exact hhead z t ht)
    have hrest : ∀ z ∈ r.drop (groupL x.key r).length, z.key ≠ x.key := fun z hz e => by
      rcases hd : r.drop (groupL x.key r).length with _ | ⟨y, t⟩
      · rw [hd] at hz; exact absurd hz List.not_mem_nil
      · rw [hd] at hz hsd
        have hyr : y ∈ r := hdl.subset (by rw [hd]; exact List.mem_cons_self ..)
        rcases List.mem_cons.1 hz with rfl | hzt
        · exact hhead z t hd e.symm
        · have := key_between (hs'.1 y hyr) ((List.pairwise_cons.1 hsd).1 z hzt) e.symm
          exact hhead y t hd (e.symm.trans this.symm)
    rw [thinF_step, ih, keptG, if_pos hk, keptG_group ms x.key r x rfl]
    have e1 : keptL ms none (x :: groupL x.key r) = x :: keptL ms (some x) (groupL x.key r) := rfl
    cases bt with
    | false => unfold thinKeyL endG; rw [if_neg (by decide), if_neg (by decide), if_neg (by decide), e1]; rfl
    | true =>
      unfold thinKeyL endG
      rw [if_pos rfl, if_pos rfl, if_pos rfl, e1, ← List.cons_append, cutG_append x.key]
      · intro z hz
        rcases List.mem_cons.1 hz with rfl | hz
        · rfl
        · exact group_key _ _ _ (keptL_subset ms _ _ z hz)
      · intro z hz
        exact hrest z ((keptG_sub ms _ _).subset hz)
theorem thinL_is (ms : List Nat) (bt : Bool) (l : List Itm) (hl : SortedI l) : thinL ms bt l = endG bt (keptG ms none l) := thinF_is ms bt l.length l none (Nat.le_refl _) hl (fun y e => nomatch e)
theorem thinL_sub (ms : List Nat) (bt : Bool) (l : List Itm) (hl : SortedI l) : (thinL ms bt l).Sublist l := by
  rw [thinL_is ms bt l hl]
  unfold endG
  split
  · exact (cutG_sub _).trans (keptG_sub ms l none)
  · exact keptG_sub ms l none
def keptAt (ms : List Nat) (l : List Itm) (x : Itm) : Prop := x ∈ l ∧ ∃ m ∈ ms, shownAt l m x
theorem thinL_mem (ms : List Nat) (ha : alwaysN ∈ ms) (bt : Bool) (l : List Itm) (hl : SortedI l) (hq : seqOk l) (x : Itm) :
    x ∈ thinL ms bt l ↔ keptAt ms l x ∧ (bt = true → x.gone = false ∨ ∃ z, keptAt ms l z ∧ z.key = x.key ∧ z.gone = false ∧ z.seq < x.seq) := by
  have hk : ∀ x, x ∈ keptG ms none l ↔ keptAt ms l x := fun x => by
    rw [keptG_mem ms ha x l none hl hq (fun y e => nomatch e)]
    unfold keptAt
    exact ⟨fun ⟨h1, m, hm, h2, _⟩ => ⟨h1, m, hm, h2⟩, fun ⟨h1, m, hm, h2⟩ => ⟨h1, m, hm, h2, fun y e => nomatch e⟩⟩
  rw [thinL_is ms bt l hl]
  cases bt with
  | false =>
    unfold endG
    rw [if_neg (by decide), hk]
    exact ⟨fun h => ⟨h, fun e => absurd e (by decide)⟩, fun h => h.1⟩
  | true =>
    unfold endG
    rw [if_pos rfl, cutG_mem x _ (List.Pairwise.sublist (keptG_sub ms l none) hl), hk]
    constructor
    · rintro ⟨h1, h2⟩
      refine ⟨h1, fun _ => h2.imp id ?_⟩
      rintro ⟨z, hz, h⟩
      exact ⟨z, (hk z).1 hz, h⟩
    · rintro ⟨h1, h2⟩
      refine ⟨h1, (h2 rfl).imp id ?_⟩
      rintro ⟨z, hz, h⟩
      exact ⟨z, (hk z).2 hz, h⟩
/-! ### Seen -/
theorem seenGo_sub (q : Nat) : ∀ (l : List Itm) (d : List ByteArray), (seenGo q d l).Sublist l
  | [], d => List.Sublist.refl _
  | x :: r, d => by
    unfold seenGo
    split
    · exact (seenGo_sub q r d).cons x
    · split
      · exact (seenGo_sub q r d).cons x
      · split
        · exact (seenGo_sub q r _).cons x
        · exact (seenGo_sub q r _).cons_cons x
theorem seenGo_mem (q : Nat) (x : Itm) : ∀ (r : List Itm) (d : List ByteArray), SortedI r → (x ∈ seenGo q d r ↔ x ∈ r ∧ shownAt r q x ∧ x.gone = false ∧ x.key ∉ d)
  | [], d, _ => by simp [seenGo]
  | z :: r, d, hs => by
    have hs' := List.pairwise_cons.1 hs
    have hzr := ahead_not hs'.1
    have hany : d.any (kEq z.key) = true ↔ z.key ∈ d := by
      rw [List.any_eq_true]
      exact ⟨fun ⟨k, hk, e⟩ => by rw [(kEq_iff _ _).1 e]; exact hk, fun h => ⟨_, h, kEq_refl _⟩⟩
    have hself : z.seq ≤ q → shownAt (z :: r) q z := fun hm => ⟨hm, fun y hy hk _ => by
      rcases List.mem_cons.1 hy with rfl | hy
      · exact Nat.le_refl _
      · exact Nat.le_of_lt (ahead_seq (hs'.1 y hy) hk.symm)⟩
    have hother : ∀ (_ : x ∈ r), (shownAt (z :: r) q x ↔ shownAt r q x ∧ (z.key = x.key → q < z.seq)) := fun hx => by
      constructor
      · rintro ⟨h1, h2⟩
        refine ⟨⟨h1, fun y hy => h2 y (List.mem_cons_of_mem _ hy)⟩, fun hk => ?_⟩
        have h3 := ahead_seq (hs'.1 x hx) hk
        rcases Nat.lt_or_ge q z.seq with h | h
        · exact h
        · have := h2 z (List.mem_cons_self ..) hk h; omega
      · rintro ⟨⟨h1, h2⟩, h3⟩
        refine ⟨h1, fun y hy hk hym => ?_⟩
        rcases List.mem_cons.1 hy with rfl | hy
        · have := h3 hk; omega
        · exact h2 y hy hk hym
    have hne : x ∈ r → x ≠ z := fun hx e => hzr (e ▸ hx)
    by_cases hq : q < z.seq
    · have e : seenGo q d (z :: r) = seenGo q d r := by rw [seenGo, if_pos hq]
      rw [e, seenGo_mem q x r d hs'.2]
      constructor
      · rintro ⟨hx, h1, h2, h3⟩
        exact ⟨List.mem_cons_of_mem _ hx, (hother hx).2 ⟨h1, fun _ => hq⟩, h2, h3⟩
      · rintro ⟨hx, h1, h2, h3⟩
        rcases List.mem_cons.1 hx with rfl | hx
        · have := h1.1; omega
        · exact ⟨hx, ((hother hx).1 h1).1, h2, h3⟩
    · by_cases hd : z.key ∈ d
      · have e : seenGo q d (z :: r) = seenGo q d r := by rw [seenGo, if_neg hq, if_pos (hany.2 hd)]
        rw [e, seenGo_mem q x r d hs'.2]
        constructor
        · rintro ⟨hx, h1, h2, h3⟩
          exact ⟨List.mem_cons_of_mem _ hx, (hother hx).2 ⟨h1, fun hk => absurd (hk ▸ hd) h3⟩, h2, h3⟩
        · rintro ⟨hx, h1, h2, h3⟩
          rcases List.mem_cons.1 hx with rfl | hx
          · exact absurd hd h3
          · exact ⟨hx, ((hother hx).1 h1).1, h2, h3⟩
      · have hstep : x ∈ seenGo q d (z :: r) ↔ (x = z ∧ z.gone = false) ∨ x ∈ seenGo q (d ++ [z.key]) r := by
          rw [seenGo, if_neg hq, if_neg (fun h => hd (hany.1 h))]
          split
          · rename_i hg
            exact ⟨.inr, fun h => h.elim (fun e => by rw [e.2] at hg; exact absurd hg (by decide)) id⟩
          · rename_i hg
            rw [List.mem_cons]
            exact ⟨fun h => h.imp (fun e => ⟨e, by simpa using hg⟩) id, fun h => h.imp (fun e => e.1) id⟩
        rw [hstep, seenGo_mem q x r (d ++ [z.key]) hs'.2]
        constructor
        · rintro (⟨rfl, hg⟩ | ⟨hx, h1, h2, h3⟩)
          · exact ⟨List.mem_cons_self .., hself (by omega), hg, hd⟩
          · rw [List.mem_append, List.mem_singleton, not_or] at h3
            exact ⟨List.mem_cons_of_mem _ hx, (hother hx).2 ⟨h1, fun hk => absurd hk.symm h3.2⟩, h2, h3.1⟩
        · rintro ⟨hx, h1, h2, h3⟩
          rcases List.mem_cons.1 hx with rfl | hx
          · exact .inl ⟨rfl, h2⟩
          · have h4 := (hother hx).1 h1
            refine .inr ⟨hx, h4.1, h2, ?_⟩
            rw [List.mem_append, List.mem_singleton, not_or]
            exact ⟨h3, fun e => by have := h4.2 e.symm; omega⟩
theorem seenL_mem (q : Nat) (l : List Itm) (hl : SortedI l) (x : Itm) : x ∈ seenL q l ↔ x ∈ l ∧ shownAt l q x ∧ x.gone = false := by
  unfold seenL
  rw [seenGo_mem q x l [] hl]
  exact ⟨fun ⟨a, b, c, _⟩ => ⟨a, b, c⟩, fun ⟨a, b, c⟩ => ⟨a, b, c, List.not_mem_nil⟩⟩
theorem seenL_sorted (q : Nat) (l : List Itm) (hl : SortedI l) : SortedI (seenL q l) := List.Pairwise.sublist (seenGo_sub q l []) hl
theorem thinL_sorted (ms : List Nat) (bt : Bool) (l : List Itm) (hl : SortedI l) : SortedI (thinL ms bt l) := List.Pairwise.sublist (thinL_sub ms bt l hl) hl
theorem seqOk_sub {a l : List Itm} (h : a.Sublist l) (hl : seqOk l) : seqOk a := fun x hx => hl x (h.subset hx)
/-- There is one that is shown. -/
theorem shown_exists (l : List Itm) (m : Nat) (x : Itm) (hx : x ∈ l) (hm : x.seq ≤ m) : ∃ y ∈ l, y.key = x.key ∧ shownAt l m y := by
  have key : ∀ n : Nat, ∀ x ∈ l, x.seq ≤ m → m - x.seq ≤ n → ∃ y ∈ l, y.key = x.key ∧ shownAt l m y := by
    intro n
    induction n with
    | zero =>
      intro x hx hm hn
      exact ⟨x, hx, rfl, hm, fun y _ _ h => by omega⟩
    | succ n ih =>
      intro x hx hm hn
      by_cases h : ∃ y ∈ l, y.key = x.key ∧ y.seq ≤ m ∧ x.seq < y.seq
      · obtain ⟨y, hy, hk, hym, hxy⟩ := h
        obtain ⟨z, hz, hzk, hzs⟩ := ih y hy hym (by omega)
        exact ⟨z, hz, hzk.trans hk, hzs⟩
      · refine ⟨x, hx, rfl, hm, fun y hy hk hym => ?_⟩
        rcases Nat.lt_or_ge x.seq y.seq with h' | h'
        · exact absurd ⟨y, hy, hk, hym, h'⟩ h
        · exact h'
  exact key (m - x.seq) x hx hm (Nat.le_refl _)
/-- What is seen stays. -/
theorem seen_thin (ms : List Nat) (ha : alwaysN ∈ ms) (bt : Bool) (l : List Itm) (hl : SortedI l) (hq : seqOk l) (q : Nat) (hqm : q ∈ ms) : seenL q (thinL ms bt l) = seenL q l := by
  have hT := thinL_sorted ms bt l hl
  have hsub := thinL_sub ms bt l hl
  have hm := thinL_mem ms ha bt l hl hq
  refine sorted_mem (seenL_sorted q _ hT) (seenL_sorted q l hl) fun x => ?_
  rw [seenL_mem q _ hT, seenL_mem q l hl]
  constructor
  · rintro ⟨hx, ⟨h1, h2⟩, hg⟩
    have hxl := hsub.subset hx
    refine ⟨hxl, ⟨h1, fun y hy hk hym => ?_⟩, hg⟩
    obtain ⟨z, hz, hzk, hzs⟩ := shown_exists l q x hxl h1
    have hyz := hzs.2 y hy (hk.trans hzk.symm) hym
    have hxz := hzs.2 x hxl hzk.symm h1
    rcases Nat.lt_or_ge x.seq z.seq with hlt | hge
    · have hzT : z ∈ thinL ms bt l := (hm z).2 ⟨⟨hz, q, hqm, hzs⟩, fun _ => .inr ⟨x, ((hm x).1 hx).1, hzk.symm, hg, hlt⟩⟩
      have := h2 z hzT hzk hzs.1
      omega
    · omega
  · rintro ⟨hx, h1, hg⟩
    exact ⟨(hm x).2 ⟨⟨hx, q, hqm, h1⟩, fun _ => .inl hg⟩, ⟨h1.1, fun y hy => h1.2 y (hsub.subset hy)⟩, hg⟩
/-- Thinning again changes nothing. -/
theorem thin_again (ms : List Nat) (ha : alwaysN ∈ ms) (bt : Bool) (l : List Itm) (hl : SortedI l) (hq : seqOk l) : thinL ms bt (thinL ms bt l) = thinL ms bt l := by
  have hT := thinL_sorted ms bt l hl
  have hsub := thinL_sub ms bt l hl
  have hm := thinL_mem ms ha bt l hl hq
  have hm2 := thinL_mem ms ha bt _ hT (seqOk_sub hsub hq)
  have hup : ∀ x, x ∈ thinL ms bt l → keptAt ms (thinL ms bt l) x := fun x hx => by
    obtain ⟨⟨_, m, hmm, h1, h2⟩, _⟩ := (hm x).1 hx
    exact ⟨hx, m, hmm, h1, fun y hy => h2 y (hsub.subset hy)⟩
  refine sorted_mem (List.Pairwise.sublist (thinL_sub ms bt _ hT) hT) hT fun x => ?_
  constructor
  · intro hx
    exact (thinL_sub ms bt _ hT).subset hx
  · intro hx
    refine (hm2 x).2 ⟨hup x hx, fun hb => (((hm x).1 hx).2 hb).imp id ?_⟩
    rintro ⟨z, hz, hzk, hzg, hzs⟩
    exact ⟨z, hup z ((hm z).2 ⟨hz, fun _ => .inl hzg⟩), hzk, hzg, hzs⟩
end Go.Proofs.Ytfdafoibclfpgaa
