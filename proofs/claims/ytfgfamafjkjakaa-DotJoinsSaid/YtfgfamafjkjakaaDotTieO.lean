/-
  A set's numbers and the document's own list of dots, side by side; the document's own parts: plain mathematics.
  Rows of parts that the document's own answer lays: one part more, its numbers changed in place.
-/
import Derived.Test.YtfgfamafjkjakaaDotLaidP
import Derived.Test.YtfgfamafjkjakaaDotOf
import Derived.Test.YtfgfamafjkjakaaDotAwake
import Derived.Maps.AppendAt
import Derived.Laws.OwnMore
namespace Go.Proofs.Ytfgfamafjkjakaa
open Go.ChangeShapes Go.WideShapes Go.ChangeAt Go.RowKit Go.Deep
set_option linter.unusedVariables false
set_option linter.unusedSimpArgs false
/-- The numbers of a device. -/
def numsD (l : List (Int × Nat)) (d : Nat) : List Nat := (l.filter fun x => decide (x.1 = (d : Int))).map Prod.snd
theorem numsD_nil (d : Nat) : numsD [] d = [] := rfl
theorem numsD_append (a b : List (Int × Nat)) (d : Nat) : numsD (a ++ b) d = numsD a d ++ numsD b d := by
  unfold numsD
  rw [List.filter_append, List.map_append]
theorem numsD_yes {x : Int × Nat} {d : Nat} (h : x.1 = (d : Int)) : numsD [x] d = [x.2] := by
  unfold numsD
  rw [List.filter_cons, if_pos (decide_eq_true h)]
  rfl
theorem numsD_no {x : Int × Nat} {d : Nat} (h : x.1 ≠ (d : Int)) : numsD [x] d = [] := by
  unfold numsD
  rw [List.filter_cons, if_neg (by rw [decide_eq_true_eq]; exact h)]
  rfl
theorem mem_numsD {l : List (Int × Nat)} {d n : Nat} : n ∈ numsD l d ↔ ((d : Int), n) ∈ l := by
  unfold numsD
  rw [List.mem_map]
  constructor
  · rintro ⟨⟨a, b⟩, h, rfl⟩
    obtain ⟨h1, h2⟩ := List.mem_filter.1 h
    rw [decide_eq_true_eq] at h2
    have : a = (d : Int) := h2
    subst this
    exact h1
  · intro h
    exact ⟨((d : Int), n), List.mem_filter.2 ⟨h, by rw [decide_eq_true_eq]⟩, rfl⟩
theorem rising_of : ∀ {l : List Nat}, l.Pairwise (· < ·) → rising l
  | [], _ => trivial
  | x :: r, h => by
    obtain ⟨h1, h2⟩ := List.pairwise_cons.1 h
    exact ⟨h1, rising_of h2⟩
def Sorted (l : List (Int × Nat)) : Prop := l.Pairwise (fun a b => aheadD a b = true)
theorem aheadD_iff (a b : Int × Nat) : aheadD a b = true ↔ a.1 < b.1 ∨ a.1 = b.1 ∧ a.2 < b.2 := by
  unfold aheadD aheadB
  exact decide_eq_true_iff
theorem numsD_rising {l : List (Int × Nat)} (h : Sorted l) (d : Nat) : rising (numsD l d) := by
  refine rising_of ?_
  unfold numsD
  rw [List.pairwise_map]
  refine List.Pairwise.imp_of_mem (fun {a b} ha hb hab => ?_) (List.Pairwise.sublist List.filter_sublist h)
  have h1 := (List.mem_filter.1 ha).2
  have h2 := (List.mem_filter.1 hb).2
  rw [decide_eq_true_eq] at h1 h2
  have := (aheadD_iff a b).1 hab
  omega
theorem insN_mid (n : Nat) : ∀ (A B : List Nat), (∀ y ∈ A, y < n) → (∀ y ∈ B, n < y) → insN n (A ++ B) = A ++ [n] ++ B
  | [], [], _, _ => rfl
  | [], y :: s, _, h => by
    show insN n (y :: s) = n :: y :: s
    unfold insN
    rw [if_pos (h y (List.mem_cons_self ..))]
  | x :: r, B, h1, h2 => by
    have hx := h1 x (List.mem_cons_self ..)
    show insN n (x :: (r ++ B)) = x :: (r ++ [n] ++ B)
    unfold insN
    rw [if_neg (by omega), insN_mid n r B (fun y hy => h1 y (List.mem_cons_of_mem _ hy)) h2]
theorem pos_before {x : Int × Nat} {l : List (Int × Nat)} {y : Int × Nat} (h : y ∈ l.take (posD x l)) : aheadD y x = true := by
  obtain ⟨j, hj, rfl⟩ := List.getElem_of_mem h
  rw [List.length_take] at hj
  rw [List.getElem_take]
  exact posD_lt x l j (by omega) (by omega)
theorem pos_after {x : Int × Nat} {l : List (Int × Nat)} (hs : Sorted l) (hx : x ∉ l) {y : Int × Nat} (h : y ∈ l.drop (posD x l)) : aheadD x y = true := by
  obtain ⟨j, hj, rfl⟩ := List.getElem_of_mem h
  rw [List.length_drop] at hj
  rw [List.getElem_drop]
  have hp : posD x l < l.length := by omega
  have h0 := posD_at x l hp
  have hne : l[posD x l] ≠ x := fun e => hx (e ▸ List.getElem_mem hp)
  have h1 : aheadD x l[posD x l] = true := by
    rw [aheadD_iff]
    have h2 : ¬ (aheadD l[posD x l] x = true) := by rw [h0]; exact Bool.false_ne_true
    rw [aheadD_iff] at h2
    have h3 : ¬ (l[posD x l].1 = x.1 ∧ l[posD x l].2 = x.2) := fun e => hne (Prod.ext e.1 e.2)
    omega
  rcases Nat.eq_zero_or_pos j with rfl | hj0
  · exact h1
  · have h4 := List.pairwise_iff_getElem.1 hs (posD x l) (posD x l + j) hp (by omega) (by omega)
    rw [aheadD_iff] at h1 h4 ⊢
    omega
theorem addL_sorted {l : List (Int × Nat)} (h : Sorted l) (x : Int × Nat) : Sorted (addL l x) := by
  unfold addL
  split
  · exact h
  · rename_i hx
    refine List.pairwise_append.2 ⟨List.pairwise_append.2 ⟨List.Pairwise.sublist (List.take_sublist _ _) h, List.pairwise_singleton _ _, fun a ha b hb => ?_⟩, List.Pairwise.sublist (List.drop_sublist _ _) h, fun a ha b hb => ?_⟩
    · obtain rfl := List.mem_singleton.1 hb
      exact pos_before ha
    · rcases List.mem_append.1 ha with ha | ha
      · have h1 := pos_before ha
        have h2 := pos_after h hx hb
        rw [aheadD_iff] at h1 h2 ⊢
        omega
      · obtain rfl := List.mem_singleton.1 ha
        exact pos_after h hx hb
theorem mem_addL (l : List (Int × Nat)) (x y : Int × Nat) : y ∈ addL l x ↔ y = x ∨ y ∈ l := by
  unfold addL
  split
  · rename_i hx
    exact ⟨fun h => .inr h, fun h => h.elim (fun e => e ▸ hx) id⟩
  · rw [List.mem_append, List.mem_append, List.mem_singleton]
    have e : y ∈ l ↔ y ∈ l.take (posD x l) ∨ y ∈ l.drop (posD x l) := by
      rw [← List.mem_append, List.take_append_drop]
    rw [e]
    constructor
    · rintro ((h | h) | h)
      · exact .inr (.inl h)
      · exact .inl h
      · exact .inr (.inr h)
    · rintro (h | h | h)
      · exact .inl (.inr h)
      · exact .inl (.inl h)
      · exact .inr h
theorem numsD_addL_same {l : List (Int × Nat)} (h : Sorted l) {x : Int × Nat} (hx : x ∉ l) {d : Nat} (hd : x.1 = (d : Int)) : numsD (addL l x) d = insN x.2 (numsD l d) := by
  have e : numsD l d = numsD (l.take (posD x l)) d ++ numsD (l.drop (posD x l)) d := by rw [← numsD_append, List.take_append_drop]
  unfold addL
  rw [if_neg hx, numsD_append, numsD_append, numsD_yes hd, e, insN_mid]
  · intro y hy
    have h1 := pos_before (mem_numsD.1 hy)
    rw [aheadD_iff] at h1
    simp only at h1
    omega
  · intro y hy
    have h1 := pos_after h hx (mem_numsD.1 hy)
    rw [aheadD_iff] at h1
    simp only at h1
    omega
theorem numsD_addL_other (l : List (Int × Nat)) (x : Int × Nat) {d : Nat} (hd : x.1 ≠ (d : Int)) : numsD (addL l x) d = numsD l d := by
  unfold addL
  split
  · rfl
  · rw [numsD_append, numsD_append, numsD_no hd, List.append_nil, ← numsD_append, List.take_append_drop]
/-- A set and the document's list. -/
structure Tie (f : List Nm) (l : List (Int × Nat)) : Prop where
  len : f.length = 16
  sorted : Sorted l
  good : ∀ x ∈ l, goodB x.1 x.2 = true
  each : ∀ d, d < 16 → f.getD d Nm.zero = canon (numsD l d)
theorem good_parts {d : Int} {n : Nat} (h : goodB d n = true) : ∃ D : Nat, d = (D : Int) ∧ D < 16 ∧ 1 ≤ n ∧ n ≤ 1099511627776 := by
  unfold goodB at h
  rw [decide_eq_true_eq] at h
  exact ⟨d.toNat, by omega, by omega, h.2.2.1, h.2.2.2⟩
theorem Tie.has {f : List Nm} {l : List (Int × Nat)} (h : Tie f l) (d : Int) (n : Nat) : hasS f d n = decide ((d, n) ∈ l) := by
  unfold hasS
  cases hg : goodB d n with
  | false =>
    rw [Bool.false_and, decide_eq_false (fun hm => by rw [h.good _ hm] at hg; cases hg)]
  | true =>
    obtain ⟨D, rfl, hD, h1, h2⟩ := good_parts hg
    rw [Bool.true_and, Int.toNat_natCast, h.each D hD]
    unfold canon
    rw [close_has _ _ (numsD_rising h.sorted D), decide_eq_false (by omega), Bool.false_or]
    exact decide_eq_decide.2 mem_numsD
theorem Tie.none : Tie none16 [] := ⟨rfl, List.Pairwise.nil, (fun x h => nomatch h), fun d hd => none16_getD d⟩
theorem numsD_pos {l : List (Int × Nat)} (h : ∀ x ∈ l, goodB x.1 x.2 = true) (d : Nat) : ∀ y ∈ numsD l d, 0 < y := fun y hy => by
  obtain ⟨_, _, _, h1, _⟩ := good_parts (h _ (mem_numsD.1 hy))
  exact h1
theorem Tie.add {f : List Nm} {l : List (Int × Nat)} (h : Tie f l) {d : Int} {n : Nat} (he : (addS f d n).2 = 0) : Tie (addS f d n).1 (addL l (d, n)) := by
  have hh := h.has d n
  unfold addS at he ⊢
  cases hg : goodB d n with
  | false => rw [hg, if_neg Bool.false_ne_true] at he; cases he
  | true =>
    obtain ⟨D, rfl, hD, h1, h2⟩ := good_parts hg
    unfold hasS at hh
    rw [hg] at he hh
    rw [Bool.true_and] at hh
    rw [if_pos rfl] at he ⊢
    rw [Int.toNat_natCast] at he hh ⊢
    have hgood : ∀ x ∈ addL l ((D : Int), n), goodB x.1 x.2 = true := fun x hx => by
      rcases (mem_addL _ _ _).1 hx with rfl | hx
      · exact hg
      · exact h.good x hx
    cases hb : (f.getD D Nm.zero).has n with
    | true =>
      rw [if_pos rfl]
      rw [hb] at hh
      have hm := of_decide_eq_true hh.symm
      have e : addL l ((D : Int), n) = l := by unfold addL; rw [if_pos hm]
      rw [e]
      exact h
    | false =>
      rw [hb] at hh he
      have hm := of_decide_eq_false hh.symm
      rw [if_neg Bool.false_ne_true] at he ⊢
      by_cases h4 : 4096 < ((f.getD D Nm.zero).with n).more.length
      · rw [if_pos h4] at he; cases he
      · rw [if_neg h4]
        refine ⟨by rw [List.length_set]; exact h.len, addL_sorted h.sorted _, hgood, fun i hi => ?_⟩
        show (f.set D _).getD i Nm.zero = _
        rw [set_getD _ _ _ _ (by rw [h.len]; exact hD)]
        by_cases e : D = i
        · subst e
          rw [if_pos rfl, numsD_addL_same h.sorted hm rfl, h.each D hD]
          exact (canon_ins n _ (numsD_rising h.sorted D) (numsD_pos h.good D) h1 (fun hx => hm (mem_numsD.1 hx))).symm
        · rw [if_neg e, numsD_addL_other _ _ (show (D : Int) ≠ (i : Int) by omega)]
          exact h.each i hi
theorem addS_keep {f : List Nm} {d : Int} {n : Nat} (he : (addS f d n).2 ≠ 0) : (addS f d n).1 = f := by
  unfold addS at he ⊢
  split
  · rename_i h1
    rw [if_pos h1] at he
    split
    · rfl
    · rename_i h2
      rw [if_neg h2] at he
      split
      · rfl
      · rename_i h3
        rw [if_neg h3] at he
        exact absurd rfl he
  · rfl
theorem tie_of (D : Nat → Int) (N : Nat → Nat) : ∀ k, Tie (ofF D N k) (ofL D N k)
  | 0 => Tie.none
  | k + 1 => by
    have ih := tie_of D N k
    unfold ofF ofL
    by_cases he : (addS (ofF D N k) (D k) (N k)).2 = 0
    · rw [if_pos he]; exact ih.add he
    · rw [if_neg he, addS_keep he]; exact ih
/-! The document's own parts. -/
def pushN (out : List (Nat × Nm)) (x : Int × Nat) : List (Nat × Nm) :=
  match out.getLast? with
  | none => [(x.1.toNat, foldStep Nm.zero x.2)]
  | some p => if p.1 = x.1.toNat then out.dropLast ++ [(p.1, foldStep p.2 x.2)] else out ++ [(x.1.toNat, foldStep Nm.zero x.2)]
def partsL (l : List (Int × Nat)) : List (Nat × Nm) := l.foldl pushN []
theorem partsL_snoc (l : List (Int × Nat)) (x : Int × Nat) : partsL (l ++ [x]) = pushN (partsL l) x := by unfold partsL; rw [List.foldl_append]; rfl
theorem pushN_last (out : List (Nat × Nm)) (x : Int × Nat) : ∃ p, (pushN out x).getLast? = some (x.1.toNat, p) := by
  unfold pushN
  split
  · exact ⟨_, rfl⟩
  · split
    · rename_i p _ h
      exact ⟨_, by rw [List.getLast?_append, ← h]; rfl⟩
    · exact ⟨_, by rw [List.getLast?_append]; rfl⟩
def foldF (l : List (Int × Nat)) : List Nm := l.foldl (fun f x => f.set x.1.toNat (foldStep (f.getD x.1.toNat Nm.zero) x.2)) none16
theorem foldF_snoc (l : List (Int × Nat)) (x : Int × Nat) : foldF (l ++ [x]) = (foldF l).set x.1.toNat (foldStep ((foldF l).getD x.1.toNat Nm.zero) x.2) := by unfold foldF; rw [List.foldl_append]; rfl
theorem snoc_ind {α : Type} {P : List α → Prop} (h0 : P []) (hs : ∀ l x, P l → P (l ++ [x])) : ∀ l, P l := fun l => by
  have : ∀ m : List α, P m.reverse := fun m => by
    induction m with
    | nil => exact h0
    | cons a r ih => rw [List.reverse_cons]; exact hs _ _ ih
  have h := this l.reverse
  rwa [List.reverse_reverse] at h
theorem foldF_len (l : List (Int × Nat)) : (foldF l).length = 16 :=
  snoc_ind (P := fun l => (foldF l).length = 16) rfl (fun l x ih => by rw [foldF_snoc, List.length_set]; exact ih) l
theorem foldF_getD (l : List (Int × Nat)) : (∀ x ∈ l, goodB x.1 x.2 = true) → ∀ d, d < 16 → (foldF l).getD d Nm.zero = (numsD l d).foldl foldStep Nm.zero :=
  snoc_ind (P := fun l => (∀ x ∈ l, goodB x.1 x.2 = true) → ∀ d, d < 16 → (foldF l).getD d Nm.zero = (numsD l d).foldl foldStep Nm.zero)
    (fun _ d _ => none16_getD d) (fun l x ih hg d hd => by
      have ih' := ih (fun y hy => hg y (List.mem_append_left _ hy))
      obtain ⟨D, hD, hD16, _⟩ := good_parts (hg x (List.mem_append_right _ (List.mem_singleton.2 rfl)))
      rw [foldF_snoc, hD, Int.toNat_natCast, set_getD _ _ _ _ (by rw [foldF_len]; exact hD16), numsD_append]
      by_cases e : D = d
      · subst e
        rw [if_pos rfl, numsD_yes hD, List.foldl_append, ih' D hd]
        rfl
      · rw [if_neg e, numsD_no (by rw [hD]; omega), List.append_nil]
        exact ih' d hd) l
theorem Tie.fold {f : List Nm} {l : List (Int × Nat)} (h : Tie f l) : foldF l = f :=
  ext16 (foldF_len l) h.len (fun d hd => by
    rw [foldF_getD l h.good d hd, h.each d hd]
    exact fold_close _ 0 (numsD_rising h.sorted d) (numsD_pos h.good d))
theorem foldStep_live (p : Nm) (n : Nat) : live (foldStep p n) = true := by
  unfold foldStep live
  split
  · simp
  · simp
/-- Parts behind a device. -/
theorem parts_behind {f : List Nm} {d : Nat} (hd : d < 16) (hz : ∀ i, d < i → i < 16 → f.getD i Nm.zero = Nm.zero) : partsS f = partsUpto f (d + 1) := by
  unfold partsS
  have : ∀ k, d + 1 + k ≤ 16 → partsUpto f (d + 1 + k) = partsUpto f (d + 1) := fun k => by
    induction k with
    | zero => intro _; rfl
    | succ k ih =>
      intro hk
      rw [show d + 1 + (k + 1) = (d + 1 + k) + 1 by omega, partsUpto_not (by rw [hz _ (by omega) (by omega)]; rfl)]
      exact ih (by omega)
  have h := this (16 - (d + 1)) (by omega)
  rwa [show d + 1 + (16 - (d + 1)) = 16 by omega] at h
theorem partsUpto_set (f : List Nm) (d : Nat) (q : Nm) : ∀ k, k ≤ d → partsUpto (f.set d q) k = partsUpto f k
  | 0, _ => rfl
  | k + 1, hk => by
    have ih := partsUpto_set f d q k (by omega)
    have e : (f.set d q).getD k Nm.zero = f.getD k Nm.zero := by
      rw [List.getD_eq_getElem?_getD, List.getElem?_set, if_neg (by omega), List.getD_eq_getElem?_getD]
    cases hv : live (f.getD k Nm.zero) with
    | true => rw [partsUpto_live (by rw [e]; exact hv), partsUpto_live hv, ih, e]
    | false => rw [partsUpto_not (by rw [e]; exact hv), partsUpto_not hv, ih]
theorem partsUpto_below {f : List Nm} {k : Nat} : ∀ x ∈ partsUpto f k, x.1 < k := fun x hx => by
  unfold partsUpto at hx
  obtain ⟨i, hi, rfl⟩ := List.mem_map.1 hx
  exact List.mem_range.1 (List.mem_filter.1 hi).1
theorem parts_push {f : List Nm} {d n : Nat} (hf : f.length = 16) (hd : d < 16) (hz : ∀ i, d < i → i < 16 → f.getD i Nm.zero = Nm.zero) : pushN (partsS f) ((d : Int), n) = partsS (f.set d (foldStep (f.getD d Nm.zero) n)) := by
  have hget : ∀ i, (f.set d (foldStep (f.getD d Nm.zero) n)).getD i Nm.zero = if d = i then foldStep (f.getD d Nm.zero) n else f.getD i Nm.zero := fun i => set_getD _ _ _ _ (by rw [hf]; exact hd)
  have hr : partsS (f.set d (foldStep (f.getD d Nm.zero) n)) = partsUpto f d ++ [(d, foldStep (f.getD d Nm.zero) n)] := by
    rw [parts_behind hd (fun i h1 h2 => by rw [hget, if_neg (by omega)]; exact hz i h1 h2), partsUpto_live (by rw [hget, if_pos rfl]; exact foldStep_live _ _), hget, if_pos rfl, partsUpto_set _ _ _ _ (Nat.le_refl _)]
  rw [hr, parts_behind hd hz]
  unfold pushN
  simp only [Int.toNat_natCast]
  cases hv : live (f.getD d Nm.zero) with
  | true =>
    rw [partsUpto_live hv, List.getLast?_append]
    simp
  | false =>
    rw [partsUpto_not hv, live_not hv]
    split
    · rename_i h
      rw [List.getLast?_eq_none_iff.1 h]
      rfl
    · rename_i p h
      have hp := partsUpto_below p (List.mem_of_getLast? h)
      rw [if_neg (by omega)]
theorem partsL_fold (l : List (Int × Nat)) : Sorted l → (∀ x ∈ l, goodB x.1 x.2 = true) → partsL l = partsS (foldF l) :=
  snoc_ind (P := fun l => Sorted l → (∀ x ∈ l, goodB x.1 x.2 = true) → partsL l = partsS (foldF l))
    (fun _ _ => by
      show [] = partsS none16
      rw [← partsFrom_zero, partsFrom_none none16 16 0 rfl (fun i _ _ => none16_getD i)])
    (fun l x ih hs hg => by
      obtain ⟨hs1, _, hs2⟩ := List.pairwise_append.1 hs
      have hg' : ∀ y ∈ l, goodB y.1 y.2 = true := fun y hy => hg y (List.mem_append_left _ hy)
      obtain ⟨D, hD, hD16, _⟩ := good_parts (hg x (List.mem_append_right _ (List.mem_singleton.2 rfl)))
      obtain ⟨xd, xn⟩ := x
      simp only at hD
      subst hD
      rw [partsL_snoc, foldF_snoc, ih hs1 hg', Int.toNat_natCast]
      refine parts_push (foldF_len l) hD16 (fun i h1 h2 => ?_)
      rw [foldF_getD l hg' i h2]
      have : numsD l i = [] := List.eq_nil_iff_forall_not_mem.2 (fun y hy => by
        have h3 := hs2 _ (mem_numsD.1 hy) _ (List.mem_singleton.2 rfl)
        rw [aheadD_iff] at h3
        simp only at h3
        omega)
      rw [this]
      rfl) l
theorem Tie.parts {f : List Nm} {l : List (Int × Nat)} (h : Tie f l) : partsL l = partsS f := by
  rw [partsL_fold l h.sorted h.good, h.fold]
end Go.Proofs.Ytfgfamafjkjakaa
namespace Go.Proofs.Ytfgfamafjkjakaa
open Go.ChangeShapes Go.WideShapes Go.ChangeAt Go.RowKit Go.Deep
set_option linter.unusedVariables false
set_option linter.unusedSimpArgs false
section
variable {P : Program} {α : Type}
/-- Elements appended as a step of a region that draws; where the new row lies. -/
theorem step_append_kat {w : World} {ops : Array Oper} {o : Oper} {a : Act} {K : Act → World → Prop} {Q : Exit → Act → World → Prop} {F : Prop} (hgd : o.guard = none) (s x : Operand) (t : TypeId)
    (ho : o.op = .call { callee := .builtin .append, args := #[s, x], argTypes := #[t, t] })
    (base : Nat) (e : TypeId) (E : Enc α) (z : Value) (by_ : Nat) (ht : P.underlying t = some (.slice e)) (hinfo : (P.info? e).map (fun i => (i.zero, i.size, i.bytes)) = some (some z, E.k, by_)) (hzk : z.cells.size = E.k) (h8 : by_ ≤ 100)
    (v : Value) (L : List α) (hs : a.eval s = v) (hown : OwnK w base e E v L)
    (y : Value) (M : List α) (hx : a.eval x = y) (hy : HasK w E y M) (hM : 0 < M.length) (hlen : L.length + M.length ≤ 1000000000) (hbase : base ≤ w.heap.size) (w0 : World) (hb : Below base w0 w)
    (hK : ∀ v' w', OwnK w' base e E v' (L ++ M) → Below base w0 w' → w.grownBy w' v.ownBlock → (v'.ownBlock = v.ownBlock ∨ v'.ownBlock = some w.heap.size) → K (a.put o.dst v') w') :
    if Region.wanted o (yielded ops a.tmps) = true then Oper.wp P o a w K Q else F := by
  have hw : Region.wanted o (yielded ops a.tmps) = true := by simp [Region.wanted, hgd]
  rw [if_pos hw]
  obtain ⟨i, hi, hz, hz1, hz2⟩ := k_parts hinfo
  obtain ⟨p, cap, b, off, rfl, k1, k2, k3, kc⟩ := hy
  obtain ⟨rfl, hbl⟩ := k3 hM
  obtain ⟨v', w', hr, h2, h3, h4, h5⟩ := run_append_own_at (P := P) w base t o.type e i z E.k by_ ht hi hz hz1 hz2 hzk E.pos v L.length _ hown ⟨b, off, none⟩ M.length cap (flatK E M) (flatK_len E M) (HasK.news kc) (flatK_one E M)
    (by unfold maxLen; omega) (by have := Nat.mul_le_mul_left (L.length + M.length) h8; omega) hbase
  unfold Oper.wp execOp
  simp only [ho, resolve, invoke, builtin, Sem.run_bind, Sem.run_pure, Result.andThen_ok, List.map_toArray, List.map_cons, List.map_nil, hs, hx, hr]
  refine hK _ _ ?_ (hb.grown h3 hbase (fun k hk => (World.ownsRow.lt hown k hk).1)) h3 h5
  unfold OwnK
  rw [List.length_append, flatK_append]
  exact h2
theorem OwnK.of_none {w w' : World} {B : Nat} {e : TypeId} {E : Enc α} {v : Value} {l : List α} (h : OwnK w B e E v l) (hn : v.ownBlock = none) : OwnK w' B e E v l := by
  rcases h.2 with ⟨rfl, h0⟩ | ⟨g', cap, cur, rfl, _⟩
  · exact ⟨h.1, .inl ⟨rfl, h0⟩⟩
  · cases hn
end
/-- A row of parts of a kind T, each with its own row of numbers. -/
structure OwnT (T : TypeId) (w : World) (B : Nat) (v : Value) (M : List Pt) : Prop where
  row : OwnK w B T encP v M
  each : ∀ x ∈ M, OwnK w B 30 (encN .u64) x.val x.nm.more
  apart : M.Pairwise fun x y => x.val.ownBlock = none ∨ x.val.ownBlock ≠ y.val.ownBlock
theorem OwnT.nil (T : TypeId) (w : World) (B : Nat) : OwnT T w B (.slice none 0 0) [] := ⟨OwnK.nil _ _ _ _, (fun x h => nomatch h), List.Pairwise.nil⟩
theorem OwnT.made {T : TypeId} {w : World} {B g : Nat} (hB : B ≤ g) (hg : w.heap[g]? = some (.cells #[] T (0, 0))) : OwnT T w B (.slice (some ⟨g, 0, none⟩) 0 0) [] :=
  ⟨⟨rfl, .inr ⟨g, 0, #[], rfl, hB, hg, Nat.le_refl _, Nat.zero_le _, rfl, rfl⟩⟩, (fun x h => nomatch h), List.Pairwise.nil⟩
theorem OwnT.below {T : TypeId} {w w' : World} {B : Nat} {v : Value} {M : List Pt} (h : OwnT T w B v M) (hb : Below w.heap.size w w') : OwnT T w' B v M := ⟨h.row.below hb, fun x hx => (h.each x hx).below hb, h.apart⟩
theorem OwnT.zero {T : TypeId} {w w' : World} {B : Nat} {v v' : Value} {M : List Pt} {d : Nat} (hT : T ≠ 30) (h : OwnT T w B v M) (hr : OwnK w' B T encP v' (M ++ [⟨d, Nm.zero, none, 0⟩])) (hg : w.grownBy w' v.ownBlock) : OwnT T w' B v' (M ++ [⟨d, Nm.zero, none, 0⟩]) := by
  refine ⟨hr, fun y hy => ?_, List.pairwise_append.2 ⟨h.apart, List.pairwise_singleton _ _, fun y hy z hz => ?_⟩⟩
  · rcases List.mem_append.1 hy with hy | hy
    · exact (h.each y hy).beside h.row hg (fun e => hT e.symm)
    · obtain rfl := List.mem_singleton.1 hy
      exact OwnK.nil _ _ _ _
  · obtain rfl := List.mem_singleton.1 hz
    by_cases e : y.val.ownBlock = none
    · exact .inl e
    · exact .inr e
theorem flatK_set1 (M : List Pt) (y : Pt) (u : Nat) : (flatK encP (M ++ [y])).set (M.length * 3 + 1) (.int .u64 (u : Int)) = flatK encP (M ++ [⟨y.dev, ⟨u, y.nm.more⟩, y.ptr, y.cap⟩]) := by
  rw [flatK_append, flatK_append]
  have hl : (flatK encP M).length = M.length * 3 := flatK_len encP M
  rw [List.set_append_right _ _ (by omega), hl, Nat.add_sub_cancel_left]
  rfl
theorem flatK_set2 (M : List Pt) (y : Pt) (L : List Nat) (p : Option Addr) (c : Nat) : (flatK encP (M ++ [y])).set (M.length * 3 + 2) (.slice p L.length c) = flatK encP (M ++ [⟨y.dev, ⟨y.nm.upto, L⟩, p, c⟩]) := by
  rw [flatK_append, flatK_append]
  have hl : (flatK encP M).length = M.length * 3 := flatK_len encP M
  rw [List.set_append_right _ _ (by omega), hl, Nat.add_sub_cancel_left]
  rfl
theorem OwnK.store1 {T : TypeId} {w : World} {B G n cap : Nat} {M : List Pt} {y y' : Pt} (h : OwnK w B T encP (.slice (some ⟨G, 0, none⟩) n cap) (M ++ [y])) (j : Nat) (u : Value) (he : (flatK encP (M ++ [y])).set j u = flatK encP (M ++ [y'])) : OwnK (w.setCell ⟨G, j, none⟩ u) B T encP (.slice (some ⟨G, 0, none⟩) n cap) (M ++ [y']) := by
  obtain ⟨p, c, e, _⟩ := h.sl
  simp only [Value.slice.injEq] at e
  obtain ⟨_, rfl, _⟩ := e
  have h1 := (World.ownsRow.stored h j u).1
  rw [he] at h1
  unfold OwnK
  have hl : (M ++ [y']).length = (M ++ [y]).length := by simp
  rw [hl]
  exact h1
/-- The last one's first number raised. -/
theorem OwnT.upto {T : TypeId} {w : World} {B G n cap : Nat} {M : List Pt} {y : Pt} (hT : T ≠ 30) (h : OwnT T w B (.slice (some ⟨G, 0, none⟩) n cap) (M ++ [y])) (u : Nat) :
    OwnT T (w.setCell ⟨G, M.length * 3 + 1, none⟩ (.int .u64 (u : Int))) B (.slice (some ⟨G, 0, none⟩) n cap) (M ++ [⟨y.dev, ⟨u, y.nm.more⟩, y.ptr, y.cap⟩]) := by
  obtain ⟨cur, hc⟩ := h.row.type rfl
  have hk := Kp.setCell G (M.length * 3 + 1) w (.int .u64 (u : Int))
  obtain ⟨a1, a2, a3⟩ := List.pairwise_append.1 h.apart
  refine ⟨h.row.store1 _ _ (flatK_set1 M y u), fun z hz => ?_, List.pairwise_append.2 ⟨a1, List.pairwise_singleton _ _, fun z hz z' hz' => ?_⟩⟩
  · rcases List.mem_append.1 hz with hz | hz
    · exact (h.each z (List.mem_append_left _ hz)).kp hc hT hk
    · obtain rfl := List.mem_singleton.1 hz
      exact (h.each y (List.mem_append_right _ (List.mem_singleton.2 rfl))).kp hc hT hk
  · obtain rfl := List.mem_singleton.1 hz'
    exact a3 z hz y (List.mem_singleton.2 rfl)
/-- A number more behind the last one's. -/
theorem OwnT.more {T : TypeId} {w w2 : World} {B G n cap : Nat} {M : List Pt} {y : Pt} (hT : T ≠ 30) (h : OwnT T w B (.slice (some ⟨G, 0, none⟩) n cap) (M ++ [y])) {p' : Option Addr} {L : List Nat} {c' : Nat}
    (ho : OwnK w2 B 30 (encN .u64) (.slice p' L.length c') L) (hg : w.grownBy w2 y.val.ownBlock) (hat : (Value.slice p' L.length c').ownBlock = y.val.ownBlock ∨ (Value.slice p' L.length c').ownBlock = some w.heap.size) :
    OwnT T (w2.setCell ⟨G, M.length * 3 + 2, none⟩ (.slice p' L.length c')) B (.slice (some ⟨G, 0, none⟩) n cap) (M ++ [⟨y.dev, ⟨y.nm.upto, L⟩, p', c'⟩]) := by
  have hy := h.each y (List.mem_append_right _ (List.mem_singleton.2 rfl))
  have hrow := h.row.beside hy hg hT
  obtain ⟨cur, hc⟩ := hrow.type rfl
  have hk := Kp.setCell G (M.length * 3 + 2) w2 (.slice p' L.length c')
  obtain ⟨a1, a2, a3⟩ := List.pairwise_append.1 h.apart
  refine ⟨hrow.store1 _ _ (flatK_set2 M y L p' c'), fun z hz => ?_, List.pairwise_append.2 ⟨a1, List.pairwise_singleton _ _, fun z hz z' hz' => ?_⟩⟩
  · rcases List.mem_append.1 hz with hz | hz
    · have hz0 := h.each z (List.mem_append_left _ hz)
      rcases a3 z hz y (List.mem_singleton.2 rfl) with hn | hn
      · exact hz0.of_none hn
      · exact (hz0.kept hg hn).kp hc hT hk
    · obtain rfl := List.mem_singleton.1 hz
      exact ho.kp hc hT hk
  · obtain rfl := List.mem_singleton.1 hz'
    rcases a3 z hz y (List.mem_singleton.2 rfl) with hn | hn
    · exact .inl hn
    · exact .inr ((h.each z (List.mem_append_left _ hz)).apart hn hat)
theorem OwnT.part {T : TypeId} {w : World} {B g n cap : Nat} {M : List Pt} (h : OwnT T w B (.slice (some ⟨g, 0, none⟩) n cap) M) (i : Nat) (hi : i < M.length) :
    w.cell? ⟨g, i * 3, none⟩ = some (.int .i64 (M[i].dev : Int)) ∧ w.cell? ⟨g, i * 3 + 1, none⟩ = some (.int .u64 (M[i].nm.upto : Int)) ∧ w.cell? ⟨g, i * 3 + 2, none⟩ = some (.slice M[i].ptr M[i].nm.more.length M[i].cap) ∧
    OwnK w B 30 (encN .u64) (.slice M[i].ptr M[i].nm.more.length M[i].cap) M[i].nm.more := by
  obtain ⟨g', cap', e, _, _, _, _, hc, _⟩ := h.row.form (by omega)
  simp only [Value.slice.injEq, Option.some.injEq, Addr.mk.injEq, and_true] at e
  obtain ⟨rfl, _, _⟩ := e
  exact ⟨hc i hi 0 _ rfl, hc i hi 1 _ rfl, hc i hi 2 _ rfl, h.each _ (List.getElem_mem hi)⟩
theorem OwnT.place {T : TypeId} {w : World} {B n cap : Nat} {p : Option Addr} {M : List Pt} (h : OwnT T w B (.slice p n cap) M) (h0 : 0 < M.length) : ∃ g, p = some ⟨g, 0, none⟩ ∧ B ≤ g ∧ g < w.heap.size ∧ ∀ j, w.frozen? ⟨g, j, none⟩ = false := by
  obtain ⟨g', cap', e, h1, h2, _, _, _, h3⟩ := h.row.form h0
  simp only [Value.slice.injEq] at e
  exact ⟨g', e.1, h1, h2, h3⟩
theorem last_pair {M : List Pt} {A : List (Nat × Nm)} {D : Nat} {q : Nm} (h : M.map Pt.pair = A ++ [(D, q)]) : ∃ M0 y, M = M0 ++ [y] ∧ y.dev = D ∧ y.nm = q ∧ M0.map Pt.pair = A := by
  rcases List.eq_nil_or_concat M with rfl | ⟨M0, y, rfl⟩
  · simp at h
  · rw [List.concat_eq_append, List.map_append] at h
    obtain ⟨h1, h2⟩ := List.append_inj' h rfl
    simp only [List.map_cons, List.map_nil, List.cons.injEq, and_true] at h2
    have h3 : (y.dev, y.nm) = (D, q) := h2
    exact ⟨M0, y, List.concat_eq_append .., congrArg Prod.fst h3, congrArg Prod.snd h3, h1⟩
/-- What the next dot does to the parts. -/
theorem push_new {out : List (Nat × Nm)} {D n : Nat} (h : ∀ p, out.getLast? = some p → p.1 ≠ D) : pushN out ((D : Int), n) = out ++ [(D, foldStep Nm.zero n)] := by
  unfold pushN
  simp only [Int.toNat_natCast]
  split
  · rename_i h0
    rw [List.getLast?_eq_none_iff.1 h0]
    rfl
  · rename_i p h0
    rw [if_neg (h p h0)]
theorem push_old {A : List (Nat × Nm)} {D n : Nat} {q : Nm} : pushN (A ++ [(D, q)]) ((D : Int), n) = A ++ [(D, foldStep q n)] := by
  unfold pushN
  rw [List.getLast?_append]
  simp
end Go.Proofs.Ytfgfamafjkjakaa
