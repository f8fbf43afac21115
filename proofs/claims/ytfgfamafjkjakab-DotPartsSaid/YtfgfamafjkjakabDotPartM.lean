/-
  A set made anew out of its parts: plain mathematics.
-/
import Derived.Test.YtfgfamafjkjakabDotLaid
namespace Go.Proofs.Ytfgfamafjkjakab
open Go.ChangeShapes Go.WideShapes Go.ChangeAt Go.RowKit Go.Deep
set_option linter.unusedVariables false
set_option linter.unusedSimpArgs false
theorem good_nat {d n : Nat} (hd : d < 16) (hn : 1 ≤ n) (hm : n ≤ 1099511627776) : goodB (d : Int) n = true := by
  unfold goodB
  exact decide_eq_true ⟨by omega, by omega, hn, hm⟩
theorem addS_next (g : List Nm) (d n : Nat) (hg : g.length = 16) (hd : d < 16) (hn : 1 ≤ n) (hm : n ≤ 1099511627776) : addS (g.set d ⟨n - 1, []⟩) d n = (g.set d ⟨n, []⟩, 0) := by
  unfold addS
  rw [good_nat hd hn hm, if_pos rfl, Int.toNat_natCast, set_getD _ _ _ _ (by omega), if_pos rfl]
  have h1 : (⟨n - 1, []⟩ : Nm).has n = false := by
    unfold Nm.has
    simp
    omega
  have h2 : (⟨n - 1, []⟩ : Nm).with n = ⟨n, []⟩ := by
    unfold Nm.with
    rw [if_pos (show n = n - 1 + 1 by omega)]
    rfl
  rw [h1, h2, if_neg Bool.false_ne_true, if_neg (by show ¬ (4096 < 0); omega), List.set_set]
theorem insN_last (n : Nat) : ∀ (l : List Nat), (∀ y ∈ l, y < n) → insN n l = l ++ [n]
  | [], _ => rfl
  | x :: r, h => by
    have hx := h x (List.mem_cons_self ..)
    unfold insN
    rw [if_neg (by omega), insN_last n r (fun y hy => h y (List.mem_cons_of_mem _ hy))]
    rfl
theorem take_below {l : List Nat} (h : rising l) {k : Nat} (hk : k < l.length) : ∀ y ∈ l.take k, y < l.getD k 0 := fun y hy => by
  obtain ⟨j, hj, rfl⟩ := List.getElem_of_mem hy
  rw [List.length_take] at hj
  rw [List.getElem_take]
  have := rising_get h j k (by omega) hk
  rwa [List.getD_eq_getElem?_getD, List.getElem?_eq_getElem (by omega)] at this
theorem addS_more (g : List Nm) (d : Nat) (q : Nm) (k : Nat) (hg : g.length = 16) (hd : d < 16) (hq : q.Ok) (hl : q.more.length ≤ 4096) (hk : k < q.more.length) :
    addS (g.set d ⟨q.upto, q.more.take k⟩) d (q.more.getD k 0) = (g.set d ⟨q.upto, q.more.take (k + 1)⟩, 0) := by
  have hmem : q.more.getD k 0 ∈ q.more := mem_getD q.more k hk
  have hfar := hq.far _ hmem
  have hmost := hq.mostM _ hmem
  have hbel := take_below hq.rise hk
  unfold addS
  rw [good_nat hd (by omega) hmost, if_pos rfl, Int.toNat_natCast, set_getD _ _ _ _ (by omega), if_pos rfl]
  have h1 : (⟨q.upto, q.more.take k⟩ : Nm).has (q.more.getD k 0) = false := by
    unfold Nm.has
    rw [Bool.or_eq_false_iff, decide_eq_false_iff_not, decide_eq_false_iff_not]
    exact ⟨by show ¬ (_ ≤ q.upto); omega, fun hm => by have := hbel _ hm; omega⟩
  have h2 : (⟨q.upto, q.more.take k⟩ : Nm).with (q.more.getD k 0) = ⟨q.upto, q.more.take (k + 1)⟩ := by
    unfold Nm.with
    rw [if_neg (by show ¬ (_ = q.upto + 1); omega), insN_last _ _ hbel, List.take_succ_eq_append_getElem hk]
    congr 3
    rw [List.getD_eq_getElem?_getD, List.getElem?_eq_getElem hk]
    rfl
  rw [h1, h2, if_neg Bool.false_ne_true, if_neg (by show ¬ (4096 < (q.more.take (k + 1)).length); rw [List.length_take]; omega), List.set_set]
def setL (g : List Nm) (L : List (Nat × Nm)) : List Nm := L.foldl (fun g x => g.set x.1 x.2) g
theorem setL_append (g : List Nm) (L : List (Nat × Nm)) (x : Nat × Nm) : setL g (L ++ [x]) = (setL g L).set x.1 x.2 := by
  unfold setL
  rw [List.foldl_append]
  rfl
theorem setL_len (L : List (Nat × Nm)) : ∀ g : List Nm, (setL g L).length = g.length := by
  induction L with
  | nil => intro g; rfl
  | cons x r ih => intro g; show (setL (g.set x.1 x.2) r).length = _; rw [ih, List.length_set]
theorem setL_off (d : Nat) (L : List (Nat × Nm)) : ∀ g : List Nm, (∀ x ∈ L, x.1 ≠ d) → (setL g L).getD d Nm.zero = g.getD d Nm.zero := by
  induction L with
  | nil => intro g _; rfl
  | cons x r ih =>
    intro g h
    show (setL (g.set x.1 x.2) r).getD d Nm.zero = _
    rw [ih _ (fun y hy => h y (List.mem_cons_of_mem _ hy)), List.getD_eq_getElem?_getD, List.getElem?_set, if_neg (h x (List.mem_cons_self ..)), List.getD_eq_getElem?_getD]
theorem parts_mem {f : List Nm} {x : Nat × Nm} (h : x ∈ partsS f) : x.1 < 16 ∧ x.2 = f.getD x.1 Nm.zero ∧ live x.2 = true := by
  unfold partsS partsUpto at h
  obtain ⟨i, hi, rfl⟩ := List.mem_map.1 h
  obtain ⟨h1, h2⟩ := List.mem_filter.1 hi
  exact ⟨List.mem_range.1 h1, rfl, h2⟩
theorem parts_mono {f : List Nm} {i j : Nat} (hij : i < j) (hj : j < (partsS f).length) : ((partsS f)[i]'(by omega)).1 < (partsS f)[j].1 := by
  have hp : (partsS f).Pairwise (fun a b => a.1 < b.1) := by
    unfold partsS partsUpto
    refine List.pairwise_map.2 ?_
    exact (List.pairwise_lt_range (n := 16)).sublist List.filter_sublist
  exact List.pairwise_iff_getElem.1 hp i j (by omega) hj hij
theorem live_not {q : Nm} (hv : live q = false) : q = Nm.zero := by
  unfold live at hv
  simp only [Bool.or_eq_false_iff, decide_eq_false_iff_not] at hv
  obtain ⟨u, m⟩ := q
  simp only at hv
  obtain rfl : u = 0 := by omega
  obtain rfl : m = [] := List.eq_nil_of_length_eq_zero (by omega)
  rfl
theorem none16_getD (i : Nat) : none16.getD i Nm.zero = Nm.zero := by
  unfold none16
  rw [List.getD_eq_getElem?_getD, List.getElem?_replicate]
  split <;> rfl
theorem setL_parts (f : List Nm) : ∀ k, k ≤ 16 → ∀ i, (setL none16 (partsUpto f k)).getD i Nm.zero = if i < k then f.getD i Nm.zero else Nm.zero
  | 0, _, i => by rw [if_neg (Nat.not_lt_zero _)]; exact none16_getD i
  | k + 1, hk, i => by
    have ih := setL_parts f k (by omega) i
    cases hv : live (f.getD k Nm.zero) with
    | true =>
      rw [partsUpto_live hv, setL_append, set_getD _ _ _ _ (by rw [setL_len]; show k < 16; omega)]
      by_cases h : k = i
      · subst h; rw [if_pos rfl, if_pos (Nat.lt_succ_self _)]
      · rw [if_neg h, ih]
        by_cases h2 : i < k
        · rw [if_pos h2, if_pos (by omega)]
        · rw [if_neg h2, if_neg (by omega)]
    | false =>
      rw [partsUpto_not hv, ih]
      by_cases h2 : i < k
      · rw [if_pos h2, if_pos (by omega)]
      · by_cases h : i = k
        · subst h; rw [if_neg h2, if_pos (Nat.lt_succ_self _), live_not hv]
        · rw [if_neg h2, if_neg (by omega)]
/-- The set of the first i parts. -/
def uAt (f : List Nm) (i : Nat) : List Nm := setL none16 ((partsS f).take i)
theorem uAt_len (f : List Nm) (i : Nat) : (uAt f i).length = 16 := setL_len _ _
theorem uAt_first (f : List Nm) : uAt f 0 = none16 := rfl
theorem uAt_next (f : List Nm) (i : Nat) (h : i < (partsS f).length) : uAt f (i + 1) = (uAt f i).set (partsS f)[i].1 (partsS f)[i].2 := by
  unfold uAt
  rw [List.take_succ_eq_append_getElem h, setL_append]
theorem uAt_zero (f : List Nm) (i : Nat) (h : i < (partsS f).length) : (uAt f i).getD (partsS f)[i].1 Nm.zero = Nm.zero := by
  unfold uAt
  rw [setL_off _ _ _ (fun x hx => by
    obtain ⟨j, hj, rfl⟩ := List.getElem_of_mem hx
    rw [List.length_take] at hj
    rw [List.getElem_take]
    have := parts_mono (f := f) (i := j) (j := i) (by omega) h
    omega), none16_getD]
theorem uAt_end {f : List Nm} (hf : OkS f) : uAt f (partsS f).length = f := by
  refine ext16 (uAt_len f _) hf.1 (fun i hi => ?_)
  unfold uAt
  rw [List.take_length]
  have := setL_parts f 16 (Nat.le_refl _) i
  rw [if_pos hi] at this
  exact this
theorem set_zero {g : List Nm} {d : Nat} (hg : g.length = 16) (hd : d < 16) (h : g.getD d Nm.zero = Nm.zero) : g.set d ⟨0, []⟩ = g :=
  ext16 (by rw [List.length_set]; exact hg) hg (fun i hi => by
    rw [set_getD _ _ _ _ (by omega)]
    by_cases e : d = i
    · subst e; rw [if_pos rfl, h]; rfl
    · rw [if_neg e])
end Go.Proofs.Ytfgfamafjkjakab
