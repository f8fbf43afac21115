/-
  What is read as a number was laid so: the bytes of a number are the shortest. No function of the project is named here.
  What is read as a set was laid so: plain mathematics. No function of the project is named here.
-/
import Derived.Test.YtfgfamafjkjakaaNum
import Derived.Test.YtfgfamafjkjakaaPut
import Derived.Test.YtfgfamafjkjakaaDotDecode
namespace Go.Proofs.Ytfgfamafjkjakaa
open Go.ChangeShapes Go.WideShapes Go.ChangeAt Go.RowKit Go.Deep
set_option linter.unusedVariables false
theorem u8_back (c : UInt8) : c.toNat.toUInt8 = c := by
  apply UInt8.toNat_inj.1
  rw [u8_nat (UInt8.toNat_lt c)]
theorem numGo_back : ∀ (f : Nat) (l : List UInt8) (k acc x m : Nat), numGo f l k acc = (x, m) → 0 < m →
    ∃ y, x = acc + y * 128 ^ k ∧ l.take (m - k) = Lib.uvarint y ∧ (0 < k → 0 < y) ∧ k < m
  | 0, _, _, _, _, _, h, hm => by
    unfold numGo at h
    simp only [Prod.mk.injEq] at h
    omega
  | f + 1, [], _, _, _, _, h, hm => by
    unfold numGo at h
    simp only [Prod.mk.injEq] at h
    omega
  | f + 1, c :: t, k, acc, x, m, h, hm => by
    unfold numGo at h
    have hc256 := UInt8.toNat_lt c
    by_cases h1 : 128 ≤ c.toNat
    · rw [if_pos h1] at h
      obtain ⟨y, hx, ht, hy, hk⟩ := numGo_back f t (k + 1) _ x m h hm
      have hy0 := hy (Nat.succ_pos _)
      refine ⟨c.toNat % 128 + 128 * y, ?_, ?_, fun _ => by omega, by omega⟩
      · rw [hx, Nat.pow_succ, Nat.add_mul, Nat.add_assoc]
        congr 2
        rw [Nat.mul_comm (128 ^ k) 128, ← Nat.mul_assoc, Nat.mul_comm y 128]
      · rw [Lib.uvarint_big (by omega), show (c.toNat % 128 + 128 * y) % 128 + 128 = c.toNat by omega, u8_back, show (c.toNat % 128 + 128 * y) / 128 = y by omega, ← ht, show m - k = (m - (k + 1)) + 1 by omega, List.take_succ_cons]
    · rw [if_neg h1] at h
      split at h
      · simp only [Prod.mk.injEq] at h; omega
      · rename_i h2
        simp only [Prod.mk.injEq] at h
        obtain ⟨rfl, rfl⟩ := h
        refine ⟨c.toNat, rfl, ?_, fun hk => ?_, Nat.lt_succ_self _⟩
        · rw [Lib.uvarint_small (by omega), u8_back, show k + 1 - k = 1 by omega]
          rfl
        · rcases Nat.eq_zero_or_pos c.toNat with h0 | h0
          · exact absurd (.inl ⟨hk, h0⟩) h2
          · exact h0
theorem num_back {l : List UInt8} {x m : Nat} (h : num l = (x, m)) (hm : 0 < m) : l.take m = Lib.uvarint x := by
  obtain ⟨y, hx, ht, _, _⟩ := numGo_back 10 l 0 0 x m h hm
  rw [Nat.pow_zero, Nat.mul_one, Nat.zero_add] at hx
  rw [hx, ← ht, Nat.sub_zero]
/-- What a reader's Uint and Int read without fault lies there as a number is laid. -/
theorem rU_back {l : List UInt8} {a x a1 : Nat} (h : rU l a false = (x, a1, false)) : a ≤ a1 ∧ (l.drop a).take (a1 - a) = Lib.uvarint x := by
  unfold rU at h
  rw [if_neg Bool.false_ne_true] at h
  split at h
  · simp only [Prod.mk.injEq, Bool.true_eq_false, and_false] at h
  · rename_i h0
    simp only [Prod.mk.injEq, and_true] at h
    obtain ⟨hx, ha⟩ := h
    refine ⟨by omega, ?_⟩
    rw [show a1 - a = (num (l.drop a)).2 by omega, ← hx]
    exact num_back rfl (by omega)
theorem rI_back {l : List UInt8} {a x a1 : Nat} {f : Bool} {most : Int} (h : rI l a f most = (x, a1, false)) : f = false ∧ a ≤ a1 ∧ (l.drop a).take (a1 - a) = Lib.uvarint x ∧ (x : Int) ≤ most := by
  unfold rI at h
  split at h
  · simp only [Prod.mk.injEq, Bool.true_eq_false, and_false] at h
  · rename_i h0
    simp only [not_or] at h0
    cases f with
    | true => exact absurd rfl h0.1
    | false =>
      simp only [Prod.mk.injEq, and_true] at h
      have hu : rU l a false = (x, a1, false) := by
        have h2 : (rU l a false).2.2 = false := by simpa using h0.1
        exact Prod.ext h.1 (Prod.ext h.2 h2)
      obtain ⟨k1, k2⟩ := rU_back hu
      exact ⟨rfl, k1, k2, by rw [← h.1]; omega⟩
end Go.Proofs.Ytfgfamafjkjakaa
namespace Go.Proofs.Ytfgfamafjkjakaa
open Go.ChangeShapes Go.WideShapes Go.ChangeAt Go.RowKit Go.Deep
set_option linter.unusedVariables false
set_option linter.unusedSimpArgs false
/-- The bytes of a list from one place to another. -/
def seg (l : List UInt8) (a b : Nat) : List UInt8 := (l.drop a).take (b - a)
theorem seg_self (l : List UInt8) (a : Nat) : seg l a a = [] := by unfold seg; rw [Nat.sub_self, List.take_zero]
theorem seg_trans (l : List UInt8) {a b c : Nat} (h1 : a ≤ b) (h2 : b ≤ c) : seg l a c = seg l a b ++ seg l b c := by
  unfold seg
  rw [show c - a = (b - a) + (c - b) by omega, List.take_add, List.drop_drop, show a + (b - a) = b by omega]
def encFrom : Nat → List Nat → List UInt8
  | _, [] => []
  | u, x :: r => Lib.uvarint (x - u) ++ encFrom x r
theorem encFrom_range : ∀ (l : List Nat) (u : Nat), ((List.range l.length).flatMap fun i => Lib.uvarint (l.getD i 0 - if i = 0 then u else l.getD (i - 1) 0)) = encFrom u l
  | [], u => rfl
  | x :: r, u => by
    rw [List.length_cons, List.range_succ_eq_map, List.flatMap_cons, List.flatMap_map, encFrom, ← encFrom_range r x]
    congr 1
    congr 1
    funext i
    rw [if_neg (Nat.succ_ne_zero i), Nat.add_one_sub_one, List.getD_cons_succ]
    congr 2
    cases i with
    | zero => rfl
    | succ i => rw [if_neg (Nat.succ_ne_zero i), List.getD_cons_succ, Nat.add_one_sub_one]
theorem encMore_from (p : Nm) : encMore p p.more.length = encFrom p.upto p.more := by
  rw [← encFrom_range]
  rfl
theorem rStep_back (l : List UInt8) : ∀ (c at_ : Nat) (f : Bool) (last least : Nat) (acc M : List Nat) (a1 : Nat), rStep l c at_ f last least acc = (true, M, a1, false) →
    f = false ∧ at_ ≤ a1 ∧ ∃ T, M = acc ++ T ∧ T.length = c ∧ seg l at_ a1 = encFrom last T
  | 0, at_, f, last, least, acc, M, a1, h => by
    unfold rStep at h
    simp only [Prod.mk.injEq, true_and] at h
    obtain ⟨rfl, rfl, rfl⟩ := h
    exact ⟨rfl, Nat.le_refl _, [], by rw [List.append_nil], rfl, seg_self _ _⟩
  | c + 1, at_, f, last, least, acc, M, a1, h => by
    obtain ⟨x, hx⟩ : ∃ x, rI l at_ f 1099511627776 = x := ⟨_, rfl⟩
    obtain ⟨x, a2, f2⟩ := x
    by_cases hb : x < least ∨ 1099511627776 < last + x
    · rw [rStep_bad hx hb] at h
      simp at h
    · rw [rStep_good hx hb] at h
      obtain ⟨rfl, h1, T, rfl, h2, h3⟩ := rStep_back l c a2 f2 _ _ _ _ _ h
      obtain ⟨rfl, k1, k2, _⟩ := rI_back hx
      refine ⟨rfl, Nat.le_trans k1 h1, (last + x) :: T, by rw [List.append_assoc]; rfl, by rw [List.length_cons, h2], ?_⟩
      rw [seg_trans l k1 h1, h3, encFrom, Nat.add_sub_cancel_left]
      congr 1
theorem rNum_back {l : List UInt8} {at_ : Nat} {f : Bool} {q : Nm} {a1 : Nat} {f1 : Bool} (h : rNum l at_ f = ((q, true), a1, f1)) :
    f = false ∧ f1 = false ∧ at_ ≤ a1 ∧ live q = true ∧ seg l at_ a1 = Lib.uvarint q.upto ++ Lib.uvarint q.more.length ++ encMore q q.more.length := by
  obtain ⟨_, _, hlv, rfl⟩ := rNum_ok h
  unfold rNum at h
  obtain ⟨u, hu⟩ : ∃ u, rI l at_ f 1099511627776 = u := ⟨_, rfl⟩
  obtain ⟨u, a2, f2⟩ := u
  simp only [hu] at h
  obtain ⟨n, hn⟩ : ∃ n, rI l a2 f2 4096 = n := ⟨_, rfl⟩
  obtain ⟨n, a3, f3⟩ := n
  simp only [hn] at h
  obtain ⟨s, hs⟩ : ∃ s, rStep l n a3 f3 u 2 [] = s := ⟨_, rfl⟩
  obtain ⟨ok, M, a4, f4⟩ := s
  simp only [hs] at h
  split at h
  · rename_i hok
    subst hok
    simp only [Prod.mk.injEq] at h
    obtain ⟨⟨rfl, _⟩, rfl, rfl⟩ := h
    obtain ⟨rfl, h1, T, rfl, h2, h3⟩ := rStep_back l _ _ _ _ _ _ _ _ hs
    obtain ⟨rfl, k1, k2, _⟩ := rI_back hn
    obtain ⟨rfl, j1, j2, _⟩ := rI_back hu
    refine ⟨rfl, rfl, by omega, hlv, ?_⟩
    rw [seg_trans l j1 (Nat.le_trans k1 h1), seg_trans l k1 h1, encMore_from, h3, List.append_assoc]
    simp only [List.nil_append]
    rw [h2]
    congr 1
    congr 1
  · simp only [Prod.mk.injEq] at h
    exact absurd h.1.2 Bool.false_ne_true
/-- The parts of the devices from one on. -/
def partsFrom (f : List Nm) (k : Nat) : List (Nat × Nm) := ((List.range' k (16 - k)).filter fun i => live (f.getD i Nm.zero)).map fun i => (i, f.getD i Nm.zero)
theorem partsFrom_zero (f : List Nm) : partsFrom f 0 = partsS f := by
  unfold partsFrom partsS partsUpto
  rw [List.range_eq_range']
theorem partsFrom_next (f : List Nm) (k : Nat) (h : k < 16) : partsFrom f k = if live (f.getD k Nm.zero) = true then (k, f.getD k Nm.zero) :: partsFrom f (k + 1) else partsFrom f (k + 1) := by
  unfold partsFrom
  rw [show 16 - k = (16 - (k + 1)) + 1 by omega, List.range'_succ, List.filter_cons]
  split <;> rfl
theorem live_zero : live Nm.zero = false := rfl
theorem partsFrom_none (f : List Nm) : ∀ (n k : Nat), k + n = 16 → (∀ i, k ≤ i → i < 16 → f.getD i Nm.zero = Nm.zero) → partsFrom f k = []
  | 0, k, h, _ => by obtain rfl : k = 16 := by omega
                     rfl
  | n + 1, k, h, hz => by
    rw [partsFrom_next f k (by omega), hz k (Nat.le_refl _) (by omega), live_zero, if_neg Bool.false_ne_true]
    exact partsFrom_none f n (k + 1) (by omega) (fun i h1 h2 => hz i (by omega) h2)
theorem partsFrom_skip (f : List Nm) (d : Nat) (hd : d < 16) (hl : live (f.getD d Nm.zero) = true) : ∀ (n k : Nat), k + n = d → (∀ i, k ≤ i → i < d → f.getD i Nm.zero = Nm.zero) → partsFrom f k = (d, f.getD d Nm.zero) :: partsFrom f (d + 1)
  | 0, k, h, _ => by
    obtain rfl : k = d := by omega
    rw [partsFrom_next f k hd, if_pos hl]
  | n + 1, k, h, hz => by
    rw [partsFrom_next f k (by omega), hz k (Nat.le_refl _) (by omega), live_zero, if_neg Bool.false_ne_true]
    exact partsFrom_skip f d hd hl n (k + 1) (by omega) (fun i h1 h2 => hz i (by omega) h2)
theorem set_getD (g : List Nm) (d i : Nat) (q : Nm) (hd : d < g.length) : (g.set d q).getD i Nm.zero = if d = i then q else g.getD i Nm.zero := by
  rw [List.getD_eq_getElem?_getD, List.getD_eq_getElem?_getD, List.getElem?_set]
  split
  · rename_i h
    subst h
    simp [hd]
  · rfl
theorem dStep_back (l : List UInt8) : ∀ (c at_ : Nat) (f : Bool) (least : Nat) (g g' : List Nm) (a1 : Nat), g.length = 16 → least ≤ 16 → (∀ i, least ≤ i → i < 16 → g.getD i Nm.zero = Nm.zero) → dStep l c at_ f least g = some (g', a1, false) →
    f = false ∧ at_ ≤ a1 ∧ (∀ i, i < least → g'.getD i Nm.zero = g.getD i Nm.zero) ∧ (partsFrom g' least).length = c ∧ seg l at_ a1 = (partsFrom g' least).flatMap encPart
  | 0, at_, f, least, g, g', a1, h16, hle, hz, h => by
    unfold dStep at h
    simp only [Option.some.injEq, Prod.mk.injEq] at h
    obtain ⟨rfl, rfl, rfl⟩ := h
    have e := partsFrom_none g (16 - least) least (by omega) hz
    rw [e]
    exact ⟨rfl, Nat.le_refl _, fun _ _ => rfl, rfl, seg_self _ _⟩
  | c + 1, at_, f, least, g, g', a1, h16, hle, hz, h => by
    have hm := rI_most l at_ f 15 (by decide)
    obtain ⟨x, hx⟩ : ∃ x, rI l at_ f 15 = x := ⟨_, rfl⟩
    obtain ⟨d, a2, f2⟩ := x
    rw [hx] at hm
    simp only at hm
    obtain ⟨y, hy⟩ : ∃ y, rNum l a2 f2 = y := ⟨_, rfl⟩
    obtain ⟨⟨q, ok⟩, a3, f3⟩ := y
    by_cases hb : ok = false ∨ d < least
    · rw [dStep_bad hx hy hb] at h
      cases h
    · rw [dStep_good hx hy hb] at h
      simp only [not_or, Bool.not_eq_false] at hb
      obtain ⟨rfl, hdl⟩ := hb
      obtain ⟨rfl, h1, h2, h3, h4⟩ := dStep_back l c a3 f3 (d + 1) (g.set d q) g' a1 (by rw [List.length_set]; exact h16) (by omega)
        (fun i k1 k2 => by rw [set_getD _ _ _ _ (by omega), if_neg (by omega)]; exact hz i (by omega) k2) h
      obtain ⟨rfl, _, j1, j2, j3⟩ := rNum_back hy
      obtain ⟨rfl, m1, m2, _⟩ := rI_back hx
      have hq : g'.getD d Nm.zero = q := by rw [h2 d (by omega), set_getD _ _ _ _ (by omega), if_pos rfl]
      have e := partsFrom_skip g' d (by omega) (by rw [hq]; exact j2) (d - least) least (by omega) (fun i k1 k2 => by
        rw [h2 i (by omega), set_getD _ _ _ _ (by omega), if_neg (by omega)]; exact hz i k1 (by omega))
      refine ⟨rfl, by omega, fun i hi => by rw [h2 i (by omega), set_getD _ _ _ _ (by omega), if_neg (by omega)], by rw [e, List.length_cons, h3], ?_⟩
      rw [e, hq, List.flatMap_cons, ← h4, seg_trans l m1 (by omega), seg_trans l j1 h1, j3, encPart, encHead]
      simp only [List.append_assoc]
      congr 1
theorem rDec_back {l : List UInt8} {g : List Nm} (h : rDec l = some g) : encS g = l := by
  unfold rDec at h
  obtain ⟨x, hx⟩ : ∃ x, rI l 0 false 16 = x := ⟨_, rfl⟩
  obtain ⟨n, a1, f1⟩ := x
  rw [hx] at h
  simp only at h
  obtain ⟨y, hy⟩ : ∃ y, dStep l n a1 f1 0 none16 = y := ⟨_, rfl⟩
  rw [hy] at h
  rcases y with _ | ⟨g', a2, f2⟩
  · cases h
  · simp only at h
    split at h
    · rename_i he
      obtain rfl := Option.some.inj h
      unfold eV at he
      split at he
      · cases he
      · rename_i hn
        simp only [not_or, Bool.not_eq_true] at hn
        obtain ⟨rfl, hlen⟩ := hn
        obtain ⟨rfl, h1, _, h3, h4⟩ := dStep_back l n a1 f1 0 none16 g' a2 rfl (by omega) (fun i _ hi => by
          unfold none16
          rw [List.getD_eq_getElem?_getD, List.getElem?_replicate, if_pos hi]; rfl) hy
        obtain ⟨_, k1, k2, _⟩ := rI_back hx
        rw [partsFrom_zero] at h3 h4
        have e : l = seg l 0 a2 := by
          unfold seg
          rw [List.drop_zero, Nat.sub_zero, List.take_of_length_le (by omega)]
        unfold encS encParts
        rw [List.take_length, h3, ← h4]
        conv => rhs; rw [e, seg_trans l k1 h1]
        congr 1
        exact k2.symm
    · cases h
end Go.Proofs.Ytfgfamafjkjakaa
