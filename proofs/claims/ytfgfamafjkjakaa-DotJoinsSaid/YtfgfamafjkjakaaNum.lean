/-
  The number that bytes begin with, in plain words: seven bits a byte, the least first. No program is named here.
-/
import Derived.Lib.Varint
import Derived.Lib.VarintBits
import Derived.IntWalk
namespace Go.Proofs.Ytfgfamafjkjakaa
def numGo : Nat → List UInt8 → Nat → Nat → Nat × Nat
  | 0, _, _, _ => (0, 0)
  | _ + 1, [], _, _ => (0, 0)
  | f + 1, c :: t, k, acc =>
    if 128 ≤ c.toNat then numGo f t (k + 1) (acc + c.toNat % 128 * 128 ^ k)
    else if (0 < k ∧ c.toNat = 0) ∨ (k = 9 ∧ 1 < c.toNat) then (0, 0)
    else (acc + c.toNat * 128 ^ k, k + 1)
/-- The number, and how many bytes it has (0: there is none). -/
def num (l : List UInt8) : Nat × Nat := numGo 10 l 0 0
theorem or_sum (acc c k : Nat) (hk : k ≤ 9) (ha : acc < 128 ^ k) (hc : c < 256) (h9 : k = 9 → c % 128 ≤ 1) :
    bits BinOp.or IntKind.u64 (acc : Int) (IntKind.u64.wrap (IntKind.u64.wrap (bits BinOp.and IntKind.u8 (c : Int) 127) * 2 ^ (7 * k))) = ((acc + c % 128 * 128 ^ k : Nat) : Int) := by
  rw [u8_and127 (c : Int) (by omega) (by omega), IntKind.wrap_u64, IntKind.wrap_u64]
  obtain rfl | rfl | rfl | rfl | rfl | rfl | rfl | rfl | rfl | rfl : k = 0 ∨ k = 1 ∨ k = 2 ∨ k = 3 ∨ k = 4 ∨ k = 5 ∨ k = 6 ∨ k = 7 ∨ k = 8 ∨ k = 9 := by omega
  · simp only [Nat.mul_zero, Int.pow_zero, Nat.pow_zero] at *
    rw [u64_orv0 _ _ (by omega) (by omega) (by omega) (by omega) (by omega)]; omega
  · simp only [Nat.reduceMul, Int.reducePow, Nat.reducePow] at *
    rw [u64_orv7 _ _ (by omega) (by omega) (by omega) (by omega) (by omega)]; omega
  · simp only [Nat.reduceMul, Int.reducePow, Nat.reducePow] at *
    rw [u64_orv14 _ _ (by omega) (by omega) (by omega) (by omega) (by omega)]; omega
  · simp only [Nat.reduceMul, Int.reducePow, Nat.reducePow] at *
    rw [u64_orv21 _ _ (by omega) (by omega) (by omega) (by omega) (by omega)]; omega
  · simp only [Nat.reduceMul, Int.reducePow, Nat.reducePow] at *
    rw [u64_orv28 _ _ (by omega) (by omega) (by omega) (by omega) (by omega)]; omega
  · simp only [Nat.reduceMul, Int.reducePow, Nat.reducePow] at *
    rw [u64_orv35 _ _ (by omega) (by omega) (by omega) (by omega) (by omega)]; omega
  · simp only [Nat.reduceMul, Int.reducePow, Nat.reducePow] at *
    rw [u64_orv42 _ _ (by omega) (by omega) (by omega) (by omega) (by omega)]; omega
  · simp only [Nat.reduceMul, Int.reducePow, Nat.reducePow] at *
    rw [u64_orv49 _ _ (by omega) (by omega) (by omega) (by omega) (by omega)]; omega
  · simp only [Nat.reduceMul, Int.reducePow, Nat.reducePow] at *
    rw [u64_orv56 _ _ (by omega) (by omega) (by omega) (by omega) (by omega)]; omega
  · have := h9 rfl
    simp only [Nat.reduceMul, Int.reducePow, Nat.reducePow] at *
    rw [u64_orv63 _ _ (by omega) (by omega) (by omega) (by omega) (by omega)]; omega
theorem or_any (a b : Int) : ∃ n : Nat, bits BinOp.or IntKind.u64 a b = (n : Int) := by
  refine ⟨(bits BinOp.or IntKind.u64 a b).toNat, ?_⟩
  have h : 0 ≤ bits BinOp.or IntKind.u64 a b := by
    show 0 ≤ IntKind.u64.wrap _
    rw [IntKind.wrap_u64]
    exact Int.emod_nonneg _ (by decide)
  omega
theorem numGo_step (l : List UInt8) (k acc : Nat) (hk : k < 10) (hl : k < l.length) : numGo (10 - k) (l.drop k) k acc =
    if 128 ≤ l[k].toNat then numGo (10 - (k + 1)) (l.drop (k + 1)) (k + 1) (acc + l[k].toNat % 128 * 128 ^ k)
    else if (0 < k ∧ l[k].toNat = 0) ∨ (k = 9 ∧ 1 < l[k].toNat) then (0, 0)
    else (acc + l[k].toNat * 128 ^ k, k + 1) := by
  rw [List.drop_eq_getElem_cons hl, show 10 - k = (10 - (k + 1)) + 1 by omega]
  rfl
theorem numGo_over (l : List UInt8) (k acc : Nat) (hk : k < 10) (hl : l.length ≤ k) : numGo (10 - k) (l.drop k) k acc = (0, 0) := by
  rw [List.drop_eq_nil_of_le hl, show 10 - k = (9 - k) + 1 by omega]
  rfl
theorem acc_next (acc c k : Nat) (ha : acc < 128 ^ k) : acc + c % 128 * 128 ^ k < 128 ^ (k + 1) := by
  have h1 : c % 128 ≤ 127 := by omega
  have h2 : c % 128 * 128 ^ k ≤ 127 * 128 ^ k := Nat.mul_le_mul_right _ h1
  rw [Nat.pow_succ]
  omega
theorem numGo_len : ∀ (f : Nat) (l : List UInt8) (k acc : Nat), (numGo f l k acc).2 ≤ k + l.length
  | 0, _, _, _ => Nat.zero_le _
  | _ + 1, [], _, _ => Nat.zero_le _
  | f + 1, c :: t, k, acc => by
    unfold numGo
    have ih := numGo_len f t (k + 1) (acc + c.toNat % 128 * 128 ^ k)
    split
    · simp only [List.length_cons]; omega
    · split
      · exact Nat.zero_le _
      · simp only [List.length_cons]; omega
theorem num_len (l : List UInt8) : (num l).2 ≤ l.length := by have := numGo_len 10 l 0 0; unfold num; omega
/-- What a reader's Uint answers, and where it stands then. -/
def rU (l : List UInt8) (at_ : Nat) (f : Bool) : Nat × Nat × Bool :=
  if f then (0, at_, true) else if (num (l.drop at_)).2 = 0 then (0, at_, true) else ((num (l.drop at_)).1, at_ + (num (l.drop at_)).2, false)
theorem rU_le (l : List UInt8) (at_ : Nat) (f : Bool) (h : at_ ≤ l.length) : (rU l at_ f).2.1 ≤ l.length := by
  have := num_len (l.drop at_)
  rw [List.length_drop] at this
  unfold rU
  split
  · exact h
  · split
    · exact h
    · show at_ + _ ≤ _; omega
theorem numGo_lt : ∀ (f : Nat) (l : List UInt8) (k acc : Nat), f + k = 10 → acc < 128 ^ k → (numGo f l k acc).1 < 18446744073709551616
  | 0, _, _, _, _, _ => by unfold numGo; decide
  | _ + 1, [], _, _, _, _ => by unfold numGo; decide
  | f + 1, c :: t, k, acc, hf, ha => by
    unfold numGo
    have ih := numGo_lt f t (k + 1) (acc + c.toNat % 128 * 128 ^ k) (by omega) (acc_next acc c.toNat k ha)
    split
    · exact ih
    · split
      · decide
      · show acc + c.toNat * 128 ^ k < _
        have hk : k ≤ 9 := by omega
        rename_i h1 h2
        by_cases k9 : k = 9
        · subst k9
          have : c.toNat ≤ 1 := by omega
          have h3 : c.toNat * 128 ^ 9 ≤ 1 * 128 ^ 9 := Nat.mul_le_mul_right _ this
          have h4 : (128 : Nat) ^ 9 = 9223372036854775808 := by decide
          omega
        · have h3 : acc + c.toNat * 128 ^ k < 128 ^ (k + 1) := by
            have := acc_next acc c.toNat k ha
            rwa [show c.toNat % 128 = c.toNat by omega] at this
          have h4 : (128 : Nat) ^ (k + 1) ≤ 128 ^ 9 := Nat.pow_le_pow_right (by omega) (by omega)
          have h5 : (128 : Nat) ^ 9 = 9223372036854775808 := by decide
          omega
theorem num_lt (l : List UInt8) : (num l).1 < 18446744073709551616 := numGo_lt 10 l 0 0 rfl (by decide)
theorem rU_lt (l : List UInt8) (at_ : Nat) (f : Bool) : (rU l at_ f).1 < 18446744073709551616 := by
  unfold rU
  split
  · show 0 < 18446744073709551616; omega
  · split
    · show 0 < 18446744073709551616; omega
    · exact num_lt _
/-- Int: a number that is at most so great. -/
def rI (l : List UInt8) (at_ : Nat) (f : Bool) (most : Int) : Nat × Nat × Bool :=
  if (rU l at_ f).2.2 = true ∨ most < 0 ∨ most < (rU l at_ f).1 then (0, (rU l at_ f).2.1, true) else ((rU l at_ f).1, (rU l at_ f).2.1, false)
theorem rI_le (l : List UInt8) (at_ : Nat) (f : Bool) (most : Int) (h : at_ ≤ l.length) : (rI l at_ f most).2.1 ≤ l.length := by
  have := rU_le l at_ f h
  unfold rI
  split <;> exact this
/-- Text: a text of at most so many bytes. -/
def rT (l : List UInt8) (at_ : Nat) (f : Bool) (most : Int) : List UInt8 × Nat × Bool :=
  if (rI l at_ f most).2.2 = true ∨ l.length < (rI l at_ f most).2.1 + (rI l at_ f most).1 then ([], (rI l at_ f most).2.1, true)
  else ((l.drop (rI l at_ f most).2.1).take (rI l at_ f most).1, (rI l at_ f most).2.1 + (rI l at_ f most).1, false)
/-- Byte. -/
def rB (l : List UInt8) (at_ : Nat) (f : Bool) : Nat × Nat × Bool :=
  if h : f = false ∧ at_ < l.length then (l[at_].toNat, at_ + 1, false) else (0, at_, true)

/-! What is laid is read. -/
theorem u8_nat {a : Nat} (h : a < 256) : (a.toUInt8).toNat = a := by
  show a % 256 = a
  omega
theorem numGo_uv : ∀ (y k acc : Nat) (t : List UInt8), y * 128 ^ k < 18446744073709551616 → (0 < k → 0 < y) → k ≤ 9 →
    numGo (10 - k) (Lib.uvarint y ++ t) k acc = (acc + y * 128 ^ k, k + (Lib.uvarint y).length) := by
  intro y
  induction y using Nat.strongRecOn with
  | ind y ih =>
    intro k acc t hb hp hk
    have hf : 10 - k = (9 - k) + 1 := by omega
    by_cases h128 : 128 ≤ y
    · rw [Lib.uvarint_big h128]
      have hk8 : k ≤ 8 := by
        rcases Nat.lt_or_ge k 9 with h | h
        · omega
        · obtain rfl : k = 9 := by omega
          have h4 : (128 : Nat) ^ 9 = 9223372036854775808 := by decide
          have h3 : 128 * 128 ^ 9 ≤ y * 128 ^ 9 := Nat.mul_le_mul_right _ h128
          omega
      have hc : ((y % 128 + 128).toUInt8).toNat = y % 128 + 128 := u8_nat (by omega)
      have e1 : y * 128 ^ k = y % 128 * 128 ^ k + y / 128 * 128 ^ (k + 1) := by
        have h5 : y = y % 128 + y / 128 * 128 := by omega
        have h6 : y / 128 * 128 ^ (k + 1) = y / 128 * 128 * 128 ^ k := by rw [Nat.pow_succ, Nat.mul_assoc, Nat.mul_comm 128]
        rw [h6, ← Nat.add_mul, ← h5]
      have ih' := ih (y / 128) (by omega) (k + 1) (acc + y % 128 * 128 ^ k) t (by omega) (fun _ => by omega) (by omega)
      rw [hf, List.cons_append]
      unfold numGo
      rw [hc, if_pos (by omega), show (y % 128 + 128) % 128 = y % 128 by omega, show 9 - k = 10 - (k + 1) by omega, ih', e1]
      simp only [List.length_cons, Prod.mk.injEq]
      omega
    · rw [Lib.uvarint_small (by omega)]
      have hc : (y.toUInt8).toNat = y := u8_nat (by omega)
      have h9 : ¬ (k = 9 ∧ 1 < y) := by
        rintro ⟨rfl, h1⟩
        have h4 : (128 : Nat) ^ 9 = 9223372036854775808 := by decide
        have h3 : 2 * 128 ^ 9 ≤ y * 128 ^ 9 := Nat.mul_le_mul_right _ h1
        omega
      rw [hf, List.cons_append]
      unfold numGo
      rw [hc, if_neg (by omega), if_neg (by omega)]
      rfl
theorem num_uv (x : Nat) (hx : x < 18446744073709551616) (t : List UInt8) : num (Lib.uvarint x ++ t) = (x, (Lib.uvarint x).length) := by
  have h := numGo_uv x 0 0 t (by simpa using hx) (fun h => absurd h (Nat.lt_irrefl _)) (by omega)
  unfold num
  simpa using h
/-- Bytes that all go on are no number. -/
theorem numGo_on : ∀ (f : Nat) (l : List UInt8) (k acc : Nat), (∀ c ∈ l, 128 ≤ c.toNat) → numGo f l k acc = (0, 0)
  | 0, _, _, _, _ => rfl
  | _ + 1, [], _, _, _ => rfl
  | f + 1, c :: t, k, acc, h => by
    unfold numGo
    rw [if_pos (h c (List.mem_cons_self ..))]
    exact numGo_on f t _ _ (fun x hx => h x (List.mem_cons_of_mem _ hx))
theorem uv_on : ∀ (y : Nat), ∀ c ∈ (Lib.uvarint y).dropLast, 128 ≤ c.toNat := by
  intro y
  induction y using Nat.strongRecOn with
  | ind y ih =>
    intro c hc
    by_cases h128 : 128 ≤ y
    · rw [Lib.uvarint_big h128] at hc
      have hne : Lib.uvarint (y / 128) ≠ [] := fun e => by have := Lib.uvarint_pos (y / 128); rw [e] at this; simp at this
      rw [List.dropLast_cons_of_ne_nil hne] at hc
      rcases List.mem_cons.1 hc with rfl | h
      · have : ((y % 128 + 128).toUInt8).toNat = y % 128 + 128 := u8_nat (by omega)
        omega
      · exact ih (y / 128) (by omega) c h
    · rw [Lib.uvarint_small (by omega)] at hc
      simp at hc
theorem num_cut (y n : Nat) (h : n < (Lib.uvarint y).length) : num ((Lib.uvarint y).take n) = (0, 0) := by
  refine numGo_on _ _ _ _ fun c hc => uv_on y c ?_
  rw [List.dropLast_eq_take]
  have h2 : (Lib.uvarint y).take n = ((Lib.uvarint y).take ((Lib.uvarint y).length - 1)).take n := by rw [List.take_take]; congr 1; omega
  rw [h2] at hc
  exact List.mem_of_mem_take hc
theorem rU_uv (x : Nat) (hx : x < 18446744073709551616) (t : List UInt8) : rU (Lib.uvarint x ++ t) 0 false = (x, (Lib.uvarint x).length, false) := by
  have h := num_uv x hx t
  have hp := Lib.uvarint_pos x
  unfold rU
  rw [List.drop_zero, h]
  rw [if_neg (by simp), if_neg (show ¬ (Lib.uvarint x).length = 0 by omega)]
  simp
theorem rI_uv (x : Nat) (hx : x < 18446744073709551616) (t : List UInt8) (most : Int) : rI (Lib.uvarint x ++ t) 0 false most = if most < x then (0, (Lib.uvarint x).length, true) else (x, (Lib.uvarint x).length, false) := by
  unfold rI
  rw [rU_uv x hx t]
  by_cases h : most < x
  · rw [if_pos (.inr (.inr h)), if_pos h]
  · rw [if_neg (by simp; omega), if_neg h]
theorem rT_uv (t : List UInt8) (ht : t.length < 18446744073709551616) (most : Int) : rT (Lib.uvarint t.length ++ t) 0 false most =
    if most < t.length then ([], (Lib.uvarint t.length).length, true) else (t, (Lib.uvarint t.length).length + t.length, false) := by
  unfold rT
  rw [rI_uv t.length ht t most]
  by_cases h : most < (t.length : Int)
  · rw [if_pos h, if_pos h, if_pos (.inl rfl)]
  · rw [if_neg h, if_neg h, if_neg (by simp)]
    simp
end Go.Proofs.Ytfgfamafjkjakaa
