/-
  What is read as a number was laid so: the bytes of a number are the shortest. No function of the project is named here.
-/
import Derived.Test.YtfgfamafjkjakabNum
import Derived.Test.YtfgfamafjkjakabPut
namespace Go.Proofs.Ytfgfamafjkjakab
open Go.ChangeShapes Go.WideShapes Go.ChangeAt Go.RowKit Go.Deep
set_option linter.unusedVariables false
theorem u8_back (c : UInt8) : c.toNat.toUInt8 = c := by
  apply UInt8.toNat_inj.1
  rw [u8_nat (UInt8.toNat_lt c)]
theorem numGo_back : ∀ (f : Nat) (l : List UInt8) (k acc x m : Nat), numGo f l k acc = (x, m) → 0 < m →
    ∃ y, x = acc + y * 128 ^ k ∧ l.take (m - k) = Lib.uvarint y ∧ (0 < k → 0 < y) ∧ k < m
  | 0, _, _, _, _, _, h, hm => by
    unfold numGo at h
    simp only [Prod.mk.injEq] at h
    omega
  | f + 1, [], _, _, _, _, h, hm => by
    unfold numGo at h
    simp only [Prod.mk.injEq] at h
    omega
  | f + 1, c :: t, k, acc, x, m, h, hm => by
    unfold numGo at h
    have hc256 := UInt8.toNat_lt c
    by_cases h1 : 128 ≤ c.toNat
    · rw [if_pos h1] at h
      obtain ⟨y, hx, ht, hy, hk⟩ := numGo_back f t (k + 1) _ x m h hm
      have hy0 := hy (Nat.succ_pos _)
      refine ⟨c.toNat % 128 + 128 * y, ?_, ?_, fun _ => by omega, by omega⟩
      · rw [hx, Nat.pow_succ, Nat.add_mul, Nat.add_assoc]
        congr 2
        rw [Nat.mul_comm (128 ^ k) 128, ← Nat.mul_assoc, Nat.mul_comm y 128]
      · rw [Lib.uvarint_big (by omega), show (c.toNat % 128 + 128 * y) % 128 + 128 = c.toNat by omega, u8_back, show (c.toNat % 128 + 128 * y) / 128 = y by omega, ← ht, show m - k = (m - (k + 1)) + 1 by omega, List.take_succ_cons]
    · rw [if_neg h1] at h
      split at h
      · simp only [Prod.mk.injEq] at h; omega
      · rename_i h2
        simp only [Prod.mk.injEq] at h
        obtain ⟨rfl, rfl⟩ := h
        refine ⟨c.toNat, rfl, ?_, fun hk => ?_, Nat.lt_succ_self _⟩
        · rw [Lib.uvarint_small (by omega), u8_back, show k + 1 - k = 1 by omega]
          rfl
        · rcases Nat.eq_zero_or_pos c.toNat with h0 | h0
          · exact absurd (.inl ⟨hk, h0⟩) h2
          · exact h0
theorem num_back {l : List UInt8} {x m : Nat} (h : num l = (x, m)) (hm : 0 < m) : l.take m = Lib.uvarint x := by
  obtain ⟨y, hx, ht, _, _⟩ := numGo_back 10 l 0 0 x m h hm
  rw [Nat.pow_zero, Nat.mul_one, Nat.zero_add] at hx
  rw [hx, ← ht, Nat.sub_zero]
/-- What a reader's Uint and Int read without fault lies there as a number is laid. -/
theorem rU_back {l : List UInt8} {a x a1 : Nat} (h : rU l a false = (x, a1, false)) : a ≤ a1 ∧ (l.drop a).take (a1 - a) = Lib.uvarint x := by
  unfold rU at h
  rw [if_neg Bool.false_ne_true] at h
  split at h
  · simp only [Prod.mk.injEq, Bool.true_eq_false, and_false] at h
  · rename_i h0
    simp only [Prod.mk.injEq, and_true] at h
    obtain ⟨hx, ha⟩ := h
    refine ⟨by omega, ?_⟩
    rw [show a1 - a = (num (l.drop a)).2 by omega, ← hx]
    exact num_back rfl (by omega)
theorem rI_back {l : List UInt8} {a x a1 : Nat} {f : Bool} {most : Int} (h : rI l a f most = (x, a1, false)) : f = false ∧ a ≤ a1 ∧ (l.drop a).take (a1 - a) = Lib.uvarint x ∧ (x : Int) ≤ most := by
  unfold rI at h
  split at h
  · simp only [Prod.mk.injEq, Bool.true_eq_false, and_false] at h
  · rename_i h0
    simp only [not_or] at h0
    cases f with
    | true => exact absurd rfl h0.1
    | false =>
      simp only [Prod.mk.injEq, and_true] at h
      have hu : rU l a false = (x, a1, false) := by
        have h2 : (rU l a false).2.2 = false := by simpa using h0.1
        exact Prod.ext h.1 (Prod.ext h.2 h2)
      obtain ⟨k1, k2⟩ := rU_back hu
      exact ⟨rfl, k1, k2, by rw [← h.1]; omega⟩
end Go.Proofs.Ytfgfamafjkjakab
