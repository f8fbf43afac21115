/-
  Numbers and texts laid one behind the other, and read again, in plain words. No program is named here.
-/
import Derived.Test.YtlmpokkpkglbfaaCutNum
namespace Go.Proofs.Ytlmpokkpkglbfaa
def chunk (Z : Nat → Nat) (n : Nat) (S : Nat → List UInt8) (m i : Nat) : List UInt8 :=
  (if i < n then Lib.uvarint (Z i) else []) ++ (if i < m then Lib.uvarint (S i).length ++ S i else [])
def laidTo (Z : Nat → Nat) (n : Nat) (S : Nat → List UInt8) (m : Nat) : Nat → List UInt8
  | 0 => []
  | k + 1 => laidTo Z n S m k ++ chunk Z n S m k
theorem laidTo_split (Z : Nat → Nat) (n : Nat) (S : Nat → List UInt8) (m k : Nat) : ∀ d, ∃ rest, laidTo Z n S m (k + d) = laidTo Z n S m k ++ rest
  | 0 => ⟨[], by simp⟩
  | d + 1 => by
    obtain ⟨rest, h⟩ := laidTo_split Z n S m k d
    exact ⟨rest ++ chunk Z n S m (k + d), by show laidTo Z n S m (k + d) ++ chunk Z n S m (k + d) = _; rw [h, List.append_assoc]⟩
theorem laidTo_at (Z : Nat → Nat) (n : Nat) (S : Nat → List UInt8) (m k K : Nat) (hk : k < K) : ∃ rest, laidTo Z n S m K = laidTo Z n S m k ++ (chunk Z n S m k ++ rest) := by
  obtain ⟨rest, h⟩ := laidTo_split Z n S m (k + 1) (K - (k + 1))
  rw [show k + 1 + (K - (k + 1)) = K by omega] at h
  exact ⟨rest, by rw [h]; show (laidTo Z n S m k ++ chunk Z n S m k) ++ rest = _; rw [List.append_assoc]⟩
theorem rU_at (pre : List UInt8) (x : Nat) (hx : x < 18446744073709551616) (t : List UInt8) : rU (pre ++ (Lib.uvarint x ++ t)) pre.length false = (x, pre.length + (Lib.uvarint x).length, false) := by
  have h := num_uv x hx t
  have hp := Lib.uvarint_pos x
  unfold rU
  rw [List.drop_left, h, if_neg (by simp), if_neg (show ¬ (Lib.uvarint x).length = 0 by omega)]
theorem rT_at (pre s t : List UInt8) (hs : s.length < 18446744073709551616) : rT (pre ++ ((Lib.uvarint s.length ++ s) ++ t)) pre.length false s.length = (s, pre.length + (Lib.uvarint s.length ++ s).length, false) := by
  have h3 : rI (pre ++ ((Lib.uvarint s.length ++ s) ++ t)) pre.length false s.length = (s.length, pre.length + (Lib.uvarint s.length).length, false) := by
    unfold rI
    rw [List.append_assoc, rU_at pre s.length hs, if_neg (by simp)]
  unfold rT
  rw [h3, if_neg (by simp; omega)]
  simp only [List.length_append]
  refine Prod.ext ?_ (Prod.ext ?_ rfl)
  · show ((pre ++ ((Lib.uvarint s.length ++ s) ++ t)).drop (pre.length + (Lib.uvarint s.length).length)).take s.length = s
    rw [← List.append_assoc, ← List.append_assoc, List.append_assoc, ← List.length_append, List.drop_left, List.take_left]
  · show pre.length + (Lib.uvarint s.length).length + s.length = pre.length + ((Lib.uvarint s.length).length + s.length)
    omega
end Go.Proofs.Ytlmpokkpkglbfaa
