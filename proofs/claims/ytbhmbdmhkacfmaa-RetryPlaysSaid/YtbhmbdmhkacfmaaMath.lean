/-
  Plain numbers of a timer's delay: the doubled base, and the delay that it gives. No program is named here.
-/
import Derived.Lib.Hide
namespace Go.Proofs.Ytbhmbdmhkacfmaa
def stp (m d : Int) : Int := if d < m then 2 * d else d
def it (b m : Int) : Nat → Int
  | 0 => b
  | k + 1 => stp m (it b m k)
theorem it_ge (b m : Int) (hb : 1 ≤ b) (k : Nat) : 1 ≤ it b m k := by
  induction k with
  | zero => exact hb
  | succ k ih => show 1 ≤ stp m (it b m k); unfold stp; split <;> omega
theorem it_base (b m : Int) (hb : 1 ≤ b) (k : Nat) : b ≤ it b m k := by
  induction k with
  | zero => exact Int.le_refl _
  | succ k ih => show b ≤ stp m (it b m k); unfold stp; split <;> omega
theorem it_le (b m : Int) (hb : 1 ≤ b) (hm : b ≤ m) (k : Nat) : it b m k ≤ 2 * m := by
  induction k with
  | zero => show b ≤ _; omega
  | succ k ih => show stp m (it b m k) ≤ _; unfold stp; split <;> omega
theorem it_more (b m : Int) (k : Nat) (h : it b m k < m) : it b m (k + 1) = it b m k * 2 := by
  show stp m (it b m k) = _; unfold stp; rw [if_pos h]; omega
theorem it_same (b m : Int) (k : Nat) (h : ¬ it b m k < m) : it b m (k + 1) = it b m k := by
  show stp m (it b m k) = _; unfold stp; rw [if_neg h]
theorem it_stays (b m : Int) (k : Nat) (h : ¬ it b m k < m) (n : Nat) : it b m (k + n) = it b m k := by
  induction n with
  | zero => rfl
  | succ n ih => rw [← Nat.add_assoc, it_same _ _ _ (by rw [ih]; exact h), ih]
/-- The doubled base behind so many failures. -/
def top (b m f : Int) : Int := min (it b m (f - 1).toNat) m
theorem top_bd (b m f : Int) (hb : 1 ≤ b) (hm : b ≤ m) : 1 ≤ top b m f ∧ top b m f ≤ m ∧ b ≤ top b m f := by
  unfold top; have := it_base b m hb (f - 1).toNat; omega
theorem top_done (b m f : Int) (k : Nat) (hk : (f - 1).toNat = k) : top b m f = min (it b m k) m := by unfold top; rw [hk]
theorem top_full (b m f : Int) (k : Nat) (hk : k ≤ (f - 1).toNat) (h : ¬ it b m k < m) : top b m f = min (it b m k) m := by
  unfold top
  obtain ⟨n, hn⟩ : ∃ n, (f - 1).toNat = k + n := ⟨(f - 1).toNat - k, by omega⟩
  rw [hn, it_stays _ _ _ h]
/-- The delay. -/
def dl (b m f r : Int) : Int := (top b m f + 1) / 2 + r % (top b m f / 2 + 1)
theorem dl_bd (b m f r : Int) (hb : 1 ≤ b) (hm : b ≤ m) : 1 ≤ dl b m f r ∧ dl b m f r ≤ m ∧ b ≤ 2 * dl b m f r ∧ top b m f ≤ 2 * dl b m f r ∧ dl b m f r ≤ top b m f := by
  obtain ⟨h1, h2, h3⟩ := top_bd b m f hb hm
  unfold dl
  have a := Int.emod_nonneg r (b := top b m f / 2 + 1) (by omega)
  have c := Int.emod_lt_of_pos r (b := top b m f / 2 + 1) (by omega)
  omega
/-- One failure more: the greatest delay is at most twice as great. -/
theorem it_mono (b m : Int) (hb : 1 ≤ b) (k : Nat) : it b m k ≤ it b m (k + 1) := by
  have := it_ge b m hb k
  show _ ≤ stp m (it b m k); unfold stp; split <;> omega
theorem top_mono (b m f : Int) (hb : 1 ≤ b) (hf : 1 ≤ f) : top b m f ≤ top b m (f + 1) := by
  unfold top
  have h : (f + 1 - 1).toNat = (f - 1).toNat + 1 := by omega
  rw [h]; have := it_mono b m hb (f - 1).toNat; omega
end Go.Proofs.Ytbhmbdmhkacfmaa
