/-
  A reader that has failed; a number and a text that are cut. No program is named here.
-/
import Derived.Test.YtlmpokkpkglbfaaNum
namespace Go.Proofs.Ytlmpokkpkglbfaa
theorem rU_failed (l : List UInt8) (a : Nat) : rU l a true = (0, a, true) := rfl
theorem rI_failed (l : List UInt8) (a : Nat) (most : Int) : rI l a true most = (0, a, true) := rfl
theorem rT_failed (l : List UInt8) (a : Nat) (most : Int) : rT l a true most = ([], a, true) := rfl
theorem rB_failed (l : List UInt8) (a : Nat) : rB l a true = (0, a, true) := dif_neg (by simp)
theorem rU_none (l : List UInt8) (a : Nat) (h : num (l.drop a) = (0, 0)) : rU l a false = (0, a, true) := by unfold rU; rw [h]; rfl
theorem rT_none (l : List UInt8) (a : Nat) (most : Int) (h : num (l.drop a) = (0, 0)) : rT l a false most = ([], a, true) := by
  unfold rT rI
  rw [rU_none l a h]
  rw [if_pos (.inl rfl), if_pos (.inl rfl)]
/-- A number and a text that are cut anywhere ahead of their end: the reader fails. -/
theorem cut_fails (v : Nat) (hv : v < 18446744073709551616) (t : List UInt8) (ht : t.length < 18446744073709551616) (c : Nat) (hc : c < (Lib.uvarint v ++ (Lib.uvarint t.length ++ t)).length) :
    ∃ x a1 f1 a2, rU ((Lib.uvarint v ++ (Lib.uvarint t.length ++ t)).take c) 0 false = (x, a1, f1) ∧ rT ((Lib.uvarint v ++ (Lib.uvarint t.length ++ t)).take c) a1 f1 t.length = ([], a2, true) := by
  rcases Nat.lt_or_ge c (Lib.uvarint v).length with h | h
  · refine ⟨0, 0, true, 0, rU_none _ _ ?_, rT_failed _ _ _⟩
    rw [List.drop_zero, List.take_append_of_le_length (by omega)]
    exact num_cut v c h
  · obtain ⟨d, rfl⟩ : ∃ d, c = (Lib.uvarint v).length + d := ⟨c - (Lib.uvarint v).length, by omega⟩
    rw [List.take_length_add_append]
    simp only [List.length_append] at hc
    have hu := rU_uv v hv ((Lib.uvarint t.length ++ t).take d)
    rcases Nat.lt_or_ge d (Lib.uvarint t.length).length with h2 | h2
    · refine ⟨_, _, _, (Lib.uvarint v).length, hu, rT_none _ _ _ ?_⟩
      rw [List.drop_left, List.take_append_of_le_length (by omega)]
      exact num_cut _ d h2
    · obtain ⟨g, rfl⟩ : ∃ g, d = (Lib.uvarint t.length).length + g := ⟨d - (Lib.uvarint t.length).length, by omega⟩
      rw [List.take_length_add_append] at hu ⊢
      refine ⟨_, _, _, (Lib.uvarint v).length + (Lib.uvarint t.length).length, hu, ?_⟩
      have hn := num_uv t.length ht (t.take g)
      have hp := Lib.uvarint_pos t.length
      have h3 : rU (Lib.uvarint v ++ (Lib.uvarint t.length ++ t.take g)) (Lib.uvarint v).length false = (t.length, (Lib.uvarint v).length + (Lib.uvarint t.length).length, false) := by
        unfold rU
        rw [List.drop_left, hn, if_neg (by simp), if_neg (show ¬ (Lib.uvarint t.length).length = 0 by omega)]
      have h4 : rI (Lib.uvarint v ++ (Lib.uvarint t.length ++ t.take g)) (Lib.uvarint v).length false t.length = (t.length, (Lib.uvarint v).length + (Lib.uvarint t.length).length, false) := by
        unfold rI
        rw [h3, if_neg (by simp)]
      unfold rT
      rw [h4, if_pos (.inr (by simp; omega))]
end Go.Proofs.Ytlmpokkpkglbfaa
