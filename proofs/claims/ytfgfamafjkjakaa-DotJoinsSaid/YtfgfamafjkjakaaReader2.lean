/-
  Package bin's Reader: its calls Byte and Text.
-/
import Derived.Test.YtfgfamafjkjakaaReader
namespace Go.Proofs.Ytfgfamafjkjakaa
open Go.ChangeShapes Go.WideShapes Go.ChangeAt Go.RowKit Go.Deep
set_option linter.unusedVariables false

theorem Int_at (w : World) (B R : Nat) (l : List UInt8) (at_ : Nat) (f : Bool) (most : Int) (m1 : -9223372036854775808 ≤ most) (m2 : most ≤ 9223372036854775807) (h : Rd w B R l at_ f) (v a1 : Nat) (f1 : Bool) (hI : rI l at_ f most = (v, a1, f1)) :
    Calls Try.prog 29 #[.pointer (some ⟨R, 0, none⟩), .int .i64 most] w fun e w' => e = .returned (.int .i64 v) ∧ Rd w' B R l a1 f1 ∧ Only R w w' := by
  have := Int_rd w B R l at_ f most m1 m2 h
  rw [hI] at this
  exact this

theorem Rd.base {w : World} {B R : Nat} {l : List UInt8} {at_ : Nat} {f : Bool} (h : Rd w B R l at_ f) : B ≤ R := by
  obtain ⟨_, _, _, h2, _⟩ := h; exact h2
theorem End_at (w : World) (B R : Nat) (l : List UInt8) (at_ : Nat) (f : Bool) (h : Rd w B R l at_ f) (v : Int) (hv : eV l at_ f = v) :
    Calls Try.prog 31 #[.pointer (some ⟨R, 0, none⟩)] w fun e w' => e = .returned (.int .i64 v) ∧ Rd w' B R l at_ f ∧ Only R w w' :=
  (End_rd w B R l at_ f h).mono fun e w' ⟨he, n, hw⟩ => ⟨by rw [he, hv], by rw [hw]; exact h.drewN n, by rw [hw]; exact (Only.refl _ _).drewN n⟩
theorem Err_at (w : World) (B R : Nat) (l : List UInt8) (at_ : Nat) (f : Bool) (h : Rd w B R l at_ f) (v : Int) (hv : (if f then 14 else 0) = v) :
    Calls Try.prog 44 #[.pointer (some ⟨R, 0, none⟩)] w fun e w' => e = .returned (.int .i64 v) ∧ Rd w' B R l at_ f ∧ Only R w w' :=
  (Err_rd w B R l at_ f h).mono fun e w' ⟨he, hw⟩ => ⟨by rw [he, hv], by rw [hw]; exact h, by rw [hw]; exact Only.refl _ _⟩
/-- Bytes that stand in the text. -/
theorem has_lits (w : World) (T : TypeId) (l : List UInt8) (hl : l.length ≤ maxLen) : Has (w.alloc (.cells (Lib.byteCells l).toArray T)) (.slice (some ⟨w.heap.size, 0, none⟩) l.length l.length) l := by
  refine .inr ⟨w.heap.size, 0, l.length, rfl, Nat.le_refl _, hl, by simp, fun j hj => ?_⟩
  simp only [World.cell?, heap_alloc_new w (.cells (Lib.byteCells l).toArray T), Nat.zero_add]
  simpa using byteCells_get hj
theorem has_nil (w : World) : Has w (.slice none 0 0) [] := .inl ⟨rfl, rfl⟩
/-- The reader moved; what lies below B0 did not. -/
theorem below_only {B0 R : Nat} {w0 w w' : World} (hb : Below B0 w0 w) (ho : Only R w w') (h : B0 ≤ R) : Below B0 w0 w' := hb.trans (ho.1.mono h)
end Go.Proofs.Ytfgfamafjkjakaa
