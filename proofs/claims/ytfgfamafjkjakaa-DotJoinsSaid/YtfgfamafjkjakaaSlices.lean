/-
  Parts of a slice of bytes, and its text, as the machine makes them. No function of the project is named here.
-/
import Derived.Test.YtfgfamafjkjakaaHasA
namespace Go.Proofs.Ytfgfamafjkjakaa
open Go.ChangeShapes Go.WideShapes Go.ChangeAt Go.RowKit Go.Deep
set_option linter.unusedVariables false

theorem HasA.string {w : World} {v : Value} {l : List UInt8} (h : HasA w v l) (n : Nat) : (convert 28 9 v).run Try.prog (w.drewN n) = .ok (.string ⟨l.toArray⟩) (w.drewN n) := by
  obtain ⟨p, cap, b, o, rfl, h1, h2, h3, hc⟩ := h
  by_cases h0 : 0 < l.length
  · obtain ⟨rfl, _⟩ := h3 h0
    exact run_convert_bytes_back (P := Try.prog) (w.drewN n) 28 9 5 ⟨b, o, none⟩ cap l Try.underlying28 Try.underlying5 Try.underlying9 (fun j hj => by rw [add_plain]; exact hc j hj)
  · obtain rfl : l = [] := List.eq_nil_of_length_eq_zero (by omega)
    cases p with
    | none => exact run_convert_bytes_nil (P := Try.prog) (w.drewN n) 28 5 Try.underlying28 Try.underlying5 0 cap 9 Try.underlying9
    | some a => exact run_convert_bytes_back (P := Try.prog) (w.drewN n) 28 9 5 a cap [] Try.underlying28 Try.underlying5 Try.underlying9 (fun j hj => absurd hj (Nat.not_lt_zero _))
theorem size_one (W : World) : (sizeOf (Try.prog.elem 28)).run Try.prog W = .ok 1 W := by kernel_rfl
theorem HasA.sub {w : World} {p : Option Addr} {n cap : Nat} {l : List UInt8} (h : HasA w (.slice p n cap) l) (lo hi : Nat) (h1 : lo ≤ hi) (h2 : hi ≤ l.length) : HasA w (sliced p lo hi cap 1) ((l.take hi).drop lo) := by
  obtain ⟨p', cap', b, o, he, k1, k2, k3, kc⟩ := h
  simp only [Value.slice.injEq] at he
  obtain ⟨rfl, rfl, rfl⟩ := he
  exact HasA.part k2 k3 kc lo hi h1 h2 k1
set_option maxRecDepth 100000 in
/-- v[lo:hi], v[lo:], v[:hi], wherever v points. -/
theorem HasA.mid {w : World} {v : Value} {l : List UInt8} (h : HasA w v l) (lo hi : Nat) (h1 : lo ≤ hi) (h2 : hi ≤ l.length) :
    ∃ p' c', (∀ W, (Instr.slice 28 v (some (.int .i64 (lo : Int))) (some (.int .i64 (hi : Int))) none).run Try.prog W = .ok (.slice p' (hi - lo) c') W) ∧ ∀ W0, HasA W0 v l → HasA W0 (.slice p' (hi - lo) c') ((l.take hi).drop lo) := by
  obtain ⟨p, cap, b, o, rfl, k1, k2, k3, hc⟩ := h
  refine ⟨_, _, fun W => ?_, fun W0 h0 => HasA.sub h0 lo hi h1 h2⟩
  rw [run_slice_lh (P := Try.prog) (w := W) (t := 28) (a := p) (len := l.length) (cap := cap) Try.underlying28 .i64 .i64 (lo : Int) (hi : Int) (by omega) (by omega) (by omega), size_one]
  rfl
set_option maxRecDepth 100000 in
theorem HasA.tail {w : World} {v : Value} {l : List UInt8} (h : HasA w v l) (lo : Nat) (h1 : lo ≤ l.length) :
    ∃ p' c', (∀ W, (Instr.slice 28 v (some (.int .i64 (lo : Int))) none none).run Try.prog W = .ok (.slice p' (l.length - lo) c') W) ∧ ∀ W0, HasA W0 v l → HasA W0 (.slice p' (l.length - lo) c') (l.drop lo) := by
  obtain ⟨p, cap, b, o, rfl, k1, k2, k3, hc⟩ := h
  refine ⟨_, _, fun W => ?_, fun W0 h0 => by have := HasA.sub h0 lo l.length h1 (Nat.le_refl _); rw [List.take_length] at this; exact this⟩
  rw [run_slice_l (P := Try.prog) (w := W) (t := 28) (a := p) (len := l.length) (cap := cap) Try.underlying28 .i64 (lo : Int) (by omega) (by omega), size_one]
  rfl
set_option maxRecDepth 100000 in
theorem HasA.head {w : World} {v : Value} {l : List UInt8} (h : HasA w v l) (hi : Nat) (h2 : hi ≤ l.length) :
    ∃ p' c', (∀ W, (Instr.slice 28 v none (some (.int .i64 (hi : Int))) none).run Try.prog W = .ok (.slice p' hi c') W) ∧ ∀ W0, HasA W0 v l → HasA W0 (.slice p' hi c') (l.take hi) := by
  obtain ⟨p, cap, b, o, rfl, k1, k2, k3, hc⟩ := h
  refine ⟨_, _, fun W => ?_, fun W0 h0 => by have := HasA.sub h0 0 hi (Nat.zero_le _) h2; rw [List.drop_zero] at this; exact this⟩
  rw [run_slice_h (P := Try.prog) (w := W) (t := 28) (a := p) (len := l.length) (cap := cap) Try.underlying28 .i64 (hi : Int) (by omega) (by omega), size_one]
  rfl
end Go.Proofs.Ytfgfamafjkjakaa
