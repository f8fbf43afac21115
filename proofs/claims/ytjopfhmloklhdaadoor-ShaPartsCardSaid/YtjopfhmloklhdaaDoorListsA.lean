/-
  A slice that reads as a list of rows of bytes. No function of the project is named here.
-/
import Derived.Test.YtjopfhmloklhdaaDoorHasA
namespace Go.Proofs.YtjopfhmloklhdaaDoor
open Go.ChangeShapes Go.WideShapes Go.ChangeAt Go.RowKit Go.Deep
set_option linter.unusedVariables false

/-- The slice v reads as the rows ls, wherever it points if it has none. -/
def HasL (w : World) (v : Value) (ls : List (List UInt8)) : Prop :=
  ∃ p cap b o, v = .slice p ls.length cap ∧ ls.length ≤ cap ∧ cap ≤ maxLen ∧ (0 < ls.length → p = some ⟨b, o, none⟩ ∧ b < w.heap.size) ∧ ∀ j (h : j < ls.length), ∃ x, w.cell? ⟨b, o + j, none⟩ = some x ∧ HasA w x ls[j]
theorem HasL.below {w w' : World} {v : Value} {ls : List (List UInt8)} (h : HasL w v ls) (hb : Below w.heap.size w w') : HasL w' v ls := by
  obtain ⟨p, cap, b, o, rfl, h1, h2, h3, hc⟩ := h
  refine ⟨p, cap, b, o, rfl, h1, h2, fun h => ⟨(h3 h).1, Nat.lt_of_lt_of_le (h3 h).2 hb.size⟩, fun j hj => ?_⟩
  obtain ⟨x, hx, hl⟩ := hc j hj
  exact ⟨x, (hb.cell (p := ⟨b, o + j, none⟩) (h3 (by omega)).2).trans hx, hl.below hb⟩
theorem HasL.drewN {w : World} {v : Value} {ls : List (List UInt8)} (h : HasL w v ls) (n : Nat) : HasL (w.drewN n) v ls := h
theorem HasL.form {w : World} {v : Value} {ls : List (List UInt8)} (h : HasL w v ls) : ∃ p cap, v = .slice p ls.length cap ∧ ls.length ≤ cap ∧ cap ≤ maxLen := by
  obtain ⟨p, cap, b, o, hv, h1, h2, _⟩ := h
  exact ⟨p, cap, hv, h1, h2⟩
/-- What it reads, with its place. -/
theorem HasL.open {w : World} {v : Value} {ls : List (List UInt8)} (h : HasL w v ls) : ∃ b o cap p, v = .slice p ls.length cap ∧ ls.length ≤ cap ∧ cap ≤ maxLen ∧ Hid (0 < ls.length → p = some ⟨b, o, none⟩ ∧ b < w.heap.size) ∧ Hid (∀ j (h : j < ls.length), ∃ x, w.cell? ⟨b, o + j, none⟩ = some x ∧ HasA w x ls[j]) := by
  obtain ⟨p, cap, b, o, hv, h1, h2, h3, h4⟩ := h
  exact ⟨b, o, cap, p, hv, h1, h2, Lib.hid h3, Lib.hid h4⟩
theorem HasL.sub {w : World} {p : Option Addr} {n cap : Nat} {ls : List (List UInt8)} (h : HasL w (.slice p n cap) ls) (lo hi : Nat) (h1 : lo ≤ hi) (h2 : hi ≤ ls.length) : HasL w (sliced p lo hi cap 1) ((ls.take hi).drop lo) := by
  obtain ⟨p', cap', b, o, he, k1, k2, k3, kc⟩ := h
  simp only [Value.slice.injEq] at he
  obtain ⟨rfl, rfl, rfl⟩ := he
  have hlen : ((ls.take hi).drop lo).length = hi - lo := by simp; omega
  unfold sliced
  refine ⟨_, cap - lo, b, o + lo, by rw [hlen], by rw [hlen]; omega, by omega, fun h => ?_, fun j hj => ?_⟩
  · rw [hlen] at h
    obtain ⟨rfl, hb⟩ := k3 (by omega)
    rw [if_neg (by omega)]
    exact ⟨by simp [add_plain], hb⟩
  · rw [hlen] at hj
    rw [List.getElem_drop, List.getElem_take, Nat.add_assoc]
    exact kc (lo + j) (by omega)
end Go.Proofs.YtjopfhmloklhdaaDoor
