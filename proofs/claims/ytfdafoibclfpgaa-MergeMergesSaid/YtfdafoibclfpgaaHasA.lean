/-
  A slice that reads as a list of bytes, wherever it points if it has none; its parts. No function of the project is named here.
-/
import Derived.Test.YtfdafoibclfpgaaRows
import Derived.Test.YtfdafoibclfpgaaBytes
import Derived.LoopTactic
namespace Go.Proofs.Ytfdafoibclfpgaa
open Go.ChangeShapes Go.WideShapes Go.ChangeAt Go.RowKit Go.Deep
set_option linter.unusedVariables false

/-- The slice v reads as the bytes l, wherever it points if it has none. -/
def HasA (w : World) (v : Value) (l : List UInt8) : Prop :=
  ∃ p cap b o, v = .slice p l.length cap ∧ l.length ≤ cap ∧ cap ≤ maxLen ∧ (0 < l.length → p = some ⟨b, o, none⟩ ∧ b < w.heap.size) ∧ ∀ j (h : j < l.length), w.cell? ⟨b, o + j, none⟩ = some (.int .u8 (l[j].toNat : Int))
theorem Has.wide {w : World} {v : Value} {l : List UInt8} (h : Has w v l) : HasA w v l := by
  rcases h with ⟨rfl, rfl⟩ | ⟨b, o, cap, rfl, h1, h2, h3, hc⟩
  · exact ⟨none, 0, 0, 0, rfl, Nat.le_refl _, Nat.zero_le _, fun h => absurd h (Nat.lt_irrefl _), fun j hj => absurd hj (Nat.not_lt_zero _)⟩
  · exact ⟨_, cap, b, o, rfl, h1, h2, fun _ => ⟨rfl, h3⟩, hc⟩
theorem HasA.below {w w' : World} {v : Value} {l : List UInt8} (h : HasA w v l) (hb : Below w.heap.size w w') : HasA w' v l := by
  obtain ⟨p, cap, b, o, rfl, h1, h2, h3, hc⟩ := h
  exact ⟨p, cap, b, o, rfl, h1, h2, fun h => ⟨(h3 h).1, Nat.lt_of_lt_of_le (h3 h).2 hb.size⟩, fun j hj => (hb.cell (p := ⟨b, o + j, none⟩) (h3 (by omega)).2).trans (hc j hj)⟩
theorem HasA.nil (w : World) : HasA w (.slice none 0 0) [] := Has.wide (.inl ⟨rfl, rfl⟩)
theorem HasA.drewN {w : World} {v : Value} {l : List UInt8} (h : HasA w v l) (n : Nat) : HasA (w.drewN n) v l := h
theorem HasA.len {w : World} {v : Value} {l : List UInt8} (h : HasA w v l) : l.length ≤ maxLen := by
  obtain ⟨p, cap, b, o, _, h1, h2, _⟩ := h
  exact Nat.le_trans h1 h2
theorem HasA.form {w : World} {v : Value} {l : List UInt8} (h : HasA w v l) : ∃ p cap, v = .slice p l.length cap ∧ l.length ≤ cap ∧ cap ≤ maxLen := by
  obtain ⟨p, cap, b, o, hv, h1, h2, _⟩ := h
  exact ⟨p, cap, hv, h1, h2⟩
/-- What it reads, with its place. -/
theorem HasA.open {w : World} {v : Value} {l : List UInt8} (h : HasA w v l) : ∃ b o cap p, v = .slice p l.length cap ∧ l.length ≤ cap ∧ cap ≤ maxLen ∧ Hid (0 < l.length → p = some ⟨b, o, none⟩ ∧ b < w.heap.size) ∧ Hid (∀ j (h : j < l.length), w.cell? ⟨b, o + j, none⟩ = some (.int .u8 (l[j].toNat : Int))) := by
  obtain ⟨p, cap, b, o, hv, h1, h2, h3, h4⟩ := h
  exact ⟨b, o, cap, p, hv, h1, h2, Lib.hid h3, Lib.hid h4⟩
theorem HasA.only {w w' : World} {v : Value} {l : List UInt8} {R : Nat} (h : HasA w v l) (ho : Only R w w') (hne : 0 < l.length → v.ownBlock ≠ some R) : HasA w' v l := by
  obtain ⟨p, cap, b, o, rfl, h1, h2, h3, hc⟩ := h
  refine ⟨p, cap, b, o, rfl, h1, h2, fun h => ⟨(h3 h).1, by rw [ho.2.1]; exact (h3 h).2⟩, fun j hj => (ho.cell (p := ⟨b, o + j, none⟩) (fun e => hne (by omega) ?_)).trans (hc j hj)⟩
  rw [(h3 (by omega)).1, show b = R from e]; rfl
/-- A part. -/
theorem HasA.part {w : World} {p : Option Addr} {b o cap : Nat} {l : List UInt8} (H2 : cap ≤ maxLen) (h3 : 0 < l.length → p = some ⟨b, o, none⟩ ∧ b < w.heap.size) (hc : ∀ j (h : j < l.length), w.cell? ⟨b, o + j, none⟩ = some (.int .u8 (l[j].toNat : Int)))
    (lo hi : Nat) (h1 : lo ≤ hi) (h2 : hi ≤ l.length) (h0 : l.length ≤ cap) : HasA w (sliced p lo hi cap 1) ((l.take hi).drop lo) := by
  have hlen : ((l.take hi).drop lo).length = hi - lo := by simp; omega
  unfold sliced
  refine ⟨_, cap - lo, b, o + lo, by rw [hlen], by rw [hlen]; omega, by omega, fun h => ?_, fun j hj => ?_⟩
  · rw [hlen] at h
    obtain ⟨rfl, hb⟩ := h3 (by omega)
    rw [if_neg (by omega)]
    exact ⟨by simp [add_plain], hb⟩
  · rw [hlen] at hj
    rw [List.getElem_drop, List.getElem_take, Nat.add_assoc]
    exact hc (lo + j) (by omega)
end Go.Proofs.Ytfdafoibclfpgaa
