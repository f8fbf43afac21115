/-
  Parts of a slice of bytes, and its text, as the machine makes them. No function of the project is named here.
-/
import Derived.Test.YtfdafoibclfpgaaHasA
namespace Go.Proofs.Ytfdafoibclfpgaa
open Go.ChangeShapes Go.WideShapes Go.ChangeAt Go.RowKit Go.Deep
set_option linter.unusedVariables false

theorem HasA.sub {w : World} {p : Option Addr} {n cap : Nat} {l : List UInt8} (h : HasA w (.slice p n cap) l) (lo hi : Nat) (h1 : lo ≤ hi) (h2 : hi ≤ l.length) : HasA w (sliced p lo hi cap 1) ((l.take hi).drop lo) := by
  obtain ⟨p', cap', b, o, he, k1, k2, k3, kc⟩ := h
  simp only [Value.slice.injEq] at he
  obtain ⟨rfl, rfl, rfl⟩ := he
  exact HasA.part k2 k3 kc lo hi h1 h2 k1
end Go.Proofs.Ytfdafoibclfpgaa
