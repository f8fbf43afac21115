/-
  MergeMerges: the ways out.
-/
import Derived.Test.YtfdafoibclfpgaaMRange
namespace Go.Proofs.Ytfdafoibclfpgaa
open Go.ChangeShapes Go.WideShapes Go.ChangeAt Go.RowKit Go.Deep Go.Shelf
set_option linter.unusedVariables false
set_option linter.unusedSimpArgs false
theorem res_mm2 (tmps : Array Value) (W : World) (R : Nat) (hp : tmps.getD 4 undef = .pointer (some ⟨R, 0, none⟩)) (hc : W.cell? ⟨R, 0, none⟩ = some (.bool true)) : (results Try.f4 tmps).run Try.prog W = .ok (.bool true) W := by
  have hr : Try.f4.results = #[.cell 4 4] := rfl
  simp only [Array.getD_eq_getD_getElem?] at hp
  simp [results, hr, go_sem, hp, hc]
theorem ret2_mm {B R D3 D4 : Nat} {w W : World} {u : Value} {tmps : Array Value} (hp : tmps.getD 4 undef = .pointer (some ⟨R, 0, none⟩)) (bR : Boxed W R 4 u) (hb : Below B w W) (hBR : B ≤ R) (hw : w.heap.size = B)
    (h4 : W.heap[D4]? = some (.deferred (some []))) (h3 : W.heap[D3]? = some (.deferred (some []))) (hne : D3 ≠ D4) (hB3 : B ≤ D3) (hB4 : B ≤ D4) :
    NoP (bodyPostM Fence.wide 9 Try.prog Try.f4 (fun e w' => e = .returned (.bool true) ∧ Below w.heap.size w w')) .ret { tmps := tmps, defers := [{ target := .collected D4, args := #[] }, { target := .collected D3, args := #[] }] } (W.setCell ⟨R, 0, none⟩ (.bool true)) := by
  have r4 : D4 ≠ R := fun e => by
    have z : W.heap[R]? = some (.cells #[u] 4 (0, 0)) := bR
    rw [e, z] at h4; cases h4
  have r3 : D3 ≠ R := fun e => by
    have z : W.heap[R]? = some (.cells #[u] 4 (0, 0)) := bR
    rw [e, z] at h3; cases h3
  have bV := bR.set (.bool true)
  have hV := hb.setCell (p := ⟨R, 0, none⟩) hBR (.bool true)
  have V4 := (Below.heap_setCell W ⟨R, 0, none⟩ (.bool true) D4 r4).trans h4
  have V3 := (Below.heap_setCell W ⟨R, 0, none⟩ (.bool true) D3 r3).trans h3
  generalize W.setCell ⟨R, 0, none⟩ (.bool true) = V at bV hV V4 V3 ⊢
  have l4 : D4 < V.heap.size := (Array.getElem?_eq_some_iff.1 V4).1
  have l3 : D3 < V.heap.size := (Array.getElem?_eq_some_iff.1 V3).1
  have hU := hV.trans ((Below.refl B V).grown (grownBy_putObj' V D4 (.deferred none)) (by omega) (fun k e => by cases e; omega))
  have bU := bV.kept (grownBy_putObj' V D4 (.deferred none)) (fun e => r4 (by cases e; rfl))
  have U3 := ((grownBy_putObj' V D4 (.deferred none)).block D3 l3 (fun e => hne (by cases e; rfl))).trans V3
  have t4 := run_takeDeferred (P := Try.prog) V4
  generalize V.putObj D4 (.deferred none) = U at hU bU U3 t4
  have l3' : D3 < U.heap.size := (Array.getElem?_eq_some_iff.1 U3).1
  have hX := hU.trans ((Below.refl B U).grown (grownBy_putObj' U D3 (.deferred none)) (by omega) (fun k e => by cases e; omega))
  have bX := bU.kept (grownBy_putObj' U D3 (.deferred none)) (fun e => r3 (by cases e; rfl))
  exact ⟨by simp, .inl ⟨_, _, rfl, t4, ⟨by simp, .inl ⟨_, _, rfl, run_takeDeferred U3, ⟨.bool true, res_mm2 tmps _ R hp bX.cell, rfl, by rw [hw]; exact hX⟩⟩⟩⟩⟩
end Go.Proofs.Ytfdafoibclfpgaa
