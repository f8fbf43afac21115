/-
  A law's arguments that are slices of slices of bytes, opened.
-/
import Derived.Test.YtjopfhmloklhdaaDoorOpenA
import Derived.Test.YtjopfhmloklhdaaDoorListsA
namespace Go.Proofs.YtjopfhmloklhdaaDoor
open Go.ChangeShapes Go.WideShapes Go.ChangeAt Go.RowKit Go.Deep
set_option linter.unusedVariables false
section
variable {P : Program}
theorem cells_one {w : World} {base : Nat} {a : Addr} {cs : List Value} (h : w.cells? base a 1 = some cs) : ∃ v, cs = [v] ∧ w.cell? a = some v := by
  have h1 := World.cells?_some h
  obtain ⟨hb, hlen, hc⟩ := h1
  match cs, hlen with
  | [v], _ =>
    refine ⟨v, rfl, ?_⟩
    have := hc 0 (by omega)
    simpa [Addr.add] using this
/-- A slice of slices of bytes. -/
theorem open_hasL {H : Type} {enc : TypeId × Value → H} {W : World} {tt t e : TypeId} (htt : P.underlying tt = some (.slice t)) (hct : P.cellsOf t = 1) (ht : P.underlying t = some (.slice e)) (he : P.underlying e = some (.int .u8)) (hc : P.cellsOf e = 1)
    {v : Value} {d : DataW H} {ps : List MemPlace} (h : DataW.Trod enc P W 0 (fun _ => true) true tt v d ps) (hf : ∃ p len cap, v = .slice p len cap) : ∃ ls : List (List UInt8), HasL W v ls := by
  obtain ⟨p, len, cap, rfl⟩ := hf
  obtain ⟨fuel, hf⟩ := h
  rcases DataW.trod_slice htt hf with ⟨hcs, _⟩ | ⟨a, len', cap', elems, rest, n, _, hcs, _, _, hl, hm, hlen, hel, _⟩
  · simp [Value.cells] at hcs
    obtain ⟨rfl, rfl, rfl⟩ := hcs
    exact ⟨[], none, 0, 0, 0, rfl, Nat.le_refl _, Nat.zero_le _, fun h => absurd h (Nat.lt_irrefl _), fun j hj => absurd hj (Nat.not_lt_zero _)⟩
  · simp [Value.cells] at hcs
    obtain ⟨rfl, rfl, rfl⟩ := hcs
    rw [hct] at hel
    have each : ∀ i, i < len → ∃ y l, W.cell? (a.add i) = some y ∧ HasA W y l := fun i hi => by
      have h1 := hel i hi
      rw [List.getElem?_eq_getElem (by omega), Option.bind_eq_some_iff] at h1
      obtain ⟨cs, h2, h3⟩ := h1
      rw [Nat.mul_one] at h2
      obtain ⟨y, rfl, hy⟩ := cells_one h2
      obtain ⟨l, hA⟩ := hasA_of_trod ht he hc h3
      exact ⟨y, l, hy, hA⟩
    by_cases h0 : len = 0
    · subst h0
      exact ⟨[], some a, cap, 0, 0, rfl, Nat.zero_le _, hm, fun h => absurd h (Nat.lt_irrefl _), fun j hj => absurd hj (Nat.not_lt_zero _)⟩
    · obtain ⟨b, off, spot⟩ := a
      obtain ⟨y0, l0, hy0, _⟩ := each 0 (by omega)
      have hspot : spot = none := by simpa [Addr.add] using World.cell?_spot hy0
      subst hspot
      have hlt : b < W.heap.size := by
        rw [add_plain] at hy0
        rcases Nat.lt_or_ge b W.heap.size with h' | h'
        · exact h'
        · simp [World.cell?, Array.getElem?_eq_none h'] at hy0
      have hch : ∃ f : Nat → List UInt8, ∀ i, i < len → ∃ y, W.cell? ⟨b, off + i, none⟩ = some y ∧ HasA W y (f i) := by
        refine ⟨fun i => if hi : i < len then Classical.choose (Classical.choose_spec (each i hi)) else [], fun i hi => ?_⟩
        have hs := Classical.choose_spec (Classical.choose_spec (each i hi))
        refine ⟨Classical.choose (each i hi), by rw [← add_plain]; exact hs.1, ?_⟩
        simp only [dif_pos hi]
        exact hs.2
      obtain ⟨f, hf'⟩ := hch
      have hlen' : ((List.range len).map f).length = len := by simp
      refine ⟨(List.range len).map f, some ⟨b, off, none⟩, cap, b, off, by rw [hlen'], by rw [hlen']; exact hl, hm, fun _ => ⟨rfl, hlt⟩, fun j hj => ?_⟩
      rw [hlen'] at hj
      obtain ⟨y, hy, hA⟩ := hf' j hj
      refine ⟨y, hy, ?_⟩
      simpa using hA
end
end Go.Proofs.YtjopfhmloklhdaaDoor
