/-
  A law's arguments that are slices of numbers, opened, with the reach that each slice keeps; a slice of bytes reads as a list of bytes.
-/
import Derived.Test.YtfgfamafjkjakabRows
import Derived.Test.YtfgfamafjkjakabHasA
import Derived.Deep.Strs
import Derived.SizedLaws
namespace Go.Proofs.Ytfgfamafjkjakab
open Go.ChangeShapes Go.WideShapes Go.ChangeAt Go.RowKit Go.Deep
set_option linter.unusedVariables false
section
variable {P : Program}
/-- A slice of integers of one kind, and what it is written as. -/
theorem open_rows {H : Type} {enc : TypeId × Value → H} {W : World} {t e : TypeId} {k : IntKind} (ht : P.underlying t = some (.slice e)) (he : P.underlying e = some (.int k)) (hc : P.cellsOf e = 1) {p : Option Addr} {len cap : Nat} {d : DataW H} {ps : List MemPlace}
    (h : DataW.Trod enc P W 0 (fun _ => true) true t (.slice p len cap) d ps) :
    len ≤ cap ∧ cap ≤ maxLen ∧ (cap = 0 ∨ ∃ el sp : List (DataW H), d = .slice el sp ∧ el.length + sp.length = cap) ∧ ∃ (b off : Nat) (Z : Nat → Int), (0 < len → p = some ⟨b, off, none⟩ ∧ b < W.heap.size) ∧ ∀ i, i < len → W.cell? ⟨b, off + i, none⟩ = some (.int k (Z i)) ∧ (Lit.int k (Z i)).wf = true := by
  obtain ⟨fuel, hf⟩ := h
  rcases open_ints ht he hc hf with ⟨hcs, _⟩ | ⟨a, len', cap', zs, hcs, _, hl, hm, hz, hx, hcell, hw⟩
  · simp [Value.cells] at hcs
    obtain ⟨rfl, rfl, rfl⟩ := hcs
    exact ⟨Nat.le_refl _, Nat.zero_le _, .inl rfl, 0, 0, fun _ => 0, fun h => absurd h (Nat.lt_irrefl _), fun i hi => absurd hi (Nat.not_lt_zero _)⟩
  · simp [Value.cells] at hcs
    obtain ⟨rfl, rfl, rfl⟩ := hcs
    simp only [if_true] at hz
    simp only [Prod.mk.injEq] at hx
    refine ⟨hl, hm, .inr ⟨_, _, hx.1, by simp only [lits, List.length_map, List.length_take, List.length_drop]; omega⟩, ?_⟩
    by_cases h0 : len = 0
    · subst h0
      exact ⟨0, 0, fun _ => 0, fun h => absurd h (Nat.lt_irrefl _), fun i hi => absurd hi (Nat.not_lt_zero _)⟩
    · have h00 := hcell 0 (by omega)
      obtain ⟨b, off, spot⟩ := a
      have hspot : spot = none := by simpa [Addr.add] using World.cell?_spot h00
      subst hspot
      rw [add_plain] at h00
      have hlt : b < W.heap.size := by
        rcases Nat.lt_or_ge b W.heap.size with h' | h'
        · exact h'
        · simp [World.cell?, Array.getElem?_eq_none h'] at h00
      refine ⟨b, off, fun i => zs.getD i 0, fun _ => ⟨rfl, hlt⟩, fun i hi => ⟨by rw [← add_plain]; exact hcell i (by omega), hw _ ?_⟩⟩
      show zs.getD i 0 ∈ zs
      rw [List.getD_eq_getElem?_getD, List.getElem?_eq_getElem (by omega)]
      exact List.getElem_mem _
/-- The reach of a slice that was read. -/
theorem cap_reach {H : Type} {ts : List TypeId} {ds : List (DataW H)} (h : (DataW.weightsEach P ts ds).all (· ≤ reachBytes) = true) {j : Nat} {t e : TypeId} {d : DataW H} {cap b : Nat} (ht : ts[j]? = some t) (hd : ds[j]? = some d) (hu : P.underlying t = some (.slice e)) (hb : P.bytesOf e = b)
    (hs : cap = 0 ∨ ∃ el sp : List (DataW H), d = .slice el sp ∧ el.length + sp.length = cap) : cap * b ≤ 140737488351232 := by
  rcases hs with rfl | ⟨el, sp, rfl, hl⟩
  · omega
  · have h1 := sized_slice h ht hd hu
    rw [hb, hl] at h1
    exact h1
/-- A slice of bytes. -/
theorem hasA_of_rows {W : World} {p : Option Addr} {len cap b off : Nat} {Z : Nat → Int} (hl : len ≤ cap) (hm : cap ≤ maxLen) (hp : 0 < len → p = some ⟨b, off, none⟩ ∧ b < W.heap.size)
    (hZ : ∀ i, i < len → W.cell? ⟨b, off + i, none⟩ = some (.int .u8 (Z i)) ∧ (Lit.int .u8 (Z i)).wf = true) :
    ∃ l : List UInt8, l.length = len ∧ HasA W (.slice p len cap) l := by
  have hlen : ((List.range len).map fun i => UInt8.ofNat (Z i).toNat).length = len := by simp
  refine ⟨(List.range len).map fun i => UInt8.ofNat (Z i).toNat, hlen, p, cap, b, off, by rw [hlen], by rw [hlen]; exact hl, hm, by rw [hlen]; exact hp, fun j hj => ?_⟩
  rw [hlen] at hj
  obtain ⟨hc, hw⟩ := hZ j hj
  rw [hc]
  simp only [Lit.wf, Bool.and_eq_true, decide_eq_true_eq] at hw
  have h1 : 0 ≤ Z j ∧ Z j ≤ 255 := hw
  have h2 : (((List.range len).map fun i => UInt8.ofNat (Z i).toNat)[j]).toNat = (Z j).toNat := by
    rw [List.getElem_map, List.getElem_range]
    show (Z j).toNat % 256 = _
    omega
  rw [h2, Int.toNat_of_nonneg h1.1]
end
end Go.Proofs.Ytfgfamafjkjakab
