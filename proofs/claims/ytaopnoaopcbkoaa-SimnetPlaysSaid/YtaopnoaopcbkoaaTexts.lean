/-
  Texts as arguments (a slice of texts), and a text made bytes. No function of the project is named here.
-/
import Derived.Test.YtaopnoaopcbkoaaOpenG
import Derived.Lib.ConvBytes
namespace Go.Proofs.Ytaopnoaopcbkoaa
open Go.ChangeShapes Go.WideShapes Go.ChangeAt Go.RowKit Go.Deep
set_option linter.unusedVariables false
section
variable {P : Program}
theorem weights_part {H : Type} {e : TypeId} {d : DataW H} : ∀ {l : List (DataW H)}, d ∈ l → ∀ n ∈ d.weights P e, n ∈ DataW.weightsAll P e l
  | [], h, _, _ => nomatch h
  | x :: r, h, n, hn => by
    simp only [DataW.weightsAll, List.mem_append]
    rcases List.mem_cons.1 h with rfl | h
    · exact .inl hn
    · exact .inr (weights_part h n hn)
/-- A slice of texts, and what it is written as; each text is within the reach. -/
theorem open_textsR {H : Type} {enc : TypeId × Value → H} {W : World} {ts : List TypeId} {ds : List (DataW H)} (hsz : (DataW.weightsEach P ts ds).all (· ≤ reachBytes) = true) {j : Nat} {t e : TypeId} {d : DataW H} (hj : ts[j]? = some t) (hd : ds[j]? = some d)
    (ht : P.underlying t = some (.slice e)) (he : P.underlying e = some .string) (hc : P.cellsOf e = 1) {p : Option Addr} {len cap : Nat} {ps : List MemPlace}
    (h : DataW.Trod enc P W 0 (fun _ => true) true t (.slice p len cap) d ps) :
    len ≤ cap ∧ cap ≤ maxLen ∧ (cap = 0 ∨ ∃ el sp : List (DataW H), d = .slice el sp ∧ el.length + sp.length = cap) ∧ ∃ (b off : Nat) (S : Nat → ByteArray), (0 < len → p = some ⟨b, off, none⟩ ∧ b < W.heap.size) ∧ ∀ i, i < len → W.cell? ⟨b, off + i, none⟩ = some (.string (S i)) ∧ (S i).size ≤ 140737488351232 := by
  obtain ⟨fuel, hf⟩ := h
  rcases open_strs ht he hc hf with ⟨hcs, _⟩ | ⟨a, len', cap', m, Sx, hcs, _, hl, hm, hmm, hx, hcell⟩
  · simp [Value.cells] at hcs
    obtain ⟨rfl, rfl, rfl⟩ := hcs
    exact ⟨Nat.le_refl _, Nat.zero_le _, .inl rfl, 0, 0, fun _ => ⟨#[]⟩, fun h => absurd h (Nat.lt_irrefl _), fun i hi => absurd hi (Nat.not_lt_zero _)⟩
  · simp [Value.cells] at hcs
    obtain ⟨rfl, rfl, rfl⟩ := hcs
    simp only [if_true] at hmm
    subst hmm
    simp only [Prod.mk.injEq] at hx
    refine ⟨hl, hm, .inr ⟨_, _, hx.1, by simp only [List.length_map, List.length_range]; omega⟩, ?_⟩
    by_cases h0 : len = 0
    · subst h0
      exact ⟨0, 0, fun _ => ⟨#[]⟩, fun h => absurd h (Nat.lt_irrefl _), fun i hi => absurd hi (Nat.not_lt_zero _)⟩
    · have h00 := (hcell 0 (by omega)).1
      obtain ⟨b, off, spot⟩ := a
      have hspot : spot = none := by simpa [Addr.add] using World.cell?_spot h00
      subst hspot
      rw [add_plain] at h00
      have hlt : b < W.heap.size := by
        rcases Nat.lt_or_ge b W.heap.size with h' | h'
        · exact h'
        · simp [World.cell?, Array.getElem?_eq_none h'] at h00
      refine ⟨b, off, Sx, fun _ => ⟨rfl, hlt⟩, fun i hi => ⟨by rw [← add_plain]; exact (hcell i (by omega)).1, ?_⟩⟩
      have hin : DataW.lit (.string (Sx i).data.toList) ∈ (List.range len).map fun i => (DataW.lit (.string (Sx i).data.toList) : DataW H) := List.mem_map.2 ⟨i, List.mem_range.2 hi, rfl⟩
      rw [hx.1] at hd
      have hmem : (Sx i).data.toList.length ∈ DataW.weightsEach P ts ds := by
        refine DataW.weights_mem_each hj hd _ ?_
        have h1 := weights_part (P := P) (e := e) hin (Sx i).data.toList.length (by simp [DataW.weights])
        simp only [DataW.weights, ht, List.mem_cons, List.mem_append]
        exact .inr (.inl h1)
      have h2 := List.all_eq_true.1 hsz _ hmem
      have h3 : (Sx i).data.toList.length ≤ reachBytes := by simpa using h2
      have e2 : (Sx i).data.toList.length = (Sx i).size := by rw [Array.length_toList]; rfl
      rw [e2] at h3
      exact h3
theorem conv_has (w : World) (e : TypeId) (s : ByteArray) (hs : s.size ≤ 140737488351232) : HasA (Lib.bytesWorld w e s) (.slice (some ⟨w.heap.size, 0, none⟩) s.size (grownCap w s.size 0 e)) s.data.toList := by
  have hl : s.data.toList.length = s.size := by rw [Array.length_toList]; rfl
  have hm : s.size ≤ maxLen := by unfold maxLen; omega
  refine ⟨_, _, w.heap.size, 0, by rw [hl], by rw [hl]; exact grownCap_ge w s.size 0 e, grownCap_le_maxLen w s.size 0 e hm, fun _ => ⟨rfl, by rw [Lib.bytesWorld_size]; omega⟩, fun j hj => ?_⟩
  rw [Nat.zero_add, Lib.bytesWorld_cell w e s j (by omega), List.getD_eq_getElem?_getD, List.getElem?_eq_getElem hj]
  rfl
theorem conv_below (w : World) (e : TypeId) (s : ByteArray) : Below w.heap.size w (Lib.bytesWorld w e s) :=
  ⟨rfl, rfl, rfl, by rw [Lib.bytesWorld_size]; omega, fun k hk => Lib.bytesWorld_at_old w e s k hk⟩
end
end Go.Proofs.Ytaopnoaopcbkoaa
