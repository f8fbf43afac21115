/-
  A law's argument that is a slice of slices of items, opened.
-/
import Derived.Test.YtfdafoibclfpgaaMOpen
import Derived.Test.YtfdafoibclfpgaaMRefMrg
namespace Go.Proofs.Ytfdafoibclfpgaa
open Go.ChangeShapes Go.WideShapes Go.ChangeAt Go.RowKit Go.Deep
set_option linter.unusedVariables false
section
variable {H : Type} {enc : TypeId × Value → H} {W : World}
theorem item_of_trod {n : Nat} {cs : List Value} {x : DataW H × List MemPlace} (h : DataW.trod enc Try.prog W 0 (fun _ => true) true n 29 cs = some x) : ∃ y : Itm, cs = y.cs := by
  obtain ⟨ys, m', _, hy, hcl, hyl, hg⟩ := DataW.trod_struct Try.underlying29 h
  have hc : cs.length = 4 := by rw [hcl]; kernel_rfl
  match cs, hc with
  | [a, b, c, d], _ =>
    have h0 := hg 0 _ rfl
    have h1 := hg 1 _ rfl
    have h2 := hg 2 _ rfl
    have h3 := hg 3 _ rfl
    have k : ∀ {j : Nat} {t : TypeId} {v : List Value}, DataW.trod enc Try.prog W 0 (fun _ => true) true m' t v = ys[j]? → j < ys.length → ∃ z, DataW.trod enc Try.prog W 0 (fun _ => true) true m' t v = some z := fun e hj => ⟨_, e.trans (List.getElem?_eq_getElem hj)⟩
    have hy4 : ys.length = 4 := by simpa using hyl
    obtain ⟨z0, k0⟩ := k h0 (by omega)
    obtain ⟨z1, k1⟩ := k h1 (by omega)
    obtain ⟨z2, k2⟩ := k h2 (by omega)
    obtain ⟨z3, k3⟩ := k h3 (by omega)
    have e0 : DataW.trod enc Try.prog W 0 (fun _ => true) true m' 9 [a] = some z0 := k0
    have e1 : DataW.trod enc Try.prog W 0 (fun _ => true) true m' 27 [b] = some z1 := k1
    have e2 : DataW.trod enc Try.prog W 0 (fun _ => true) true m' 4 [c] = some z2 := k2
    have e3 : DataW.trod enc Try.prog W 0 (fun _ => true) true m' 9 [d] = some z3 := k3
    obtain ⟨s0, q0, _⟩ := DataW.trod_string Try.underlying9 e0
    obtain ⟨i1, q1, _, w1⟩ := DataW.trod_int Try.underlying27 e1
    obtain ⟨b2, q2, _⟩ := DataW.trod_bool Try.underlying4 e2
    obtain ⟨s3, q3, _⟩ := DataW.trod_string Try.underlying9 e3
    have h : IntKind.u64.min ≤ i1 ∧ i1 ≤ IntKind.u64.max := by simpa [Lit.wf] using w1
    have hm : IntKind.u64.min = 0 := by rfl
    obtain ⟨m, rfl⟩ : ∃ m : Nat, i1 = (m : Int) := ⟨i1.toNat, by omega⟩
    simp only [List.cons.injEq, and_true] at q0 q1 q2 q3
    subst q0; subst q1; subst q2; subst q3
    exact ⟨⟨s0, m, b2, s3⟩, rfl⟩
theorem items_of_trod {n : Nat} {v : Value} {x : DataW H × List MemPlace} (h : DataW.trod enc Try.prog W 0 (fun _ => true) true n 23 [v] = some x) : ∃ l : List Itm, HasK W encI v l := by
  rcases open_slice Try.underlying23 h with ⟨hcs, _⟩ | ⟨a, len, cap, m, n, D, Pl, hcs, _, hl, hm, hmm, hx, hi⟩
  · simp only [List.cons.injEq, and_true] at hcs
    subst hcs
    exact ⟨[], HasK.nil _ _⟩
  · simp only [List.cons.injEq, and_true] at hcs
    subst hcs
    simp only [if_true] at hmm
    subst hmm
    have hC : Try.prog.cellsOf 29 = 4 := by kernel_rfl
    have each : ∀ i, i < len → ∃ y : Itm, ∀ (j : Nat) (u : Value), y.cs[j]? = some u → W.cell? (a.add (i * 4 + j)) = some u := fun i hil => by
      obtain ⟨cs, hc, hr⟩ := hi i (by omega)
      rw [hC] at hc
      obtain ⟨y, rfl⟩ := item_of_trod hr
      obtain ⟨_, hcl, hat⟩ := World.cells?_some hc
      refine ⟨y, fun j u hj => ?_⟩
      have hj4 : j < 4 := by
        have := (List.getElem?_eq_some_iff.1 hj).1
        simpa [Itm.cs] using this
      rw [← Go.Deep.add_add, hat j hj4, hj]
    obtain ⟨b, off, spot⟩ := a
    by_cases h0 : len = 0
    · subst h0
      exact ⟨[], some ⟨b, off, spot⟩, m, 0, 0, rfl, Nat.zero_le _, hm, fun h => absurd h (Nat.lt_irrefl _), fun j hj => absurd hj (Nat.not_lt_zero _)⟩
    · obtain ⟨y0, hy0⟩ := each 0 (by omega)
      have hv := hy0 0 (.string y0.key) rfl
      have hspot : spot = none := by simpa [Addr.add] using World.cell?_spot hv
      subst hspot
      have hlt : b < W.heap.size := by
        rcases Nat.lt_or_ge b W.heap.size with h' | h'
        · exact h'
        · simp [Addr.add, World.cell?, Array.getElem?_eq_none h'] at hv
      have hch : ∃ f : Nat → Itm, ∀ i, i < len → ∀ (j : Nat) (u : Value), (f i).cs[j]? = some u → W.cell? ⟨b, off + i * 4 + j, none⟩ = some u := by
        refine ⟨fun i => if hi : i < len then Classical.choose (each i hi) else ⟨⟨#[]⟩, 0, false, ⟨#[]⟩⟩, fun i hi j u hu => ?_⟩
        simp only [dif_pos hi] at hu
        have z := Classical.choose_spec (each i hi) j u hu
        rw [add_plain, ← Nat.add_assoc] at z
        exact z
      obtain ⟨f, hf⟩ := hch
      have hlen' : ((List.range len).map f).length = len := by simp
      refine ⟨(List.range len).map f, some ⟨b, off, none⟩, m, b, off, by rw [hlen'], by rw [hlen']; exact hl, hm, fun _ => ⟨rfl, hlt⟩, fun i hi j u hu => ?_⟩
      rw [hlen'] at hi
      have hu' : (f i).cs[j]? = some u := by simpa [encI] using hu
      exact hf i hi j u hu'
theorem open_hasI {v : Value} {d : DataW H} {ps : List MemPlace} (h : DataW.Trod enc Try.prog W 0 (fun _ => true) true 30 v d ps) (hf : ∃ p len cap, v = .slice p len cap) : ∃ L : List (List Itm), HasI W v L := by
  obtain ⟨p, len, cap, rfl⟩ := hf
  obtain ⟨fuel, hf⟩ := h
  rcases open_slice Try.underlying30 hf with ⟨hcs, _⟩ | ⟨a, len', cap', m, n, D, Pl, hcs, _, hl, hm, hmm, hx, hi⟩
  · simp [Value.cells] at hcs
    obtain ⟨rfl, rfl, rfl⟩ := hcs
    exact ⟨[], HasI.nil _⟩
  · simp [Value.cells] at hcs
    obtain ⟨rfl, rfl, rfl⟩ := hcs
    simp only [if_true] at hmm
    subst hmm
    have hC : Try.prog.cellsOf 23 = 1 := by kernel_rfl
    have each : ∀ i, i < len → ∃ y l, W.cell? (a.add i) = some y ∧ HasK W encI y l := fun i hil => by
      obtain ⟨cs, hc, hr⟩ := hi i (by omega)
      rw [hC, Nat.mul_one] at hc
      obtain ⟨_, hcl, hat⟩ := World.cells?_some hc
      match cs, hcl with
      | [y], _ =>
        obtain ⟨l, hk⟩ := items_of_trod hr
        refine ⟨y, l, ?_, hk⟩
        have := hat 0 (by omega)
        simpa [Addr.add] using this
    obtain ⟨b, off, spot⟩ := a
    by_cases h0 : len = 0
    · subst h0
      exact ⟨[], some ⟨b, off, spot⟩, m, 0, 0, rfl, Nat.zero_le _, hm, fun h => absurd h (Nat.lt_irrefl _), fun j hj => absurd hj (Nat.not_lt_zero _)⟩
    · obtain ⟨y0, l0, hy0, _⟩ := each 0 (by omega)
      have hspot : spot = none := by simpa [Addr.add] using World.cell?_spot hy0
      subst hspot
      have hlt : b < W.heap.size := by
        rw [add_plain] at hy0
        rcases Nat.lt_or_ge b W.heap.size with h' | h'
        · exact h'
        · simp [World.cell?, Array.getElem?_eq_none h'] at hy0
      have hch : ∃ f : Nat → List Itm, ∀ i, i < len → ∃ y, W.cell? ⟨b, off + i, none⟩ = some y ∧ HasK W encI y (f i) := by
        refine ⟨fun i => if hi : i < len then Classical.choose (Classical.choose_spec (each i hi)) else [], fun i hi => ?_⟩
        have hs := Classical.choose_spec (Classical.choose_spec (each i hi))
        refine ⟨Classical.choose (each i hi), by rw [← add_plain]; exact hs.1, ?_⟩
        simp only [dif_pos hi]
        exact hs.2
      obtain ⟨f, hf'⟩ := hch
      have hlen' : ((List.range len).map f).length = len := by simp
      refine ⟨(List.range len).map f, some ⟨b, off, none⟩, m, b, off, by rw [hlen'], by rw [hlen']; exact hl, hm, fun _ => ⟨rfl, hlt⟩, fun j hj => ?_⟩
      rw [hlen'] at hj
      obtain ⟨y, hy, hk⟩ := hf' j hj
      exact ⟨y, hy, by simpa using hk⟩
end
end Go.Proofs.Ytfdafoibclfpgaa
