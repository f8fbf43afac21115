/-
  A law's arguments that are slices of numbers, opened, with the reach that each slice keeps; a slice of bytes reads as a list of bytes.
  A slice of structs whose fields are of one cell each, as an argument: its cells, and how each field reads. No function of the project is named here.
  An argument that is a struct of two integers, opened. No program is named here.
-/
import Derived.Test.YtfdafoibclfpgaaRows
import Derived.Test.YtfdafoibclfpgaaHasA
import Derived.Deep.Strs
import Derived.SizedLaws
import Derived.Test.YtfdafoibclfpgaaStay
namespace Go.Proofs.Ytfdafoibclfpgaa
open Go.ChangeShapes Go.WideShapes Go.ChangeAt Go.RowKit Go.Deep
set_option linter.unusedVariables false
section
variable {P : Program}
/-- A slice of integers of one kind, and what it is written as. -/
theorem open_rows {H : Type} {enc : TypeId × Value → H} {W : World} {t e : TypeId} {k : IntKind} (ht : P.underlying t = some (.slice e)) (he : P.underlying e = some (.int k)) (hc : P.cellsOf e = 1) {p : Option Addr} {len cap : Nat} {d : DataW H} {ps : List MemPlace}
    (h : DataW.Trod enc P W 0 (fun _ => true) true t (.slice p len cap) d ps) :
    len ≤ cap ∧ cap ≤ maxLen ∧ (cap = 0 ∨ ∃ el sp : List (DataW H), d = .slice el sp ∧ el.length + sp.length = cap) ∧ ∃ (b off : Nat) (Z : Nat → Int), (0 < len → p = some ⟨b, off, none⟩ ∧ b < W.heap.size) ∧ ∀ i, i < len → W.cell? ⟨b, off + i, none⟩ = some (.int k (Z i)) ∧ (Lit.int k (Z i)).wf = true := by
  obtain ⟨fuel, hf⟩ := h
  rcases open_ints ht he hc hf with ⟨hcs, _⟩ | ⟨a, len', cap', zs, hcs, _, hl, hm, hz, hx, hcell, hw⟩
  · simp [Value.cells] at hcs
    obtain ⟨rfl, rfl, rfl⟩ := hcs
    exact ⟨Nat.le_refl _, Nat.zero_le _, .inl rfl, 0, 0, fun _ => 0, fun h => absurd h (Nat.lt_irrefl _), fun i hi => absurd hi (Nat.not_lt_zero _)⟩
  · simp [Value.cells] at hcs
    obtain ⟨rfl, rfl, rfl⟩ := hcs
    simp only [if_true] at hz
    simp only [Prod.mk.injEq] at hx
    refine ⟨hl, hm, .inr ⟨_, _, hx.1, by simp only [lits, List.length_map, List.length_take, List.length_drop]; omega⟩, ?_⟩
    by_cases h0 : len = 0
    · subst h0
      exact ⟨0, 0, fun _ => 0, fun h => absurd h (Nat.lt_irrefl _), fun i hi => absurd hi (Nat.not_lt_zero _)⟩
    · have h00 := hcell 0 (by omega)
      obtain ⟨b, off, spot⟩ := a
      have hspot : spot = none := by simpa [Addr.add] using World.cell?_spot h00
      subst hspot
      rw [add_plain] at h00
      have hlt : b < W.heap.size := by
        rcases Nat.lt_or_ge b W.heap.size with h' | h'
        · exact h'
        · simp [World.cell?, Array.getElem?_eq_none h'] at h00
      refine ⟨b, off, fun i => zs.getD i 0, fun _ => ⟨rfl, hlt⟩, fun i hi => ⟨by rw [← add_plain]; exact hcell i (by omega), hw _ ?_⟩⟩
      show zs.getD i 0 ∈ zs
      rw [List.getD_eq_getElem?_getD, List.getElem?_eq_getElem (by omega)]
      exact List.getElem_mem _
/-- The reach of a slice that was read. -/
theorem cap_reach {H : Type} {ts : List TypeId} {ds : List (DataW H)} (h : (DataW.weightsEach P ts ds).all (· ≤ reachBytes) = true) {j : Nat} {t e : TypeId} {d : DataW H} {cap b : Nat} (ht : ts[j]? = some t) (hd : ds[j]? = some d) (hu : P.underlying t = some (.slice e)) (hb : P.bytesOf e = b)
    (hs : cap = 0 ∨ ∃ el sp : List (DataW H), d = .slice el sp ∧ el.length + sp.length = cap) : cap * b ≤ 140737488351232 := by
  rcases hs with rfl | ⟨el, sp, rfl, hl⟩
  · omega
  · have h1 := sized_slice h ht hd hu
    rw [hb, hl] at h1
    exact h1
/-- A slice of bytes. -/
theorem hasA_of_rows {W : World} {p : Option Addr} {len cap b off : Nat} {Z : Nat → Int} (hl : len ≤ cap) (hm : cap ≤ maxLen) (hp : 0 < len → p = some ⟨b, off, none⟩ ∧ b < W.heap.size)
    (hZ : ∀ i, i < len → W.cell? ⟨b, off + i, none⟩ = some (.int .u8 (Z i)) ∧ (Lit.int .u8 (Z i)).wf = true) :
    ∃ l : List UInt8, l.length = len ∧ HasA W (.slice p len cap) l := by
  have hlen : ((List.range len).map fun i => UInt8.ofNat (Z i).toNat).length = len := by simp
  refine ⟨(List.range len).map fun i => UInt8.ofNat (Z i).toNat, hlen, p, cap, b, off, by rw [hlen], by rw [hlen]; exact hl, hm, by rw [hlen]; exact hp, fun j hj => ?_⟩
  rw [hlen] at hj
  obtain ⟨hc, hw⟩ := hZ j hj
  rw [hc]
  simp only [Lit.wf, Bool.and_eq_true, decide_eq_true_eq] at hw
  have h1 : 0 ≤ Z j ∧ Z j ≤ 255 := hw
  have h2 : (((List.range len).map fun i => UInt8.ofNat (Z i).toNat)[j]).toNat = (Z j).toNat := by
    rw [List.getElem_map, List.getElem_range]
    show (Z j).toNat % 256 = _
    omega
  rw [h2, Int.toNat_of_nonneg h1.1]
end
end Go.Proofs.Ytfdafoibclfpgaa
namespace Go.Proofs.Ytfdafoibclfpgaa
open Go.ChangeShapes Go.WideShapes Go.ChangeAt Go.RowKit Go.Deep
set_option linter.unusedVariables false
section
variable {P : Program} {H : Type} {enc : TypeId × Value → H} {W : World}
theorem weights_some {e : TypeId} {d : DataW H} : ∀ {l : List (DataW H)}, d ∈ l → ∀ n ∈ d.weights P e, n ∈ DataW.weightsAll P e l
  | [], h, _, _ => nomatch h
  | x :: r, h, n, hn => by
    simp only [DataW.weightsAll, List.mem_append]
    rcases List.mem_cons.1 h with rfl | h
    · exact .inl hn
    · exact .inr (weights_some h n hn)
/-- One field of an element: how it reads, and that all in it is within the reach. -/
def Fld (enc : TypeId × Value → H) (P : Program) (W : World) (t : TypeId) (v : Value) : Prop :=
  ∃ (y : DataW H × List MemPlace) (n : Nat), DataW.trod enc P W 0 (fun _ => true) true n t [v] = some y ∧ ∀ k ∈ y.1.weights P t, k ≤ reachBytes
theorem open_structsR {ts : List TypeId} {ds : List (DataW H)} (hsz : (DataW.weightsEach P ts ds).all (· ≤ reachBytes) = true) {j : Nat} {t e : TypeId} {d : DataW H} (hj : ts[j]? = some t) (hd : ds[j]? = some d)
    {fs : Array Field} (ht : P.underlying t = some (.slice e)) (he : P.underlying e = some (.struct fs)) (hone : oneCellFields P fs = true) (hC : P.cellsOf e = fs.size) (hpos : 0 < fs.size) {p : Option Addr} {len cap : Nat} {ps : List MemPlace}
    (h : DataW.Trod enc P W 0 (fun _ => true) true t (.slice p len cap) d ps) :
    len ≤ cap ∧ cap ≤ maxLen ∧ (cap = 0 ∨ ∃ el sp : List (DataW H), d = .slice el sp ∧ el.length + sp.length = cap) ∧ ∃ (b off : Nat), (0 < len → p = some ⟨b, off, none⟩ ∧ b < W.heap.size) ∧
      ∀ i, i < len → ∀ (j : Nat) (f : Field), fs[j]? = some f → ∃ v, W.cell? ⟨b, off + i * fs.size + j, none⟩ = some v ∧ Fld enc P W f.type v := by
  obtain ⟨fuel, hf⟩ := h
  rcases open_slice ht hf with ⟨hcs, _⟩ | ⟨a, len', cap', m, n, D, Pl, hcs, _, hl, hm, hmm, hx, hi⟩
  · simp [Value.cells] at hcs
    obtain ⟨rfl, rfl, rfl⟩ := hcs
    exact ⟨Nat.le_refl _, Nat.zero_le _, .inl rfl, 0, 0, fun h => absurd h (Nat.lt_irrefl _), fun i hi => absurd hi (Nat.not_lt_zero _)⟩
  · simp [Value.cells] at hcs
    obtain ⟨rfl, rfl, rfl⟩ := hcs
    simp only [if_true] at hmm
    subst hmm
    simp only [Prod.mk.injEq] at hx
    refine ⟨hl, hm, .inr ⟨_, _, hx.1, by simp only [List.length_map, List.length_range]; omega⟩, ?_⟩
    have hall : ∀ i, i < len → ∀ (j : Nat) (f : Field), fs[j]? = some f → ∃ v, W.cell? (a.add (i * fs.size + j)) = some v ∧ Fld enc P W f.type v := by
      intro i hil k f hk
      obtain ⟨cs, hc, hr⟩ := hi i (by omega)
      rw [hC] at hc
      obtain ⟨_, hcl, hat⟩ := World.cells?_some hc
      obtain ⟨ys, m', _, hy, _, hyl, hg⟩ := DataW.trod_struct he hr
      obtain ⟨ho, hcf⟩ := hone_of hone k f hk
      have hkl : k < fs.size := (Array.getElem?_eq_some_iff.1 hk).1
      have hg' := hg k f hk
      rw [ho, hcf, List.drop_eq_getElem_cons (by omega : k < cs.length), List.take_succ_cons, List.take_zero] at hg'
      have hyk : ys[k]? = some (ys[k]'(by omega)) := List.getElem?_eq_getElem (by omega)
      refine ⟨cs[k]'(by omega), ?_, ys[k]'(by omega), m', hg'.trans hyk, fun w hw => ?_⟩
      · rw [← Go.Deep.add_add, hat k hkl, List.getElem?_eq_getElem (by omega : k < cs.length)]
      · have hDi : D i ∈ (List.range len).map D := List.mem_map.2 ⟨i, List.mem_range.2 hil, rfl⟩
        have h2 : w ∈ (D i).weights P e := by
          simp only [Prod.mk.injEq] at hy
          rw [hy.1]
          simp only [DataW.weights, he]
          refine DataW.weights_mem_each (j := k) (t := f.type) (d := (ys[k]'(by omega)).1) ?_ ?_ _ hw
          · rw [List.getElem?_map, Array.getElem?_toList, hk]; rfl
          · rw [List.getElem?_map, hyk]; rfl
        rw [hx.1] at hd
        have h3 : w ∈ DataW.weightsEach P ts ds := by
          refine DataW.weights_mem_each hj hd _ ?_
          simp only [DataW.weights, ht, List.mem_cons, List.mem_append]
          exact .inr (.inl (weights_some hDi w h2))
        simpa using List.all_eq_true.1 hsz _ h3
    obtain ⟨b, off, spot⟩ := a
    by_cases h0 : len = 0
    · subst h0
      exact ⟨0, 0, fun h => absurd h (Nat.lt_irrefl _), fun i hi => absurd hi (Nat.not_lt_zero _)⟩
    · obtain ⟨v, hv, _⟩ := hall 0 (by omega) 0 (fs[0]'hpos) (Array.getElem?_eq_getElem hpos)
      have hspot : spot = none := by simpa [Addr.add] using World.cell?_spot hv
      subst hspot
      have hlt : b < W.heap.size := by
        rcases Nat.lt_or_ge b W.heap.size with h' | h'
        · exact h'
        · simp [Addr.add, World.cell?, Array.getElem?_eq_none h'] at hv
      refine ⟨b, off, fun _ => ⟨rfl, hlt⟩, fun i hil k f hk => ?_⟩
      obtain ⟨v, hv, hF⟩ := hall i hil k f hk
      rw [add_plain, ← Nat.add_assoc] at hv
      exact ⟨v, hv, hF⟩
theorem Fld.int {t : TypeId} {v : Value} {k : IntKind} (h : Fld enc P W t v) (hk : P.underlying t = some (.int k)) : ∃ z, v = .int k z ∧ (Lit.int k z).wf = true := by
  obtain ⟨y, n, h1, _⟩ := h
  obtain ⟨z, hz, _, hw⟩ := DataW.trod_int hk h1
  exact ⟨z, by simpa using hz, hw⟩
theorem Fld.string {t : TypeId} {v : Value} (h : Fld enc P W t v) (hk : P.underlying t = some .string) : ∃ s : ByteArray, v = .string s ∧ s.size ≤ 140737488351232 := by
  obtain ⟨y, n, h1, h2⟩ := h
  obtain ⟨s, hz, rfl, _⟩ := DataW.trod_string hk h1
  refine ⟨s, by simpa using hz, ?_⟩
  have h3 := h2 s.data.toList.length (by simp [DataW.weights])
  have e : s.data.toList.length = s.size := by rw [Array.length_toList]; rfl
  rw [e] at h3
  exact h3
end
end Go.Proofs.Ytfdafoibclfpgaa
namespace Go.Proofs.Ytfdafoibclfpgaa
open Go.ChangeShapes Go.WideShapes Go.ChangeAt Go.RowKit Go.Deep
set_option linter.unusedVariables false
section
variable {H : Type} {enc : TypeId × Value → H} {P : Program}
theorem open_pair {W : World} {r : Reach} {b0 base : Nat} {sp : Nat → Bool} {held : Bool} {t : TypeId} {f0 f1 : Field} {k0 k1 : IntKind} {v : Value} {d : DataW H} {ps : List MemPlace} (ht : P.underlying t = some (.struct #[f0, f1])) (h0 : P.underlying f0.type = some (.int k0)) (h1 : P.underlying f1.type = some (.int k1))
    (o0 : f0.offset = 0) (o1 : f1.offset = 1) (c0 : P.cellsOf f0.type = 1) (c1 : P.cellsOf f1.type = 1) (c : P.cellsOf t = 2) (hval : Value.okWide P W r b0 t v) (hd : DataW.Trod enc P W base sp held t v d ps) :
    ∃ a b, v = .agg #[.int k0 a, .int k1 b] ∧ (Lit.int k0 a).wf = true ∧ (Lit.int k1 b).wf = true := by
  obtain ⟨cs, rfl, hcs⟩ := okWide_struct ht hval
  obtain ⟨fuel, hf⟩ := hd
  obtain ⟨y0, y1, n, _, hl, e0, e1⟩ := trod_struct2 ht hf
  rw [o0, c0] at e0
  rw [o1, c1] at e1
  obtain ⟨a, ha, _, wa⟩ := DataW.trod_int h0 e0
  obtain ⟨b, hb, _, wb⟩ := DataW.trod_int h1 e1
  refine ⟨a, b, ?_, wa, wb⟩
  rw [c] at hcs
  have hc : (Value.agg cs).cells = cs := rfl
  rw [hc] at ha hb
  obtain ⟨l⟩ := cs
  match l, hcs with
  | [x, y], _ =>
    simp at ha hb
    rw [ha, hb]
end
end Go.Proofs.Ytfdafoibclfpgaa
