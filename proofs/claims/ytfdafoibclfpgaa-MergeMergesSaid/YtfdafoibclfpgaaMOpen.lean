/-
  Items and numbers among a law's arguments.
-/
import Derived.Test.YtfdafoibclfpgaaMThinP
import Derived.Test.YtfdafoibclfpgaaOpenGS
namespace Go.Proofs.Ytfdafoibclfpgaa
open Go.ChangeShapes Go.WideShapes Go.ChangeAt Go.RowKit Go.Deep
set_option linter.unusedVariables false
set_option linter.unusedSimpArgs false
/-- Items whose numbers and keys are a machine's. -/
structure Fits (l : List Itm) : Prop where
  keys : keysOk l
  seqs : seqOk l
theorem Fits.sub {a l : List Itm} (h : Fits l) (hs : a.Sublist l) : Fits a := ⟨fun x hx => h.keys x (hs.subset hx), fun x hx => h.seqs x (hs.subset hx)⟩
theorem Fld.bool {P : Program} {H : Type} {enc : TypeId × Value → H} {W : World} {t : TypeId} {v : Value} (h : Fld enc P W t v) (hk : P.underlying t = some .bool) : ∃ z, v = .bool z := by
  obtain ⟨y, n, h1, _⟩ := h
  obtain ⟨z, hz, _⟩ := DataW.trod_bool hk h1
  exact ⟨z, by simpa using hz⟩
theorem hasK_nums {W : World} {p : Option Addr} {n cap b o : Nat} {Z : Nat → Int} (hl : n ≤ cap) (hm : cap ≤ maxLen) (hp : 0 < n → p = some ⟨b, o, none⟩ ∧ b < W.heap.size) (h : ∀ i, i < n → W.cell? ⟨b, o + i, none⟩ = some (.int .u64 (Z i)) ∧ (Lit.int .u64 (Z i)).wf = true) :
    ∃ l : List Nat, l.length = n ∧ HasK W (encN .u64) (.slice p n cap) l ∧ ∀ x ∈ l, x ≤ alwaysN := by
  have hn : ((List.range n).map fun i => (Z i).toNat).length = n := by simp
  have hz : ∀ i, i < n → (((Z i).toNat : Nat) : Int) = Z i ∧ (Z i).toNat ≤ alwaysN := fun i hi => by
    have w1 := (h i hi).2
    have h : IntKind.u64.min ≤ Z i ∧ Z i ≤ IntKind.u64.max := by simpa [Lit.wf] using w1
    have h0 : IntKind.u64.min = 0 := by rfl
    have h9 : IntKind.u64.max = 18446744073709551615 := by rfl
    unfold alwaysN
    omega
  refine ⟨(List.range n).map fun i => (Z i).toNat, hn, ⟨p, cap, b, o, by rw [hn], by rw [hn]; exact hl, hm, fun h => hp (by rw [hn] at h; exact h), fun i hi j u hu => ?_⟩, fun x hx => ?_⟩
  · rw [hn] at hi
    rw [List.getElem_map, List.getElem_range] at hu
    cases j with
    | zero =>
      have hu' : Value.int .u64 (((Z i).toNat : Nat) : Int) = u := by simpa [encN] using hu
      rw [(hz i hi).1] at hu'
      subst hu'
      show W.cell? ⟨b, o + i * 1 + 0, none⟩ = _
      rw [Nat.mul_one, Nat.add_zero]
      exact (h i hi).1
    | succ j => simp [encN] at hu
  · obtain ⟨i, hi, rfl⟩ := List.mem_map.1 hx
    exact (hz i (List.mem_range.1 hi)).2
def Items (W : World) (b o len : Nat) : Prop := ∃ f : Nat → Itm, ∀ i, i < len → ItC W b (o + i * 4) (f i) ∧ (f i).key.size ≤ 140737488351232 ∧ (f i).seq ≤ alwaysN
theorem items_of {H : Type} {enc : TypeId × Value → H} {W : World} {b o len : Nat} {fs : Array Field} (he : Try.prog.underlying 29 = some (.struct fs))
    (h : ∀ i, i < len → ∀ (j : Nat) (f : Field), fs[j]? = some f → ∃ v, W.cell? ⟨b, o + i * fs.size + j, none⟩ = some v ∧ Fld enc Try.prog W f.type v) : Items W b o len := by
  rw [Try.underlying29] at he
  cases he
  have hone : ∀ i, i < len → ∃ x : Itm, ItC W b (o + i * 4) x ∧ x.key.size ≤ 140737488351232 ∧ x.seq ≤ alwaysN := by
    intro i hi
    obtain ⟨v0, c0, F0⟩ := h i hi 0 _ rfl
    obtain ⟨v1, c1, F1⟩ := h i hi 1 _ rfl
    obtain ⟨v2, c2, F2⟩ := h i hi 2 _ rfl
    obtain ⟨v3, c3, F3⟩ := h i hi 3 _ rfl
    obtain ⟨s0, rfl, w0⟩ := F0.string Try.underlying9
    obtain ⟨z1, rfl, w1⟩ := F1.int Try.underlying27
    obtain ⟨b2, rfl⟩ := F2.bool Try.underlying4
    obtain ⟨s3, rfl, w3⟩ := F3.string Try.underlying9
    have h : IntKind.u64.min ≤ z1 ∧ z1 ≤ IntKind.u64.max := by simpa [Lit.wf] using w1
    have h0 : IntKind.u64.min = 0 := by rfl
    have h9 : IntKind.u64.max = 18446744073709551615 := by rfl
    obtain ⟨m, rfl⟩ : ∃ m : Nat, z1 = (m : Int) := ⟨z1.toNat, by omega⟩
    exact ⟨⟨s0, m, b2, s3⟩, ⟨c0, c1, c2, c3⟩, w0, by show m ≤ alwaysN; unfold alwaysN; omega⟩
  refine ⟨fun i => if h : i < len then Classical.choose (hone i h) else ⟨⟨#[]⟩, 0, false, ⟨#[]⟩⟩, fun i hi => ?_⟩
  simp only [hi, dif_pos]
  exact Classical.choose_spec (hone i hi)
theorem hasK_items {W : World} {p : Option Addr} {n cap b o : Nat} (hl : n ≤ cap) (hm : cap ≤ maxLen) (hp : 0 < n → p = some ⟨b, o, none⟩ ∧ b < W.heap.size) (h : Items W b o n) : ∃ l : List Itm, l.length = n ∧ HasK W encI (.slice p n cap) l ∧ Fits l := by
  obtain ⟨f, hf⟩ := h
  have hn : ((List.range n).map f).length = n := by simp
  refine ⟨(List.range n).map f, hn, ⟨p, cap, b, o, by rw [hn], by rw [hn]; exact hl, hm, fun h => hp (by rw [hn] at h; exact h), fun i hi j u hu => ?_⟩, fun x hx => ?_, fun x hx => ?_⟩
  · rw [hn] at hi
    have hj : j < 4 := (List.getElem?_eq_some_iff.1 hu).1
    rw [List.getElem_map, List.getElem_range] at hu
    obtain ⟨⟨c0, c1, c2, c3⟩, _⟩ := hf i hi
    have hu : (Itm.cs (f i))[j]? = some u := hu
    unfold Itm.cs at hu
    show W.cell? ⟨b, o + i * 4 + j, none⟩ = some u
    rcases (by omega : j = 0 ∨ j = 1 ∨ j = 2 ∨ j = 3) with rfl | rfl | rfl | rfl
    · simp at hu; subst hu; exact c0
    · simp at hu; subst hu; exact c1
    · simp at hu; subst hu; exact c2
    · simp at hu; subst hu; exact c3
  · obtain ⟨i, hi, rfl⟩ := List.mem_map.1 hx
    exact (hf i (List.mem_range.1 hi)).2.1
  · obtain ⟨i, hi, rfl⟩ := List.mem_map.1 hx
    exact (hf i (List.mem_range.1 hi)).2.2
end Go.Proofs.Ytfdafoibclfpgaa
