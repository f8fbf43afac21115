/-
  Package sha: what a hash is to its callers: what it has taken; whether it was asked.
-/
import Derived.Test.YtjopfhmloklhdaaDoorMasked
namespace Go.Proofs.YtjopfhmloklhdaaDoor
open Go.ChangeShapes Go.WideShapes Go.ChangeAt Go.RowKit Go.Deep
set_option linter.unusedVariables false
set_option linter.unusedSimpArgs false

/-- A hash that took the bytes l and was not asked yet. -/
def HStd (w : World) (R : Nat) (l : List UInt8) : Prop := ∃ h, HashIs w R h ∧ h.closed = false ∧ h.done = 0 ∧ h.lock = 0 ∧ h.len = l.length ∧ Took l h.st h.rest (l.length % 64)
/-- One that was asked. -/
def HDone (w : World) (R : Nat) (l : List UInt8) : Prop := ∃ h, HashIs w R h ∧ h.closed = true ∧ h.done = 1 ∧ h.dig = shaOf l ∧ h.len = l.length
theorem HStd.lt {w : World} {R : Nat} {l : List UInt8} (h : HStd w R l) : R < w.heap.size := by
  obtain ⟨h, hi, _⟩ := h
  exact lt_of_block hi.1
theorem HDone.lt {w : World} {R : Nat} {l : List UInt8} (h : HDone w R l) : R < w.heap.size := by
  obtain ⟨h, hi, _⟩ := h
  exact lt_of_block hi.1
theorem HStd.same {w w' : World} {R : Nat} {l : List UInt8} (h : HStd w R l) (hb : w'.heap[R]? = w.heap[R]?) : HStd w' R l := by
  obtain ⟨h, hi, r⟩ := h
  exact ⟨h, ⟨hb.trans hi.1, hi.2⟩, r⟩
theorem HDone.same {w w' : World} {R : Nat} {l : List UInt8} (h : HDone w R l) (hb : w'.heap[R]? = w.heap[R]?) : HDone w' R l := by
  obtain ⟨h, hi, r⟩ := h
  exact ⟨h, ⟨hb.trans hi.1, hi.2⟩, r⟩
theorem HStd.below {w w' : World} {R : Nat} {l : List UInt8} (h : HStd w R l) (hb : Below w.heap.size w w') : HStd w' R l := h.same (hb.block R h.lt)
theorem HDone.below {w w' : World} {R : Nat} {l : List UInt8} (h : HDone w R l) (hb : Below w.heap.size w w') : HDone w' R l := h.same (hb.block R h.lt)
theorem HStd.kp {w w' : World} {R S : Nat} {l : List UInt8} (h : HStd w R l) (hk : Kp S w w') (hn : R ≠ S) : HStd w' R l := h.same (hk.block R h.lt hn)
theorem HDone.kp {w w' : World} {R S : Nat} {l : List UInt8} (h : HDone w R l) (hk : Kp S w w') (hn : R ≠ S) : HDone w' R l := h.same (hk.block R h.lt hn)
theorem New_std (w : World) (hG : Grnd w) : Calls Tryd.prog 11 #[] w fun e w' => e = .returned (.pointer (some ⟨w.heap.size, 0, none⟩)) ∧ HStd w' w.heap.size [] ∧ Below w.heap.size w w' :=
  (New_any w shaStart hG.sta).mono fun e w' ⟨h1, h2, h3⟩ => ⟨h1, ⟨_, h2, rfl, rfl, rfl, rfl, took_new⟩, h3⟩
theorem Write_std (w : World) (R : Nat) (l : List UInt8) (hh : HStd w R l) (v : Value) (b : List UInt8) (hb : HasA w v b) (hne : 0 < b.length → v.ownBlock ≠ some R) (hbd : l.length + b.length ≤ 1125899906842624) (hG : Grnd w) (hgR : 1 ≠ R) :
    Calls Tryd.prog 13 #[.pointer (some ⟨R, 0, none⟩), v] w fun e w' => e = .returned (.int .i64 (b.length : Int)) ∧ Kp R w w' ∧ HStd w' R (l ++ b) := by
  obtain ⟨h, hi, hc, hd, hf, hl, ht⟩ := hh
  refine (Write_any w R h hi hc hf l ht hl v b hb hne hbd hG.rnd hG.r hgR).mono ?_
  rintro e w' ⟨h1, h2, h3, hs, hl3, ht3⟩
  exact ⟨h1, h2, h3, hs.is, hs.open_, hs.done.trans hd, hs.free, by rw [hl3, List.length_append], by rw [List.length_append]; exact ht3⟩
theorem Sum_std (w : World) (R : Nat) (l : List UInt8) (hh : HStd w R l) (hbd : l.length ≤ 1125899906842624) (hG : Grnd w) (hgR : 1 ≠ R) :
    Calls Tryd.prog 12 #[.pointer (some ⟨R, 0, none⟩)] w fun e w' => e = .returned (.agg (Lib.byteCells (shaOf l)).toArray) ∧ HDone w' R l ∧ Kp R w w' := by
  obtain ⟨h, hi, hc, hd, hf, hl, ht⟩ := hh
  refine (HSum_first w R h hi hd hf l ht hl hbd hG.rnd hG.r hgR).mono ?_
  rintro e w' ⟨h1, h2, h3⟩
  exact ⟨h1, ⟨_, h2, rfl, rfl, rfl, hl⟩, h3⟩
theorem Sum_again (w : World) (R : Nat) (l : List UInt8) (hh : HDone w R l) :
    Calls Tryd.prog 12 #[.pointer (some ⟨R, 0, none⟩)] w fun e w' => e = .returned (.agg (Lib.byteCells (shaOf l)).toArray) ∧ HDone w' R l ∧ Kp R w w' := by
  obtain ⟨h, hi, hc, hd, hg, hl⟩ := hh
  refine (HSum_done w R h hi hd).mono ?_
  rintro e w' ⟨h1, h2, h3⟩
  rw [hg] at h1
  exact ⟨h1, ⟨h, h2, hc, hd, hg, hl⟩, h3⟩
theorem Len_std (w : World) (R : Nat) (l : List UInt8) (hh : HStd w R l) : Calls Tryd.prog 15 #[.pointer (some ⟨R, 0, none⟩)] w fun e w' => e = .returned (.int .i64 (l.length : Int)) ∧ w' = w := by
  obtain ⟨h, hi, hc, hd, hf, hl, ht⟩ := hh
  rw [← hl]
  exact Len_any w R h hi
theorem Len_done (w : World) (R : Nat) (l : List UInt8) (hh : HDone w R l) : Calls Tryd.prog 15 #[.pointer (some ⟨R, 0, none⟩)] w fun e w' => e = .returned (.int .i64 (l.length : Int)) ∧ w' = w := by
  obtain ⟨h, hi, hc, hd, hg, hl⟩ := hh
  rw [← hl]
  exact Len_any w R h hi
theorem Write_done (w : World) (R : Nat) (l : List UInt8) (hh : HDone w R l) (v : Value) : Calls Tryd.prog 13 #[.pointer (some ⟨R, 0, none⟩), v] w fun e w' => e = .returned (.int .i64 0) ∧ w' = w := by
  obtain ⟨h, hi, hc, hd, hg, hl⟩ := hh
  exact Write_closed w R h hi hc v
/-- A row of bytes as a slice. -/
theorem BRow.hasA {w : World} {t : TypeId} {g : Nat} {l : List UInt8} (h : BRow w t g l) (n : Nat) (hn : n = l.length) (hm : n ≤ 1000000) : HasA w (.slice (some ⟨g, 0, none⟩) n n) l := by
  subst hn
  refine ⟨_, l.length, g, 0, rfl, Nat.le_refl _, by unfold maxLen; omega, fun _ => ⟨rfl, h.lt⟩, fun j hj => ?_⟩
  rw [Nat.zero_add, h.cell j hj, List.getD_eq_getElem?_getD, List.getElem?_eq_getElem hj]
  rfl
theorem BRow.kp {w w' : World} {t : TypeId} {g S : Nat} {l : List UInt8} (h : BRow w t g l) (hk : Kp S w w') (hn : g ≠ S) : BRow w' t g l := (hk.block g h.lt hn).trans h
/-- A key as a block. -/
def keyB (key : List UInt8) : List UInt8 := if key.length ≤ 64 then key ++ zeros (64 - key.length) else shaOf key ++ zeros 32
theorem keyB_len (key : List UInt8) : (keyB key).length = 64 := by
  unfold keyB
  split
  · rw [List.length_append]; simp only [zeros, List.length_replicate]; omega
  · rw [List.length_append, shaOf_len]; rfl
def macOf (key b : List UInt8) : List UInt8 := shaOf (maskOf (keyB key) 92 ++ shaOf (maskOf (keyB key) 54 ++ b))
end Go.Proofs.YtjopfhmloklhdaaDoor
