/-
  Package sha: (*Hash).Sum, and Sum.
-/
import Derived.Test.YtjopfhmloklhdaaDoorHSum
namespace Go.Proofs.YtjopfhmloklhdaaDoor
open Go.ChangeShapes Go.WideShapes Go.ChangeAt Go.RowKit Go.Deep
set_option linter.unusedVariables false
set_option linter.unusedSimpArgs false

set_option maxRecDepth 100000 in
set_option maxHeartbeats 4000000 in
theorem HSum_of (w : World) (R : Nat) (h h' : HashV) (hi : HashIs w R h)
    (hdo : ∀ (w1 : World) (pl : Addr), Below w.heap.size w w1 → w1.cell? pl = some (.pointer (some ⟨R, 0, none⟩)) → pl.block < w1.heap.size → pl.block ≠ R →
      Calls Tryd.prog 24 #[.pointer (some ⟨R, 106, none⟩), .func (.func 25) #[] #[.pointer (some pl)]] w1 fun e w' => e = .returned (.tuple #[]) ∧ HashIs w' R h' ∧ Kp R w1 w') :
    Calls Tryd.prog 12 #[.pointer (some ⟨R, 0, none⟩)] w fun e w' => e = .returned (.agg (Lib.byteCells h'.dig).toArray) ∧ HashIs w' R h' ∧ Kp R w w' := by
  have hRl : R < w.heap.size := lt_of_block hi.1
  have HDO := Lib.hid hdo
  have hb1 := (Below.refl w.heap.size w).alloc (Nat.le_refl _) (.cells #[.pointer (some ⟨R, 0, none⟩)] 27)
  have hz1 := size_alloc1 w (.cells #[.pointer (some ⟨R, 0, none⟩)] 27)
  have hc1 : (w.alloc (.cells #[.pointer (some ⟨R, 0, none⟩)] 27)).cell? ⟨w.heap.size, 0, none⟩ = some (.pointer (some ⟨R, 0, none⟩)) := by
    unfold World.cell?
    rw [heap_alloc_new]
    rfl
  have HB1 := Lib.hid hb1
  have HZ1 := Lib.hid hz1
  have HC1 := Lib.hid hc1
  clear hi hdo hb1 hz1 hc1
  go_enter Tryd.func12, Tryd.ntmps12
  go_wp2_with (refine wpList_alloc_of rfl 23 (noBytes 32).toArray rfl made32 ?_)
  generalize w.alloc (.cells #[.pointer (some ⟨R, 0, none⟩)] 27) = w1 at *
  have hb2 : Below w.heap.size w (w1.alloc (.cells (noBytes 32).toArray 23)) := HB1.out.alloc (by rw [HZ1.out]; omega) _
  have hr2 : BRow (w1.alloc (.cells (noBytes 32).toArray 23)) 23 (w.heap.size + 1) (zeros 32) := by
    have q := heap_alloc_new w1 (.cells (noBytes 32).toArray 23)
    rw [HZ1.out] at q
    exact q
  have hc2 : (w1.alloc (.cells (noBytes 32).toArray 23)).cell? ⟨w.heap.size, 0, none⟩ = some (.pointer (some ⟨R, 0, none⟩)) := (((Below.refl w1.heap.size w1).alloc (Nat.le_refl _) (.cells (noBytes 32).toArray 23)).cell (p := ⟨w.heap.size, 0, none⟩) (by rw [HZ1.out]; show w.heap.size < _; omega)).trans HC1.out
  have hz2 : (w1.alloc (.cells (noBytes 32).toArray 23)).heap.size = w.heap.size + 2 := by rw [size_alloc1, HZ1.out]
  generalize w1.alloc (.cells (noBytes 32).toArray 23) = w2 at *
  refine (HDO.out w2 ⟨w.heap.size, 0, none⟩ hb2 hc2 (by rw [hz2]; show w.heap.size < _; omega) (by show w.heap.size ≠ R; omega)).mono ?_
  rintro e w3 ⟨rfl, hi3, hk3⟩
  have hr3 : BRow w3 23 (w.heap.size + 1) (zeros 32) := (hk3.block _ (by omega) (by omega)).trans hr2
  have hc3 : w3.cell? ⟨w.heap.size, 0, none⟩ = some (.pointer (some ⟨R, 0, none⟩)) := (World.cell?_of_block (a := ⟨w.heap.size, 0, none⟩) (hk3.block w.heap.size (by omega) (by omega))).trans hc2
  have hkk : Kp R w w3 := (Kp.of_below hb2).trans hk3
  have hdl := hi3.2.2
  have hcr : ∃ C, (Lib.byteCells h'.dig).toArray = C := ⟨_, rfl⟩
  obtain ⟨C, hC⟩ := hcr
  have hrg := hi3.digs
  have hth := hr3.there 32 (by decide)
  have hcs : C.size = 32 := by rw [← hC, List.size_toArray, bytes_len, hdl]
  have hi32 : (Tryd.prog.info? 23).map (·.size) = some C.size := by rw [hcs]; exact info32
  have hl32 : (Tryd.prog.info? 23).map (·.size) = some (Lib.byteCells h'.dig).length := by rw [bytes_len, hdl]; exact info32
  have ho32 : C.all (·.oneCell') = true := by rw [← hC]; exact all_oneCell_toArray (Lib.byteCells_one _)
  have hfin : (w3.setCells (w.heap.size + 1) 0 C.toList).heap[w.heap.size + 1]? = some (.cells C 23 (0, 0)) := heap_setCells_whole (ws := C) hr3 (by rw [hcs, List.size_toArray]; rfl)
  have hif : HashIs (w3.setCells (w.heap.size + 1) 0 C.toList) R h' := ⟨(setCells_other (w.heap.size + 1) R (by omega) _ 0 _).trans hi3.1, hi3.2⟩
  have hkf : Kp R w (w3.setCells (w.heap.size + 1) 0 C.toList) := ⟨(below_setCellsC (B := w.heap.size) (by omega) C.toList 0 w3 (Below.refl _ _)).os.trans hkk.os, (below_setCellsC (B := w.heap.size) (by omega) C.toList 0 w3 (Below.refl _ _)).tape.trans hkk.tape, (below_setCellsC (B := w.heap.size) (by omega) C.toList 0 w3 (Below.refl _ _)).output.trans hkk.output, by rw [setCells_size]; exact hkk.size, fun k hk hn => (setCells_other (w.heap.size + 1) k (by omega) _ 0 _).trans (hkk.block k hk hn)⟩
  rw [← hcs] at hth
  have HRG := Lib.hid hrg
  have HTH := Lib.hid hth
  have HI32 := Lib.hid hi32
  have HL32 := Lib.hid hl32
  have HO32 := Lib.hid ho32
  have HFIN := Lib.hid hfin
  have HIF := Lib.hid hif
  have HKF := Lib.hid hkf
  have HC := Lib.hid hC
  clear hi3 hk3 hr3 hkk hdl hrg hth hcs hi32 hl32 ho32 hfin hif hkf hC hb2 hr2 hc2 hz2
  go_upto_region 2 with fail
  go_cut [2] (fun v2 wz => v2 = .pointer (some ⟨w.heap.size + 1, 0, none⟩) ∧ wz.heap[w.heap.size + 1]? = some (.cells C 23 (0, 0)) ∧ HashIs wz R h' ∧ Kp R w wz)
  case first =>
    go_wp2_with (first | (refine wpList_load_mid rfl 23 (.tmp 10) rfl R 74 rfl (Lib.byteCells h'.dig) _ HRG.out Tryd.underlying23 rfl HL32.out ?_) | (refine wpList_store_mid rfl 23 (.tmp 2) (.tmp 11) rfl (w.heap.size + 1) 0 C rfl (congrArg Value.agg HC.out) HTH.out HI32.out HO32.out ?_))
    go_meet
    exact ⟨rfl, HFIN.out, HIF.out, HKF.out⟩
  case rest =>
    obtain ⟨rfl, h1, h2, h3⟩ := hcut
    refine (‹∀ (a : Act) (w : World), Code.wp Tryd.prog Code.ret _ a w → _› : ∀ (a : Act) (w : World), Code.wp Tryd.prog Code.ret _ a w → _) _ _ ?_
    apply wp_ret
    exact bodyPost_ret (v := .agg C) (results_cell_row rfl _ _ (w.heap.size + 1) 23 _ (0, 0) _ rfl h1 Tryd.underlying23 rfl HI32.out) rfl ⟨by rw [← HC.out], h2, h3⟩
theorem HSum_first (w : World) (R : Nat) (h : HashV) (hi : HashIs w R h) (h0 : h.done = 0) (h1 : h.lock = 0) (l : List UInt8) (ht : Took l h.st h.rest (l.length % 64)) (hlen : h.len = l.length) (hbd : l.length ≤ 1125899906842624) (hK : Rnd w shaK) (hgl : 1 < w.heap.size) (hgR : 1 ≠ R) :
    Calls Tryd.prog 12 #[.pointer (some ⟨R, 0, none⟩)] w fun e w' => e = .returned (.agg (Lib.byteCells (shaOf l)).toArray) ∧ HashIs w' R { h with dig := shaOf l, closed := true, done := 1 } ∧ Kp R w w' :=
  HSum_of w R h { h with dig := shaOf l, closed := true, done := 1 } hi fun w1 pl hb hc hp hpR =>
    do_first w1 pl R h (hi.below hb) h0 h1 hc hp hpR l ht hlen hbd (hK.kp (Kp.of_below (R := R) hb) hgR hgl) (Nat.lt_of_lt_of_le hgl hb.size) hgR
theorem HSum_done (w : World) (R : Nat) (h : HashV) (hi : HashIs w R h) (h1 : h.done = 1) :
    Calls Tryd.prog 12 #[.pointer (some ⟨R, 0, none⟩)] w fun e w' => e = .returned (.agg (Lib.byteCells h.dig).toArray) ∧ HashIs w' R h ∧ Kp R w w' :=
  HSum_of w R h h hi fun w1 pl hb hc hp hpR => (do_done w1 _ R h (hi.below hb) h1).mono fun e w' hq => ⟨hq.1, by rw [hq.2]; exact hi.below hb, by rw [hq.2]; exact Kp.refl _ _⟩
end Go.Proofs.YtjopfhmloklhdaaDoor
