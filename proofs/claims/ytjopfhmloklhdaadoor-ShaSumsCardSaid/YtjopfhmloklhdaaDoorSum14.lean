/-
  Package sha: Sum.
-/
import Derived.Test.YtjopfhmloklhdaaDoorSumA
namespace Go.Proofs.YtjopfhmloklhdaaDoor
open Go.ChangeShapes Go.WideShapes Go.ChangeAt Go.RowKit Go.Deep
set_option linter.unusedVariables false
set_option linter.unusedSimpArgs false

/-- What the program laid of its own: the words at first, the constants of the rounds. -/
structure Grnd (w : World) : Prop where
  sta : Sta w shaStart
  rnd : Rnd w shaK
  s : 0 < w.heap.size
  r : 1 < w.heap.size
theorem Grnd.below {w w' : World} (h : Grnd w) (hb : Below w.heap.size w w') : Grnd w' := by
  refine ⟨fun j v hj => ?_, fun i hi => ?_, Nat.lt_of_lt_of_le h.s hb.size, Nat.lt_of_lt_of_le h.r hb.size⟩
  · exact (hb.cell (p := ⟨0, 0 + j, none⟩) h.s).trans (h.sta j v hj)
  · exact (hb.cell (p := ⟨1, i, none⟩) h.r).trans (h.rnd i hi)
theorem Grnd.kp {w w' : World} {R : Nat} (h : Grnd w) (hk : Kp R w w') (hs : 0 ≠ R) (hr : 1 ≠ R) : Grnd w' := by
  refine ⟨fun j v hj => ?_, h.rnd.kp hk hr h.r, Nat.lt_of_lt_of_le h.s hk.size, Nat.lt_of_lt_of_le h.r hk.size⟩
  exact (World.cell?_of_block (a := ⟨0, 0 + j, none⟩) (hk.block _ h.s hs)).trans (h.sta j v hj)
theorem shaOf_len (l : List UInt8) : (shaOf l).length = 32 := by
  unfold shaOf
  rw [← outN_end]
  exact outN_len _ _ (Nat.le_refl _)
/-- A fresh hash. -/
theorem took_new : Took [] (newV shaStart).st (newV shaStart).rest (([] : List UInt8).length % 64) := Took.start _ rfl
set_option maxRecDepth 100000 in
set_option maxHeartbeats 4000000 in
theorem Sum_any (w : World) (v : Value) (b : List UInt8) (hb : HasA w v b) (hbd : b.length ≤ 1125899906842624) (hG : Grnd w) :
    Calls Tryd.prog 14 #[v] w fun e w' => e = .returned (.agg (Lib.byteCells (shaOf b)).toArray) ∧ Below w.heap.size w w' := by
  have hb1 := (Below.refl w.heap.size w).alloc (Nat.le_refl _) (.cells (noBytes 32).toArray 23)
  have hz1 := size_alloc1 w (.cells (noBytes 32).toArray 23)
  have hr1 : BRow (w.alloc (.cells (noBytes 32).toArray 23)) 23 w.heap.size (zeros 32) := heap_alloc_new _ _
  have hg1 := hG.below hb1
  have ha1 := hb.below hb1
  have hgs := hG.s
  have hgr := hG.r
  have hown : 0 < b.length → v.ownBlock ≠ some (w.heap.size + 1) := by
    obtain ⟨p, cap, bb, o, rfl, k1, k2, k3, kc⟩ := hb
    intro h0
    obtain ⟨rfl, hlt⟩ := k3 h0
    show some bb ≠ some _
    rw [Ne, Option.some.injEq]
    omega
  have HOWN := Lib.hid hown
  have HG1 := Lib.hid hg1
  have HA1 := Lib.hid ha1
  have HB1 := Lib.hid hb1
  have HR1 := Lib.hid hr1
  have HZ1 := Lib.hid hz1
  clear hb hG hb1 hz1 hr1 hg1 ha1 hown
  go_enter Tryd.func14, Tryd.ntmps14
  go_wp2_with (refine wpList_alloc_of rfl 23 (noBytes 32).toArray rfl made32 ?_)
  generalize w.alloc (.cells (noBytes 32).toArray 23) = w1 at *
  refine (New_any w1 shaStart HG1.out.sta).mono ?_
  rintro e w2 ⟨rfl, hi2, hb2⟩
  have hz1 := HZ1.out
  rw [hz1] at hi2
  rw [hz1]
  have ha2 := HA1.out.below hb2
  have hg2 := HG1.out.below hb2
  have hb02 := HB1.out.trans (hb2.mono (by omega))
  have hr2 := HR1.out.below hb2 (by omega)
  have hz2 := lt_of_block hi2.1
  have HI2 := Lib.hid hi2
  have HA2 := Lib.hid ha2
  have HG2 := Lib.hid hg2
  have HB02 := Lib.hid hb02
  have HR2 := Lib.hid hr2
  clear hi2 ha2 hg2 hb02 hr2 hb2 hz1
  go_wp2_with fail
  refine (Write_any w2 (w.heap.size + 1) (newV shaStart) HI2.out rfl rfl [] took_new rfl v b HA2.out HOWN.out (by simpa using hbd) HG2.out.rnd HG2.out.r (by omega)).mono ?_
  rintro e w3 ⟨rfl, hk3, h3, hs3, hl3, ht3⟩
  have hg3 := HG2.out.kp hk3 (by omega) (by omega)
  have hr3 : BRow w3 23 w.heap.size (zeros 32) := (hk3.block _ (by omega) (by omega)).trans HR2.out
  have hb3 : Below w.heap.size w w3 := HB02.out.trans (hk3.below (by omega) (by omega))
  rw [List.length_nil, Nat.zero_add, List.nil_append] at ht3
  rw [List.length_nil, Nat.zero_add] at hl3
  have hz3 := hk3.size
  have HS3 := Lib.hid hs3
  have HL3 := Lib.hid hl3
  have HT3 := Lib.hid ht3
  have HG3 := Lib.hid hg3
  have HR3 := Lib.hid hr3
  have HB3 := Lib.hid hb3
  clear hk3 hs3 hl3 ht3 hg3 hr3 hb3
  go_upto_region 3 with fail
  go_cut [2] (fun v2 wz => v2 = .pointer (some ⟨w.heap.size, 0, none⟩) ∧ wz.heap[w.heap.size]? = some (.cells (Lib.byteCells (shaOf b)).toArray 23 (0, 0)) ∧ Below w.heap.size w wz)
  case first =>
    go_wp2_with fail
    refine (HSum_first w3 (w.heap.size + 1) h3 HS3.out.is HS3.out.done HS3.out.free b HT3.out HL3.out hbd HG3.out.rnd HG3.out.r (by omega)).mono ?_
    rintro e w4 ⟨rfl, hi4, hk4⟩
    have hr4 : BRow w4 23 w.heap.size (zeros 32) := (hk4.block _ (by omega) (by omega)).trans HR3.out
    have hb4 : Below w.heap.size w w4 := HB3.out.trans (hk4.below (by omega) (by omega))
    have hdl := hi4.2.2
    simp only at hdl
    obtain ⟨D, hD⟩ : ∃ D, shaOf b = D := ⟨_, rfl⟩
    rw [hD] at hdl
    rw [hD]
    obtain ⟨C, hC⟩ : ∃ C, (Lib.byteCells D).toArray = C := ⟨_, rfl⟩
    rw [hC]
    have hcs : C.size = 32 := by rw [← hC, List.size_toArray, bytes_len, hdl]
    have hth := hr4.there C.size (by rw [hcs]; decide)
    have hi32 : (Tryd.prog.info? 23).map (·.size) = some C.size := by rw [hcs]; exact info32
    have ho32 : C.all (·.oneCell') = true := by rw [← hC]; exact all_oneCell_toArray (Lib.byteCells_one _)
    have hfin : (w4.setCells w.heap.size 0 C.toList).heap[w.heap.size]? = some (.cells C 23 (0, 0)) := heap_setCells_whole (ws := C) hr4 (by rw [hcs, List.size_toArray]; rfl)
    have hbf : Below w.heap.size w (w4.setCells w.heap.size 0 C.toList) := below_setCellsC (Nat.le_refl _) _ _ _ hb4
    have HTH := Lib.hid hth
    have HI32 := Lib.hid hi32
    have HO32 := Lib.hid ho32
    have HFIN := Lib.hid hfin
    have HBF := Lib.hid hbf
    have HD := Lib.hid hD
    have HC := Lib.hid hC
    clear hi4 hk4 hr4 hb4 hdl hD hC hcs hth hi32 ho32 hfin hbf
    go_wp2_with (refine wpList_store_mid rfl 23 (.tmp 2) (.tmp 9) rfl w.heap.size 0 C rfl rfl HTH.out HI32.out HO32.out ?_)
    go_meet
    refine ⟨rfl, ?_, HBF.out⟩
    rw [HD.out, HC.out]
    exact HFIN.out
  case rest =>
    obtain ⟨rfl, h1, h2⟩ := hcut
    have hl := shaOf_len b
    refine (‹∀ (a : Act) (w : World), Code.wp Tryd.prog Code.ret _ a w → _› : ∀ (a : Act) (w : World), Code.wp Tryd.prog Code.ret _ a w → _) _ _ ?_
    apply wp_ret
    refine bodyPost_ret (v := .agg (Lib.byteCells (shaOf b)).toArray) ?_ rfl ⟨rfl, h2⟩
    generalize shaOf b = D at *
    exact results_cell_row rfl _ _ w.heap.size 23 _ (0, 0) _ rfl h1 Tryd.underlying23 rfl (by rw [List.size_toArray, bytes_len, hl]; exact info32)
end Go.Proofs.YtjopfhmloklhdaaDoor
