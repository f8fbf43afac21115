/-
  The library's Once, one goroutine: its parts, each a contract of its own; a hash's digest told once.
-/
import Derived.Test.YtjopfhmloklhdaaDoorFin
import Derived.Tactics2
import Derived.Defers
import Derived.Laws.Pointers
import Derived.Laws.LoneSync
import Derived.RegionCalls
namespace Go.Proofs.YtjopfhmloklhdaaDoor
open Go.ChangeShapes Go.WideShapes Go.ChangeAt Go.RowKit Go.Deep
set_option linter.unusedVariables false
set_option linter.unusedSimpArgs false

theorem disable (w : World) : (callFunc 51 #[]).run Tryd.prog w = .ok (.value (.tuple #[])) w := run_call_mark0 Tryd.func51 (by kernel_rfl) (by kernel_rfl) (by kernel_rfl) .disable (by kernel_rfl) w
theorem enable (w : World) : (callFunc 53 #[]).run Tryd.prog w = .ok (.value (.tuple #[])) w := run_call_mark0 Tryd.func53 (by kernel_rfl) (by kernel_rfl) (by kernel_rfl) .enable (by kernel_rfl) w
theorem acquire (a : Addr) (w : World) : (callFunc 54 #[.pointer (some a)]).run Tryd.prog w = .ok (.value (.tuple #[])) w := run_call_marked Tryd.func54 (by kernel_rfl) (by kernel_rfl) (by kernel_rfl) .acquire (by kernel_rfl) a w
theorem releaseMerge (a : Addr) (w : World) : (callFunc 56 #[.pointer (some a)]).run Tryd.prog w = .ok (.value (.tuple #[])) w := run_call_marked Tryd.func56 (by kernel_rfl) (by kernel_rfl) (by kernel_rfl) .releaseMerge (by kernel_rfl) a w
set_option maxRecDepth 100000 in
set_option maxHeartbeats 1600000 in
theorem store_deferred (a : Addr) (x : Value) (u : FrameMode) (w : World) (hc : w.cell? a = some x) (hz : w.frozen? a = false) :
    CallsD Tryd.prog 42 #[.pointer (some a), .bool true] u w fun e u' w' => u' = u ∧ (e = .returned (.tuple #[]) ∧ w' = w.drew.setCell a (.int .u32 1)) := by
  have hc' : w.drew.cell? a = some x := by go_simp
  have hz' : w.drew.frozen? a = false := by go_simp
  have hst := run_call_store (P := Tryd.prog) Tryd.func49 (by kernel_rfl) (by kernel_rfl) (by kernel_rfl) (by kernel_rfl) (k := .u32) (y := 1) hc' hz'
  go_enter_d Tryd.func42, Tryd.ntmps42
  go_wp2
  go_region_calls
  all_goals (go_end0; exact ⟨rfl, rfl⟩)
set_option maxRecDepth 100000 in
set_option maxHeartbeats 1600000 in
theorem unlock_deferred (a : Addr) (u : FrameMode) (w : World) (hc : w.cell? a = some (.int .i32 1)) (hz : w.frozen? a = false) :
    CallsD Tryd.prog 41 #[.pointer (some a)] u w fun e u' w' => u' = u ∧ (e = .returned (.tuple #[]) ∧ w' = w.setCell a (.int .i32 0)) := by
  have hd := disable
  have he := enable
  have hr := releaseMerge
  have hadd := run_call_add (P := Tryd.prog) Tryd.func57 (by kernel_rfl) (by kernel_rfl) (by kernel_rfl) .i32 (by kernel_rfl) (y := -1) (s := 0) hc hz (by simp [go_sem]; rfl)
  have hcv := run_convert_to_unsafe (P := Tryd.prog) (src := 93) (dst := 97) Tryd.underlying93 Tryd.underlying97 (by kernel_rfl) hc
  go_enter_d Tryd.func41, Tryd.ntmps41
  go_wp2
  go_end0
  go_wp2
set_option maxRecDepth 100000 in
set_option maxHeartbeats 1600000 in
theorem lock_free (a : Addr) (w : World) (hc : w.cell? a = some (.int .i32 0)) (hz : w.frozen? a = false) :
    Calls Tryd.prog 40 #[.pointer (some a)] w fun e w' => e = .returned (.tuple #[]) ∧ w' = w.setCell a (.int .i32 1) := by
  have hd := disable
  have he := enable
  have ha := acquire
  have hcas := run_call_cas_hit (P := Tryd.prog) Tryd.func52 (by kernel_rfl) (by kernel_rfl) (by kernel_rfl) .i32 (by kernel_rfl) (y := 1) hc hz
  have hc' : (w.setCell a (.int .i32 1)).cell? a = some (.int .i32 1) := World.cell?_setCell_same w a _ hc
  have hcv := run_convert_to_unsafe (P := Tryd.prog) (src := 93) (dst := 97) Tryd.underlying93 Tryd.underlying97 (by kernel_rfl) hc'
  go_enter Tryd.func40, Tryd.ntmps40
  go_wp2
  first | go_end0 | (simp only [Exit.inBlock, Exit.then]; refine bodyPost_ret (results_none rfl _ _ _) rfl ?_) | refine bodyPost_ret (results_none rfl _ _ _) rfl ?_
  go_wp2
/-- A hash's parts that a Once has, in a walk of it. -/
theorem HashIs.cells {w : World} {R : Nat} {h : HashV} (hi : HashIs w R h) : w.cell? ⟨R, 106, none⟩ = some (.int .u32 (h.done : Int)) ∧ w.cell? ⟨R, 107, none⟩ = some (.int .i32 h.lock) ∧ ∀ j, w.frozen? ⟨R, j, none⟩ = false := ⟨hi.once.1, hi.once.2, fun j => (hi.at j).2⟩
theorem HashIs.there_at {w : World} {R : Nat} {h : HashV} (hi : HashIs w R h) (o n : Nat) (hn : o + n ≤ 109) : w.there R o n := fun j hj => by
  have hs := hash_size h hi.2.1 hi.2.2
  rw [(hi.at (o + j)).1, (hi.at (o + j)).2]
  exact ⟨by rw [List.getElem?_eq_getElem (by omega)]; rfl, rfl⟩
set_option maxRecDepth 100000 in
set_option maxHeartbeats 4000000 in
/-- What the Once of a hash does: the hash is finished. -/
theorem closure_any (w : World) (pl : Addr) (R : Nat) (h : HashV) (hi : HashIs w R h) (hp : w.cell? pl = some (.pointer (some ⟨R, 0, none⟩))) (hpl : pl.block < w.heap.size) (hpR : pl.block ≠ R) (l : List UInt8) (ht : Took l h.st h.rest (l.length % 64)) (hlen : h.len = l.length) (hbd : l.length ≤ 1125899906842624) (hK : Rnd w shaK) (hgl : 1 < w.heap.size) :
    Calls Tryd.prog 25 #[.pointer (some pl)] w fun e w' => e = .returned (.tuple #[]) ∧ HashIs w' R { h with dig := shaOf l, closed := true } ∧ Kp R w w' := by
  have hpd : w.drew.cell? pl = some (.pointer (some ⟨R, 0, none⟩)) := hp
  have hid : HashIs w.drew R h := hi
  have hdl : (shaOf l).length = 32 := by unfold shaOf; rw [← outN_end]; exact outN_len _ _ (Nat.le_refl _)
  have hKd : Rnd w.drew shaK := hK
  obtain ⟨D, hD⟩ : ∃ D, shaOf l = D := ⟨_, rfl⟩
  rw [hD] at hdl
  have HD := Lib.hid hD
  have HDL := Lib.hid hdl
  have hi32 : (Tryd.prog.info? 23).map (·.size) = some (Lib.byteCells D).toArray.size := by rw [List.size_toArray, bytes_len, hdl]; exact info32
  have ho32 : (Lib.byteCells D).toArray.all (·.oneCell') = true := all_oneCell_toArray (Lib.byteCells_one _)
  have HI32 := Lib.hid hi32
  have HO32 := Lib.hid ho32
  have hcs : (Lib.byteCells D).toArray.size = 32 := by rw [List.size_toArray, bytes_len, hdl]
  have HCS := Lib.hid hcs
  have HI := Lib.hid hid
  have HT := Lib.hid ht
  have HLEN := Lib.hid hlen
  have HK := Lib.hid hKd
  have hRl : R < w.heap.size := lt_of_block hi.1
  clear hi ht hlen hK hid hKd hp hdl hD hi32 ho32 hcs
  rw [HD.out]
  go_enter Tryd.func25, Tryd.ntmps25
  go_upto_region 0 with fail
  refine AnyL.begin (S := fun w' => w'.cell? pl = some (.pointer (some ⟨R, 0, none⟩)) ∧ HashIs w' R h) 5 (by kernel_rfl) ⟨hpd, HI.out⟩ (fun hHeld => ?_)
  refine AnyL.take (i := 0) (oi := _) (v := ?_) 30 rfl (by kernel_rfl) (by kernel_rfl) (by kernel_rfl) (by kernel_rfl) (by kernel_rfl) (fun _ _ _ h => h) (Or.inl ⟨by rfl, ?hy1⟩) (by assumption) ?_
  case hy1 =>
    intro w9 hSw
    try dsimp only at hSw
    try simp only [List.getElem_toArray, List.getElem_cons_zero, List.getElem_cons_succ]
    go_simp
    try with_reducible rfl
  try simp only [Act.put, List.setIfInBounds_toArray, List.set_cons_zero, List.set_cons_succ, List.getElem_toArray, List.getElem_cons_zero, List.getElem_cons_succ]
  refine AnyL.take (i := 1) (oi := _) (v := ?_) 30 rfl (by kernel_rfl) (by kernel_rfl) (by kernel_rfl) (by kernel_rfl) (by kernel_rfl) (fun _ _ _ h => h) (Or.inl ⟨by rfl, ?hy2⟩) (by assumption) ?_
  case hy2 =>
    intro w9 hSw
    try dsimp only at hSw
    try simp only [List.getElem_toArray, List.getElem_cons_zero, List.getElem_cons_succ]
    go_simp
    try with_reducible rfl
  try simp only [Act.put, List.setIfInBounds_toArray, List.set_cons_zero, List.set_cons_succ, List.getElem_toArray, List.getElem_cons_zero, List.getElem_cons_succ]
  refine AnyL.one (i := 2) (o := _) (by kernel_rfl) rfl (fun K hK => ?_)
  try simp only [List.getElem_toArray, List.getElem_cons_zero, List.getElem_cons_succ]
  go_simp
  refine (finished_any w.drew R h HI.out l HT.out HLEN.out hbd HK.out hgl).mono ?_
  rw [HD.out]
  rintro e w2 ⟨rfl, hb2⟩
  have hp2 : w2.cell? pl = some (.pointer (some ⟨R, 0, none⟩)) := (hb2.cell (p := pl) hpl).trans hpd
  have hi2 := HI.out.below hb2
  have HB2 : Hid (Below w.heap.size w w2) := Lib.hid (((Below.refl _ _).drew).trans hb2)
  have HI2 := Lib.hid hi2
  have HTH2 := Lib.hid (hi2.there_at 74 (Lib.byteCells D).toArray.size (by rw [HCS.out]; decide))
  clear hb2
  refine hK.out _ _ (fun _ => ⟨hp2, hi2⟩) (fun hHeld => ?_)
  replace hHeld := hHeld (by decide)
  clear hK K
  try simp only [Act.put, List.setIfInBounds_toArray, List.set_cons_zero, List.set_cons_succ, List.getElem_toArray, List.getElem_cons_zero, List.getElem_cons_succ]
  refine AnyL.take (i := 3) (oi := _) (v := ?_) 30 rfl (by kernel_rfl) (by kernel_rfl) (by kernel_rfl) (by kernel_rfl) (by kernel_rfl) (fun _ _ _ h => h) (Or.inl ⟨by rfl, ?hy3⟩) (by assumption) ?_
  case hy3 =>
    intro w9 hSw
    try dsimp only at hSw
    try simp only [List.getElem_toArray, List.getElem_cons_zero, List.getElem_cons_succ]
    go_simp
    try with_reducible rfl
  try simp only [Act.put, List.setIfInBounds_toArray, List.set_cons_zero, List.set_cons_succ, List.getElem_toArray, List.getElem_cons_zero, List.getElem_cons_succ]
  refine AnyL.take (i := 4) (oi := _) (v := ?_) 30 rfl (by kernel_rfl) (by kernel_rfl) (by kernel_rfl) (by kernel_rfl) (by kernel_rfl) (fun _ _ _ h => h) (Or.inl ⟨by rfl, ?hy4⟩) (by assumption) ?_
  case hy4 =>
    intro w9 hSw
    try dsimp only at hSw
    try simp only [List.getElem_toArray, List.getElem_cons_zero, List.getElem_cons_succ]
    go_simp
    try with_reducible rfl
  try simp only [Act.put, List.setIfInBounds_toArray, List.set_cons_zero, List.set_cons_succ, List.getElem_toArray, List.getElem_cons_zero, List.getElem_cons_succ]
  refine AnyL.one (i := 5) (o := _) (by kernel_rfl) rfl (fun K hK => ?_)
  rw [if_pos (by rfl)]
  refine wp_store_mid 23 (.tmp 5) (.tmp 3) (by rfl) R 74 (Lib.byteCells D).toArray (by rfl) (by rfl) HTH2.out HI32.out HO32.out ?_
  refine hK.out _ _ (fun h => absurd rfl h) (fun _ => ?_)
  clear hK K
  try simp only [Act.put, List.setIfInBounds_toArray, List.set_cons_zero, List.set_cons_succ, List.getElem_toArray, List.getElem_cons_zero, List.getElem_cons_succ]
  refine AnyL.done (by kernel_rfl) ?_ _
  have h3 : HashIs (w2.setCells R 74 (Lib.byteCells D).toArray.toList) R { h with dig := D } := HI2.out.setDig D HDL.out
  have hk3 : Kp R w (w2.setCells R 74 (Lib.byteCells D).toArray.toList) := (Kp.of_below HB2.out).trans (Kp.setCells R _ _ _)
  have hp3 : (w2.setCells R 74 (Lib.byteCells D).toArray.toList).cell? pl = some (.pointer (some ⟨R, 0, none⟩)) := by
    have e := World.cell?_of_block (a := pl) (setCells_other R pl.block hpR (Lib.byteCells D).toArray.toList 74 w2)
    rw [e]
    exact (HB2.out.cell (p := pl) hpl).trans hpd
  have h73 : (w2.setCells R 74 (Lib.byteCells D).toArray.toList).cell? ⟨R, 73, none⟩ = some (.bool h.closed) := h3.shut
  have f73 := (h3.at 73).2
  have h4 : HashIs ((w2.setCells R 74 (Lib.byteCells D).toArray.toList).setCell ⟨R, 73, none⟩ (.bool true)) R { h with dig := D, closed := true } := h3.setShut true
  have hk4 : Kp R w ((w2.setCells R 74 (Lib.byteCells D).toArray.toList).setCell ⟨R, 73, none⟩ (.bool true)) := hk3.trans (Kp.setCell R _ _ _)
  have H4 := Lib.hid h4
  have HK4 := Lib.hid hk4
  clear h3 hk3 h4 hk4
  generalize w2.setCells R 74 (Lib.byteCells D).toArray.toList = w3 at *
  go_wp2
  go_end0
  exact ⟨rfl, H4.out, HK4.out⟩

end Go.Proofs.YtjopfhmloklhdaaDoor
