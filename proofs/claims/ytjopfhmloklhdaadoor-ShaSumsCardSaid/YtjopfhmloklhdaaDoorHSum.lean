/-
  Package sha: a hash's digest, told once.
-/
import Derived.Test.YtjopfhmloklhdaaDoorOnce
namespace Go.Proofs.YtjopfhmloklhdaaDoor
open Go.ChangeShapes Go.WideShapes Go.ChangeAt Go.RowKit Go.Deep
set_option linter.unusedVariables false
set_option linter.unusedSimpArgs false

set_option maxRecDepth 100000 in
set_option maxHeartbeats 1600000 in
theorem atomic_load (a : Addr) (x : Nat) (w : World) (hc : w.cell? a = some (.int .u32 (x : Int))) : Calls Tryd.prog 32 #[.pointer (some a)] w fun e w' => e = .returned (.bool ((x : Int) != 0)) ∧ w' = w := by
  have hl := run_call_load (P := Tryd.prog) Tryd.func39 (by kernel_rfl) (by kernel_rfl) (by kernel_rfl) .u32 (by kernel_rfl) (w := w) (a := a) (x := (x : Int)) hc
  go_enter Tryd.func32, Tryd.ntmps32
  go_wp2
  go_ret
  exact ⟨rfl, rfl⟩
set_option maxRecDepth 100000 in
set_option maxHeartbeats 4000000 in
theorem slow_any (w : World) (pl : Addr) (R : Nat) (h : HashV) (hi : HashIs w R h) (h0 : h.done = 0) (h1 : h.lock = 0) (hp : w.cell? pl = some (.pointer (some ⟨R, 0, none⟩))) (hpl : pl.block < w.heap.size) (hpR : pl.block ≠ R) (l : List UInt8) (ht : Took l h.st h.rest (l.length % 64)) (hlen : h.len = l.length) (hbd : l.length ≤ 1125899906842624) (hK : Rnd w shaK) (hgl : 1 < w.heap.size) (hgR : 1 ≠ R) :
    Calls Tryd.prog 33 #[.pointer (some ⟨R, 106, none⟩), .func (.func 25) #[] #[.pointer (some pl)]] w fun e w' => e = .returned (.tuple #[]) ∧ HashIs w' R { h with dig := shaOf l, closed := true, done := 1 } ∧ Kp R w w' := by
  obtain ⟨c106, c107, hf⟩ := hi.cells
  rw [h0] at c106
  rw [h1] at c107
  have f106 := hf 106
  have f107 := hf 107
  have hi1 := hi.setLock 1
  have hk1 := Kp.setCell R 107 w (.int .i32 1)
  have hp1 : (w.setCell ⟨R, 107, none⟩ (.int .i32 1)).cell? pl = some (.pointer (some ⟨R, 0, none⟩)) := (World.cell?_setCell_other _ ⟨R, 107, none⟩ pl _ (fun h => hpR (by rw [← h]))).trans hp
  have hz1 : (w.setCell ⟨R, 107, none⟩ (.int .i32 1)).heap.size = w.heap.size := World.size_setCell _ _ _
  have hK1 := hK.kp hk1 hgR hgl
  have c106' : (w.setCell ⟨R, 107, none⟩ (.int .i32 1)).cell? ⟨R, 106, none⟩ = some (.int .u32 ((0 : Nat) : Int)) := by rw [hi1.cells.1, h0]
  have HI1 := Lib.hid hi1
  have HK1 := Lib.hid hk1
  have HP1 := Lib.hid hp1
  have HKR := Lib.hid hK1
  have HT := Lib.hid ht
  have HLEN := Lib.hid hlen
  have H0 := Lib.hid h0
  have H1 := Lib.hid h1
  have HC106 := Lib.hid c106'
  clear hi hf hi1 hk1 hp1 hK1 hK ht hlen h0 h1 hp c106'
  go_enter_defers Tryd.func33, Tryd.ntmps33
  go_wp2_with (go_at_call 40; refine (lock_free ⟨R, 107, none⟩ _ c107 f107).mono ?_; rintro e w' ⟨rfl, rfl⟩)
  generalize w.setCell ⟨R, 107, none⟩ (.int .i32 1) = w1 at *
  go_wp2_with fail
  refine (atomic_load ⟨R, 106, none⟩ 0 _ HC106.out).mono ?_
  rintro e w' ⟨rfl, rfl⟩
  go_wp2_with fail
  refine (closure_any _ pl R { h with lock := 1 } HI1.out HP1.out (by omega) hpR l HT.out HLEN.out hbd HKR.out (by omega)).mono ?_
  rintro e w3 ⟨rfl, hi3, hk3⟩
  have HI3 := Lib.hid hi3
  have HK3 := Lib.hid hk3
  have c3 := hi3.cells
  have hi4 : HashIs (w3.drew.setCell ⟨R, 106, none⟩ (.int .u32 1)) R { h with dig := shaOf l, closed := true, done := 1, lock := 1 } := HashIs.setDone (w := w3.drew) hi3 1
  have hk4 : Kp R w3 (w3.drew.setCell ⟨R, 106, none⟩ (.int .u32 1)) := (Kp.drewN R w3 1).trans (Kp.setCell R 106 _ _)
  have c4 := hi4.cells
  have HI4 := Lib.hid hi4
  have HK4 := Lib.hid hk4
  have C3 := Lib.hid c3
  have C4 := Lib.hid c4
  clear hi3 hk3 c3 hi4 hk4 c4
  go_wp2
  refine leaves_cons (f := 42) (args := #[.pointer (some ⟨R, 106, none⟩), .bool true]) (by simp) (by simp [go_sem]) ?_
  refine (store_deferred ⟨R, 106, none⟩ _ .returning _ C3.out.1 (C3.out.2.2 106)).mono ?_
  rintro e u' w'' ⟨rfl, rfl, rfl⟩
  refine leaves_cons (f := 41) (args := #[.pointer (some ⟨R, 107, none⟩)]) (by simp [settle]) (by simp [go_sem]) ?_
  refine (unlock_deferred ⟨R, 107, none⟩ _ _ C4.out.2.1 (C4.out.2.2 107)).mono ?_
  rintro e u' w'' ⟨rfl, rfl, rfl⟩
  have hi5 := HI4.out.setLock 0
  have hfin : HashIs ((w3.drew.setCell ⟨R, 106, none⟩ (.int .u32 1)).setCell ⟨R, 107, none⟩ (.int .i32 0)) R { h with dig := shaOf l, closed := true, done := 1 } := by
    have e : ({ h with dig := shaOf l, closed := true, done := 1 } : HashV) = { h with dig := shaOf l, closed := true, done := 1, lock := 0 } := by rw [← H1.out]
    rw [e]
    exact hi5
  have hkf : Kp R w ((w3.drew.setCell ⟨R, 106, none⟩ (.int .u32 1)).setCell ⟨R, 107, none⟩ (.int .i32 0)) := ((HK1.out.trans HK3.out).trans HK4.out).trans (Kp.setCell R 107 _ _)
  simp [Leaves, settle, results, Tryd.results33]
  exact ⟨hfin, hkf⟩
set_option maxRecDepth 100000 in
set_option maxHeartbeats 4000000 in
theorem do_first (w : World) (pl : Addr) (R : Nat) (h : HashV) (hi : HashIs w R h) (h0 : h.done = 0) (h1 : h.lock = 0) (hp : w.cell? pl = some (.pointer (some ⟨R, 0, none⟩))) (hpl : pl.block < w.heap.size) (hpR : pl.block ≠ R) (l : List UInt8) (ht : Took l h.st h.rest (l.length % 64)) (hlen : h.len = l.length) (hbd : l.length ≤ 1125899906842624) (hK : Rnd w shaK) (hgl : 1 < w.heap.size) (hgR : 1 ≠ R) :
    Calls Tryd.prog 24 #[.pointer (some ⟨R, 106, none⟩), .func (.func 25) #[] #[.pointer (some pl)]] w fun e w' => e = .returned (.tuple #[]) ∧ HashIs w' R { h with dig := shaOf l, closed := true, done := 1 } ∧ Kp R w w' := by
  have c106 := hi.cells.1
  rw [h0] at c106
  have HSL := Lib.hid (slow_any w pl R h hi h0 h1 hp hpl hpR l ht hlen hbd hK hgl hgR)
  have HC := Lib.hid c106
  clear hi h0 h1 hp ht hlen hK c106
  go_enter Tryd.func24, Tryd.ntmps24
  go_wp2_with fail
  refine (atomic_load ⟨R, 106, none⟩ 0 _ HC.out).mono ?_
  rintro e w' ⟨rfl, rfl⟩
  go_wp2_with fail
  refine HSL.out.mono ?_
  rintro e w3 ⟨rfl, h3, k3⟩
  have H3 := Lib.hid h3
  have K3 := Lib.hid k3
  clear h3 k3
  go_wp2
  go_end0
  exact ⟨rfl, H3.out, K3.out⟩
set_option maxRecDepth 100000 in
set_option maxHeartbeats 4000000 in
theorem do_done (w : World) (f : Value) (R : Nat) (h : HashV) (hi : HashIs w R h) (h1 : h.done = 1) :
    Calls Tryd.prog 24 #[.pointer (some ⟨R, 106, none⟩), f] w fun e w' => e = .returned (.tuple #[]) ∧ w' = w := by
  have c106 := hi.cells.1
  rw [h1] at c106
  have HC := Lib.hid c106
  clear hi h1 c106
  go_enter Tryd.func24, Tryd.ntmps24
  go_wp2_with fail
  refine (atomic_load ⟨R, 106, none⟩ 1 _ HC.out).mono ?_
  rintro e w' ⟨rfl, rfl⟩
  go_wp2
  go_end0
  exact ⟨rfl, rfl⟩
end Go.Proofs.YtjopfhmloklhdaaDoor
