/-
  The timer's calls in whatever memory holds it (Ytbhmbdmhkacfmaa A has them where it was just made).
-/
import Derived.Test.YtbhmbdmhkacfmaaA
import Derived.Lib.SmallJoins
namespace Go.Proofs.Ytbhmbdmhkacfmaa
open Go.ChangeShapes Go.WideShapes Go.ChangeAt Go.RowKit
set_option linter.unusedVariables false

/-- A timer lies in block R. -/
def Tm (w : World) (R : Nat) (b m f a : Int) : Prop := w.heap[R]? = some (.cells #[.int .i64 b, .int .i64 m, .int .i64 f, .int .i64 a] 44 (0, 0))
theorem Tm.lt {w : World} {R : Nat} {b m f a : Int} (h : Tm w R b m f a) : R < w.heap.size := lt_of_block h
theorem Tm.cells {w : World} {R : Nat} {b m f a : Int} (h : Tm w R b m f a) :
    w.cell? ⟨R, 0, none⟩ = some (.int .i64 b) ∧ w.cell? ⟨R, 1, none⟩ = some (.int .i64 m) ∧ w.cell? ⟨R, 2, none⟩ = some (.int .i64 f) ∧ w.cell? ⟨R, 3, none⟩ = some (.int .i64 a) ∧ w.frozen? ⟨R, 2, none⟩ = false ∧ w.frozen? ⟨R, 3, none⟩ = false := by
  unfold Tm at h
  simp [World.cell?, World.frozen?, h]
theorem Tm.set2 {w : World} {R : Nat} {b m f a : Int} (h : Tm w R b m f a) (x : Int) : Tm (w.setCell ⟨R, 2, none⟩ (.int .i64 x)) R b m x a := Joins.block_setCell h _
theorem Tm.set3 {w : World} {R : Nat} {b m f a : Int} (h : Tm w R b m f a) (x : Int) : Tm (w.setCell ⟨R, 3, none⟩ (.int .i64 x)) R b m f x := Joins.block_setCell h _
theorem Tm.drewN {w : World} {R : Nat} {b m f a : Int} (h : Tm w R b m f a) (n : Nat) : Tm (w.drewN n) R b m f a := h
theorem Tm.below {w w' : World} {R B : Nat} {b m f a : Int} (h : Tm w R b m f a) (hb : Below B w w') (hR : R < B) : Tm w' R b m f a := (hb.block R hR).trans h
theorem below_drewN' {B : Nat} {a w : World} (h : Below B a w) (n : Nat) : Below B a (w.drewN n) := ⟨h.os, h.tape, h.output, h.size, h.block⟩

/-- Block R alone may have been written. -/
def Only (R : Nat) (w w' : World) : Prop := Below R w w' ∧ w'.heap.size = w.heap.size ∧ ∀ k, k ≠ R → w'.heap[k]? = w.heap[k]?
theorem Only.refl (R : Nat) (w : World) : Only R w w := ⟨Below.refl _ _, rfl, fun _ _ => rfl⟩
theorem Only.set {R : Nat} {a w : World} (h : Only R a w) (o : Nat) (v : Value) : Only R a (w.setCell ⟨R, o, none⟩ v) :=
  ⟨h.1.setCell (Nat.le_refl _) _, by rw [World.size_setCell]; exact h.2.1, fun k hk => (Below.heap_setCell _ _ _ _ hk).trans (h.2.2 k hk)⟩
theorem Only.drewN {R : Nat} {a w : World} (h : Only R a w) (n : Nat) : Only R a (w.drewN n) := ⟨below_drewN' h.1 n, h.2.1, h.2.2⟩
theorem Only.cell {R : Nat} {a w : World} (h : Only R a w) {p : Addr} (hp : p.block ≠ R) : w.cell? p = a.cell? p := World.cell?_of_block (w := a) (h.2.2 p.block hp)

theorem fail_gen (b m f a now r : Int) (R : Nat) (W : World) (h1 : 1 ≤ b) (h2 : b ≤ m) (h3 : m ≤ 1099511627776) (f1 : 0 ≤ f) (f2 : f ≤ 1000) (n1 : -9223372036854775808 ≤ now) (n2 : now ≤ 9223372036854775807) (r1 : 0 ≤ r) (r2 : r ≤ 18446744073709551615) (hR : Tm W R b m f a) :
    Calls Try.prog 13 #[.pointer (some ⟨R, 0, none⟩), .int .i64 now, .int .u64 r] W fun e w' => e = .returned (.int .i64 (nxt b m (f + 1) now r)) ∧ Tm w' R b m (f + 1) (nxt b m (f + 1) now r) ∧ Only R W w' := by
  have hd := dl_bd b m (f + 1) r h1 h2
  obtain ⟨c0, c1, c2, c3, z2, z3⟩ := hR.cells
  have HR := Lib.hid hR
  clear hR
  by_cases hn : now ≤ 4611686018427387904 - dl b m (f + 1) r
  · have HN : Hid (nxt b m (f + 1) now r = now + dl b m (f + 1) r) := Lib.hid (by unfold nxt; rw [if_pos hn])
    go_enter Try.func13, Try.ntmps13
    go_wp2
    go_quiet ((go_at_call 18; exact Calls.quiet_of_same ((delay_any _ _ _ _ h1 h2 h3 (by omega) (by omega) r1 r2 _).mono fun _ _ h => ⟨h.1, h.2.symm⟩)))
    generalize hW1 : ((W.setCell ⟨R, 2, none⟩ (.int .i64 (f + 1))).setCell ⟨R, 3, none⟩ (.int .i64 4611686018427387904)).drewN nq = W1
    have HT : Tm W1 R b m (f + 1) 4611686018427387904 := by rw [← hW1]; exact ((HR.out.set2 _).set3 _).drewN _
    have HB : Only R W W1 := by rw [← hW1]; exact (((Only.refl _ _).set _ _).set _ _).drewN _
    clear hW1
    obtain ⟨e0, e1, e2, e3, y2, y3⟩ := HT.cells
    have HT' := Lib.hid HT
    clear HT
    go_wp2
    go_ret
    rw [HN.out]
    exact ⟨rfl, HT'.out.set3 _, HB.set _ _⟩
  · have HN : Hid (nxt b m (f + 1) now r = 4611686018427387904) := Lib.hid (by unfold nxt; rw [if_neg hn])
    go_enter Try.func13, Try.ntmps13
    go_wp2
    go_quiet ((go_at_call 18; exact Calls.quiet_of_same ((delay_any _ _ _ _ h1 h2 h3 (by omega) (by omega) r1 r2 _).mono fun _ _ h => ⟨h.1, h.2.symm⟩)))
    go_wp2
    go_ret
    rw [HN.out]
    exact ⟨rfl, ((HR.out.set2 _).set3 _).drewN _, (((Only.refl _ _).set _ _).set _ _).drewN _⟩
theorem fail_val (b m f a now r v : Int) (R : Nat) (W : World) (h1 : 1 ≤ b) (h2 : b ≤ m) (h3 : m ≤ 1099511627776) (f1 : 0 ≤ f) (f2 : f ≤ 1000) (n1 : -9223372036854775808 ≤ now) (n2 : now ≤ 9223372036854775807) (r1 : 0 ≤ r) (r2 : r ≤ 18446744073709551615) (hR : Tm W R b m f a)
    (hv : nxt b m (f + 1) now r = v) :
    Calls Try.prog 13 #[.pointer (some ⟨R, 0, none⟩), .int .i64 now, .int .u64 r] W fun e w' => e = .returned (.int .i64 v) ∧ Tm w' R b m (f + 1) v ∧ Only R W w' := by
  subst hv; exact fail_gen b m f a now r R W h1 h2 h3 f1 f2 n1 n2 r1 r2 hR
theorem Tm.alloc {w : World} {R : Nat} {b m f a : Int} (h : Tm w R b m f a) (o : Obj) : Tm (w.alloc o) R b m f a := (Below.heap_alloc w o R h.lt).trans h
theorem well_gen (b m f a now : Int) (R : Nat) (W : World) (hR : Tm W R b m f a) :
    Calls Try.prog 14 #[.pointer (some ⟨R, 0, none⟩), .int .i64 now] W fun e w' => e = .returned (.tuple #[]) ∧ Tm w' R b m 0 now ∧ Only R W w' := by
  obtain ⟨c0, c1, c2, c3, z2, z3⟩ := hR.cells
  have HR := Lib.hid hR
  clear hR
  go_enter Try.func14, Try.ntmps14
  go_wp2
  go_returns
  exact ⟨rfl, (HR.out.set2 _).set3 _, ((Only.refl _ _).set _ _).set _ _⟩
theorem fails_gen (b m f a : Int) (R : Nat) (W : World) (hR : Tm W R b m f a) :
    Calls Try.prog 15 #[.pointer (some ⟨R, 0, none⟩)] W fun e w' => e = .returned (.int .i64 f) ∧ w' = W := by
  obtain ⟨c0, c1, c2, c3, z2, z3⟩ := hR.cells
  clear hR
  go_enter Try.func15, Try.ntmps15
  go_wp2
  go_ret
  exact ⟨rfl, rfl⟩
theorem ready_gen (b m f a now : Int) (R : Nat) (W : World) (hR : Tm W R b m f a) :
    Calls Try.prog 16 #[.pointer (some ⟨R, 0, none⟩), .int .i64 now] W fun e w' => e = .returned (.bool (decide (a ≤ now))) ∧ w' = W := by
  obtain ⟨c0, c1, c2, c3, z2, z3⟩ := hR.cells
  clear hR
  go_enter Try.func16, Try.ntmps16
  go_wp2
  go_ret
  exact ⟨rfl, rfl⟩
theorem awake2 (w : World) :
    Calls Try.prog 8 #[] w fun e w' => e = .returned (.bool true) ∧ Below w.heap.size w w' := by
  go_enter Try.func8, Try.ntmps8
  go_wp2_with (first | (go_at_call_of 13 (Value.int IntKind.i64 10); refine (fail_1 _).mono ?_; rintro e w' ⟨k, rfl, rfl⟩) | (go_at_call_of 13 (Value.int IntKind.i64 12); refine (fail_2 _ _).mono ?_; rintro e w' ⟨k, rfl, rfl⟩) | (go_at_call 18; refine (delay_1 _).mono ?_; rintro e w' ⟨rfl, rfl⟩) | go_in)
  go_ret
  exact ⟨rfl, ((below_drewN' ((Below.refl _ _).alloc (Nat.le_refl _) _) _).setCell (by simp) _).setCell (by simp) _⟩
end Go.Proofs.Ytbhmbdmhkacfmaa
