/-
  Package dot's Set: its sixteen devices read as one value, an element of it; pairs of cells that stay.
-/
import Derived.Test.YtfgfamafjkjakaaDotHas
import Derived.Deep.MidRow
namespace Go.Proofs.Ytfgfamafjkjakaa
open Go.ChangeShapes Go.WideShapes Go.ChangeAt Go.RowKit Go.Deep
set_option linter.unusedVariables false
set_option linter.unusedSimpArgs false
/-- Two cells that stay while nothing below is written. -/
def Two (w1 : World) (a b : Addr) (x y : Value) (W : World) : Prop := W.cell? a = some x ∧ W.cell? b = some y ∧ Below w1.heap.size w1 W
theorem Two.drew {w1 : World} {a b : Addr} {x y : Value} {W : World} (h : Two w1 a b x y W) : Two w1 a b x y W.drew := ⟨h.1, h.2.1, h.2.2.drew⟩
theorem Two.go {w1 : World} {a b : Addr} {x y : Value} (h : Two w1 a b x y w1) {W W' : World} (k : Two w1 a b x y W) (hb : Below W.heap.size W W') : Two w1 a b x y W' := by
  have hh := k.2.2.trans (hb.mono k.2.2.size)
  exact ⟨(hh.cell (cell_lt h.1)).trans h.1, (hh.cell (cell_lt h.2.1)).trans h.2.1, hh⟩
theorem Two.mk' {w1 : World} {G : Nat} {T : TypeId} {x y : Value} (h : w1.heap[G]? = some (.cells #[x, y] T (0, 0))) : Two w1 ⟨G, 0, none⟩ ⟨G, 1, none⟩ x y w1 := ⟨by simp [World.cell?, h], by simp [World.cell?, h], Below.refl _ _⟩
theorem setRow_range {W : World} {R : Nat} {ps : List (Nm × Value)} {T : TypeId} (h : W.heap[R]? = some (.cells (setRow16 ps).toArray T (0, 0))) : W.rangeAt R 0 (setRow16 ps) := fun j v hj => by
  simp [World.cell?, h, hj]
theorem info_16 : (Try.prog.info? 56).map (·.size) = some 32 := by kernel_rfl
theorem info_row {ps : List (Nm × Value)} (hl : ps.length = 16) : (Try.prog.info? 56).map (·.size) = some (setRow16 ps).length := by rw [setRow_len, hl]; exact info_16
theorem size_nm (W : World) : (sizeOf 55).run Try.prog W = .ok 2 W := by kernel_rfl
theorem agg_nm (W : World) : (isAgg 55).run Try.prog W = .ok true W := by kernel_rfl
theorem index_nm (ps : List (Nm × Value)) (hl : ps.length = 16) (k : Nat) (hk : k < ps.length) (W : World) :
    (Instr.index 56 (.agg (setRow16 ps).toArray) (.int .i64 (k : Int))).run Try.prog W = .ok (.agg #[.int .u64 (ps[k].1.upto : Int), ps[k].2]) W := by
  have hu : Try.prog.underlying 56 = some (.array 16 55) := Try.underlying56
  obtain ⟨g0, g1⟩ := setRow_get0 ps k hk
  have hx : (setRow16 ps).toArray.extract (k * 2) (k * 2 + 2) = #[.int .u64 (ps[k].1.upto : Int), ps[k].2] := by
    apply Array.ext_getElem?
    intro i
    rw [Array.getElem?_extract, List.getElem?_toArray]
    have hln : (setRow16 ps).length = 32 := by rw [setRow_len, hl]
    have hm : min (k * 2 + 2) (setRow16 ps).length = k * 2 + 2 := by omega
    rcases (by omega : i = 0 ∨ i = 1 ∨ 2 ≤ i) with rfl | rfl | h
    · simp [hm, g0]
    · simp [hm, g1]
    · rw [if_neg (by simp; omega), Array.getElem?_eq_none (by simp; omega)]
  have hp : (Go.part 55 (setRow16 ps).toArray (k * 2)).run Try.prog W = .ok (.agg #[.int .u64 (ps[k].1.upto : Int), ps[k].2]) W := by
    unfold Go.part
    simp [agg_nm, size_nm]
    simpa using congrArg Array.toList hx
  have hpos : (0 : Int) ≤ (k : Int) ∧ (k : Int) < ((16 : Nat) : Int) := by omega
  unfold Instr.index
  simp [asIntOf, run_underlying hu, size_nm]
  rw [if_pos (by omega), hp]
theorem below_dN {B : Nat} {a w : World} (h : Below B a w) (n : Nat) : Below B a (w.drewN n) := ⟨h.os, h.tape, h.output, h.size, fun k hk => h.block k hk⟩
section
variable {P : Program}
theorem wpList_index_at {ops : Array Oper} {rest : List Oper} {o : Oper} {a : Act} {w : World} {Q : Exit → Act → World → Prop} (hg : o.guard = none) (ty : TypeId) (x i : Operand) (ho : o.op = .index ty x i) (v : Value)
    (hr : ∀ w, (Instr.index ty (a.eval x) (a.eval i)).run P w = .ok v w)
    (h : wpList P ops Q rest (a.put o.dst v) w) : wpList P ops Q (o :: rest) a w := by
  refine wpList_plain hg fun _ hK => ?_
  unfold Oper.wp execOp
  simp only [ho, hr, Sem.run_bind, Sem.run_pure, Result.andThen_ok]
  exact hK _ _ h
end
end Go.Proofs.Ytfgfamafjkjakaa
