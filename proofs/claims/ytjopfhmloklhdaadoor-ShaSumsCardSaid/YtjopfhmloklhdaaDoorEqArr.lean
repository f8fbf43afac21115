/-
  Arrays of 32 bytes held against one another; texts held against one another; parts of texts.
-/
import Derived.Test.YtjopfhmloklhdaaDoorStd
import Derived.Test.YtjopfhmloklhdaaDoorLitPair
import Derived.ChangeKeysEq
import Derived.Laws.StructEq
namespace Go.Proofs.YtjopfhmloklhdaaDoor
open Go.ChangeShapes Go.WideShapes Go.ChangeAt Go.RowKit Go.Deep
set_option linter.unusedVariables false
set_option linter.unusedSimpArgs false

theorem cellsOf_u8 : Tryd.prog.cellsOf 5 = 1 := by kernel_rfl
theorem info_u8s : (Tryd.prog.info? 5).isSome = true := by kernel_rfl
theorem run_part_u8 (l : List UInt8) (i : Nat) (hi : i < l.length) (W : World) : (Go.part 5 (Lib.byteCells l).toArray (i * Tryd.prog.cellsOf 5)).run Tryd.prog W = .ok (.int .u8 ((l.getD i 0).toNat : Int)) W := by
  have ha : (isAgg 5).run Tryd.prog W = .ok false W := by kernel_rfl
  have hg : (Lib.byteCells l).toArray[i]? = some (.int .u8 ((l.getD i 0).toNat : Int)) := by
    rw [List.getElem?_toArray, byteCells_get hi, List.getD_eq_getElem?_getD, List.getElem?_eq_getElem hi]
    rfl
  unfold Go.part
  rw [cellsOf_u8, Nat.mul_one]
  simp [ha, hg]
theorem run_items (l m : List UInt8) (hl : l.length = 32) (hm : m.length = 32) (d : Nat) (W : World) : ∀ is : List Nat, (∀ i ∈ is, i < 32) →
    (Op.eqItems (d + 1) 5 (Tryd.prog.cellsOf 5) (Lib.byteCells l).toArray (Lib.byteCells m).toArray is).run Tryd.prog W = .ok (is.all fun i => l.getD i 0 == m.getD i 0) W
  | [], _ => rfl
  | i :: is, h => by
    have hi : i < 32 := h i (List.mem_cons_self ..)
    unfold Op.eqItems
    rw [Sem.run_bind, run_part_u8 l i (by omega) W, Result.andThen_ok, Sem.run_bind, run_part_u8 m i (by omega) W, Result.andThen_ok, Sem.run_bind, run_equalIn_int W d 5 .u8 .u8 _ _ Tryd.underlying5, Result.andThen_ok, List.all_cons]
    have e : (((l.getD i 0).toNat : Int) == ((m.getD i 0).toNat : Int)) = (l.getD i 0 == m.getD i 0) := by
      rw [Bool.eq_iff_iff, beq_iff_eq, beq_iff_eq]
      constructor
      · intro h1
        exact UInt8.toNat_inj.1 (by omega)
      · intro h1
        rw [h1]
    rw [e]
    cases hb : (l.getD i 0 == m.getD i 0)
    · rfl
    · rw [if_neg (by simp), run_items l m hl hm d W is (fun j hj => h j (List.mem_cons_of_mem _ hj)), Bool.true_and]
theorem all_same (l m : List UInt8) (hl : l.length = 32) (hm : m.length = 32) : ((List.range 32).all fun i => l.getD i 0 == m.getD i 0) = decide (l = m) := by
  rw [Bool.eq_iff_iff, List.all_eq_true, decide_eq_true_eq]
  constructor
  · intro h
    apply List.ext_getElem (by omega)
    intro i h1 h2
    have := h i (List.mem_range.2 (by omega))
    rw [beq_iff_eq, List.getD_eq_getElem?_getD, List.getD_eq_getElem?_getD, List.getElem?_eq_getElem h1, List.getElem?_eq_getElem h2] at this
    exact this
  · rintro rfl i _
    exact beq_self_eq_true _
theorem run_equal32 (l m : List UInt8) (hl : l.length = 32) (hm : m.length = 32) (W : World) : (Op.equalIn 10000 23 (.agg (Lib.byteCells l).toArray) (.agg (Lib.byteCells m).toArray)).run Tryd.prog W = .ok (decide (l = m)) W := by
  obtain ⟨i, hi⟩ := Option.isSome_iff_exists.1 info_u8s
  rw [run_equalIn_array (w := W) 9999 _ _ Tryd.underlying23 hi, run_items l m hl hm 9998 W _ (fun j hj => List.mem_range.1 hj), all_same l m hl hm]
theorem eqGuard32 : Tryd.prog.eqGuardType Tryd.prog.depth 23 = false := by kernel_rfl
section
variable {ops : Array Oper} {S : World → Prop}
theorem exec_eq32 {op : Oper} {a : Act} (x y : Operand) (t : TypeId) (ho : op.op = .binOp .eql 23 x y t) (l m : List UInt8) (hx : a.eval x = .agg (Lib.byteCells l).toArray) (hy : a.eval y = .agg (Lib.byteCells m).toArray) (hl : l.length = 32) (hm : m.length = 32) (b : Bool) (hb : decide (l = m) = b) (w : World) :
    (execOp a.eval op).run Tryd.prog w = .ok (.value (.bool b)) w := by
  unfold execOp
  simp only [ho, hx, hy, Sem.run_bind, run_eqGuard_agg w .eql 23 x y _ _ eqGuard32, Result.andThen_ok, run_eql_struct, run_equal32 l m hl hm w, Sem.run_pure, hb]
theorem exec_ne32 {op : Oper} {a : Act} (x y : Operand) (t : TypeId) (ho : op.op = .binOp .neq 23 x y t) (l m : List UInt8) (hx : a.eval x = .agg (Lib.byteCells l).toArray) (hy : a.eval y = .agg (Lib.byteCells m).toArray) (hl : l.length = 32) (hm : m.length = 32) (b : Bool) (hb : decide (l = m) = !b) (w : World) :
    (execOp a.eval op).run Tryd.prog w = .ok (.value (.bool b)) w := by
  unfold execOp
  simp only [ho, hx, hy, Sem.run_bind, run_eqGuard_agg w .neq 23 x y _ _ eqGuard32, Result.andThen_ok, run_neq_struct, run_equal32 l m hl hm w, Sem.run_pure, hb, Bool.not_not]
theorem yieldsIf_eq32 {op : Oper} {a : Act} (hw : Region.wanted op (yielded ops a.tmps) = true) (x y : Operand) (t : TypeId) (ho : op.op = .binOp .eql 23 x y t) (l m : List UInt8) (hx : a.eval x = .agg (Lib.byteCells l).toArray) (hy : a.eval y = .agg (Lib.byteCells m).toArray) (hl : l.length = 32) (hm : m.length = 32) (b : Bool) (hb : decide (l = m) = b) : YieldsIf Tryd.prog ops S op (.bool b) a :=
  yieldsIf_run hw (exec_eq32 x y t ho l m hx hy hl hm b hb)
theorem yieldsIf_ne32 {op : Oper} {a : Act} (hw : Region.wanted op (yielded ops a.tmps) = true) (x y : Operand) (t : TypeId) (ho : op.op = .binOp .neq 23 x y t) (l m : List UInt8) (hx : a.eval x = .agg (Lib.byteCells l).toArray) (hy : a.eval y = .agg (Lib.byteCells m).toArray) (hl : l.length = 32) (hm : m.length = 32) (b : Bool) (hb : decide (l = m) = !b) : YieldsIf Tryd.prog ops S op (.bool b) a :=
  yieldsIf_run hw (exec_ne32 x y t ho l m hx hy hl hm b hb)
theorem yieldsIf_eqS {op : Oper} {a : Act} (hw : Region.wanted op (yielded ops a.tmps) = true) (x y : Operand) (t : TypeId) (ho : op.op = .binOp .eql 9 x y t) (l m : ByteArray) (hx : a.eval x = .string l) (hy : a.eval y = .string m) (b : Bool) (hb : decide (l.data.toList = m.data.toList) = b) : YieldsIf Tryd.prog ops S op (.bool b) a := by
  refine yieldsIf_run hw (fun w => ?_)
  have hq : (binOp .eql 9 (.string l) (.string m)).run Tryd.prog w = .ok (.bool b) w := by
    have hd : (l == m) = b := by
      have h0 : (l == m) = (l.data == m.data) := rfl
      rw [h0, ← hb, Bool.eq_iff_iff, decide_eq_true_eq, beq_iff_eq, ← Array.toList_inj]
    have e : binOp .eql 9 (.string l) (.string m) = pure (.bool (l == m)) := by rw [binOp_string_eql, ← beq_toListBytes]
    rw [e, hd]
    rfl
  have hg : (eqGuard .eql 9 x y (.string l) (.string m)).run Tryd.prog w = .ok () w := by
    simp [eqGuard]
  unfold execOp
  simp only [ho, hx, hy, Sem.run_bind, hg, hq, Result.andThen_ok, Sem.run_pure]
theorem yieldsIf_headS {op : Oper} {a : Act} (hw : Region.wanted op (yielded ops a.tmps) = true) (x : Operand) (n : Nat) (k : Int) (hk : k = (n : Int)) (ho : op.op = .slice 9 x none (some (.const (.int .i64 k))) none) (s : ByteArray) (hx : a.eval x = .string s) (hn : n ≤ s.size) : YieldsIf Tryd.prog ops S op (.string (s.extract 0 n)) a := by
  refine yieldsIf_run hw (fun w => ?_)
  subst hk
  unfold execOp
  have hc : a.eval (.const (.int .i64 (n : Int))) = .int .i64 (n : Int) := rfl
  simp [ho, hx, hc, Instr.sliceAt, Instr.slice, run_underlying Tryd.underlying9, Instr.sliceBounds, run_sliceBound, hn]
end
end Go.Proofs.YtjopfhmloklhdaaDoor
