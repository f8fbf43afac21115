/-
  Two items held against one another; two lists of items held against one another, as the document's own answer does it.
-/
import Derived.Test.YtfdafoibclfpgaaMSorted
import Derived.ChangeKeysEq
import Derived.Laws.StructEq
namespace Go.Proofs.Ytfdafoibclfpgaa
open Go.ChangeShapes Go.WideShapes Go.ChangeAt Go.RowKit Go.Deep
set_option linter.unusedVariables false
set_option linter.unusedSimpArgs false
def eqI (x y : Itm) : Bool := kEq x.key y.key && (decide (x.seq = y.seq) && ((x.gone == y.gone) && kEq x.val y.val))
theorem eqI_iff (x y : Itm) : eqI x y = true ↔ x = y := by
  obtain ⟨k, s, g, u⟩ := x
  obtain ⟨k', s', g', u'⟩ := y
  unfold eqI
  simp only [Bool.and_eq_true, kEq_iff, decide_eq_true_eq, beq_iff_eq, Itm.mk.injEq]
theorem int_beq (a b : Nat) : ((a : Int) == (b : Int)) = decide (a = b) := by
  rw [Bool.eq_iff_iff, beq_iff_eq, decide_eq_true_eq]; omega
def sameB : List Itm → List Itm → Bool
  | [], [] => true
  | x :: a, y :: b => eqI x y && sameB a b
  | _, _ => false
theorem sameB_iff : ∀ a b : List Itm, sameB a b = true ↔ a = b
  | [], [] => by simp [sameB]
  | [], _ :: _ => by simp [sameB]
  | _ :: _, [] => by simp [sameB]
  | x :: a, y :: b => by
    unfold sameB
    rw [Bool.and_eq_true, eqI_iff, sameB_iff a b, List.cons.injEq]
theorem sameB_refl (a : List Itm) : sameB a a = true := (sameB_iff a a).2 rfl
theorem sameB_len {a b : List Itm} (h : a.length ≠ b.length) : sameB a b = false := by
  rcases hb : sameB a b with _ | _
  · rfl
  · exact absurd (congrArg List.length ((sameB_iff a b).1 hb)) h
theorem sameB_ne {a b : List Itm} (i : Nat) (h1 : i < a.length) (h2 : i < b.length) (h : eqI a[i] b[i] = false) : sameB a b = false := by
  rcases hb : sameB a b with _ | _
  · rfl
  · have e := (sameB_iff a b).1 hb
    subst e
    rw [(eqI_iff _ _).2 rfl] at h
    exact absurd h (by decide)
theorem sameB_all {a b : List Itm} (hl : a.length = b.length) (h : ∀ i (h1 : i < a.length) (h2 : i < b.length), eqI a[i] b[i] = true) : sameB a b = true := by
  rw [sameB_iff]
  exact List.ext_getElem hl fun i h1 h2 => (eqI_iff _ _).1 (h i h1 h2)
theorem run_equalI (x y : Itm) (W : World) : (Op.equalIn 10000 29 x.v y.v).run Try.prog W = .ok (eqI x y) W := by
  unfold Itm.v
  rw [run_equalIn_struct W 9999 29 _ _ (by kernel_rfl) (by kernel_rfl)]
  have hf : (Try.prog.fieldsOf 29).toList.map (fun f => (f.name, f.type, f.offset)) = [("Key", 9, 0), ("Seq", 27, 1), ("Gone", 4, 2), ("Value", 9, 3)] := by kernel_rfl
  obtain ⟨fs, hfs⟩ : ∃ fs, (Try.prog.fieldsOf 29).toList = fs := ⟨_, rfl⟩
  rw [hfs] at hf ⊢
  obtain ⟨f0, r0, rfl, e0, hf⟩ := List.map_eq_cons_iff.1 hf
  obtain ⟨f1, r1, rfl, e1, hf⟩ := List.map_eq_cons_iff.1 hf
  obtain ⟨f2, r2, rfl, e2, hf⟩ := List.map_eq_cons_iff.1 hf
  obtain ⟨f3, r3, rfl, e3, hf⟩ := List.map_eq_cons_iff.1 hf
  obtain rfl := List.map_eq_nil_iff.1 hf
  simp only [Prod.mk.injEq] at e0 e1 e2 e3
  obtain ⟨a0, b0, c0⟩ := e0
  obtain ⟨a1, b1, c1⟩ := e1
  obtain ⟨a2, b2, c2⟩ := e2
  obtain ⟨a3, b3, c3⟩ := e3
  have p0 : ∀ (z : Itm) W, (part 9 #[.string z.key, .int .u64 (z.seq : Int), .bool z.gone, .string z.val] 0).run Try.prog W = .ok (.string z.key) W := fun z W => by
    have h : (isAgg 9).run Try.prog W = .ok false W := by kernel_rfl
    unfold part; simp [h]
  have p1 : ∀ (z : Itm) W, (part 27 #[.string z.key, .int .u64 (z.seq : Int), .bool z.gone, .string z.val] 1).run Try.prog W = .ok (.int .u64 (z.seq : Int)) W := fun z W => by
    have h : (isAgg 27).run Try.prog W = .ok false W := by kernel_rfl
    unfold part; simp [h]
  have p2 : ∀ (z : Itm) W, (part 4 #[.string z.key, .int .u64 (z.seq : Int), .bool z.gone, .string z.val] 2).run Try.prog W = .ok (.bool z.gone) W := fun z W => by
    have h : (isAgg 4).run Try.prog W = .ok false W := by kernel_rfl
    unfold part; simp [h]
  have p3 : ∀ (z : Itm) W, (part 9 #[.string z.key, .int .u64 (z.seq : Int), .bool z.gone, .string z.val] 3).run Try.prog W = .ok (.string z.val) W := fun z W => by
    have h : (isAgg 9).run Try.prog W = .ok false W := by kernel_rfl
    unfold part; simp [h]
  unfold eqI kEq
  rw [← int_beq]
  have q0 := run_equalIn_string W 9998 9 x.key y.key Try.underlying9
  have q1 := run_equalIn_int W 9998 27 .u64 .u64 (x.seq : Int) (y.seq : Int) Try.underlying27
  have q2 := run_equalIn_bool' W 9998 4 x.gone y.gone Try.underlying4
  have q3 := run_equalIn_string W 9998 9 x.val y.val Try.underlying9
  have n0 : f0.name ≠ "_" := by rw [a0]; decide
  have n1 : f1.name ≠ "_" := by rw [a1]; decide
  have n2 : f2.name ≠ "_" := by rw [a2]; decide
  have n3 : f3.name ≠ "_" := by rw [a3]; decide
  have e0 : ∀ (R : List Field) (c : Bool), (x.key.toList == y.key.toList) = c → (Op.eqFields 9999 #[.string x.key, .int .u64 (x.seq : Int), .bool x.gone, .string x.val] #[.string y.key, .int .u64 (y.seq : Int), .bool y.gone, .string y.val] (f0 :: R)).run Try.prog W = if c then (Op.eqFields 9999 #[.string x.key, .int .u64 (x.seq : Int), .bool x.gone, .string x.val] #[.string y.key, .int .u64 (y.seq : Int), .bool y.gone, .string y.val] R).run Try.prog W else .ok false W := fun R c hc => by
    rw [Op.eqFields, if_pos n0, b0, c0, Sem.run_bind, p0 x W, Result.andThen_ok, Sem.run_bind, p0 y W, Result.andThen_ok, Sem.run_bind, q0, Result.andThen_ok, hc]
    cases c <;> rfl
  have e1 : ∀ (R : List Field) (c : Bool), ((x.seq : Int) == (y.seq : Int)) = c → (Op.eqFields 9999 #[.string x.key, .int .u64 (x.seq : Int), .bool x.gone, .string x.val] #[.string y.key, .int .u64 (y.seq : Int), .bool y.gone, .string y.val] (f1 :: R)).run Try.prog W = if c then (Op.eqFields 9999 #[.string x.key, .int .u64 (x.seq : Int), .bool x.gone, .string x.val] #[.string y.key, .int .u64 (y.seq : Int), .bool y.gone, .string y.val] R).run Try.prog W else .ok false W := fun R c hc => by
    rw [Op.eqFields, if_pos n1, b1, c1, Sem.run_bind, p1 x W, Result.andThen_ok, Sem.run_bind, p1 y W, Result.andThen_ok, Sem.run_bind, q1, Result.andThen_ok, hc]
    cases c <;> rfl
  have e2 : ∀ (R : List Field) (c : Bool), (x.gone == y.gone) = c → (Op.eqFields 9999 #[.string x.key, .int .u64 (x.seq : Int), .bool x.gone, .string x.val] #[.string y.key, .int .u64 (y.seq : Int), .bool y.gone, .string y.val] (f2 :: R)).run Try.prog W = if c then (Op.eqFields 9999 #[.string x.key, .int .u64 (x.seq : Int), .bool x.gone, .string x.val] #[.string y.key, .int .u64 (y.seq : Int), .bool y.gone, .string y.val] R).run Try.prog W else .ok false W := fun R c hc => by
    rw [Op.eqFields, if_pos n2, b2, c2, Sem.run_bind, p2 x W, Result.andThen_ok, Sem.run_bind, p2 y W, Result.andThen_ok, Sem.run_bind, q2, Result.andThen_ok, hc]
    cases c <;> rfl
  have e3 : ∀ (R : List Field) (c : Bool), (x.val.toList == y.val.toList) = c → (Op.eqFields 9999 #[.string x.key, .int .u64 (x.seq : Int), .bool x.gone, .string x.val] #[.string y.key, .int .u64 (y.seq : Int), .bool y.gone, .string y.val] (f3 :: R)).run Try.prog W = if c then (Op.eqFields 9999 #[.string x.key, .int .u64 (x.seq : Int), .bool x.gone, .string x.val] #[.string y.key, .int .u64 (y.seq : Int), .bool y.gone, .string y.val] R).run Try.prog W else .ok false W := fun R c hc => by
    rw [Op.eqFields, if_pos n3, b3, c3, Sem.run_bind, p3 x W, Result.andThen_ok, Sem.run_bind, p3 y W, Result.andThen_ok, Sem.run_bind, q3, Result.andThen_ok, hc]
    cases c <;> rfl
  rw [e0 _ _ rfl, e1 _ _ rfl, e2 _ _ rfl, e3 _ _ rfl]
  cases (x.key.toList == y.key.toList) <;> cases ((x.seq : Int) == (y.seq : Int)) <;> cases (x.gone == y.gone) <;> cases (x.val.toList == y.val.toList) <;> rfl
theorem eqGuardI : Try.prog.eqGuardType Try.prog.depth 29 = false := by kernel_rfl
section
variable {ops : Array Oper} {S : World → Prop}
theorem exec_eqI {op : Oper} {a : Act} (p q : Operand) (t : TypeId) (ho : op.op = .binOp .eql 29 p q t) (x y : Itm) (hx : a.eval p = x.v) (hy : a.eval q = y.v) (b : Bool) (hb : eqI x y = b) (w : World) :
    (execOp a.eval op).run Try.prog w = .ok (.value (.bool b)) w := by
  have hr := run_equalI x y w
  unfold Itm.v at hx hy hr
  unfold execOp
  simp only [ho, hx, hy, Sem.run_bind, run_eqGuard_agg w .eql 29 p q _ _ eqGuardI, Result.andThen_ok, run_eql_struct, hr, Sem.run_pure, hb]
theorem exec_neI {op : Oper} {a : Act} (p q : Operand) (t : TypeId) (ho : op.op = .binOp .neq 29 p q t) (x y : Itm) (hx : a.eval p = x.v) (hy : a.eval q = y.v) (b : Bool) (hb : eqI x y = !b) (w : World) :
    (execOp a.eval op).run Try.prog w = .ok (.value (.bool b)) w := by
  have hr := run_equalI x y w
  unfold Itm.v at hx hy hr
  unfold execOp
  simp only [ho, hx, hy, Sem.run_bind, run_eqGuard_agg w .neq 29 p q _ _ eqGuardI, Result.andThen_ok, run_neq_struct, hr, Sem.run_pure, hb, Bool.not_not]
theorem yieldsIf_eqI {op : Oper} {a : Act} (hw : Region.wanted op (yielded ops a.tmps) = true) (p q : Operand) (t : TypeId) (ho : op.op = .binOp .eql 29 p q t) (x y : Itm) (hx : a.eval p = x.v) (hy : a.eval q = y.v) (b : Bool) (hb : eqI x y = b) :
    YieldsIf Try.prog ops S op (.bool b) a := .inl ⟨hw, fun w _ => exec_eqI p q t ho x y hx hy b hb w⟩
theorem yieldsIf_neI {op : Oper} {a : Act} (hw : Region.wanted op (yielded ops a.tmps) = true) (p q : Operand) (t : TypeId) (ho : op.op = .binOp .neq 29 p q t) (x y : Itm) (hx : a.eval p = x.v) (hy : a.eval q = y.v) (b : Bool) (hb : eqI x y = !b) :
    YieldsIf Try.prog ops S op (.bool b) a := .inl ⟨hw, fun w _ => exec_neI p q t ho x y hx hy b hb w⟩
end
end Go.Proofs.Ytfdafoibclfpgaa
