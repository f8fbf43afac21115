/-
  Package sha: what stays through a law's last region.
-/
import Derived.Test.YtjopfhmloklhdaaDoorAwake2
namespace Go.Proofs.YtjopfhmloklhdaaDoor
open Go.ChangeShapes Go.WideShapes Go.ChangeAt Go.RowKit Go.Deep
set_option linter.unusedVariables false
set_option linter.unusedSimpArgs false

/-- Rows of 32 bytes, slices of bytes, the tables, what was there. -/
structure ShN (w0 : World) (B : Nat) (rows : List (Nat × List UInt8)) (hs : List (Value × List UInt8)) (W : World) : Prop where
  rows : ∀ p ∈ rows, BRow W 23 p.1 p.2
  has : ∀ p ∈ hs, HasA W p.1 p.2
  g : Grnd W
  bel : Below B w0 W
  le : B ≤ W.heap.size
theorem ShN.below {w0 : World} {B : Nat} {rows : List (Nat × List UInt8)} {hs : List (Value × List UInt8)} {W W' : World} (h : ShN w0 B rows hs W) (hb : Below W.heap.size W W') : ShN w0 B rows hs W' :=
  ⟨fun p hp => (h.rows p hp).below hb (h.rows p hp).lt, fun p hp => (h.has p hp).below hb, h.g.below hb, h.bel.trans (hb.mono h.le), Nat.le_trans h.le hb.size⟩
/-- And a hash that was asked. -/
structure ShS (w0 : World) (B R : Nat) (l : List UInt8) (rows : List (Nat × List UInt8)) (hs : List (Value × List UInt8)) (W : World) : Prop where
  n : ShN w0 B rows hs W
  h : HDone W R l
theorem ShS.below {w0 : World} {B R : Nat} {l : List UInt8} {rows : List (Nat × List UInt8)} {hs : List (Value × List UInt8)} {W W' : World} (h : ShS w0 B R l rows hs W) (hb : Below W.heap.size W W') : ShS w0 B R l rows hs W' :=
  ⟨h.n.below hb, h.h.below hb⟩
theorem ShN.kp {w0 : World} {B R : Nat} {rows : List (Nat × List UInt8)} {hs : List (Value × List UInt8)} {W W' : World} (h : ShN w0 B rows hs W) (hk : Kp R W W') (hB : B ≤ R) (hs1 : 0 < B) (hs2 : 1 < B) (hr : ∀ p ∈ rows, p.1 ≠ R) (hh : ∀ p ∈ hs, 0 < p.2.length → p.1.ownBlock ≠ some R) : ShN w0 B rows hs W' :=
  ⟨fun p hp => (h.rows p hp).kp hk (hr p hp), fun p hp => (h.has p hp).kp hk (hh p hp), h.g.kp hk (by omega) (by omega), h.bel.trans (hk.below hB h.le), Nat.le_trans h.le hk.size⟩
theorem ShS.kp {w0 : World} {B R : Nat} {l : List UInt8} {rows : List (Nat × List UInt8)} {hs : List (Value × List UInt8)} {W W' : World} (h : ShS w0 B R l rows hs W) (hk : Kp R W W') (hd : HDone W' R l) (hB : B ≤ R) (hs1 : 0 < B) (hs2 : 1 < B) (hr : ∀ p ∈ rows, p.1 ≠ R) (hh : ∀ p ∈ hs, 0 < p.2.length → p.1.ownBlock ≠ some R) : ShS w0 B R l rows hs W' :=
  ⟨h.n.kp hk hB hs1 hs2 hr hh, hd⟩
theorem rows_one {W : World} {g : Nat} {D : List UInt8} (h : BRow W 23 g D) : ∀ p ∈ [(g, D)], BRow W 23 p.1 p.2 := fun p hp => by
  rw [List.mem_singleton] at hp
  subst hp
  exact h
theorem rows_two {W : World} {g g' : Nat} {D D' : List UInt8} (h : BRow W 23 g D) (h' : BRow W 23 g' D') : ∀ p ∈ [(g, D), (g', D')], BRow W 23 p.1 p.2 := fun p hp => by
  simp only [List.mem_cons, List.not_mem_nil, or_false] at hp
  rcases hp with rfl | rfl
  · exact h
  · exact h'
theorem rows_nil {W : World} : ∀ p ∈ ([] : List (Nat × List UInt8)), BRow W 23 p.1 p.2 := fun p hp => by cases hp
theorem has_nil {W : World} : ∀ p ∈ ([] : List (Value × List UInt8)), HasA W p.1 p.2 := fun p hp => by cases hp
theorem has_one {W : World} {v : Value} {l : List UInt8} (h : HasA W v l) : ∀ p ∈ [(v, l)], HasA W p.1 p.2 := fun p hp => by
  rw [List.mem_singleton] at hp
  subst hp
  exact h
theorem has_two {W : World} {v v' : Value} {l l' : List UInt8} (h : HasA W v l) (h' : HasA W v' l') : ∀ p ∈ [(v, l), (v', l')], HasA W p.1 p.2 := fun p hp => by
  simp only [List.mem_cons, List.not_mem_nil, or_false] at hp
  rcases hp with rfl | rfl
  · exact h
  · exact h'
theorem ne_one {g R : Nat} {D : List UInt8} (h : g ≠ R) : ∀ p ∈ [(g, D)], p.1 ≠ R := fun p hp => by
  rw [List.mem_singleton] at hp
  subst hp
  exact h
theorem own_nil {R : Nat} : ∀ p ∈ ([] : List (Value × List UInt8)), 0 < p.2.length → p.1.ownBlock ≠ some R := fun p hp => by cases hp
theorem own_one {R : Nat} {v : Value} {l : List UInt8} (h : 0 < l.length → v.ownBlock ≠ some R) : ∀ p ∈ [(v, l)], 0 < p.2.length → p.1.ownBlock ≠ some R := fun p hp => by
  rw [List.mem_singleton] at hp
  subst hp
  exact h
theorem read_zz : readV [122, 122] = (zeros 32, 14) := by
  unfold readV
  rw [if_neg (by decide)]
section
variable {P : Program} {ops : Array Oper} {S : World → Prop}
theorem wpList_run {rest : List Oper} {o : Oper} {a : Act} {w w' : World} {Q : Exit → Act → World → Prop} {v : Value} (hw : Region.wanted o (yielded ops a.tmps) = true) (hr : (execOp a.eval o).run P w = .ok (.value v) w') (h : wpList P ops Q rest (a.put o.dst v) w') : wpList P ops Q (o :: rest) a w :=
  wpList_step fun K hK => by
    rw [if_pos hw]
    unfold Oper.wp
    rw [hr, Oper.upon_value]
    exact hK _ _ h
theorem exec_load_row {o : Oper} {a : Act} {w : World} (ty : TypeId) (x : Operand) (ho : o.op = .load ty x) (g : Nat) (hx : a.eval x = .pointer (some ⟨g, 0, none⟩)) (t : TypeId) (cs : Array Value) (fr : Nat × Nat) (d : TypeDesc) (hg : w.heap[g]? = some (.cells cs t fr))
    (hu : P.underlying ty = some d) (hd : (match d with | .struct _ | .array _ _ => true | _ => false) = true) (hi : (P.info? ty).map (·.size) = some cs.size) : (execOp a.eval o).run P w = .ok (.value (.agg cs)) w := by
  unfold execOp
  simp only [ho, hx, Instr.loadAt, Instr.sureAddr, Sem.run_bind, Sem.run_pure, Result.andThen_ok, run_loadVar_row w g t ty cs fr d hg hu hd hi]
end
end Go.Proofs.YtjopfhmloklhdaaDoor
