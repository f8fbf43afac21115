/-
  Package simnet's network in memory: rows of packets, fed numbers, the struct; what a call may have written.
-/
import Derived.Test.YtaopnoaopcbkoaaRows
import Derived.Test.YtaopnoaopcbkoaaAppA
import Derived.ArgAppend
import Derived.LoopTactic
namespace Go.Proofs.Ytaopnoaopcbkoaa
open Go.ChangeShapes Go.WideShapes Go.ChangeAt Go.RowKit Go.Deep
set_option linter.unusedVariables false

/-- Only blocks of F may have been written; others may be new. -/
structure Keeps (F : Nat → Prop) (w w' : World) : Prop where
  os : w'.os = w.os
  tape : w'.tape = w.tape
  output : w'.output = w.output
  size : w.heap.size ≤ w'.heap.size
  block : ∀ k, k < w.heap.size → ¬ F k → w'.heap[k]? = w.heap[k]?
theorem Keeps.refl (F : Nat → Prop) (w : World) : Keeps F w w := ⟨rfl, rfl, rfl, Nat.le_refl _, fun _ _ _ => rfl⟩
theorem Keeps.of_below {F : Nat → Prop} {w w' : World} (h : Below w.heap.size w w') : Keeps F w w' := ⟨h.os, h.tape, h.output, h.size, fun k hk _ => h.block k hk⟩
theorem Keeps.trans {F F' : Nat → Prop} {a b c : World} (h : Keeps F a b) (k : Keeps F' b c) (hF : ∀ i, i < a.heap.size → F' i → F i) : Keeps F a c :=
  ⟨k.os.trans h.os, k.tape.trans h.tape, k.output.trans h.output, Nat.le_trans h.size k.size, fun i hi hn => (k.block i (Nat.lt_of_lt_of_le hi h.size) (fun h' => hn (hF i hi h'))).trans (h.block i hi hn)⟩
theorem Keeps.below {F : Nat → Prop} {w w' : World} {B : Nat} (h : Keeps F w w') (hF : ∀ k, F k → B ≤ k) (hB : B ≤ w.heap.size) : Below B w w' :=
  ⟨h.os, h.tape, h.output, h.size, fun k hk => h.block k (by omega) (fun hf => by have := hF k hf; omega)⟩
theorem Keeps.setCell {F : Nat → Prop} {a w : World} (h : Keeps F a w) (p : Addr) (u : Value) (hp : p.block < a.heap.size → F p.block) : Keeps F a (w.setCell p u) :=
  h.trans (F' := fun k => k = p.block) ⟨rfl, rfl, rfl, by simp, fun k _ hk => Below.heap_setCell _ _ _ _ hk⟩ (fun i hi e => by subst e; exact hp hi)
theorem Keeps.alloc {F : Nat → Prop} {a w : World} (h : Keeps F a w) (o : Obj) : Keeps F a (w.alloc o) :=
  h.trans (F' := fun _ => False) (Keeps.of_below ((Below.refl w.heap.size w).alloc (Nat.le_refl _) o)) (fun _ _ h => h.elim)
theorem Keeps.drewN {F : Nat → Prop} {a w : World} (h : Keeps F a w) (n : Nat) : Keeps F a (w.drewN n) := ⟨h.os, h.tape, h.output, h.size, h.block⟩

/-- A packet that waits. -/
structure Pk where
  id : Nat
  fr : Int
  to : Int
  data : List UInt8
def pkCells (p : Pk × Value) : List Value := [.int .i64 (p.1.id : Int), .int .i64 p.1.fr, .int .i64 p.1.to, p.2]
def rowOf (Ps : List (Pk × Value)) : List Value := Ps.flatMap pkCells
theorem rowOf_nil : rowOf [] = [] := rfl
theorem rowOf_cons (p : Pk × Value) (r : List (Pk × Value)) : rowOf (p :: r) = pkCells p ++ rowOf r := by unfold rowOf; simp
theorem rowOf_append (a b : List (Pk × Value)) : rowOf (a ++ b) = rowOf a ++ rowOf b := by unfold rowOf; simp
theorem rowOf_len : ∀ (l : List (Pk × Value)), (rowOf l).length = l.length * 4
  | [] => rfl
  | p :: r => by rw [rowOf_cons, List.length_append, rowOf_len r]; simp only [pkCells, List.length_cons, List.length_nil]; omega
theorem rowOf_take (l : List (Pk × Value)) (i : Nat) (h : i ≤ l.length) : (rowOf l).take (i * 4) = rowOf (l.take i) := by
  have e : rowOf l = rowOf (l.take i) ++ rowOf (l.drop i) := by rw [← rowOf_append, List.take_append_drop]
  have hl : (rowOf (l.take i)).length = i * 4 := by rw [rowOf_len, List.length_take]; omega
  rw [e, ← hl, List.take_left]
theorem rowOf_drop (l : List (Pk × Value)) (i : Nat) (h : i ≤ l.length) : (rowOf l).drop (i * 4) = rowOf (l.drop i) := by
  have e : rowOf l = rowOf (l.take i) ++ rowOf (l.drop i) := by rw [← rowOf_append, List.take_append_drop]
  have hl : (rowOf (l.take i)).length = i * 4 := by rw [rowOf_len, List.length_take]; omega
  rw [e, ← hl, List.drop_left]
theorem rowOf_get (l : List (Pk × Value)) (i : Nat) (h : i < l.length) (j : Nat) (hj : j < 4) : (rowOf l)[i * 4 + j]? = (pkCells l[i])[j]? := by
  have e := rowOf_drop l i (by omega)
  have h1 : (rowOf l)[i * 4 + j]? = ((rowOf l).drop (i * 4))[j]? := by rw [List.getElem?_drop]
  rw [h1, e, List.drop_eq_getElem_cons h, rowOf_cons, List.getElem?_append_left (by simp [pkCells]; omega)]
theorem pkCells_one (p : Pk × Value) (h : p.2.oneCell' = true) : ∀ u ∈ pkCells p, u.oneCell' = true := by
  intro u hu
  simp only [pkCells, List.mem_cons, List.not_mem_nil, or_false] at hu
  rcases hu with rfl | rfl | rfl | rfl
  · rfl
  · rfl
  · rfl
  · exact h

theorem info_pk : (Try.prog.info? 72).map (fun i => (i.zero, i.size, i.bytes)) = some (some (.agg #[.int .i64 0, .int .i64 0, .int .i64 0, .slice none 0 0]), 4, 48) := by kernel_rfl
theorem info_u64 : (Try.prog.info? 40).map (fun i => (i.zero, i.size, i.bytes)) = some (some (.int .u64 0), 1, 8) := by kernel_rfl

/-- What waits: a row of the network's own. -/
def WRow (w : World) (B : Nat) (v : Value) (L : List Pk) (F : Nat → Prop) : Prop :=
  ∃ Ps : List (Pk × Value), Ps.map (·.1) = L ∧ w.ownsRow B 72 4 v L.length (rowOf Ps) ∧ (∀ g, v.ownBlock = some g → F g) ∧ ∀ p ∈ Ps, Own w B 5 p.2 p.1.data ∧ ∀ g, p.2.ownBlock = some g → F g
/-- Fed numbers: the rest of a row of the network's own. -/
def FRow (w : World) (B : Nat) (v : Value) (l : List Nat) (F : Nat → Prop) : Prop :=
  ∃ p cap, v = .slice p l.length cap ∧ l.length ≤ cap ∧ cap ≤ maxLen ∧ (0 < cap → ∃ g o cur, p = some ⟨g, o, none⟩ ∧ w.heap[g]? = some (.cells cur 40 (0, 0)) ∧ B ≤ g ∧ F g ∧ o + cap ≤ cur.size ∧ ∀ j (h : j < l.length), cur[o + j]? = some (.int .u64 (l[j] : Int)))
structure NetV where
  wait : List Pk
  sent : Nat
  now : Int
  fed : List Nat
  seed : Nat
def Net (w : World) (B R : Nat) (N : NetV) (F : Nat → Prop) : Prop :=
  ∃ wv fv, w.heap[R]? = some (.cells #[wv, .int .i64 (N.sent : Int), .int .i64 N.now, fv, .int .u64 (N.seed : Int)] 68 (0, 0)) ∧ F R ∧ (∀ k, F k → B ≤ k ∧ k < w.heap.size) ∧ WRow w B wv N.wait F ∧ FRow w B fv N.fed F

theorem WRow.same {w w' : World} {B : Nat} {v : Value} {L : List Pk} {F F' : Nat → Prop} (h : WRow w B v L F) (hF : ∀ k, k < w.heap.size → F k → F' k) (h1 : ∀ k c, F k → w.heap[k]? = some (.cells c 72 (0, 0)) → w'.heap[k]? = w.heap[k]?) (h2 : ∀ k c, F k → w.heap[k]? = some (.cells c 5 (0, 0)) → w'.heap[k]? = w.heap[k]?) : WRow w' B v L F' := by
  obtain ⟨Ps, e, hr, hg, hp⟩ := h
  refine ⟨Ps, e, ⟨hr.1, hr.2.imp id fun ⟨g, cap, cur, hv, hgB, hh, r⟩ => ⟨g, cap, cur, hv, hgB, (h1 g cur (hg g (by rw [hv]; rfl)) hh).trans hh, r⟩⟩, fun g h => hF g (World.ownsRow.lt hr g h).2 (hg g h), fun p hp' => ?_⟩
  obtain ⟨k1, k2⟩ := hp p hp'
  exact ⟨⟨k1.1, k1.2.imp id fun ⟨g, cap, cur, hv, hgB, hh, r⟩ => ⟨g, cap, cur, hv, hgB, (h2 g cur (k2 g (by rw [hv]; rfl)) hh).trans hh, r⟩⟩, fun g h => hF g (World.ownsRow.lt k1 g h).2 (k2 g h)⟩
theorem FRow.same {w w' : World} {B : Nat} {v : Value} {l : List Nat} {F F' : Nat → Prop} (h : FRow w B v l F) (hF : ∀ k, k < w.heap.size → F k → F' k) (h1 : ∀ k c, F k → w.heap[k]? = some (.cells c 40 (0, 0)) → w'.heap[k]? = w.heap[k]?) : FRow w' B v l F' := by
  obtain ⟨p, cap, hv, k1, k2, k3⟩ := h
  refine ⟨p, cap, hv, k1, k2, fun h => ?_⟩
  obtain ⟨g, o, cur, hp, hh, hB, hf, r⟩ := k3 h
  exact ⟨g, o, cur, hp, (h1 g cur hf hh).trans hh, hB, hF g (lt_of_block hh) hf, r⟩
/-- Nothing of the network was written. -/
theorem Net.stay {w w' : World} {B R : Nat} {N : NetV} {F : Nat → Prop} (h : Net w B R N F) (hs : w.heap.size ≤ w'.heap.size) (hb : ∀ k, k < w.heap.size → F k → w'.heap[k]? = w.heap[k]?) : Net w' B R N F := by
  obtain ⟨wv, fv, hh, hR, hF, hW, hf⟩ := h
  exact ⟨wv, fv, (hb R (lt_of_block hh) hR).trans hh, hR, fun k hk => ⟨(hF k hk).1, Nat.lt_of_lt_of_le (hF k hk).2 hs⟩, hW.same (fun _ _ h => h) (fun k c hk hc => hb k (lt_of_block hc) hk) (fun k c hk hc => hb k (lt_of_block hc) hk), hf.same (fun _ _ h => h) (fun k c hk hc => hb k (lt_of_block hc) hk)⟩
theorem Net.below {w w' : World} {B R : Nat} {N : NetV} {F : Nat → Prop} (h : Net w B R N F) (hb : Below w.heap.size w w') : Net w' B R N F := h.stay hb.size (fun k hk _ => hb.block k hk)
/-- Another network was written. -/
theorem Net.other {w w' : World} {B R : Nat} {N : NetV} {F G : Nat → Prop} (h : Net w B R N F) (hk : Keeps G w w') (hd : ∀ k, F k → ¬ G k) : Net w' B R N F := h.stay hk.size (fun k h1 h2 => hk.block k h1 (hd k h2))
theorem Net.lt {w : World} {B R : Nat} {N : NetV} {F : Nat → Prop} (h : Net w B R N F) : R < w.heap.size := by obtain ⟨wv, fv, hh, _⟩ := h; exact lt_of_block hh
theorem Net.base {w : World} {B R : Nat} {N : NetV} {F : Nat → Prop} (h : Net w B R N F) : ∀ k, F k → B ≤ k := by obtain ⟨wv, fv, hh, hR, hF, _⟩ := h; exact fun k hk => (hF k hk).1
theorem Net.cells {w : World} {B R : Nat} {N : NetV} {F : Nat → Prop} (h : Net w B R N F) : ∃ wv fv, w.cell? ⟨R, 0, none⟩ = some wv ∧ w.cell? ⟨R, 1, none⟩ = some (.int .i64 (N.sent : Int)) ∧ w.cell? ⟨R, 2, none⟩ = some (.int .i64 N.now) ∧ w.cell? ⟨R, 3, none⟩ = some fv ∧ w.cell? ⟨R, 4, none⟩ = some (.int .u64 (N.seed : Int)) ∧
    (∀ i, w.frozen? ⟨R, i, none⟩ = false) ∧ Hid (w.heap[R]? = some (.cells #[wv, .int .i64 (N.sent : Int), .int .i64 N.now, fv, .int .u64 (N.seed : Int)] 68 (0, 0))) ∧ Hid (F R) ∧ Hid (∀ k, F k → B ≤ k ∧ k < w.heap.size) ∧ Hid (WRow w B wv N.wait F) ∧ Hid (FRow w B fv N.fed F) := by
  obtain ⟨wv, fv, hh, hR, hF, hW, hf⟩ := h
  exact ⟨wv, fv, by simp [World.cell?, hh], by simp [World.cell?, hh], by simp [World.cell?, hh], by simp [World.cell?, hh], by simp [World.cell?, hh], fun i => by simp [World.frozen?, hh], Lib.hid hh, Lib.hid hR, Lib.hid hF, Lib.hid hW, Lib.hid hf⟩
/-- The struct alone was written. -/
theorem Net.put {w w' : World} {B R : Nat} {F : Nat → Prop} {N : NetV} {wv fv wv' fv' : Value} {a b c : Value} (hh : w.heap[R]? = some (.cells #[wv, a, b, fv, c] 68 (0, 0))) (hR : F R) (hF : ∀ k, F k → B ≤ k ∧ k < w.heap.size) (hW : WRow w B wv' N.wait F) (hf : FRow w B fv' N.fed F)
    (hs : w'.heap.size = w.heap.size) (hb : ∀ k, k ≠ R → w'.heap[k]? = w.heap[k]?) (hh' : w'.heap[R]? = some (.cells #[wv', .int .i64 (N.sent : Int), .int .i64 N.now, fv', .int .u64 (N.seed : Int)] 68 (0, 0))) : Net w' B R N F :=
  ⟨wv', fv', hh', hR, fun k hk => by rw [hs]; exact hF k hk,
    hW.same (fun _ _ h => h) (fun k c _ hc => hb k (fun e => by subst e; rw [hh] at hc; cases hc)) (fun k c _ hc => hb k (fun e => by subst e; rw [hh] at hc; cases hc)),
    hf.same (fun _ _ h => h) (fun k c _ hc => hb k (fun e => by subst e; rw [hh] at hc; cases hc))⟩
end Go.Proofs.Ytaopnoaopcbkoaa
