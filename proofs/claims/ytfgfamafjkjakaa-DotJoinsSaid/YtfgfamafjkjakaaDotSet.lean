/-
  Package dot's Set in memory: sixteen pairs of a number and a row; New, Add, Has.
-/
import Derived.Test.YtfgfamafjkjakaaDotWith
namespace Go.Proofs.Ytfgfamafjkjakaa
open Go.ChangeShapes Go.WideShapes Go.ChangeAt Go.RowKit Go.Deep
set_option linter.unusedVariables false
set_option linter.unusedSimpArgs false
/-- Block R alone was written; others may be new. -/
structure Kp (R : Nat) (w w' : World) : Prop where
  os : w'.os = w.os
  tape : w'.tape = w.tape
  output : w'.output = w.output
  size : w.heap.size ≤ w'.heap.size
  block : ∀ k, k < w.heap.size → k ≠ R → w'.heap[k]? = w.heap[k]?
theorem Kp.refl (R : Nat) (w : World) : Kp R w w := ⟨rfl, rfl, rfl, Nat.le_refl _, fun _ _ _ => rfl⟩
theorem Kp.of_below {R : Nat} {w w' : World} (h : Below w.heap.size w w') : Kp R w w' := ⟨h.os, h.tape, h.output, h.size, fun k hk _ => h.block k hk⟩
theorem Kp.trans {R : Nat} {a b c : World} (h : Kp R a b) (k : Kp R b c) : Kp R a c :=
  ⟨k.os.trans h.os, k.tape.trans h.tape, k.output.trans h.output, Nat.le_trans h.size k.size, fun i hi hn => (k.block i (Nat.lt_of_lt_of_le hi h.size) hn).trans (h.block i hi hn)⟩
theorem Kp.below {R B : Nat} {w w' : World} (h : Kp R w w') (hR : B ≤ R) (hB : B ≤ w.heap.size) : Below B w w' := ⟨h.os, h.tape, h.output, h.size, fun k hk => h.block k (by omega) (by omega)⟩
theorem Kp.setCell (R o : Nat) (w : World) (v : Value) : Kp R w (w.setCell ⟨R, o, none⟩ v) := ⟨rfl, rfl, rfl, by rw [World.size_setCell]; exact Nat.le_refl _, fun k _ hn => Below.heap_setCell _ _ _ _ hn⟩
theorem Kp.drewN (R : Nat) (w : World) (n : Nat) : Kp R w (w.drewN n) := ⟨rfl, rfl, rfl, Nat.le_refl _, fun _ _ _ => rfl⟩
def setRow16 (ps : List (Nm × Value)) : List Value := ps.flatMap fun p => [.int .u64 (p.1.upto : Int), p.2]
theorem setRow_len : ∀ ps : List (Nm × Value), (setRow16 ps).length = ps.length * 2
  | [] => rfl
  | p :: r => by unfold setRow16; rw [List.flatMap_cons, List.length_append]; have := setRow_len r; unfold setRow16 at this; rw [this]; simp; omega
theorem setRow_get0 : ∀ (ps : List (Nm × Value)) (i : Nat) (h : i < ps.length), (setRow16 ps)[i * 2]? = some (.int .u64 (ps[i].1.upto : Int)) ∧ (setRow16 ps)[i * 2 + 1]? = some ps[i].2
  | p :: r, 0, _ => ⟨rfl, rfl⟩
  | p :: r, i + 1, h => by
    have := setRow_get0 r i (by simpa using h)
    have e : setRow16 (p :: r) = .int .u64 (p.1.upto : Int) :: p.2 :: setRow16 r := rfl
    rw [e, show (i + 1) * 2 = i * 2 + 1 + 1 by omega, show i * 2 + 1 + 1 + 1 = (i * 2 + 1) + 1 + 1 by omega]
    simp only [List.getElem?_cons_succ, List.getElem_cons_succ]
    exact this
theorem setRow_set : ∀ (ps : List (Nm × Value)) (i : Nat) (q : Nm × Value), ((setRow16 ps).set (i * 2) (.int .u64 (q.1.upto : Int))).set (i * 2 + 1) q.2 = setRow16 (ps.set i q)
  | [], i, q => rfl
  | p :: r, 0, q => rfl
  | p :: r, i + 1, q => by
    have e : ∀ (p : Nm × Value) (r : List (Nm × Value)), setRow16 (p :: r) = .int .u64 (p.1.upto : Int) :: p.2 :: setRow16 r := fun _ _ => rfl
    rw [List.set_cons_succ, e, e, show (i + 1) * 2 = i * 2 + 1 + 1 by omega, show i * 2 + 1 + 1 + 1 = (i * 2 + 1) + 1 + 1 by omega]
    simp only [List.set_cons_succ]
    rw [setRow_set r i q]
/-- Block R is a set of the numbers f, device by device. -/
def SetIs (W : World) (R : Nat) (f : List Nm) : Prop :=
  ∃ ps : List (Nm × Value), ps.map Prod.fst = f ∧ ps.length = 16 ∧ W.heap[R]? = some (.cells (setRow16 ps).toArray 58 (0, 0)) ∧ ∀ p ∈ ps, HasU W p.2 p.1.more ∧ p.1.Ok ∧ p.1.more.length ≤ 4096
theorem SetIs.lt {W : World} {R : Nat} {f : List Nm} (h : SetIs W R f) : R < W.heap.size := by
  obtain ⟨ps, _, _, hh, _⟩ := h
  exact lt_of_block hh
theorem SetIs.len {W : World} {R : Nat} {f : List Nm} (h : SetIs W R f) : f.length = 16 := by
  obtain ⟨ps, rfl, hl, _⟩ := h
  rw [List.length_map, hl]
theorem SetIs.below {W W' : World} {R : Nat} {f : List Nm} (h : SetIs W R f) (hb : Below W.heap.size W W') : SetIs W' R f := by
  have hl := h.lt
  obtain ⟨ps, h1, h2, h3, h4⟩ := h
  exact ⟨ps, h1, h2, (hb.block R hl).trans h3, fun p hp => ⟨(h4 p hp).1.below hb, (h4 p hp).2⟩⟩
theorem SetIs.drewN {W : World} {R : Nat} {f : List Nm} (h : SetIs W R f) (n : Nat) : SetIs (W.drewN n) R f := h
/-- Another block was written, which is no row of numbers. -/
theorem SetIs.kp {W W' : World} {R S : Nat} {f g : List Nm} (h : SetIs W R f) (hs : SetIs W S g) (hk : Kp S W W') (hne : R ≠ S) : SetIs W' R f := by
  have hl := h.lt
  obtain ⟨ps, h1, h2, h3, h4⟩ := h
  obtain ⟨_, _, _, hS, _⟩ := hs
  refine ⟨ps, h1, h2, (hk.block R hl hne).trans h3, fun p hp => ⟨(h4 p hp).1.stay (fun b c hc => hk.block b (lt_of_block hc) (fun e => ?_)), (h4 p hp).2⟩⟩
  subst e
  rw [hS] at hc
  simp only [Option.some.injEq, Obj.cells.injEq] at hc
  exact absurd hc.2.1 (by decide)
/-- What it holds of a device. -/
theorem SetIs.at_ {W : World} {R : Nat} {f : List Nm} (h : SetIs W R f) (i : Nat) (hi : i < 16) : ∃ mv, W.cell? ⟨R, i * 2, none⟩ = some (.int .u64 ((f.getD i Nm.zero).upto : Int)) ∧ W.cell? ⟨R, i * 2 + 1, none⟩ = some mv ∧ HasU W mv (f.getD i Nm.zero).more ∧ (f.getD i Nm.zero).Ok ∧ (f.getD i Nm.zero).more.length ≤ 4096 ∧
    W.frozen? ⟨R, i * 2, none⟩ = false ∧ W.frozen? ⟨R, i * 2 + 1, none⟩ = false := by
  obtain ⟨ps, rfl, hl, hh, h4⟩ := h
  have hi' : i < ps.length := by omega
  have hg : (ps.map Prod.fst).getD i Nm.zero = ps[i].1 := by rw [List.getD_eq_getElem?_getD, List.getElem?_map, List.getElem?_eq_getElem hi']; rfl
  obtain ⟨g0, g1⟩ := setRow_get0 ps i hi'
  obtain ⟨k1, k2, k3⟩ := h4 _ (List.getElem_mem hi')
  rw [hg]
  exact ⟨ps[i].2, by simp only [World.cell?, hh, List.getElem?_toArray, g0]; rfl, by simp only [World.cell?, hh, List.getElem?_toArray, g1]; rfl, k1, k2, k3, by simp [World.frozen?, hh], by simp [World.frozen?, hh]⟩
/-- A device's numbers written anew. -/
theorem SetIs.set {W : World} {R : Nat} {f : List Nm} (h : SetIs W R f) (i : Nat) (q : Nm) (mv : Value) (hm : HasU W mv q.more) (ho : q.Ok) (hl : q.more.length ≤ 4096) : SetIs ((W.setCell ⟨R, i * 2, none⟩ (.int .u64 (q.upto : Int))).setCell ⟨R, i * 2 + 1, none⟩ mv) R (f.set i q) := by
  obtain ⟨ps, rfl, hl16, hh, h4⟩ := h
  have st : ∀ {v : Value} {l : List Nat}, HasU W v l → HasU ((W.setCell ⟨R, i * 2, none⟩ (.int .u64 (q.upto : Int))).setCell ⟨R, i * 2 + 1, none⟩ mv) v l := fun hv =>
    (hv.other hh (by decide)).other (heap_setCell_same _ _ _ _ _ _ hh) (by decide)
  refine ⟨ps.set i (q, mv), by rw [List.map_set], by rw [List.length_set]; exact hl16, ?_, fun p hp => ?_⟩
  · rw [heap_setCell_same _ _ _ _ _ _ (heap_setCell_same _ _ _ _ _ _ hh), List.setIfInBounds_toArray, List.setIfInBounds_toArray, ← setRow_set ps i (q, mv)]
  · rcases List.mem_or_eq_of_mem_set hp with hp | rfl
    · exact ⟨st (h4 p hp).1, (h4 p hp).2⟩
    · exact ⟨st hm, ho, hl⟩
def addS (f : List Nm) (d : Int) (n : Nat) : List Nm × Int :=
  if goodB d n then
    (if (f.getD d.toNat Nm.zero).has n then (f, 0) else if 4096 < ((f.getD d.toNat Nm.zero).with n).more.length then (f, 2) else (f.set d.toNat ((f.getD d.toNat Nm.zero).with n), 0))
  else (f, 1)
def none16 : List Nm := List.replicate 16 Nm.zero
set_option maxRecDepth 100000 in
set_option maxHeartbeats 4000000 in
theorem New_any (w : World) : Calls Try.prog 10 #[] w fun e w' => e = .returned (.pointer (some ⟨w.heap.size, 0, none⟩)) ∧ SetIs w' w.heap.size none16 ∧ Below w.heap.size w w' := by
  go_enter Try.func10, Try.ntmps10
  go_wp2
  go_ret
  refine ⟨rfl, ⟨List.replicate 16 (Nm.zero, .slice none 0 0), by simp [none16], rfl, heap_alloc_new _ _, fun p hp => ?_⟩, (Below.refl _ _).alloc (Nat.le_refl _) _⟩
  obtain rfl := List.eq_of_mem_replicate hp
  exact ⟨HasU.nil _, Nm.zero_ok, by decide⟩
end Go.Proofs.Ytfgfamafjkjakaa
