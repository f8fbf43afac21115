/-
  A conversion's row of bytes that is appended to, and written into behind that. No function of the project is named here.
-/
import Derived.Test.YtaopnoaopcbkoaaAppA
import Derived.ArgAppend
namespace Go.Proofs.Ytaopnoaopcbkoaa
open Go.ChangeShapes Go.WideShapes Go.ChangeAt Go.RowKit Go.Deep
set_option linter.unusedVariables false
section
variable {P : Program}
/-- Block g holds at least m cells of type e that may be written. -/
def Buf (w : World) (e : TypeId) (g m : Nat) : Prop := ∃ (C : Array Value) (f : Nat × Nat), w.heap[g]? = some (.cells C e f) ∧ m ≤ C.size ∧ (C.size ≤ f.1 ∨ f.2 ≤ f.1)
theorem Buf.cell {w : World} {e : TypeId} {g m : Nat} (h : Buf w e g m) (k : Nat) (hk : k < m) : ∃ v, w.cell? ⟨g, k, none⟩ = some v ∧ w.frozen? ⟨g, k, none⟩ = false := by
  obtain ⟨C, ⟨f1, f2⟩, hh, hs, hf⟩ := h
  refine ⟨C[k]'(by omega), ?_, ?_⟩
  · simp [World.cell?, hh]
  · simp only [World.frozen?, hh]
    simp only at hf
    by_cases h1 : f1 ≤ k
    · have : ¬ k < f2 := by omega
      simp [this]
    · simp [h1]
theorem Buf.set {w : World} {e : TypeId} {g m : Nat} (h : Buf w e g m) (k : Nat) (v : Value) : Buf (w.setCell ⟨g, k, none⟩ v) e g m := by
  obtain ⟨C, f, hh, hs, hf⟩ := h
  exact ⟨_, f, Joins.block_setCell hh v, by simpa using hs, by simpa using hf⟩
theorem Buf.lt {w : World} {e : TypeId} {g m : Nat} (h : Buf w e g m) : g < w.heap.size := by obtain ⟨C, f, hh, _⟩ := h; exact lt_of_block hh
theorem Buf.same {w w' : World} {e : TypeId} {g m : Nat} (h : Buf w e g m) (hh : w'.heap[g]? = w.heap[g]?) : Buf w' e g m := by
  obtain ⟨C, f, h1, h2⟩ := h
  exact ⟨C, f, hh.trans h1, h2⟩
theorem heap_setCells_at {b : Nat} {T : TypeId} {f : Nat × Nat} : ∀ (vs : List Value) (o : Nat) (w : World) (C : Array Value), w.heap[b]? = some (.cells C T f) → ∃ C', (w.setCells b o vs).heap[b]? = some (.cells C' T f) ∧ C'.size = C.size
  | [], _, _, C, h => ⟨C, h, rfl⟩
  | v :: r, o, w, C, h => by
    unfold World.setCells
    obtain ⟨C', h1, h2⟩ := heap_setCells_at r (o + 1) (w.setCell ⟨b, o, none⟩ v) _ (Joins.block_setCell h v)
    exact ⟨C', h1, by rw [h2]; simp⟩
theorem below_setCellsB {B b : Nat} {a : World} (hb : B ≤ b) : ∀ (vs : List Value) (o : Nat) (w : World), Below B a w → Below B a (w.setCells b o vs)
  | [], _, _, h => h
  | v :: r, o, w, h => by unfold World.setCells; exact below_setCellsB hb r (o + 1) _ (h.setCell hb v)
theorem size_setCellsB (b : Nat) : ∀ (vs : List Value) (o : Nat) (w : World), (w.setCells b o vs).heap.size = w.heap.size
  | [], _, _ => rfl
  | v :: r, o, w => by unfold World.setCells; rw [size_setCellsB b r]; exact World.size_setCell _ _ _
/-- One byte appended to a conversion's row. -/
theorem wpList_append_one {w : World} {ops : Array Oper} {rest : List Oper} {o : Oper} {a : Act} {Q : Exit → Act → World → Prop} (hgd : o.guard = none) (s x : Operand) (t : TypeId)
    (ho : o.op = .call { callee := .builtin .append, args := #[s, x], argTypes := #[t, t] })
    (base : Nat) (e : TypeId) (ht : P.underlying t = some (.slice e)) (hinfo : (P.info? e).map (fun i => (i.zero, i.size, i.bytes)) = some (some (.int .u8 0), 1, 1))
    (g n cap : Nat) (C : Array Value) (f : Nat × Nat) (l : List UInt8) (hs : a.eval s = .slice (some ⟨g, 0, none⟩) n cap) (hn : n = l.length) (hC : w.heap[g]? = some (.cells C e f)) (hf : C.size ≤ f.1) (hcs : C.size = cap) (hcap : cap ≤ maxLen) (hg : base ≤ g)
    (hcell : ∀ j (h : j < l.length), w.cell? ⟨g, j, none⟩ = some (.int .u8 (l[j].toNat : Int)))
    (g1 : Nat) (y : UInt8) (hx : a.eval x = .slice (some ⟨g1, 0, none⟩) 1 1) (hy : w.cell? ⟨g1, 0, none⟩ = some (.int .u8 (y.toNat : Int))) (hlen : l.length + 1 ≤ 140737488355328) (w0 : World) (hb : Below base w0 w)
    (h : ∀ g' cap' w', base ≤ g' → cap' ≤ maxLen → n + 1 ≤ cap' → Buf w' e g' (n + 1) → (∀ j (h : j < l.length), w'.cell? ⟨g', j, none⟩ = some (.int .u8 (l[j].toNat : Int))) → Below base w0 w' → wpList P ops Q rest (a.put o.dst (.slice (some ⟨g', 0, none⟩) (n + 1) cap')) w') : wpList P ops Q (o :: rest) a w := by
  obtain ⟨i, hi, hz, hz1, hz2⟩ := info_parts hinfo
  subst hn
  have hgl : g < w.heap.size := lt_of_block hC
  have hin : ∀ j, j < cap → (w.cell? ⟨g, j, none⟩).isSome = true ∧ w.frozen? ⟨g, j, none⟩ = false := fun j hj => by
    have h1 : j < C.size := by omega
    constructor
    · simp [World.cell?, hC, h1]
    · obtain ⟨f1, f2⟩ := f
      have hf' : C.size ≤ f1 := hf
      simp [World.frozen?, hC]; omega
  have hbl : (Lib.byteCells l).length = l.length := Lib.byteCells_length l
  have hcs' := cells_at (w := w) (l := l) (b := g) (o := 0) (fun j hj => by rw [Nat.zero_add]; exact hcell j hj)
  refine wpList_append_arg w hgd s x t ho e i (.int .u8 0) 1 1 ht hi hz hz1 hz2 rfl (by decide) g 0 l.length cap (Lib.byteCells l) hs (by rw [hbl, Nat.mul_one]) (fun j u hu => by have := hcs' j u hu; rwa [add_plain] at this)
    ⟨g1, 0, none⟩ 1 1 [.int .u8 (y.toNat : Int)] hx rfl (fun j u hj => by
      cases j with
      | zero => simp at hj; subst hj; simpa [Addr.add] using hy
      | succ j => simp at hj) (fun u hu => by simp at hu; subst hu; rfl)
    (fun hr j hj => by simp only [List.length_singleton] at hj; rw [Nat.zero_add, Nat.mul_one]; exact hin (l.length + j) (by omega)) (by unfold maxLen; omega) (by omega) ?_ ?_
  · intro hr
    rw [Nat.zero_add, Nat.mul_one]
    obtain ⟨C', h1, h2⟩ := heap_setCells_at [.int .u8 (y.toNat : Int)] l.length w C hC
    refine h g cap _ hg hcap hr ⟨C', f, h1, by omega, .inl (by omega)⟩ (fun j hj => ?_) (below_setCellsB hg _ _ _ hb)
    rw [World.cell?_setCells_out g _ _ _ _ (fun _ _ => .inl hj)]
    exact hcell j hj
  · intro hgrow v' w' hown hgb
    have hb' : Below base w0 w' := hb.grown hgb (by omega) (fun k hk => by cases hk)
    rcases hown.2 with ⟨_, h0⟩ | ⟨g', cap', cur, hv, hg', hh', q1, q2, q3, q4⟩
    · omega
    · subst hv
      refine h g' cap' w' (by omega) q2 q1 ⟨cur, (0, 0), hh', by omega, .inr (Nat.le_refl _)⟩ (fun j hj => ?_) hb'
      have hcc := World.ownsRow.cellAt hown j (by omega)
      rw [List.getElem?_append_left (by omega), byteCells_get hj] at hcc
      exact hcc
end
end Go.Proofs.Ytaopnoaopcbkoaa
