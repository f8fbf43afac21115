/-
  A conversion's row of bytes that is appended to; two texts joined. No function of the project is named here.
-/
import Derived.Test.YtjopfhmloklhdaaDoorAppA
import Derived.ArgAppend
namespace Go.Proofs.YtjopfhmloklhdaaDoor
open Go.ChangeShapes Go.WideShapes Go.ChangeAt Go.RowKit Go.Deep
set_option linter.unusedVariables false
section
variable {P : Program}
theorem size_setCells' (b : Nat) : ∀ (vs : List Value) (o : Nat) (w : World), (w.setCells b o vs).heap.size = w.heap.size
  | [], _, _ => rfl
  | v :: r, o, w => by unfold World.setCells; rw [size_setCells' b r]; exact World.size_setCell _ _ _
theorem below_setCells' {B b : Nat} {a : World} (hb : B ≤ b) : ∀ (vs : List Value) (o : Nat) (w : World), Below B a w → Below B a (w.setCells b o vs)
  | [], _, _, h => h
  | v :: r, o, w, h => by unfold World.setCells; exact below_setCells' hb r (o + 1) _ (h.setCell hb v)
/-- What is appended to a row with bytes that nobody has frozen up to its end: in its room, or in a new row. -/
theorem wpList_append_mine {w : World} {ops : Array Oper} {rest : List Oper} {o : Oper} {a : Act} {Q : Exit → Act → World → Prop} (hgd : o.guard = none) (s x : Operand) (t : TypeId)
    (ho : o.op = .call { callee := .builtin .append, args := #[s, x], argTypes := #[t, t] })
    (base : Nat) (e : TypeId) (ht : P.underlying t = some (.slice e)) (hinfo : (P.info? e).map (fun i => (i.zero, i.size, i.bytes)) = some (some (.int .u8 0), 1, 1))
    (g n cap : Nat) (C : Array Value) (T : TypeId) (f : Nat × Nat) (l : List UInt8) (hs : a.eval s = .slice (some ⟨g, 0, none⟩) n cap) (hn : n = l.length) (hC : w.heap[g]? = some (.cells C T f)) (hf : C.size ≤ f.1) (hcs : C.size = cap) (hcap : cap ≤ maxLen) (hg : base ≤ g)
    (hcell : ∀ j (h : j < l.length), w.cell? ⟨g, j, none⟩ = some (.int .u8 (l[j].toNat : Int)))
    (y : Value) (k : List UInt8) (zs : List UInt8) (m : Nat) (hx : a.eval x = y) (hy : Has w y k) (hkm : k.length = m) (hk0 : 0 < m) (hzs : zs = l ++ k) (hlen : l.length + k.length ≤ 140737488355328) (w0 : World) (hb : Below base w0 w)
    (h : ∀ g' cap' w', base ≤ g' → Has w' (.slice (some ⟨g', 0, none⟩) (n + m) cap') zs → Below base w0 w' → wpList P ops Q rest (a.put o.dst (.slice (some ⟨g', 0, none⟩) (n + m) cap')) w') : wpList P ops Q (o :: rest) a w := by
  obtain ⟨i, hi, hz, hz1, hz2⟩ := info_parts hinfo
  subst hzs; subst hn; subst hkm
  have hgl : g < w.heap.size := lt_of_block hC
  rcases hy with ⟨rfl, rfl⟩ | ⟨b, off, c, rfl, hc1, hc2, hc3, hc⟩
  · exact absurd hk0 (Nat.lt_irrefl _)
  · have hin : ∀ j, j < cap → (w.cell? ⟨g, j, none⟩).isSome = true ∧ w.frozen? ⟨g, j, none⟩ = false := fun j hj => by
      have h1 : j < C.size := by omega
      constructor
      · simp [World.cell?, hC, h1]
      · obtain ⟨f1, f2⟩ := f
        have hf' : C.size ≤ f1 := hf
        simp [World.frozen?, hC]; omega
    have hbl : (Lib.byteCells l).length = l.length := Lib.byteCells_length l
    have hbk : (Lib.byteCells k).length = k.length := Lib.byteCells_length k
    have hcs' := cells_at (w := w) (l := l) (b := g) (o := 0) (fun j hj => by rw [Nat.zero_add]; exact hcell j hj)
    refine wpList_append_arg w hgd s x t ho e i (.int .u8 0) 1 1 ht hi hz hz1 hz2 rfl (by decide) g 0 l.length cap (Lib.byteCells l) hs (by rw [hbl, Nat.mul_one]) (fun j u hu => by have := hcs' j u hu; rwa [add_plain] at this)
      ⟨b, off, none⟩ k.length c (Lib.byteCells k) hx (by rw [hbk, Nat.mul_one]) (cells_at hc) (Lib.byteCells_one k)
      (fun hr j hj => by rw [Nat.zero_add, Nat.mul_one]; exact hin (l.length + j) (by omega)) (by unfold maxLen; omega) (by omega) ?_ ?_
    · intro hr
      rw [Nat.zero_add, Nat.mul_one]
      refine h g cap _ hg (.inr ⟨g, 0, cap, by rw [List.length_append], by rw [List.length_append]; exact hr, hcap, ?_, fun j hj => ?_⟩) (below_setCells' hg _ _ _ hb)
      · have hsz := size_setCells' g (Lib.byteCells k) l.length w
        rw [hsz]; exact hgl
      · rw [List.length_append] at hj
        rw [Nat.zero_add]
        by_cases hjl : j < l.length
        · rw [World.cell?_setCells_out g _ _ _ _ (fun _ _ => .inl hjl), hcell j hjl, List.getElem_append_left hjl]
        · have h2 := World.cell?_setCells_in g (Lib.byteCells k) l.length w (fun j hj => (hin (l.length + j) (by omega)).1) (j - l.length) (by omega)
          rw [show l.length + (j - l.length) = j by omega] at h2
          rw [h2, List.getElem_append_right (by omega)]
          have h3 := byteCells_get (l := k) (j := j - l.length) (by omega)
          rw [List.getElem?_eq_getElem (by omega)] at h3
          exact h3
    · intro hgrow v' w' hown hgb
      have hown' : Own w' w.heap.size e v' (l ++ k) := by
        unfold Own
        rw [List.length_append, Lib.byteCells_append]
        exact hown
      have hb' : Below base w0 w' := hb.grown hgb (by omega) (fun k hk => by cases hk)
      rcases hown'.2 with ⟨_, h0⟩ | ⟨g', cap', cur, hv, hg', hh', _⟩
      · rw [List.length_append] at h0; omega
      · have hl : (l ++ k).length = l.length + k.length := by rw [List.length_append]
        rw [hl] at hv
        subst hv
        exact h g' cap' w' (by omega) hown'.has hb'
end
theorem cat {P : Program} {w : World} {A B C : ByteArray} {a b : List UInt8} (hA : A = ⟨a.toArray⟩) (hB : B = ⟨b.toArray⟩) (hC : C = ⟨(a ++ b).toArray⟩) (h : a.length + b.length ≤ 9223372036854775807) : (Op.stringOp .add A B).run P w = .ok (.string C) w := by
  subst hA; subst hB; subst hC
  have h2 := run_string_add_sum (P := P) (w := w) ⟨a.toArray⟩ ⟨b.toArray⟩ (by show a.toArray.size + b.toArray.size ≤ _; simpa using h)
  rw [h2]
  have e : (⟨a.toArray⟩ ++ ⟨b.toArray⟩ : ByteArray) = ⟨(a ++ b).toArray⟩ := by
    apply ByteArray.ext
    simp
  rw [e]

end Go.Proofs.YtjopfhmloklhdaaDoor
