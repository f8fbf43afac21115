/-
  Rows of numbers: many appended at once, one changed, eight laid as a literal.
-/
import Derived.Test.YtjopfhmloklhdaaDoorRefOne
import Derived.Test.YtjopfhmloklhdaaDoorMixed
import Derived.Test.YtjopfhmloklhdaaDoorRefTurn
import Derived.Great.BuildSlice
namespace Go.Proofs.YtjopfhmloklhdaaDoor
open Go.ChangeShapes Go.WideShapes Go.ChangeAt Go.RowKit Go.Deep
set_option linter.unusedVariables false
set_option linter.unusedSimpArgs false
theorem OwnN.empty (w : World) (B : Nat) (e : TypeId) (K : IntKind) (hB : B ≤ w.heap.size) : OwnN (w.alloc (.cells #[] e)) B e K (.slice (some ⟨w.heap.size, 0, none⟩) 0 0) [] :=
  ⟨rfl, .inr ⟨w.heap.size, 0, #[], rfl, hB, heap_alloc_new _ _, Nat.le_refl _, Nat.zero_le _, rfl, rfl⟩⟩
theorem OwnN.eight (w : World) (B : Nat) (e : TypeId) (K : IntKind) (hB : B ≤ w.heap.size) (a b c d f g h i : Nat) : OwnN (w.alloc (.cells #[.int K (a : Int), .int K (b : Int), .int K (c : Int), .int K (d : Int), .int K (f : Int), .int K (g : Int), .int K (h : Int), .int K (i : Int)] e)) B e K (.slice (some ⟨w.heap.size, 0, none⟩) 8 8) [a, b, c, d, f, g, h, i] :=
  ⟨rfl, .inr ⟨w.heap.size, 8, _, rfl, hB, heap_alloc_new _ _, Nat.le_refl _, by decide, rfl, rfl⟩⟩
theorem OwnN.free {w : World} {B : Nat} {e : TypeId} {K : IntKind} {g n c : Nat} {L : List Nat} (h : OwnN w B e K (.slice (some ⟨g, 0, none⟩) n c) L) (j : Nat) : w.frozen? ⟨g, j, none⟩ = false := by
  rcases h.2 with ⟨hv, _⟩ | ⟨g', cap, cur, hv, _, hh, _⟩
  · cases hv
  · simp only [Value.slice.injEq, Option.some.injEq, Addr.mk.injEq, and_true] at hv
    obtain ⟨rfl, _⟩ := hv
    simp [World.frozen?, hh]
theorem OwnN.set {w : World} {B : Nat} {e : TypeId} {K : IntKind} {g n c : Nat} {L : List Nat} (h : OwnN w B e K (.slice (some ⟨g, 0, none⟩) n c) L) (i x : Nat) (hi : i < L.length) : OwnN (w.setCell ⟨g, i, none⟩ (.int K (x : Int))) B e K (.slice (some ⟨g, 0, none⟩) n c) (L.set i x) := by
  obtain ⟨hl, hr⟩ := h
  rcases hr with ⟨hv, _⟩ | ⟨g', cap, cur, hv, h2, h3, h4, h5, h6, h7⟩
  · cases hv
  · simp only [Value.slice.injEq, Option.some.injEq, Addr.mk.injEq, and_true] at hv
    obtain ⟨rfl, rfl, rfl⟩ := hv
    refine ⟨by simp [nums], .inr ⟨g, c, _, by rw [List.length_set], h2, heap_setCell_same _ _ _ _ _ _ h3, by rw [List.length_set]; exact h4, h5, by simpa using h6, ?_⟩⟩
    rw [Array.toList_setIfInBounds, List.length_set, List.take_set, h7]
    unfold nums
    rw [List.map_set]
section
variable {P : Program}
/-- Many numbers appended at once. -/
theorem wpList_append_nums {w : World} {ops : Array Oper} {rest : List Oper} {o : Oper} {a : Act} {Q : Exit → Act → World → Prop} (hgd : o.guard = none) (s x : Operand) (t : TypeId)
    (ho : o.op = .call { callee := .builtin .append, args := #[s, x], argTypes := #[t, t] })
    (base : Nat) (e : TypeId) (K : IntKind) (by_ : Nat) (ht : P.underlying t = some (.slice e)) (hinfo : (P.info? e).map (fun i => (i.zero, i.size, i.bytes)) = some (some (.int K 0), 1, by_)) (h8 : by_ ≤ 8)
    (v : Value) (L : List Nat) (hs : a.eval s = v) (hown : OwnN w base e K v L)
    (g n c : Nat) (M : List Nat) (hx : a.eval x = .slice (some ⟨g, 0, none⟩) n c) (hn : M.length = n) (hM : ∀ j, j < M.length → w.cell? ⟨g, j, none⟩ = some (.int K ((M.getD j 0 : Nat) : Int))) (hlen : L.length + M.length ≤ 1000000) (hbase : base ≤ w.heap.size) (w0 : World) (hb : Below base w0 w)
    (h : ∀ v' w', OwnN w' base e K v' (L ++ M) → Below base w0 w' → wpList P ops Q rest (a.put o.dst v') w') : wpList P ops Q (o :: rest) a w := by
  obtain ⟨i, hi, hz, hz1, hz2⟩ := num_parts hinfo
  subst hn
  refine wpList_append_own w hgd s x t ho base e i (.int K 0) 1 by_ ht hi hz hz1 hz2 rfl (by decide) v L.length _ hs hown ⟨g, 0, none⟩ M.length c (nums K M) hx (by simp [nums]) (fun j u hj => ?_) (fun u hu => ?_)
    (by unfold maxLen; omega) (by have := Nat.mul_le_mul_left (L.length + M.length) h8; omega) hbase fun v' w' h1 h2 _ => h v' w' ?_ (hb.grown h2 hbase (fun k hk => (World.ownsRow.lt hown k hk).1))
  · unfold nums at hj
    rw [List.getElem?_map] at hj
    obtain ⟨y, hy, rfl⟩ := Option.map_eq_some_iff.1 hj
    obtain ⟨hjl, rfl⟩ := List.getElem?_eq_some_iff.1 hy
    rw [add_plain, Nat.zero_add, hM j hjl, List.getD_eq_getElem?_getD, List.getElem?_eq_getElem hjl]
    rfl
  · unfold nums at hu
    obtain ⟨y, _, rfl⟩ := List.mem_map.1 hu
    rfl
  · unfold OwnN nums
    rw [List.length_append, List.map_append]
    exact h1
end
theorem info_u32' : (Tryd.prog.info? 46).map (fun i => (i.zero, i.size, i.bytes)) = some (some (.int .u32 0), 1, 4) := by kernel_rfl
/-- A literal of eight words. -/
theorem wp_build8 {o : Oper} {a : Act} {w : World} {K : Act → World → Prop} {Q : Exit → Act → World → Prop} (x0 x1 x2 x3 x4 x5 x6 x7 : Nat) (parts : Array (Nat × Operand)) (ho : o.op = .buildSlice 65 8 parts)
    (he : (parts.map fun (i, x) => (i, a.eval x)).toList = [(0, .int .u32 (x0 : Int)), (1, .int .u32 (x1 : Int)), (2, .int .u32 (x2 : Int)), (3, .int .u32 (x3 : Int)), (4, .int .u32 (x4 : Int)), (5, .int .u32 (x5 : Int)), (6, .int .u32 (x6 : Int)), (7, .int .u32 (x7 : Int))])
    (h : K (a.put o.dst (.slice (some ⟨w.heap.size, 0, none⟩) 8 8)) (w.alloc (.cells #[.int .u32 (x0 : Int), .int .u32 (x1 : Int), .int .u32 (x2 : Int), .int .u32 (x3 : Int), .int .u32 (x4 : Int), .int .u32 (x5 : Int), .int .u32 (x6 : Int), .int .u32 (x7 : Int)] 46))) : o.wp Tryd.prog a w K Q := by
  obtain ⟨i, hi, hz, hz1, hz2⟩ := num_parts info_u32'
  refine wp_buildSlice 65 46 8 parts ho _ i (.int .u32 0) Tryd.underlying65 hi hz (by rw [hz1]; decide) (by rw [hz1]; decide) ?_ h
  rw [he, hz1]
  kernel_rfl
theorem wrap_add (a b : Nat) : IntKind.u32.wrap ((a : Int) + (b : Int)) = (((a + b) % 4294967296 : Nat) : Int) := by rw [IntKind.wrap_u32]; omega
theorem wrap_two (a b c d e f g h : Nat) : IntKind.u32.wrap (((Sig0 a : Nat) : Int) + (((a &&& b) ^^^ (a &&& c) ^^^ (b &&& c) : Nat) : Int)) = ((tTwo ⟨a, b, c, d, e, f, g, h⟩ : Nat) : Int) := by
  rw [wrap_add]
  rfl
theorem part_set (S U : Wk) (k : Nat) (hk : k < 8) : (part S U k).set k ((S.list.getD k 0 + U.list.getD k 0) % 4294967296) = part S U (k + 1) := by
  obtain ⟨a, b, c, d, e, f, g, h⟩ := S
  obtain ⟨a', b', c', d', e', f', g', h'⟩ := U
  rcases (by omega : k = 0 ∨ k = 1 ∨ k = 2 ∨ k = 3 ∨ k = 4 ∨ k = 5 ∨ k = 6 ∨ k = 7) with rfl | rfl | rfl | rfl | rfl | rfl | rfl | rfl <;> rfl
theorem part_same (S U : Wk) (k : Nat) (hk : k < 8) : (part S U k).getD k 0 = S.list.getD k 0 := by
  rw [part_get _ _ _ _ hk]
  unfold partAt
  rw [if_neg (by omega)]
theorem part_first (S U : Wk) : part S U 0 = S.list := rfl
theorem addW_comm (S U : Wk) : addW S U = addW U S := by
  unfold addW
  simp only [Nat.add_comm]
theorem part_last (S U : Wk) : part U S 8 = (addW S U).list := by
  rw [addW_comm]
  rfl
end Go.Proofs.YtjopfhmloklhdaaDoor
