/-
  Rows of items: parts of them, one of them as a literal lays it, an empty one that a make lays; appends as steps of a region that draws.
-/
import Derived.Test.YtfdafoibclfpgaaMSame
import Derived.Lib.SliceRun
import Derived.Maps.AppendAt
namespace Go.Proofs.Ytfdafoibclfpgaa
open Go.ChangeShapes Go.WideShapes Go.ChangeAt Go.RowKit Go.Deep
set_option linter.unusedVariables false
set_option linter.unusedSimpArgs false
section
variable {P : Program} {α : Type}
/-- Elements appended, at least one, as a step of a region that draws. -/
theorem step_append_k {w : World} {ops : Array Oper} {o : Oper} {a : Act} {K : Act → World → Prop} {Q : Exit → Act → World → Prop} {F : Prop} (hgd : o.guard = none) (s x : Operand) (t : TypeId)
    (ho : o.op = .call { callee := .builtin .append, args := #[s, x], argTypes := #[t, t] })
    (base : Nat) (e : TypeId) (E : Enc α) (z : Value) (by_ : Nat) (ht : P.underlying t = some (.slice e)) (hinfo : (P.info? e).map (fun i => (i.zero, i.size, i.bytes)) = some (some z, E.k, by_)) (hzk : z.cells.size = E.k) (h8 : by_ ≤ 100)
    (v : Value) (L : List α) (hs : a.eval s = v) (hown : OwnK w base e E v L)
    (y : Value) (M : List α) (hx : a.eval x = y) (hy : HasK w E y M) (hM : 0 < M.length) (hlen : L.length + M.length ≤ 1000000000) (hbase : base ≤ w.heap.size) (w0 : World) (hb : Below base w0 w)
    (hK : ∀ v' w', OwnK w' base e E v' (L ++ M) → Below base w0 w' → w.grownBy w' v.ownBlock → K (a.put o.dst v') w') :
    if Region.wanted o (yielded ops a.tmps) = true then Oper.wp P o a w K Q else F := by
  have hw : Region.wanted o (yielded ops a.tmps) = true := by simp [Region.wanted, hgd]
  rw [if_pos hw]
  obtain ⟨i, hi, hz, hz1, hz2⟩ := k_parts hinfo
  obtain ⟨p, cap, b, off, rfl, k1, k2, k3, kc⟩ := hy
  obtain ⟨rfl, hbl⟩ := k3 hM
  refine wp_append_own w s x t ho base e i z E.k by_ ht hi hz hz1 hz2 hzk E.pos v L.length _ hs hown ⟨b, off, none⟩ M.length cap (flatK E M) hx (flatK_len E M) (HasK.news kc) (flatK_one E M)
    (by unfold maxLen; omega) (by have := Nat.mul_le_mul_left (L.length + M.length) h8; omega) hbase fun v' w' h1 h2 _ => hK v' w' ?_ (hb.grown h2 hbase (fun k hk => (World.ownsRow.lt hown k hk).1)) h2
  unfold OwnK
  rw [List.length_append, flatK_append]
  exact h1
/-- Whatever elements are appended, as a step of a region that draws. -/
theorem step_append_ka {w : World} {ops : Array Oper} {o : Oper} {a : Act} {K : Act → World → Prop} {Q : Exit → Act → World → Prop} {F : Prop} (hgd : o.guard = none) (s x : Operand) (t : TypeId)
    (ho : o.op = .call { callee := .builtin .append, args := #[s, x], argTypes := #[t, t] })
    (base : Nat) (e : TypeId) (E : Enc α) (z : Value) (by_ : Nat) (ht : P.underlying t = some (.slice e)) (hinfo : (P.info? e).map (fun i => (i.zero, i.size, i.bytes)) = some (some z, E.k, by_)) (hzk : z.cells.size = E.k) (h8 : by_ ≤ 100)
    (v : Value) (L : List α) (hs : a.eval s = v) (hown : OwnK w base e E v L)
    (y : Value) (M : List α) (hx : a.eval x = y) (hy : HasK w E y M) (hlen : L.length + M.length ≤ 1000000000) (hbase : base ≤ w.heap.size) (w0 : World) (hb : Below base w0 w)
    (hK : ∀ v' w', OwnK w' base e E v' (L ++ M) → Below base w0 w' → w.grownBy w' v.ownBlock → K (a.put o.dst v') w') :
    if Region.wanted o (yielded ops a.tmps) = true then Oper.wp P o a w K Q else F := by
  by_cases h0 : 0 < M.length
  · exact step_append_k hgd s x t ho base e E z by_ ht hinfo hzk h8 v L hs hown y M hx hy h0 hlen hbase w0 hb hK
  · have hw : Region.wanted o (yielded ops a.tmps) = true := by simp [Region.wanted, hgd]
    rw [if_pos hw]
    obtain rfl : M = [] := List.eq_nil_of_length_eq_zero (by omega)
    obtain ⟨i, hi, hz, hz1, hz2⟩ := k_parts hinfo
    obtain ⟨p, cap, b, off, rfl, k1, k2, k3, kc⟩ := hy
    rw [List.append_nil] at hK
    cases p with
    | none =>
      have hf : ∃ q m c, v = .slice q m c ∧ m ≤ c := by
        obtain ⟨q, c, hv, h1, _⟩ := hown.sl
        exact ⟨q, _, c, hv, h1⟩
      obtain ⟨q, m, c, rfl, hmc⟩ := hf
      have hr := run_append_nothing (P := P) w t t o.type e i ht hi q m c hmc (.slice none 0 cap) (Src.ofNil w ht cap)
      unfold Oper.wp
      simp only [List.length_nil] at hx
      simp [execOp, ho, resolve, invoke, builtin, hs, hx, hr, Result.andThen]
      exact hK _ w hown hb ⟨rfl, rfl, rfl, Nat.le_refl _, fun _ _ _ => rfl⟩
    | some ad =>
      refine wp_append_own w s x t ho base e i z E.k by_ ht hi hz hz1 hz2 hzk E.pos v L.length _ hs hown ad 0 cap [] hx (by simp) (fun j u hu => by simp at hu) (fun u hu => by simp at hu)
        (by unfold maxLen; simp at hlen; omega) (by have := Nat.mul_le_mul_left (L.length + 0) h8; simp at hlen; omega) hbase fun v' w' h1 h2 _ => hK v' w' ?_ (hb.grown h2 hbase (fun k hk => (World.ownsRow.lt hown k hk).1)) h2
      unfold OwnK
      rw [List.append_nil, Nat.add_zero] at h1
      exact h1
set_option maxRecDepth 100000 in
/-- make([]T, 0, n). -/
theorem wpList_make_k {w : World} {ops : Array Oper} {rest : List Oper} {o : Oper} {a : Act} {Q : Exit → Act → World → Prop} (hg : o.guard = none) (l c : Operand) (t : TypeId) (hop : o.op = Op.makeSlice t l c)
    (base : Nat) (e : TypeId) (E : Enc α) (z : Value) (by_ : Nat) (ht : P.underlying t = some (.slice e)) (hinfo : (P.info? e).map (fun i => (i.zero, i.size, i.bytes)) = some (some z, E.k, by_)) (hzk : z.cells.size = E.k) (h8 : by_ ≤ 100)
    (n : Nat) (C : Int) (hC : C = (n : Int)) (hl : a.eval l = .int .i64 0) (hc : a.eval c = .int .i64 C) (hn : n ≤ 1000000000) (hbase : base ≤ w.heap.size) (w0 : World) (hb : Below base w0 w)
    (h : ∀ v' w', OwnK w' base e E v' [] → Below base w0 w' → wpList P ops Q rest (a.put o.dst v') w') : wpList P ops Q (o :: rest) a w := by
  obtain ⟨i, hi, hz, hz1, hz2⟩ := k_parts hinfo
  subst hC
  refine wpList_plain hg fun K' hK' => ?_
  have h1 : by_ * n ≤ 100000000000 := Nat.mul_le_mul h8 hn
  have h9 : ((by_ * n : Nat) : Int) ≤ 100000000000 := by omega
  rw [Int.natCast_mul] at h9
  have hrun := run_make (P := P) w t e i z ht hi hz .i64 .i64 0 (n : Int) (by omega) (by omega) (by rw [hz2]; omega) (by omega)
  rw [hz1] at hrun
  simp only [Int.toNat_zero, Int.toNat_natCast] at hrun
  unfold Oper.wp
  simp [execOp, hop, hl, hc, hrun, Result.andThen]
  refine hK' _ _ (h _ _ ⟨flatK_len E [], .inr ⟨w.heap.size, n, _, rfl, hbase, heap_alloc_new _ _, Nat.zero_le _, by unfold maxLen; omega, by rw [size_madeCells], ?_⟩⟩ (hb.alloc hbase _))
  simp [flatK]
end
theorem one_item {w : World} {g : Nat} {T : TypeId} (x : Itm) (h : w.heap[g]? = some (.cells #[.string x.key, .int .u64 (x.seq : Int), .bool x.gone, .string x.val] T (0, 0))) : HasK w encI (.slice (some ⟨g, 0, none⟩) 1 1) [x] := by
  refine ⟨_, 1, g, 0, rfl, Nat.le_refl _, by unfold maxLen; omega, fun _ => ⟨rfl, lt_of_block h⟩, fun i hi j u hu => ?_⟩
  obtain rfl : i = 0 := by simp at hi; omega
  have hj : j < 4 := (List.getElem?_eq_some_iff.1 hu).1
  have hu : ([.string x.key, .int .u64 (x.seq : Int), .bool x.gone, .string x.val] : List Value)[j]? = some u := hu
  simp only [World.cell?, h]
  rcases (by omega : j = 0 ∨ j = 1 ∨ j = 2 ∨ j = 3) with rfl | rfl | rfl | rfl <;> simpa using hu
theorem info_item : (Try.prog.info? 29).map (fun i => (i.zero, i.size, i.bytes)) = some (some (.agg #[.string ⟨#[]⟩, .int .u64 0, .bool false, .string ⟨#[]⟩]), encI.k, 48) := by kernel_rfl
theorem size_item (W : World) : (sizeOf (Try.prog.elem 23)).run Try.prog W = .ok 4 W := by kernel_rfl
theorem OwnK.empty' {α : Type} (w : World) (B : Nat) (e : TypeId) (E : Enc α) (hB : B ≤ w.heap.size) : OwnK (w.alloc (.cells #[] e)) B e E (.slice (some ⟨w.heap.size, 0, none⟩) 0 0) [] :=
  ⟨flatK_len E [], .inr ⟨w.heap.size, 0, #[], rfl, hB, heap_alloc_new _ _, Nat.le_refl _, by unfold maxLen; omega, by simp, by simp [flatK]⟩⟩
set_option maxRecDepth 100000 in
theorem item_tail {w : World} {v : Value} {l : List Itm} (h : HasK w encI v l) (lo : Nat) (h1 : lo ≤ l.length) :
    ∃ p' c', (∀ W, (Instr.slice 23 v (some (.int .i64 (lo : Int))) none none).run Try.prog W = .ok (.slice p' (l.length - lo) c') W) ∧ ∀ W0, HasK W0 encI v l → HasK W0 encI (.slice p' (l.length - lo) c') (l.drop lo) := by
  obtain ⟨p, cap, rfl, k1, k2⟩ := h.form
  refine ⟨_, _, fun W => ?_, fun W0 h0 => by have := HasK.sub h0 lo l.length h1 (Nat.le_refl _); rw [List.take_length] at this; exact this⟩
  rw [run_slice_l (P := Try.prog) (w := W) (t := 23) (a := p) (len := l.length) (cap := cap) Try.underlying23 .i64 (lo : Int) (by omega) (by omega), size_item]
  rfl
set_option maxRecDepth 100000 in
theorem item_head {w : World} {v : Value} {l : List Itm} (h : HasK w encI v l) (hi : Nat) (h2 : hi ≤ l.length) :
    ∃ p' c', (∀ W, (Instr.slice 23 v none (some (.int .i64 (hi : Int))) none).run Try.prog W = .ok (.slice p' hi c') W) ∧ ∀ W0, HasK W0 encI v l → HasK W0 encI (.slice p' hi c') (l.take hi) := by
  obtain ⟨p, cap, rfl, k1, k2⟩ := h.form
  refine ⟨_, _, fun W => ?_, fun W0 h0 => by have := HasK.sub h0 0 hi (Nat.zero_le _) h2; rw [List.drop_zero] at this; exact this⟩
  rw [run_slice_h (P := Try.prog) (w := W) (t := 23) (a := p) (len := l.length) (cap := cap) Try.underlying23 .i64 (hi : Int) (by omega) (by omega), size_item]
  rfl
set_option maxRecDepth 100000 in
theorem item_mid {w : World} {v : Value} {l : List Itm} (h : HasK w encI v l) (lo hi : Nat) (h1 : lo ≤ hi) (h2 : hi ≤ l.length) :
    ∃ p' c', (∀ W, (Instr.slice 23 v (some (.int .i64 (lo : Int))) (some (.int .i64 (hi : Int))) none).run Try.prog W = .ok (.slice p' (hi - lo) c') W) ∧ ∀ W0, HasK W0 encI v l → HasK W0 encI (.slice p' (hi - lo) c') ((l.take hi).drop lo) := by
  obtain ⟨p, cap, rfl, k1, k2⟩ := h.form
  refine ⟨_, _, fun W => ?_, fun W0 h0 => HasK.sub h0 lo hi h1 h2⟩
  rw [run_slice_lh (P := Try.prog) (w := W) (t := 23) (a := p) (len := l.length) (cap := cap) Try.underlying23 .i64 .i64 (lo : Int) (hi : Int) (by omega) (by omega) (by omega), size_item]
  rfl
end Go.Proofs.Ytfdafoibclfpgaa
