/-
  Package dot: rows of parts (a device, its numbers), as a call lays them; an append of whatever elements as a step of a region that draws.
-/
import Derived.Test.YtfgfamafjkjakaaDotCells
namespace Go.Proofs.Ytfgfamafjkjakaa
open Go.ChangeShapes Go.WideShapes Go.ChangeAt Go.RowKit Go.Deep
set_option linter.unusedVariables false
set_option linter.unusedSimpArgs false
section
variable {P : Program} {α : Type}
/-- Elements appended, at least one, as a step of a region that draws. -/
theorem step_append_k {w : World} {ops : Array Oper} {o : Oper} {a : Act} {K : Act → World → Prop} {Q : Exit → Act → World → Prop} {F : Prop} (hgd : o.guard = none) (s x : Operand) (t : TypeId)
    (ho : o.op = .call { callee := .builtin .append, args := #[s, x], argTypes := #[t, t] })
    (base : Nat) (e : TypeId) (E : Enc α) (z : Value) (by_ : Nat) (ht : P.underlying t = some (.slice e)) (hinfo : (P.info? e).map (fun i => (i.zero, i.size, i.bytes)) = some (some z, E.k, by_)) (hzk : z.cells.size = E.k) (h8 : by_ ≤ 100)
    (v : Value) (L : List α) (hs : a.eval s = v) (hown : OwnK w base e E v L)
    (y : Value) (M : List α) (hx : a.eval x = y) (hy : HasK w E y M) (hM : 0 < M.length) (hlen : L.length + M.length ≤ 1000000000) (hbase : base ≤ w.heap.size) (w0 : World) (hb : Below base w0 w)
    (hK : ∀ v' w', OwnK w' base e E v' (L ++ M) → Below base w0 w' → w.grownBy w' v.ownBlock → K (a.put o.dst v') w') :
    if Region.wanted o (yielded ops a.tmps) = true then Oper.wp P o a w K Q else F := by
  have hw : Region.wanted o (yielded ops a.tmps) = true := by simp [Region.wanted, hgd]
  rw [if_pos hw]
  obtain ⟨i, hi, hz, hz1, hz2⟩ := k_parts hinfo
  obtain ⟨p, cap, b, off, rfl, k1, k2, k3, kc⟩ := hy
  obtain ⟨rfl, hbl⟩ := k3 hM
  refine wp_append_own w s x t ho base e i z E.k by_ ht hi hz hz1 hz2 hzk E.pos v L.length _ hs hown ⟨b, off, none⟩ M.length cap (flatK E M) hx (flatK_len E M) (HasK.news kc) (flatK_one E M)
    (by unfold maxLen; omega) (by have := Nat.mul_le_mul_left (L.length + M.length) h8; omega) hbase fun v' w' h1 h2 _ => hK v' w' ?_ (hb.grown h2 hbase (fun k hk => (World.ownsRow.lt hown k hk).1)) h2
  unfold OwnK
  rw [List.length_append, flatK_append]
  exact h1
/-- A row of the call's own lies in a block of its element's type. -/
theorem OwnK.type {w : World} {B : Nat} {e : TypeId} {E : Enc α} {v : Value} {l : List α} (h : OwnK w B e E v l) {g : Nat} (hg : v.ownBlock = some g) : ∃ cur, w.heap[g]? = some (.cells cur e (0, 0)) := by
  rcases h.2 with ⟨rfl, _⟩ | ⟨g', cap, cur, rfl, _, h3, _⟩
  · cases hg
  · simp only [Value.ownBlock, Option.some.injEq] at hg
    subst hg
    exact ⟨cur, h3⟩
/-- An append to a row of one type leaves rows of another. -/
theorem OwnK.beside {β : Type} {w w' : World} {B B' : Nat} {e e' : TypeId} {E : Enc α} {E' : Enc β} {v u : Value} {l : List α} {m : List β} (h : OwnK w B e E v l) (hu : OwnK w B' e' E' u m) (hg : w.grownBy w' u.ownBlock) (hne : e ≠ e') : OwnK w' B e E v l := by
  by_cases hn : v.ownBlock = none
  · rcases h.2 with ⟨rfl, h0⟩ | ⟨g', cap, cur, rfl, _⟩
    · exact ⟨h.1, .inl ⟨rfl, h0⟩⟩
    · cases hn
  · refine h.kept hg (fun e0 => ?_)
    obtain ⟨g, hgv⟩ := Option.ne_none_iff_exists'.1 hn
    obtain ⟨c1, h1⟩ := h.type hgv
    obtain ⟨c2, h2⟩ := hu.type (e0 ▸ hgv)
    rw [h1] at h2
    simp only [Option.some.injEq, Obj.cells.injEq] at h2
    exact hne h2.2.1
end
/-- A part as it lies. -/
structure Pt where
  dev : Nat
  nm : Nm
  ptr : Option Addr
  cap : Nat
def Pt.val (x : Pt) : Value := .slice x.ptr x.nm.more.length x.cap
def Pt.pair (x : Pt) : Nat × Nm := (x.dev, x.nm)
def encP : Enc Pt := ⟨3, fun x => [.int .i64 (x.dev : Int), .int .u64 (x.nm.upto : Int), x.val], fun _ => rfl, fun x u hu => by
  simp only [List.mem_cons, List.not_mem_nil, or_false] at hu
  rcases hu with rfl | rfl | rfl <;> rfl, by decide⟩
def Pt.off (x y : Pt) : Prop := 0 < x.nm.more.length → 0 < y.nm.more.length → x.val.ownBlock ≠ y.val.ownBlock
/-- A row of parts which a call laid, each with its own row of numbers. -/
structure OwnP (w : World) (B : Nat) (v : Value) (M : List Pt) : Prop where
  row : OwnK w B 53 encP v M
  each : ∀ x ∈ M, OwnK w B 30 (encN .u64) x.val x.nm.more
  apart : M.Pairwise Pt.off
theorem OwnP.nil (w : World) (B : Nat) : OwnP w B (.slice none 0 0) [] := ⟨OwnK.nil _ _ _ _, (fun x h => nomatch h), List.Pairwise.nil⟩
theorem OwnP.below {w w' : World} {B : Nat} {v : Value} {M : List Pt} (h : OwnP w B v M) (hb : Below w.heap.size w w') : OwnP w' B v M := ⟨h.row.below hb, fun x hx => (h.each x hx).below hb, h.apart⟩
def live (p : Nm) : Bool := decide (0 < p.upto) || decide (0 < p.more.length)
/-- The parts of the first k devices. -/
def partsUpto (f : List Nm) (k : Nat) : List (Nat × Nm) := ((List.range k).filter fun i => live (f.getD i Nm.zero)).map fun i => (i, f.getD i Nm.zero)
theorem partsUpto_zero (f : List Nm) : partsUpto f 0 = [] := rfl
theorem partsUpto_live {f : List Nm} {k : Nat} (h : live (f.getD k Nm.zero) = true) : partsUpto f (k + 1) = partsUpto f k ++ [(k, f.getD k Nm.zero)] := by
  unfold partsUpto
  rw [List.range_succ, List.filter_append, List.map_append]
  simp [List.filter_cons, h, -List.getD_eq_getElem?_getD]
theorem partsUpto_not {f : List Nm} {k : Nat} (h : live (f.getD k Nm.zero) = false) : partsUpto f (k + 1) = partsUpto f k := by
  unfold partsUpto
  rw [List.range_succ, List.filter_append, List.map_append]
  simp [List.filter_cons, h, -List.getD_eq_getElem?_getD]
theorem partsUpto_len (f : List Nm) (k : Nat) : (partsUpto f k).length ≤ k := by
  unfold partsUpto
  rw [List.length_map]
  exact Nat.le_trans (List.length_filter_le _ _) (by rw [List.length_range]; exact Nat.le_refl _)
def partsS (f : List Nm) : List (Nat × Nm) := partsUpto f 16
theorem one_part {w : World} {g : Nat} {T : TypeId} (x : Pt) (h : w.heap[g]? = some (.cells #[.int .i64 (x.dev : Int), .int .u64 (x.nm.upto : Int), x.val] T (0, 0))) : HasK w encP (.slice (some ⟨g, 0, none⟩) 1 1) [x] := by
  refine ⟨_, 1, g, 0, rfl, Nat.le_refl _, by unfold maxLen; omega, fun _ => ⟨rfl, lt_of_block h⟩, fun i hi j u hu => ?_⟩
  obtain rfl : i = 0 := by simp at hi; omega
  have hj : j < 3 := (List.getElem?_eq_some_iff.1 hu).1
  have hu : ([.int .i64 (x.dev : Int), .int .u64 (x.nm.upto : Int), x.val] : List Value)[j]? = some u := hu
  simp only [World.cell?, h]
  rcases (by omega : j = 0 ∨ j = 1 ∨ j = 2) with rfl | rfl | rfl <;> simpa using hu
/-- Two cells of a block. -/
def TwoC (a b : Addr) (x y : Value) (W : World) : Prop := W.cell? a = some x ∧ W.cell? b = some y
theorem TwoC.below {a b : Addr} {x y : Value} {W W' : World} (h : TwoC a b x y W) (hb : Below W.heap.size W W') : TwoC a b x y W' := ⟨(hb.cell (cell_lt h.1)).trans h.1, (hb.cell (cell_lt h.2)).trans h.2⟩
theorem TwoC.grown {a b : Addr} {x y : Value} {W W' : World} {row : Option Nat} (h : TwoC a b x y W) (hg : W.grownBy W' row) (h1 : row ≠ some a.block) (h2 : row ≠ some b.block) : TwoC a b x y W' :=
  ⟨(World.cell?_of_block (hg.block a.block (cell_lt h.1) (fun e => h1 e.symm))).trans h.1, (World.cell?_of_block (hg.block b.block (cell_lt h.2) (fun e => h2 e.symm))).trans h.2⟩
theorem OwnP.push {w w' : World} {B : Nat} {v v' : Value} {M : List Pt} {x : Pt} (h : OwnP w B v M) (hx : OwnK w B 30 (encN .u64) x.val x.nm.more) (hnew : ∀ y ∈ M, y.val.ownBlock ≠ none → y.val.ownBlock ≠ x.val.ownBlock) (hr : OwnK w' B 53 encP v' (M ++ [x])) (hg : w.grownBy w' v.ownBlock) : OwnP w' B v' (M ++ [x]) := by
  refine ⟨hr, fun y hy => ?_, List.pairwise_append.2 ⟨h.apart, List.pairwise_singleton _ _, fun y hy z hz => ?_⟩⟩
  · rcases List.mem_append.1 hy with hy | hy
    · exact (h.each y hy).beside h.row hg (by decide)
    · obtain rfl := List.mem_singleton.1 hy
      exact hx.beside h.row hg (by decide)
  · obtain rfl := List.mem_singleton.1 hz
    intro h1 _
    refine hnew y hy (fun e => ?_)
    obtain ⟨g, cap, hv, _⟩ := (h.each y hy).form h1
    rw [hv] at e
    cases e
theorem own_len (p : Option Addr) (n n' c : Nat) : (Value.slice p n c).ownBlock = (Value.slice p n' c).ownBlock := by rcases p with _ | ⟨b, o, m⟩ <;> rfl
theorem info_part : (Try.prog.info? 53).map (fun i => (i.zero, i.size, i.bytes)) = some (some (.agg #[.int .i64 0, .int .u64 0, .slice none 0 0]), encP.k, 40) := by kernel_rfl
end Go.Proofs.Ytfgfamafjkjakaa
