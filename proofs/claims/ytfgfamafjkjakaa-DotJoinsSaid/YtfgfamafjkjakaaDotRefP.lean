/-
  The document's own lists of dots: where Add puts one; parts of rows of dots; an append as a step of a region that draws.
-/
import Derived.Test.YtfgfamafjkjakaaDotRefH
import Derived.Test.YtfgfamafjkjakaaDotSmall
import Derived.Test.YtfgfamafjkjakaaDotFind
namespace Go.Proofs.Ytfgfamafjkjakaa
open Go.ChangeShapes Go.WideShapes Go.ChangeAt Go.RowKit Go.Deep
set_option linter.unusedVariables false
set_option linter.unusedSimpArgs false
def aheadD (y x : Int × Nat) : Bool := aheadB y.1 y.2 x.1 x.2
/-- How many at the head are ahead of it. -/
def posD (x : Int × Nat) : List (Int × Nat) → Nat
  | [] => 0
  | y :: r => if aheadD y x then posD x r + 1 else 0
theorem posD_cons (x y : Int × Nat) (r : List (Int × Nat)) : posD x (y :: r) = if aheadD y x then posD x r + 1 else 0 := rfl
theorem posD_le (x : Int × Nat) : ∀ l, posD x l ≤ l.length
  | [] => Nat.le_refl _
  | y :: r => by
    unfold posD
    split
    · exact Nat.succ_le_succ (posD_le x r)
    · exact Nat.zero_le _
theorem posD_lt (x : Int × Nat) : ∀ (l : List (Int × Nat)) (i : Nat) (h : i < l.length), i < posD x l → aheadD l[i] x = true
  | y :: r, 0, _, h => by
    unfold posD at h
    by_cases ha : aheadD y x = true
    · exact ha
    · rw [if_neg ha] at h; exact absurd h (Nat.lt_irrefl _)
  | y :: r, i + 1, hi, h => by
    unfold posD at h
    by_cases ha : aheadD y x = true
    · rw [if_pos ha] at h; exact posD_lt x r i (by simpa using hi) (by omega)
    · rw [if_neg ha] at h; exact absurd h (Nat.not_lt_zero _)
theorem posD_at (x : Int × Nat) : ∀ (l : List (Int × Nat)) (h : posD x l < l.length), aheadD l[posD x l] x = false
  | [], h => absurd h (Nat.not_lt_zero _)
  | y :: r, h => by
    by_cases ha : aheadD y x = true
    · have e : posD x (y :: r) = posD x r + 1 := by rw [posD_cons, if_pos ha]
      simp only [e, List.getElem_cons_succ]
      exact posD_at x r (by rw [e] at h; simpa using h)
    · have e : posD x (y :: r) = 0 := by rw [posD_cons, if_neg ha]
      simp only [e, List.getElem_cons_zero]
      exact Bool.eq_false_iff.2 ha
theorem posD_go {x : Int × Nat} {l : List (Int × Nat)} {i : Nat} (h : i < l.length) (hi : i ≤ posD x l) (ha : aheadD l[i] x = true) : i + 1 ≤ posD x l := by
  rcases Nat.lt_or_ge i (posD x l) with k | k
  · exact k
  · obtain rfl : i = posD x l := by omega
    rw [posD_at x l h] at ha; cases ha
theorem posD_stop {x : Int × Nat} {l : List (Int × Nat)} {i : Nat} (h : i < l.length) (hi : i ≤ posD x l) (ha : aheadD l[i] x = false) : i = posD x l := by
  rcases Nat.lt_or_ge i (posD x l) with k | k
  · rw [posD_lt x l i h k] at ha; cases ha
  · omega
def addL (l : List (Int × Nat)) (x : Int × Nat) : List (Int × Nat) := if x ∈ l then l else l.take (posD x l) ++ [x] ++ l.drop (posD x l)
theorem info_dot : (Try.prog.info? 32).map (fun i => (i.zero, i.size, i.bytes)) = some (some (.agg #[.int .i64 0, .int .u64 0]), encD.k, 16) := by kernel_rfl
theorem one_dot {w : World} {g : Nat} {T : TypeId} (d : Int) (n : Nat) (h : w.heap[g]? = some (.cells #[.int .i64 d, .int .u64 (n : Int)] T (0, 0))) : HasK w encD (.slice (some ⟨g, 0, none⟩) 1 1) [(d, n)] := by
  refine ⟨_, 1, g, 0, rfl, Nat.le_refl _, by unfold maxLen; omega, fun _ => ⟨rfl, lt_of_block h⟩, fun i hi j u hu => ?_⟩
  obtain rfl : i = 0 := by simp at hi; omega
  have hj : j < 2 := (List.getElem?_eq_some_iff.1 hu).1
  have hu : ([.int .i64 d, .int .u64 (n : Int)] : List Value)[j]? = some u := hu
  simp only [World.cell?, h]
  rcases (by omega : j = 0 ∨ j = 1) with rfl | rfl <;> simpa using hu
theorem size_dot (W : World) : (sizeOf (Try.prog.elem 36)).run Try.prog W = .ok 2 W := by kernel_rfl
set_option maxRecDepth 100000 in
theorem dot_tail {w : World} {v : Value} {l : List (Int × Nat)} (h : HasK w encD v l) (lo : Nat) (h1 : lo ≤ l.length) :
    ∃ p' c', (∀ W, (Instr.slice 36 v (some (.int .i64 (lo : Int))) none none).run Try.prog W = .ok (.slice p' (l.length - lo) c') W) ∧ ∀ W0, HasK W0 encD v l → HasK W0 encD (.slice p' (l.length - lo) c') (l.drop lo) := by
  obtain ⟨p, cap, rfl, k1, k2⟩ := h.form
  refine ⟨_, _, fun W => ?_, fun W0 h0 => by have := HasK.sub h0 lo l.length h1 (Nat.le_refl _); rw [List.take_length] at this; exact this⟩
  rw [run_slice_l (P := Try.prog) (w := W) (t := 36) (a := p) (len := l.length) (cap := cap) Try.underlying36 .i64 (lo : Int) (by omega) (by omega), size_dot]
  rfl
set_option maxRecDepth 100000 in
theorem dot_head {w : World} {v : Value} {l : List (Int × Nat)} (h : HasK w encD v l) (hi : Nat) (h2 : hi ≤ l.length) :
    ∃ p' c', (∀ W, (Instr.slice 36 v none (some (.int .i64 (hi : Int))) none).run Try.prog W = .ok (.slice p' hi c') W) ∧ ∀ W0, HasK W0 encD v l → HasK W0 encD (.slice p' hi c') (l.take hi) := by
  obtain ⟨p, cap, rfl, k1, k2⟩ := h.form
  refine ⟨_, _, fun W => ?_, fun W0 h0 => by have := HasK.sub h0 0 hi (Nat.zero_le _) h2; rw [List.drop_zero] at this; exact this⟩
  rw [run_slice_h (P := Try.prog) (w := W) (t := 36) (a := p) (len := l.length) (cap := cap) Try.underlying36 .i64 (hi : Int) (by omega) (by omega), size_dot]
  rfl
section
variable {P : Program} {α : Type}
/-- Whatever elements are appended, as a step of a region that draws. -/
theorem step_append_ka {w : World} {ops : Array Oper} {o : Oper} {a : Act} {K : Act → World → Prop} {Q : Exit → Act → World → Prop} {F : Prop} (hgd : o.guard = none) (s x : Operand) (t : TypeId)
    (ho : o.op = .call { callee := .builtin .append, args := #[s, x], argTypes := #[t, t] })
    (base : Nat) (e : TypeId) (E : Enc α) (z : Value) (by_ : Nat) (ht : P.underlying t = some (.slice e)) (hinfo : (P.info? e).map (fun i => (i.zero, i.size, i.bytes)) = some (some z, E.k, by_)) (hzk : z.cells.size = E.k) (h8 : by_ ≤ 100)
    (v : Value) (L : List α) (hs : a.eval s = v) (hown : OwnK w base e E v L)
    (y : Value) (M : List α) (hx : a.eval x = y) (hy : HasK w E y M) (hlen : L.length + M.length ≤ 1000000000) (hbase : base ≤ w.heap.size) (w0 : World) (hb : Below base w0 w)
    (hK : ∀ v' w', OwnK w' base e E v' (L ++ M) → Below base w0 w' → w.grownBy w' v.ownBlock → K (a.put o.dst v') w') :
    if Region.wanted o (yielded ops a.tmps) = true then Oper.wp P o a w K Q else F := by
  by_cases h0 : 0 < M.length
  · exact step_append_k hgd s x t ho base e E z by_ ht hinfo hzk h8 v L hs hown y M hx hy h0 hlen hbase w0 hb hK
  · have hw : Region.wanted o (yielded ops a.tmps) = true := by simp [Region.wanted, hgd]
    rw [if_pos hw]
    obtain rfl : M = [] := List.eq_nil_of_length_eq_zero (by omega)
    obtain ⟨i, hi, hz, hz1, hz2⟩ := k_parts hinfo
    obtain ⟨p, cap, b, off, rfl, k1, k2, k3, kc⟩ := hy
    rw [List.append_nil] at hK
    cases p with
    | none =>
      have hf : ∃ q m c, v = .slice q m c ∧ m ≤ c := by
        obtain ⟨q, c, hv, h1, _⟩ := hown.sl
        exact ⟨q, _, c, hv, h1⟩
      obtain ⟨q, m, c, rfl, hmc⟩ := hf
      have hr := run_append_nothing (P := P) w t t o.type e i ht hi q m c hmc (.slice none 0 cap) (Src.ofNil w ht cap)
      unfold Oper.wp
      simp only [List.length_nil] at hx
      simp [execOp, ho, resolve, invoke, builtin, hs, hx, hr, Result.andThen]
      exact hK _ w hown hb ⟨rfl, rfl, rfl, Nat.le_refl _, fun _ _ _ => rfl⟩
    | some ad =>
      refine wp_append_own w s x t ho base e i z E.k by_ ht hi hz hz1 hz2 hzk E.pos v L.length _ hs hown ad 0 cap [] hx (by simp) (fun j u hu => by simp at hu) (fun u hu => by simp at hu)
        (by unfold maxLen; simp at hlen; omega) (by have := Nat.mul_le_mul_left (L.length + 0) h8; simp at hlen; omega) hbase fun v' w' h1 h2 _ => hK v' w' ?_ (hb.grown h2 hbase (fun k hk => (World.ownsRow.lt hown k hk).1)) h2
      unfold OwnK
      rw [List.append_nil, Nat.add_zero] at h1
      exact h1
end
end Go.Proofs.Ytfgfamafjkjakaa
