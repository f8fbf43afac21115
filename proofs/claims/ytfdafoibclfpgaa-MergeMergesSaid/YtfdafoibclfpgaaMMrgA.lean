/-
  A call's own table of rows of items, each row the call's own.
-/
import Derived.Test.YtfdafoibclfpgaaMRefMrg
namespace Go.Proofs.Ytfdafoibclfpgaa
open Go.ChangeShapes Go.WideShapes Go.ChangeAt Go.RowKit Go.Deep
set_option linter.unusedVariables false
set_option linter.unusedSimpArgs false
section
variable {α : Type}
theorem OwnK.typeM {w : World} {B : Nat} {e : TypeId} {E : Enc α} {v : Value} {l : List α} (h : OwnK w B e E v l) {g : Nat} (hg : v.ownBlock = some g) : ∃ cur, w.heap[g]? = some (.cells cur e (0, 0)) := by
  rcases h.2 with ⟨rfl, _⟩ | ⟨g', cap, cur, rfl, _, h3, _⟩
  · cases hg
  · simp only [Value.ownBlock, Option.some.injEq] at hg
    subst hg
    exact ⟨cur, h3⟩
/-- An append to a row of one type leaves rows of another. -/
theorem OwnK.besideM {β : Type} {w w' : World} {B B' : Nat} {e e' : TypeId} {E : Enc α} {E' : Enc β} {v u : Value} {l : List α} {m : List β} (h : OwnK w B e E v l) (hu : OwnK w B' e' E' u m) (hg : w.grownBy w' u.ownBlock) (hne : e ≠ e') : OwnK w' B e E v l := by
  by_cases hn : v.ownBlock = none
  · rcases h.2 with ⟨rfl, h0⟩ | ⟨g', cap, cur, rfl, _⟩
    · exact ⟨h.1, .inl ⟨rfl, h0⟩⟩
    · cases hn
  · refine h.kept hg (fun e0 => ?_)
    obtain ⟨g, hgv⟩ := Option.ne_none_iff_exists'.1 hn
    obtain ⟨c1, h1⟩ := h.typeM hgv
    obtain ⟨c2, h2⟩ := hu.typeM (e0 ▸ hgv)
    rw [h1] at h2
    simp only [Option.some.injEq, Obj.cells.injEq] at h2
    exact hne h2.2.1
/-- The first n of a row of one's own. -/
theorem OwnK.first {w : World} {B : Nat} {e : TypeId} {E : Enc α} {p : Option Addr} {m c : Nat} {l : List α} (h : OwnK w B e E (.slice p m c) l) (n : Nat) (hn : n ≤ l.length) (h0 : 0 < l.length) : OwnK w B e E (.slice p n c) (l.take n) := by
  rcases h.2 with ⟨_, hz⟩ | ⟨g, cap, cur, hv, h2, h3, h4, h5, h6, h7⟩
  · omega
  · simp only [Value.slice.injEq] at hv
    obtain ⟨rfl, rfl, rfl⟩ := hv
    have hl : (l.take n).length = n := by rw [List.length_take]; omega
    refine ⟨flatK_len E _, .inr ⟨g, c, cur, by rw [hl], h2, h3, by omega, h5, h6, ?_⟩⟩
    rw [hl, ← flatK_take E l n hn, ← h7, List.take_take, Nat.min_eq_left (Nat.mul_le_mul_right _ hn)]
end
/-- A slice of items, and what it holds. -/
structure Rw where
  p : Option Addr
  n : Nat
  c : Nat
  list : List Itm
def Rw.val (x : Rw) : Value := .slice x.p x.n x.c
def encS : Enc Rw := ⟨1, fun x => [x.val], fun _ => rfl, fun x u hu => by
  simp only [List.mem_cons, List.not_mem_nil, or_false] at hu
  subst hu; rfl, by decide⟩
theorem info_rows : (Try.prog.info? 23).map (fun i => (i.zero, i.size, i.bytes)) = some (some (.slice none 0 0), encS.k, 24) := by kernel_rfl
theorem one_row {w : World} {g : Nat} {T : TypeId} (x : Rw) (h : w.heap[g]? = some (.cells #[.slice x.p x.n x.c] T (0, 0))) : HasK w encS (.slice (some ⟨g, 0, none⟩) 1 1) [x] := by
  refine ⟨_, 1, g, 0, rfl, Nat.le_refl _, by unfold maxLen; omega, fun _ => ⟨rfl, lt_of_block h⟩, fun i hi j u hu => ?_⟩
  obtain rfl : i = 0 := by simp at hi; omega
  cases j with
  | zero =>
    have hu' : Value.slice x.p x.n x.c = u := by simpa [encS, Rw.val] using hu
    subst hu'
    simp [World.cell?, h]
  | succ j => simp [encS] at hu
def Rw.off (x y : Rw) : Prop := x.val.ownBlock ≠ none → x.val.ownBlock ≠ y.val.ownBlock
structure OwnL (w : World) (B : Nat) (v : Value) (M : List Rw) : Prop where
  row : OwnK w B 23 encS v M
  each : ∀ x ∈ M, OwnK w B 29 encI x.val x.list
  apart : M.Pairwise Rw.off
theorem OwnL.nil (w : World) (B : Nat) : OwnL w B (.slice none 0 0) [] := ⟨OwnK.nil _ _ _ _, (fun x h => nomatch h), List.Pairwise.nil⟩
theorem OwnL.below {w w' : World} {B : Nat} {v : Value} {M : List Rw} (h : OwnL w B v M) (hb : Below w.heap.size w w') : OwnL w' B v M := ⟨h.row.below hb, fun x hx => (h.each x hx).below hb, h.apart⟩
/-- One row more: its block is none of the others'. -/
theorem OwnL.push {w w' : World} {B S : Nat} {v v' : Value} {M : List Rw} {x : Rw} (h : OwnL w B v M) (hS : ∀ y ∈ M, ∀ g, y.val.ownBlock = some g → g < S) (hBS : B ≤ S) (hx : OwnK w S 29 encI x.val x.list) (hr : OwnK w' B 23 encS v' (M ++ [x])) (hg : w.grownBy w' v.ownBlock) : OwnL w' B v' (M ++ [x]) := by
  refine ⟨hr, fun y hy => ?_, List.pairwise_append.2 ⟨h.apart, List.pairwise_singleton _ _, fun y hy z hz => ?_⟩⟩
  · rcases List.mem_append.1 hy with hy | hy
    · exact (h.each y hy).besideM h.row hg (by decide)
    · obtain rfl := List.mem_singleton.1 hy
      exact (hx.mono hBS).besideM h.row hg (by decide)
  · obtain rfl := List.mem_singleton.1 hz
    intro h1 e
    obtain ⟨g, hgv⟩ := Option.ne_none_iff_exists'.1 h1
    have := hS y hy g hgv
    have := (hx.lt g (e ▸ hgv)).1
    omega
/-- It reads as a list of lists. -/
theorem OwnL.has {w : World} {B : Nat} {v : Value} {M : List Rw} (h : OwnL w B v M) : HasI w v (M.map Rw.list) := by
  obtain ⟨p, cap, b, o, rfl, h1, h2, h3, h4⟩ := h.row.has
  have hl : (M.map Rw.list).length = M.length := List.length_map _
  refine ⟨p, cap, b, o, by rw [hl], by rw [hl]; exact h1, h2, fun h0 => h3 (by omega), fun j hj => ?_⟩
  have hj' : j < M.length := by omega
  refine ⟨M[j].val, ?_, ?_⟩
  · have := h4 j hj' 0 M[j].val rfl
    simpa [encS] using this
  · rw [List.getElem_map]
    exact (h.each _ (List.getElem_mem hj')).has
theorem item_upto (g m c i : Nat) (h1 : i ≤ c) (hz : 0 < c) (W : World) : (Instr.slice 23 (.slice (some ⟨g, 0, none⟩) m c) none (some (.int .i64 (i : Int))) none).run Try.prog W = .ok (.slice (some ⟨g, 0, none⟩) i c) W := by
  rw [run_slice_h (P := Try.prog) (w := W) (t := 23) (a := some ⟨g, 0, none⟩) (len := m) (cap := c) Try.underlying23 .i64 (i : Int) (by omega) (by omega), size_item]
  simp only [Result.andThen, sliced, Int.toNat_natCast]
  rw [if_neg (by omega)]
  simp [Addr.add]
theorem OwnK.setOther {α : Type} {w : World} {B : Nat} {e : TypeId} {E : Enc α} {v : Value} {l : List α} (h : OwnK w B e E v l) (g j : Nat) (hg : v.ownBlock ≠ some g) (u : Value) : OwnK (w.setCell ⟨g, j, none⟩ u) B e E v l :=
  h.same fun k hk => Below.heap_setCell _ _ _ _ (fun e' => hg (by rw [hk]; exact congrArg some e'))
theorem table_at {w : World} {B : Nat} {p : Option Addr} {n c : Nat} {M : List Rw} (h : OwnK w B 23 encS (.slice p n c) M) (i : Nat) (hi : i < M.length) : ∃ g, p = some ⟨g, 0, none⟩ ∧ w.cell? ⟨g, i, none⟩ = some M[i].val := by
  obtain ⟨g, cap, hv, _, _, _, _, hc, _⟩ := h.form (by omega)
  simp only [Value.slice.injEq] at hv
  refine ⟨g, hv.1, ?_⟩
  have := hc i hi 0 M[i].val rfl
  simpa [encS] using this
theorem row_len {w : World} {B : Nat} {x : Rw} (h : OwnK w B 29 encI x.val x.list) : x.n = x.list.length ∧ x.n ≤ x.c ∧ x.c ≤ maxLen := by
  obtain ⟨p, cap, hv, h1, h2⟩ := h.sl
  unfold Rw.val at hv
  simp only [Value.slice.injEq] at hv
  exact ⟨hv.2.1, by omega, by omega⟩
theorem row_block {w : World} {B : Nat} {x : Rw} (h : OwnK w B 29 encI x.val x.list) (h0 : 0 < x.n) : ∃ g cur, x.p = some ⟨g, 0, none⟩ ∧ w.heap[g]? = some (.cells cur 29 (0, 0)) ∧ x.n * 4 ≤ cur.size ∧ B ≤ g := by
  have hn := (row_len h).1
  rcases h.2 with ⟨_, hz⟩ | ⟨g, cap, cur, hv, h2, h3, h4, h5, h6, h7⟩
  · omega
  · unfold Rw.val at hv
    simp only [Value.slice.injEq] at hv
    have h6' : cur.size = cap * 4 := h6
    exact ⟨g, cur, hv.1, h3, by omega, h2⟩
theorem mergedOf.uniq {L : List (List Itm)} {a b : List Itm} (ha : mergedOf L a) (hb : mergedOf L b) : a = b := by
  cases h : L.all sortedB with
  | true => exact (ha.1 h).ext (hb.1 h) (fun _ _ => rfl)
  | false => rw [ha.2 h, hb.2 h]
/-- A world in which blocks between two numbers may have been written, and more were laid. -/
structure Sp (S1 S2 : Nat) (w W : World) : Prop where
  low : Below S1 w W
  high : ∀ k, S2 ≤ k → k < w.heap.size → W.heap[k]? = w.heap[k]?
theorem Sp.refl (S1 S2 : Nat) (w : World) : Sp S1 S2 w w := ⟨Below.refl _ _, fun _ _ _ => rfl⟩
theorem Sp.below {S1 S2 : Nat} {w W W' : World} (h : Sp S1 S2 w W) (hb : Below W.heap.size W W') (hS : S1 ≤ W.heap.size) : Sp S1 S2 w W' :=
  ⟨h.low.trans (hb.mono hS), fun k h1 h2 => (hb.block k (Nat.lt_of_lt_of_le h2 h.low.size)).trans (h.high k h1 h2)⟩
theorem Sp.set {S1 S2 : Nat} {w W : World} (h : Sp S1 S2 w W) (g j : Nat) (h1 : S1 ≤ g) (h2 : g < S2) (u : Value) : Sp S1 S2 w (W.setCell ⟨g, j, none⟩ u) :=
  ⟨h.low.setCell (p := ⟨g, j, none⟩) h1 u, fun k k1 k2 => (Below.heap_setCell _ _ _ _ (show k ≠ g by omega)).trans (h.high k k1 k2)⟩
theorem flat60 : ∀ (L : List (List Itm)) (n : Nat), L.length ≤ n → (∀ x ∈ L, x.length ≤ 60) → L.flatten.length ≤ n * 60
  | [], n, _, _ => by simp
  | x :: L, n + 1, h, hx => by
    have := flat60 L n (by simpa using h) (fun y hy => hx y (List.mem_cons_of_mem _ hy))
    have := hx x (List.mem_cons_self ..)
    rw [List.flatten_cons, List.length_append]
    omega
end Go.Proofs.Ytfdafoibclfpgaa
