/-
  A walk's items gone through, counted in a box; left at most in the first round of two.
-/
import Derived.Test.YtfdafoibclfpgaaMMrgA
import Derived.Test.YtfdafoibclfpgaaMQuietR
import Derived.Test.YtfdafoibclfpgaaMAwake
namespace Go.Proofs.Ytfdafoibclfpgaa
open Go.ChangeShapes Go.WideShapes Go.ChangeAt Go.RowKit Go.Deep Go.Shelf
set_option linter.unusedVariables false
set_option linter.unusedSimpArgs false
/-- Behind the items 'pre': the box E counts them; what lies below E is as it was. -/
def Told (E : Nat) (W00 : World) (pre : List Itm) (W : World) : Prop := Boxed W E 3 (.int .i64 (pre.length : Int)) ∧ Below E W00 W
/-- How the body may leave. -/
def Out (A : Int) (m : List Itm) (E : Nat) (W00 : World) (c : Code) (pre : List Itm) (W : World) : Prop :=
  (c = .exit 8 ∧ A = 0 ∧ Told E W00 pre W) ∨ (c = .ret ∧ ∃ pre0 x, pre = pre0 ++ [x] ∧ m[pre0.length]? ≠ some x)
theorem told_own {E B : Nat} {W00 : World} (h : W00.heap.size = E) (hB : E ≤ B) : OwnFrom B (fun pre W => Told E W00 pre W) :=
  OwnFrom.and (Own.from (boxed_own E 3 (fun pre : List Itm => .int .i64 (pre.length : Int))) _) (ownFrom_below (by rw [h]; exact Nat.le_refl _) hB)
theorem out_own {A : Int} {m : List Itm} {E B : Nat} {W00 : World} (h : W00.heap.size = E) (hB : E ≤ B) (c : Code) : OwnFrom B (fun pre W => Out A m E W00 c pre W) := fun s X Y row hs hg hr => by
  rcases hs with ⟨h1, h2, h3⟩ | h1
  · exact .inl ⟨h1, h2, told_own h hB s X Y row h3 hg hr⟩
  · exact .inr h1
theorem range_again {T : Array Value} {ds : List Deferred} {assign body : Code} {Q : Exit → Act → World → Prop} {A : Int} {g E : Nat} {v10 : Value} {m : List Itm} {W00 W : World}
    (hg : ({ tmps := T, defers := ds } : Act).eval (.tmp 124) = .func (.func 25) #[] #[.pointer (some ⟨g, 0, none⟩)])
    (hE : W00.heap.size = E) (hW : W00.alloc (.cells #[.int .i64 0] 3) = W)
    (hgc : W00.cell? ⟨g, 0, none⟩ = some v10) (hv : HasK W00 encI v10 m)
    (hassign : ∀ (l : Nat) (x : Itm) (W' : World) (K : Act → World → Prop), (∀ Bx W'', Bx = W'.heap.size → W'' = W'.alloc (.cells #[.string x.key, .int .u64 (x.seq : Int), .bool x.gone, .string x.val] 29) → K { tmps := (T.setIfInBounds 125 x.v).setIfInBounds 16 (.pointer (some ⟨Bx, 0, none⟩)), defers := [] } W'') → assign.wpIn (Fence.wide.inRound l) (9 - 1 - 1) Try.prog (Exit.then K (fun _ _ _ => False)) { tmps := T.setIfInBounds 125 x.v, defers := [] } W')
    (hbody : ∀ (l : Nat) (pre : List Itm) (x : Itm) (Bx : Nat) (W' : World), Told E W00 pre W' → W.heap.size ≤ Bx → XBox W' Bx x → pre.length < m.length → body.wpIn (Fence.wide.inRound l) (9 - 1 - 1) Try.prog (ownPostG W.heap.size (Below E) (Told E W00) (Out A m E W00) (pre ++ [x]) W') { tmps := (T.setIfInBounds 125 x.v).setIfInBounds 16 (.pointer (some ⟨Bx, 0, none⟩)), defers := [] } W')
    (hdone : ∀ (D : Nat) (W' : World) (k : Nat), W.heap.size ≤ D → (A ≠ 0 → k = m.length) → Boxed W' E 3 (.int .i64 (k : Int)) → Below E W00 W' → W'.heap[D]? = some (.deferred (some [])) → ∀ e, e = .normal ∨ e = .exit 8 → Q e { tmps := T, defers := { target := .collected D, args := #[] } :: ds } W') :
    (Code.rangeFunc (.tmp 124) #[125] assign body).wpIn Fence.wide 9 Try.prog Q { tmps := T, defers := ds } W := by
  have hsz : W.heap.size = E + 1 := by rw [← hW, World.size_alloc, hE]
  have hb0 : Below E W00 W := by
    rw [← hW, ← hE]
    exact (Below.refl _ _).alloc (Nat.le_refl _) _
  have hgl : g < E := by rw [← hE]; exact cell_lt hgc
  have hrow : RowB E W v10 m := by
    have z := (RowB.of hv).below (n₀ := W00.heap.size) (by rw [hE]; exact hb0)
    rw [hE] at z
    exact z
  have hgcW : W.cell? ⟨g, 0, none⟩ = some v10 := (hb0.cell (p := ⟨g, 0, none⟩) hgl).trans hgc
  have hc0 : Told E W00 [] W := ⟨by have z := Boxed.new W00 3 (.int .i64 0); rw [hW, hE] at z; exact z, hb0⟩
  refine wpIn_rangeFunc_ownH rfl (by decide : 1 ≤ 9) (gf := 25) (lb := #[.pointer (some ⟨g, 0, none⟩)]) hg trivial (enters_of Try.func25 (by kernel_rfl) rfl)
    (walk_stops Fence.wide 8 trivial rfl (by decide) g E v10 m W (by omega) (by omega) hgcW hrow) belowK_t (belowK_b (by omega)) (Below.refl _ _) (fun _ => rfl)
    (Told E W00) (Out A m E W00) (told_own hE (by omega)) (out_own hE (by omega)) hc0
    (fun x a' W' => ∃ Bx, W.heap.size ≤ Bx ∧ XBox W' Bx x ∧ a' = { tmps := (T.setIfInBounds 125 x.v).setIfInBounds 16 (.pointer (some ⟨Bx, 0, none⟩)), defers := [] })
    (fun x a' _ X Y row hs hg hr => by obtain ⟨Bx, h1, h2, h3⟩ := hs; exact ⟨Bx, h1, h2.own hg (fun r e => (hr r e).2), h3⟩)
    ?_ ?_ ?_ ?_
  · intro l pre x W' K hI hK
    have ez : Array.foldl (fun (t : Array Value) (x : Nat × Value) => t.setIfInBounds x.1 x.2) ({ tmps := T, defers := ds } : Act).tmps ((#[125] : Array Nat).zip #[x.v]) = T.setIfInBounds 125 x.v := by simp
    refine (congrArg (fun z => Code.wpIn (Fence.wide.inRound l) (9 - 1 - 1) Try.prog assign (Exit.then K fun _ _ _ => False) { tmps := z, defers := [] } W') ez).mpr ?_
    refine hassign l x W' K fun Bx W'' h1 h2 => ?_
    subst h1; subst h2
    have hsW : W.heap.size ≤ W'.heap.size := by have z := hI.1.lt; omega
    exact hK _ _ ((KeepsOthers.alloc _ _).from _) ((Below.refl _ W').alloc (by omega) _) ⟨hI.1.alloc _, hI.2.alloc (by omega) _⟩ ⟨W'.heap.size, hsW, heap_alloc_new W' _, rfl⟩
  · rintro l pre x a' W' hl hr hI ⟨Bx, h1, h2, rfl⟩ hlt
    exact hbody l pre x Bx W' hI h1 h2 hlt
  · rintro D xs W' hD rfl hI hk
    exact hdone D W' xs.length hD (fun _ => rfl) hI.1 hI.2 hk .normal (.inl rfl)
  · rintro D c pre W' hD hp hc hk
    rcases hc with ⟨rfl, hA, hI⟩ | ⟨rfl, pre0, x, rfl, hx⟩
    · exact wpIn_exit (hdone D W' pre.length hD (fun h => absurd hA h) hI.1 hI.2 hk _ (.inr rfl))
    · obtain ⟨t, ht⟩ := hp
      exact absurd (by rw [← ht]; simp) hx
theorem wpQuietIn_neI {F : Fence} {n : Nat} {ops : Array Oper} {C : World → Prop} {Q : Act → Prop} {op : Oper} {rest : List Oper} {a : Act} (hw : Region.wanted op (yielded ops a.tmps) = true) (p q : Operand) (t : TypeId) (ho : op.op = .binOp .neq 29 p q t) (x y : Itm) (hx : a.eval p = x.v) (hy : a.eval q = y.v) (b : Bool) (hb : eqI x y = !b)
    (h : wpQuietIn F n Try.prog ops C Q rest (a.put op.dst (.bool b))) : wpQuietIn F n Try.prog ops C Q (op :: rest) a :=
  ⟨fun w _ f hf => by simp [Oper.about, ho] at hf, by
    rw [if_pos hw]
    exact ⟨.bool b, fun w _ => by unfold Oper.quietAtIn; rw [exec_neI p q t ho x y hx hy b hb w]; exact ⟨rfl, rfl⟩, h⟩⟩
end Go.Proofs.Ytfdafoibclfpgaa
