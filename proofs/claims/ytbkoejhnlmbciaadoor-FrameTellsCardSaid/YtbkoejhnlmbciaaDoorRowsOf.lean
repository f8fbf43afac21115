/-
  Bytes appended, wherever they point; rows of slices of bytes: an argument's, and the call's own. No function of the project is named here.
-/
import Derived.Test.YtbkoejhnlmbciaaDoorSlices
namespace Go.Proofs.YtbkoejhnlmbciaaDoor
open Go.ChangeShapes Go.WideShapes Go.ChangeAt Go.RowKit Go.Deep
set_option linter.unusedVariables false

theorem info_u8 : (Tryd.prog.info? 5).map (fun i => (i.zero, i.size, i.bytes)) = some (some (.int .u8 0), 1, 1) := by kernel_rfl
theorem info_sl : (Tryd.prog.info? 23).map (fun i => (i.zero, i.size, i.bytes)) = some (some (.slice none 0 0), 1, 24) := by kernel_rfl
theorem Own.below {w w' : World} {B : Nat} {e : TypeId} {v : Value} {l : List UInt8} (h : Own w B e v l) (hb : Below w.heap.size w w') : Own w' B e v l := by
  refine ⟨h.1, h.2.imp id fun ⟨g, cap, cur, hv, hg, hh, r⟩ => ⟨g, cap, cur, hv, hg, (hb.block g (lt_of_block hh)).trans hh, r⟩⟩
section
variable {P : Program}
/-- Whatever bytes are appended to a row of the call's own. -/
theorem wpList_append_hasA {w : World} {ops : Array Oper} {rest : List Oper} {o : Oper} {a : Act} {Q : Exit → Act → World → Prop} (hgd : o.guard = none) (s x : Operand) (t : TypeId)
    (ho : o.op = .call { callee := .builtin .append, args := #[s, x], argTypes := #[t, t] })
    (base : Nat) (e : TypeId) (ht : P.underlying t = some (.slice e)) (hinfo : (P.info? e).map (fun i => (i.zero, i.size, i.bytes)) = some (some (.int .u8 0), 1, 1))
    (v : Value) (xs : List UInt8) (hs : a.eval s = v) (hown : Own w base e v xs)
    (y : Value) (l zs : List UInt8) (hx : a.eval x = y) (hy : HasA w y l) (hzs : zs = xs ++ l) (hlen : xs.length + l.length ≤ 140737488355328) (hbase : base ≤ w.heap.size) (w0 : World) (hb : Below base w0 w)
    (h : ∀ v' w', Own w' base e v' zs → Below base w0 w' → wpList P ops Q rest (a.put o.dst v') w') : wpList P ops Q (o :: rest) a w := by
  by_cases h0 : 0 < l.length
  · obtain ⟨p, cap, b, off, rfl, k1, k2, k3, kc⟩ := hy
    obtain ⟨rfl, hb'⟩ := k3 h0
    exact wpList_append_has hgd s x t ho base e ht hinfo v xs hs hown _ l zs hx (.inr ⟨b, off, cap, rfl, k1, k2, hb', kc⟩) hzs hlen hbase w0 hb h
  · obtain rfl : l = [] := List.eq_nil_of_length_eq_zero (by omega)
    obtain ⟨p, cap, b, off, rfl, k1, k2, k3, kc⟩ := hy
    obtain ⟨i, hi, hz, hz1, hz2⟩ := info_parts hinfo
    rw [List.append_nil] at hzs
    subst hzs
    cases p with
    | none =>
      have hf : ∃ q m c, v = .slice q m c ∧ m ≤ c := by
        rcases hown.2 with ⟨hv, _⟩ | ⟨g, cap, cur, hv, _, _, h1, _⟩
        · exact ⟨none, 0, 0, hv, Nat.le_refl _⟩
        · exact ⟨_, _, _, hv, h1⟩
      obtain ⟨q, m, c, rfl, hmc⟩ := hf
      have hr := run_append_nothing (P := P) w t t o.type e i ht hi q m c hmc (.slice none 0 cap) (by rw [hz1]; exact Src.ofNil w ht cap)
      refine wpList_plain hgd fun K hK => ?_
      unfold Oper.wp
      simp only [List.length_nil] at hx
      simp [execOp, ho, resolve, invoke, builtin, hs, hx, hr, Result.andThen]
      exact hK _ _ (h _ w hown hb)
    | some ad =>
      refine wpList_append_own w hgd s x t ho base e i (.int .u8 0) 1 1 ht hi hz hz1 hz2 rfl (by decide) v zs.length _ hs hown ad 0 cap [] hx rfl (fun j u hu => by simp at hu) (fun u hu => by simp at hu)
        (by unfold maxLen; simp at hlen; omega) (by simp at hlen; omega) hbase fun v' w' h1 h2 _ => h v' w' ?_ (hb.grown h2 hbase (fun k hk => (hown.lt k hk).1))
      unfold Own
      rw [List.append_nil, Nat.add_zero] at h1
      exact h1
end

/-- The slice v reads as the rows ls, wherever it points if it has none. -/
def HasL (w : World) (v : Value) (ls : List (List UInt8)) : Prop :=
  ∃ p cap b o, v = .slice p ls.length cap ∧ ls.length ≤ cap ∧ cap ≤ maxLen ∧ (0 < ls.length → p = some ⟨b, o, none⟩ ∧ b < w.heap.size) ∧ ∀ j (h : j < ls.length), ∃ x, w.cell? ⟨b, o + j, none⟩ = some x ∧ HasA w x ls[j]
theorem HasL.below {w w' : World} {v : Value} {ls : List (List UInt8)} (h : HasL w v ls) (hb : Below w.heap.size w w') : HasL w' v ls := by
  obtain ⟨p, cap, b, o, rfl, h1, h2, h3, hc⟩ := h
  refine ⟨p, cap, b, o, rfl, h1, h2, fun h => ⟨(h3 h).1, Nat.lt_of_lt_of_le (h3 h).2 hb.size⟩, fun j hj => ?_⟩
  obtain ⟨x, hx, hl⟩ := hc j hj
  exact ⟨x, (hb.cell (p := ⟨b, o + j, none⟩) (h3 (by omega)).2).trans hx, hl.below hb⟩
theorem HasL.drewN {w : World} {v : Value} {ls : List (List UInt8)} (h : HasL w v ls) (n : Nat) : HasL (w.drewN n) v ls := h
theorem HasL.form {w : World} {v : Value} {ls : List (List UInt8)} (h : HasL w v ls) : ∃ p cap, v = .slice p ls.length cap ∧ ls.length ≤ cap ∧ cap ≤ maxLen := by
  obtain ⟨p, cap, b, o, hv, h1, h2, _⟩ := h
  exact ⟨p, cap, hv, h1, h2⟩
/-- What it reads, with its place. -/
theorem HasL.open {w : World} {v : Value} {ls : List (List UInt8)} (h : HasL w v ls) : ∃ b o cap p, v = .slice p ls.length cap ∧ ls.length ≤ cap ∧ cap ≤ maxLen ∧ Hid (0 < ls.length → p = some ⟨b, o, none⟩ ∧ b < w.heap.size) ∧ Hid (∀ j (h : j < ls.length), ∃ x, w.cell? ⟨b, o + j, none⟩ = some x ∧ HasA w x ls[j]) := by
  obtain ⟨p, cap, b, o, hv, h1, h2, h3, h4⟩ := h
  exact ⟨b, o, cap, p, hv, h1, h2, Lib.hid h3, Lib.hid h4⟩
theorem HasL.sub {w : World} {p : Option Addr} {n cap : Nat} {ls : List (List UInt8)} (h : HasL w (.slice p n cap) ls) (lo hi : Nat) (h1 : lo ≤ hi) (h2 : hi ≤ ls.length) : HasL w (sliced p lo hi cap 1) ((ls.take hi).drop lo) := by
  obtain ⟨p', cap', b, o, he, k1, k2, k3, kc⟩ := h
  simp only [Value.slice.injEq] at he
  obtain ⟨rfl, rfl, rfl⟩ := he
  have hlen : ((ls.take hi).drop lo).length = hi - lo := by simp; omega
  unfold sliced
  refine ⟨_, cap - lo, b, o + lo, by rw [hlen], by rw [hlen]; omega, by omega, fun h => ?_, fun j hj => ?_⟩
  · rw [hlen] at h
    obtain ⟨rfl, hb⟩ := k3 (by omega)
    rw [if_neg (by omega)]
    exact ⟨by simp [add_plain], hb⟩
  · rw [hlen] at hj
    rw [List.getElem_drop, List.getElem_take, Nat.add_assoc]
    exact kc (lo + j) (by omega)
theorem size_row (W : World) : (sizeOf (Tryd.prog.elem 27)).run Tryd.prog W = .ok 1 W := by kernel_rfl
theorem HasL.tail {w : World} {v : Value} {l : List (List UInt8)} (h : HasL w v l) (lo : Nat) (h1 : lo ≤ l.length) :
    ∃ p' c', (∀ W, (Instr.slice 27 v (some (.int .i64 (lo : Int))) none none).run Tryd.prog W = .ok (.slice p' (l.length - lo) c') W) ∧ ∀ W0, HasL W0 v l → HasL W0 (.slice p' (l.length - lo) c') (l.drop lo) := by
  obtain ⟨p, cap, b, o, rfl, k1, k2, k3, hc⟩ := h
  refine ⟨_, _, fun W => ?_, fun W0 h0 => by have := HasL.sub h0 lo l.length h1 (Nat.le_refl _); rw [List.take_length] at this; exact this⟩
  rw [run_slice_l (P := Tryd.prog) (w := W) (t := 27) (a := p) (len := l.length) (cap := cap) Tryd.underlying27 .i64 (lo : Int) (by omega) (by omega), size_row]
  rfl
theorem HasL.head {w : World} {v : Value} {l : List (List UInt8)} (h : HasL w v l) (hi : Nat) (h2 : hi ≤ l.length) :
    ∃ p' c', (∀ W, (Instr.slice 27 v none (some (.int .i64 (hi : Int))) none).run Tryd.prog W = .ok (.slice p' hi c') W) ∧ ∀ W0, HasL W0 v l → HasL W0 (.slice p' hi c') (l.take hi) := by
  obtain ⟨p, cap, b, o, rfl, k1, k2, k3, hc⟩ := h
  refine ⟨_, _, fun W => ?_, fun W0 h0 => by have := HasL.sub h0 0 hi (Nat.zero_le _) h2; rw [List.drop_zero] at this; exact this⟩
  rw [run_slice_h (P := Tryd.prog) (w := W) (t := 27) (a := p) (len := l.length) (cap := cap) Tryd.underlying27 .i64 (hi : Int) (by omega) (by omega), size_row]
  rfl

/-- v is a row of the call's own, of rows of its own. -/
def OwnL (w : World) (base : Nat) (v : Value) (ls : List (List UInt8)) : Prop :=
  ∃ vs, w.ownsRow base 23 1 v ls.length vs ∧ ∀ j (h : j < ls.length), ∃ x, vs[j]? = some x ∧ Own w base 5 x ls[j]
theorem OwnL.nil (w : World) (B : Nat) : OwnL w B (.slice none 0 0) [] := ⟨[], World.ownsRow_nil w B _ 1, fun j h => absurd h (Nat.not_lt_zero _)⟩
theorem OwnL.drewN {w : World} {B : Nat} {v : Value} {ls : List (List UInt8)} (h : OwnL w B v ls) (n : Nat) : OwnL (w.drewN n) B v ls := h
theorem row_below {w w' : World} {B size n : Nat} {e : TypeId} {v : Value} {xs : List Value} (h : w.ownsRow B e size v n xs) (hb : Below w.heap.size w w') : w'.ownsRow B e size v n xs :=
  ⟨h.1, h.2.imp id fun ⟨g, cap, cur, hv, hg, hh, r⟩ => ⟨g, cap, cur, hv, hg, (hb.block g (lt_of_block hh)).trans hh, r⟩⟩
theorem OwnL.below {w w' : World} {B : Nat} {v : Value} {ls : List (List UInt8)} (h : OwnL w B v ls) (hb : Below w.heap.size w w') : OwnL w' B v ls := by
  obtain ⟨vs, h1, h2⟩ := h
  refine ⟨vs, row_below h1 hb, fun j hj => ?_⟩
  obtain ⟨x, hx, ho⟩ := h2 j hj
  exact ⟨x, hx, ho.below hb⟩
theorem OwnL.mono {w : World} {B B' : Nat} {v : Value} {ls : List (List UInt8)} (h : OwnL w B v ls) (hb : B' ≤ B) : OwnL w B' v ls := by
  obtain ⟨vs, h1, h2⟩ := h
  refine ⟨vs, Joins.ownsRow_le h1 hb, fun j hj => ?_⟩
  obtain ⟨x, hx, ho⟩ := h2 j hj
  exact ⟨x, hx, ho.mono hb⟩
theorem OwnL.has {w : World} {B : Nat} {v : Value} {ls : List (List UInt8)} (h : OwnL w B v ls) : HasL w v ls := by
  obtain ⟨vs, h1, h2⟩ := h
  have hlt := World.ownsRow.lt h1
  have hc := fun {g : Nat} (hg : v.ownBlock = some g) => World.ownsRow.cells h1 hg
  rcases h1.2 with ⟨rfl, h0⟩ | ⟨g, cap, cur, rfl, hg, hh, k1, k2, _⟩
  · have hz : ls = [] := List.eq_nil_of_length_eq_zero h0
    subst hz
    exact ⟨none, 0, 0, 0, rfl, Nat.le_refl _, Nat.zero_le _, fun h => absurd h (Nat.lt_irrefl _), fun j hj => absurd hj (Nat.not_lt_zero _)⟩
  · refine ⟨_, cap, g, 0, rfl, k1, k2, fun _ => ⟨rfl, lt_of_block hh⟩, fun j hj => ?_⟩
    obtain ⟨x, hx, ho⟩ := h2 j hj
    refine ⟨x, ?_, ho.has.wide⟩
    have := hc (g := g) rfl j x hx
    rwa [add_plain] at this
theorem OwnL.form {w : World} {B : Nat} {v : Value} {ls : List (List UInt8)} (h : OwnL w B v ls) : ∃ p cap, v = .slice p ls.length cap ∧ ls.length ≤ cap ∧ cap ≤ maxLen := h.has.form
/-- Its own block grew: other rows of bytes are as they were. -/
theorem own_grown {w w' : World} {B B' n : Nat} {v x : Value} {vs : List Value} {l : List UInt8} {e T : TypeId} (hne : T ≠ e) (h1 : w.ownsRow B' e 1 v n vs) (ho : Own w B T x l) (hg : w.grownBy w' v.ownBlock) : Own w' B T x l := by
  refine World.ownsRow.kept ho hg ?_
  rcases ho.2 with ⟨rfl, _⟩ | ⟨g, cap, cur, rfl, _, hh, _⟩
  · exact .inl rfl
  · refine .inr fun he => ?_
    rcases h1.2 with ⟨rfl, _⟩ | ⟨g', cap', cur', rfl, _, hh', _⟩
    · cases he
    · simp only [Value.ownBlock, Option.some.injEq] at he
      subst he
      rw [hh] at hh'
      simp only [Option.some.injEq, Obj.cells.injEq] at hh'
      exact hne hh'.2.1

/-- A row of bytes appended to a row of rows: append(l, p). -/
theorem wpList_append_row {w : World} {ops : Array Oper} {rest : List Oper} {o : Oper} {a : Act} {Q : Exit → Act → World → Prop} (hgd : o.guard = none) (s x : Operand)
    (ho : o.op = .call { callee := .builtin .append, args := #[s, x], argTypes := #[27, 27] }) (base : Nat)
    (v : Value) (ls : List (List UInt8)) (hs : a.eval s = v) (hown : OwnL w base v ls) (u : Value) (l : List UInt8) (hu : Own w base 5 u l)
    (g : Nat) (hx : a.eval x = .slice (some ⟨g, 0, none⟩) 1 1) (hg : w.cell? ⟨g, 0, none⟩ = some u) (zs : List (List UInt8)) (hzs : zs = ls ++ [l]) (hlen : ls.length ≤ 1099511627776) (hbase : base ≤ w.heap.size) (w0 : World) (hb : Below base w0 w)
    (h : ∀ v' w', OwnL w' base v' zs → Below base w0 w' → wpList Tryd.prog ops Q rest (a.put o.dst v') w') : wpList Tryd.prog ops Q (o :: rest) a w := by
  obtain ⟨i, hi, hz, hz1, hz2⟩ := info_parts info_sl
  obtain ⟨vs, h1, h2⟩ := hown
  subst hzs
  have hone : u.oneCell' = true := by
    obtain ⟨p, cap, hv, _⟩ := hu.has.form
    rw [hv]; rfl
  refine wpList_append_own w hgd s x 27 ho base 23 i (.slice none 0 0) 1 24 Tryd.underlying27 hi hz hz1 hz2 rfl (by decide) v ls.length vs hs h1 ⟨g, 0, none⟩ 1 1 [u] hx rfl
    (fun j y hy => by
      cases j with
      | zero => simp at hy; subst hy; simpa [Addr.add] using hg
      | succ j => simp at hy) (fun y hy => by simp at hy; subst hy; exact hone) (by unfold maxLen; omega) (by omega) hbase fun v' w' k1 k2 _ => h v' w' ⟨vs ++ [u], by rw [List.length_append]; exact k1, fun j hj => ?_⟩ (hb.grown k2 hbase (fun k hk => (World.ownsRow.lt h1 k hk).1))
  have hvl : vs.length = ls.length := by have := h1.1; omega
  rw [List.length_append] at hj
  simp only [List.length_cons, List.length_nil] at hj
  by_cases hjl : j < ls.length
  · obtain ⟨y, hy, hyo⟩ := h2 j hjl
    refine ⟨y, by rw [List.getElem?_append_left (by omega)]; exact hy, ?_⟩
    rw [List.getElem_append_left hjl]
    exact own_grown (by decide) h1 hyo k2
  · obtain rfl : j = ls.length := by omega
    refine ⟨u, by rw [List.getElem?_append_right (by omega), hvl]; simp, ?_⟩
    rw [List.getElem_append_right (by omega)]
    simpa using own_grown (by decide) h1 hu k2
end Go.Proofs.YtbkoejhnlmbciaaDoor
