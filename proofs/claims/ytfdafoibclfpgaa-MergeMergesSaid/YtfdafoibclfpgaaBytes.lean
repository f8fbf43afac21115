/-
  Bytes in memory: a slice of bytes that reads as a list of bytes; its copy, its text, what is appended to it. Over any program; no function of the project is named here.
-/
import Derived.Test.YtfdafoibclfpgaaStay
import Derived.OwnWalk
import Derived.OneCell
import Derived.Laws.CopyOwn
import Derived.Laws.MakeOwn
import Derived.Laws.IdiomStrings
import Derived.Laws.BytesArg
import Derived.Lib.UnsafeStr
import Derived.Lib.AppendStr
import Derived.Lib.BufferWrite
import Derived.Lib.ConvBytes
import Derived.Lib.SmallJoins
import Derived.Lib.Hide
import Derived.Deep.Draws
import Derived.Deep.Upon
namespace Go.Proofs.Ytfdafoibclfpgaa
open Go.ChangeShapes Go.WideShapes Go.ChangeAt Go.RowKit Go.Deep
set_option linter.unusedVariables false

theorem below_drewN' {B : Nat} {a w : World} (h : Below B a w) (n : Nat) : Below B a (w.drewN n) := ⟨h.os, h.tape, h.output, h.size, h.block⟩
/-- Block R alone may have been written. -/
def Only (R : Nat) (w w' : World) : Prop := Below R w w' ∧ w'.heap.size = w.heap.size ∧ ∀ k, k ≠ R → w'.heap[k]? = w.heap[k]?
theorem Only.refl (R : Nat) (w : World) : Only R w w := ⟨Below.refl _ _, rfl, fun _ _ => rfl⟩
theorem Only.set {R : Nat} {a w : World} (h : Only R a w) (o : Nat) (v : Value) : Only R a (w.setCell ⟨R, o, none⟩ v) :=
  ⟨h.1.setCell (Nat.le_refl _) _, by rw [World.size_setCell]; exact h.2.1, fun k hk => (Below.heap_setCell _ _ _ _ hk).trans (h.2.2 k hk)⟩
theorem Only.drewN {R : Nat} {a w : World} (h : Only R a w) (n : Nat) : Only R a (w.drewN n) := ⟨below_drewN' h.1 n, h.2.1, h.2.2⟩
theorem Only.trans {R : Nat} {a b c : World} (h : Only R a b) (k : Only R b c) : Only R a c :=
  ⟨h.1.trans k.1, k.2.1.trans h.2.1, fun i hi => (k.2.2 i hi).trans (h.2.2 i hi)⟩
theorem Only.cell {R : Nat} {a w : World} (h : Only R a w) {p : Addr} (hp : p.block ≠ R) : w.cell? p = a.cell? p := World.cell?_of_block (w := a) (h.2.2 p.block hp)

/-- The slice v reads as the bytes l. -/
def Has (w : World) (v : Value) (l : List UInt8) : Prop :=
  (v = .slice none 0 0 ∧ l = []) ∨ ∃ b o cap, v = .slice (some ⟨b, o, none⟩) l.length cap ∧ l.length ≤ cap ∧ cap ≤ maxLen ∧ b < w.heap.size ∧
    ∀ j (h : j < l.length), w.cell? ⟨b, o + j, none⟩ = some (.int .u8 (l[j].toNat : Int))

theorem cells_at {w : World} {l : List UInt8} {b o : Nat} (h : ∀ j (h : j < l.length), w.cell? ⟨b, o + j, none⟩ = some (.int .u8 (l[j].toNat : Int))) :
    ∀ j u, (Lib.byteCells l)[j]? = some u → w.cell? ((⟨b, o, none⟩ : Addr).add j) = some u := by
  intro j u hu
  unfold Lib.byteCells at hu
  rw [List.getElem?_map] at hu
  obtain ⟨x, hx, rfl⟩ := Option.map_eq_some_iff.1 hu
  obtain ⟨hj, rfl⟩ := List.getElem?_eq_some_iff.1 hx
  rw [add_plain]
  exact h j hj

theorem Has.below {w w' : World} {v : Value} {l : List UInt8} (h : Has w v l) (hb : Below w.heap.size w w') : Has w' v l := by
  rcases h with h | ⟨b, o, cap, hv, h1, h2, h3, hc⟩
  · exact .inl h
  · exact .inr ⟨b, o, cap, hv, h1, h2, Nat.lt_of_lt_of_le h3 hb.size, fun j hj => (hb.cell (p := ⟨b, o + j, none⟩) h3).trans (hc j hj)⟩
theorem Has.drewN {w : World} {v : Value} {l : List UInt8} (h : Has w v l) (n : Nat) : Has (w.drewN n) v l := h
theorem Has.only {w w' : World} {v : Value} {l : List UInt8} {R : Nat} (h : Has w v l) (ho : Only R w w') (hne : v.ownBlock ≠ some R) : Has w' v l := by
  rcases h with h | ⟨b, o, cap, rfl, h1, h2, h3, hc⟩
  · exact .inl h
  · exact .inr ⟨b, o, cap, rfl, h1, h2, by rw [ho.2.1]; exact h3, fun j hj => (ho.cell (p := ⟨b, o + j, none⟩) (fun e => hne (by simp [Value.ownBlock, show b = R from e]))).trans (hc j hj)⟩
theorem Has.len {w : World} {v : Value} {l : List UInt8} (h : Has w v l) : l.length ≤ maxLen := by
  rcases h with ⟨_, rfl⟩ | ⟨b, o, cap, _, h1, h2, _⟩
  · exact Nat.zero_le _
  · exact Nat.le_trans h1 h2
theorem Has.form {w : World} {v : Value} {l : List UInt8} (h : Has w v l) : ∃ p cap, v = .slice p l.length cap ∧ l.length ≤ cap ∧ cap ≤ maxLen := by
  rcases h with ⟨rfl, rfl⟩ | ⟨b, o, cap, rfl, h1, h2, _⟩
  · exact ⟨none, 0, rfl, Nat.le_refl _, Nat.zero_le _⟩
  · exact ⟨_, cap, rfl, h1, h2⟩

theorem byteCells_get {l : List UInt8} {j : Nat} (hj : j < l.length) : (Lib.byteCells l)[j]? = some (.int .u8 (l[j].toNat : Int)) := by
  unfold Lib.byteCells
  rw [List.getElem?_map, List.getElem?_eq_getElem hj]; rfl

theorem has_of_own {w : World} {B : Nat} {e : TypeId} {v : Value} {n : Nat} {l : List UInt8} (h : w.ownsRow B e 1 v n (Lib.byteCells l)) : Has w v l := by
  have hn : n = l.length := by have := h.1; rw [Lib.byteCells_length] at this; omega
  subst hn
  have hlt := h.lt
  rcases h.2 with ⟨rfl, h0⟩ | ⟨g, cap, cur, rfl, hg, hh, h1, h2, _⟩
  · exact .inl ⟨rfl, List.eq_nil_of_length_eq_zero h0⟩
  · refine .inr ⟨g, 0, cap, rfl, h1, h2, (hlt g rfl).2, fun j hj => ?_⟩
    have := h.cells (g := g) rfl j _ (byteCells_get hj)
    rwa [add_plain] at this

/-- v is a row of the call's own (from block base on, nobody else's, free to write) that holds the bytes l. -/
def Own (w : World) (base : Nat) (e : TypeId) (v : Value) (l : List UInt8) : Prop := w.ownsRow base e 1 v l.length (Lib.byteCells l)
theorem Own.has {w : World} {B : Nat} {e : TypeId} {v : Value} {l : List UInt8} (h : Own w B e v l) : Has w v l := has_of_own h
theorem Own.alloc {w : World} {B : Nat} {e : TypeId} {v : Value} {l : List UInt8} (h : Own w B e v l) (o : Obj) : Own (w.alloc o) B e v l := World.ownsRow.alloc h o
theorem Own.nil (w : World) (B : Nat) (e : TypeId) : Own w B e (.slice none 0 0) [] := World.ownsRow_nil w B e 1
theorem Own.drewN {w : World} {B : Nat} {e : TypeId} {v : Value} {l : List UInt8} (h : Own w B e v l) (n : Nat) : Own (w.drewN n) B e v l := h
theorem Own.mono {w : World} {B B' : Nat} {e : TypeId} {v : Value} {l : List UInt8} (h : Own w B e v l) (hb : B' ≤ B) : Own w B' e v l := Joins.ownsRow_le h hb

section
variable {P : Program}

theorem Has.string {w : World} {v : Value} {l : List UInt8} (h : Has w v l) {src dst e : TypeId} (hs : P.underlying src = some (.slice e)) (he : P.underlying e = some (.int .u8)) (hd : P.underlying dst = some .string) :
    (convert src dst v).run P w = .ok (.string ⟨l.toArray⟩) w := by
  rcases h with ⟨rfl, rfl⟩ | ⟨b, o, cap, rfl, _, _, _, hc⟩
  · exact run_convert_bytes_nil w src e hs he 0 0 dst hd
  · exact run_convert_bytes_back w src dst e ⟨b, o, none⟩ cap l hs he hd (fun j hj => by rw [add_plain]; exact hc j hj)

/-- Whatever bytes are appended to a row of the call's own. -/
theorem wpList_append_has {w : World} {ops : Array Oper} {rest : List Oper} {o : Oper} {a : Act} {Q : Exit → Act → World → Prop} (hgd : o.guard = none) (s x : Operand) (t : TypeId)
    (ho : o.op = .call { callee := .builtin .append, args := #[s, x], argTypes := #[t, t] })
    (base : Nat) (e : TypeId) (ht : P.underlying t = some (.slice e)) (hinfo : (P.info? e).map (fun i => (i.zero, i.size, i.bytes)) = some (some (.int .u8 0), 1, 1))
    (v : Value) (xs : List UInt8) (hs : a.eval s = v) (hown : Own w base e v xs)
    (y : Value) (l zs : List UInt8) (hx : a.eval x = y) (hy : Has w y l) (hzs : zs = xs ++ l) (hlen : xs.length + l.length ≤ 140737488355328) (hbase : base ≤ w.heap.size) (w0 : World) (hb : Below base w0 w)
    (h : ∀ v' w', Own w' base e v' zs → Below base w0 w' → wpList P ops Q rest (a.put o.dst v') w') : wpList P ops Q (o :: rest) a w := by
  obtain ⟨i, hi, hz, hz1, hz2⟩ := info_parts hinfo
  subst hzs
  rcases hy with ⟨rfl, rfl⟩ | ⟨b, off, cap, rfl, _, _, _, hc⟩
  · have hf : ∃ q m c, v = .slice q m c ∧ m ≤ c := by
      rcases hown.2 with ⟨hv, _⟩ | ⟨g, cap, cur, hv, _, _, h1, _⟩
      · exact ⟨none, 0, 0, hv, Nat.le_refl _⟩
      · exact ⟨_, _, _, hv, h1⟩
    obtain ⟨q, m, c, rfl, hmc⟩ := hf
    have hr := run_append_nothing (P := P) w t t o.type e i ht hi q m c hmc (.slice none 0 0) (by rw [hz1]; exact Src.ofNil w ht 0)
    refine wpList_plain hgd fun K hK => ?_
    unfold Oper.wp
    simp [execOp, ho, resolve, invoke, builtin, hs, hx, hr, Result.andThen]
    exact hK _ _ (h _ w (by rw [List.append_nil]; exact hown) hb)
  · refine wpList_append_own w hgd s x t ho base e i (.int .u8 0) 1 1 ht hi hz hz1 hz2 rfl (by decide) v xs.length _ hs hown ⟨b, off, none⟩ l.length cap (Lib.byteCells l) hx (by rw [Lib.byteCells_length, Nat.mul_one]) (cells_at hc) (Lib.byteCells_one l)
      (by unfold maxLen; omega) (by omega) hbase fun v' w' h1 h2 _ => h v' w' ?_ (hb.grown h2 hbase (fun k hk => (hown.lt k hk).1))
    unfold Own
    rw [List.length_append, Lib.byteCells_append]
    exact h1

/-- A text's bytes appended to a row of the call's own. -/
theorem wpList_append_str {w : World} {ops : Array Oper} {rest : List Oper} {o : Oper} {a : Act} {Q : Exit → Act → World → Prop} (hgd : o.guard = none) (s x : Operand) (t u : TypeId)
    (ho : o.op = .call { callee := .builtin .append, args := #[s, x], argTypes := #[t, u] })
    (base : Nat) (e : TypeId) (ht : P.underlying t = some (.slice e)) (hu : P.underlying u = some .string) (hinfo : (P.info? e).map (fun i => (i.zero, i.size, i.bytes)) = some (some (.int .u8 0), 1, 1))
    (v : Value) (xs : List UInt8) (hs : a.eval s = v) (hown : Own w base e v xs)
    (y : ByteArray) (zs : List UInt8) (hx : a.eval x = .string y) (hzs : zs = xs ++ y.data.toList) (hlen : xs.length + y.size ≤ 140737488355328) (hbase : base ≤ w.heap.size) (w0 : World) (hb : Below base w0 w)
    (h : ∀ v' w', Own w' base e v' zs → Below base w0 w' → wpList P ops Q rest (a.put o.dst v') w') : wpList P ops Q (o :: rest) a w := by
  obtain ⟨i, hi, hz, hz1, hz2⟩ := info_parts hinfo
  subst hzs
  refine Lib.wpList_append_own_string w hgd s x t u ho base e i ht hu hi hz hz1 hz2 v xs.length _ hs hown y hx (by unfold maxLen; omega) hlen hbase fun v' w' h1 h2 _ => h v' w' ?_ (hb.grown h2 hbase (fun k hk => (World.ownsRow.lt hown k hk).1))
  unfold Own
  rw [List.length_append, Lib.byteCells_append, Array.length_toList]
  exact h1

/-- make([]byte, n, c). -/
theorem wpList_make_part {w : World} {ops : Array Oper} {rest : List Oper} {o : Oper} {a : Act} {Q : Exit → Act → World → Prop}
    (hg : o.guard = none) (l c : Operand) (t : TypeId) (hop : o.op = Op.makeSlice t l c) (base : Nat) (e : TypeId) (ht : P.underlying t = some (.slice e)) (hinfo : (P.info? e).map (fun i => (i.zero, i.size, i.bytes)) = some (some (.int .u8 0), 1, 1))
    (kl kc : IntKind) (L C : Int) (n m : Nat) (hl : a.eval l = .int kl L) (hc : a.eval c = .int kc C) (hL : L = (n : Int)) (hC : C = (m : Int)) (hnm : n ≤ m) (hm : m ≤ 281474976710656) (hbase : base ≤ w.heap.size)
    (w0 : World) (hb : Below base w0 w) (hK : ∀ (zs : List UInt8) w', Hid (zs.length = n) → Own w' base e (.slice (some ⟨w.heap.size, 0, none⟩) n m) zs → Below base w0 w' → wpList P ops Q rest (a.put o.dst (.slice (some ⟨w.heap.size, 0, none⟩) n m)) w') :
    wpList P ops Q (o :: rest) a w := by
  obtain ⟨i, hi, hz, hz1, hz2⟩ := info_parts hinfo
  subst hL; subst hC
  refine wpList_plain hg fun K hK' => ?_
  have hrun := run_make (P := P) w t e i (.int .u8 0) ht hi hz kl kc n m (by omega) (by omega) (by rw [hz2]; omega) (by omega)
  rw [hz1] at hrun
  simp only [Int.toNat_natCast, Nat.mul_one] at hrun
  unfold Oper.wp
  simp [execOp, hop, hl, hc, hrun, Result.andThen]
  refine hK' _ _ (hK (List.replicate n 0) _ (show _ = _ by simp) ⟨by rw [Lib.byteCells_length]; simp, .inr ⟨w.heap.size, m, _, by rw [List.length_replicate],  hbase, heap_alloc_new _ _, by rw [List.length_replicate]; exact hnm, by unfold maxLen; omega, by rw [size_madeCells, Nat.mul_one], ?_⟩⟩ (hb.alloc hbase _))
  rw [List.length_replicate]
  apply List.ext_getElem?
  intro j
  unfold Lib.byteCells madeCells
  by_cases hj : j < n
  · have h2 : j < m := by omega
    simp [hj, h2, Value.cells, Nat.mod_one]
  · simp [List.getElem?_take, hj]
/-- copy(dst, src), both of one length. -/
theorem wpList_copy_has {w : World} {ops : Array Oper} {rest : List Oper} {o : Oper} {a : Act} {Q : Exit → Act → World → Prop} (hgd : o.guard = none) (d s : Operand) (dT sT : TypeId)
    (ho : o.op = .call { callee := .builtin .copy, args := #[d, s], argTypes := #[dT, sT] }) (base : Nat) (e : TypeId) (ht : P.underlying dT = some (.slice e)) (hinfo : (P.info? e).map (fun i => (i.zero, i.size, i.bytes)) = some (some (.int .u8 0), 1, 1))
    (g m : Nat) (l : List UInt8) (hd : a.eval d = .slice (some ⟨g, 0, none⟩) l.length m) (n : Nat) (hn : n = l.length) (xs : List UInt8) (hown : Own w base e (.slice (some ⟨g, 0, none⟩) n m) xs)
    (y : Value) (hs : a.eval s = y) (hy : Has w y l) (w0 : World) (hb : Below base w0 w)
    (h : ∀ w', Own w' base e (.slice (some ⟨g, 0, none⟩) l.length m) l → Below base w0 w' → wpList P ops Q rest (a.put o.dst (goInt l.length)) w') : wpList P ops Q (o :: rest) a w := by
  obtain ⟨i, hi, hz, hz1, hz2⟩ := info_parts hinfo
  subst hn
  obtain ⟨hx, hr⟩ := hown
  rcases hr with ⟨hv, _⟩ | ⟨g', cap, cur, hv, hg, hh, h1, h2, h3, h4⟩
  · cases hv
  · simp only [Value.slice.injEq, Option.some.injEq, Addr.mk.injEq, and_true] at hv
    obtain ⟨rfl, hxl, rfl⟩ := hv
    rw [← hxl] at h1 h4 hx
    have hgl : g < w.heap.size := lt_of_block hh
    obtain ⟨sp, sc, hy1, hpos⟩ : ∃ sp sc, y = .slice sp l.length sc ∧ (0 < (Lib.byteCells l).length → ∃ ad, sp = some ad ∧ ∀ j v, (Lib.byteCells l)[j]? = some v → w.cell? (ad.add j) = some v) := by
      rcases hy with ⟨rfl, rfl⟩ | ⟨b, off, c, rfl, _, _, _, hc⟩
      · exact ⟨none, 0, rfl, fun h => absurd h (Nat.lt_irrefl _)⟩
      · exact ⟨_, c, rfl, fun _ => ⟨_, rfl, cells_at hc⟩⟩
    refine wpList_copy_splice hgd d s dT sT ho e ht (by rw [hi]; simp [hz1]) (some ⟨g, 0, none⟩) sp l.length m l.length sc hd (hs.trans hy1) g 0 cur.toList e (by simpa using hh) (Lib.byteCells l) (by rw [Lib.byteCells_length]; simp)
      (fun hp => ⟨rfl, hpos hp⟩) (by have e1 : cur.toList.length = cur.size := Array.length_toList; have e2 := Lib.byteCells_length l; omega) (Lib.byteCells_one l) base w0 hb hg fun w' hw' hb' => ?_
    rw [Lib.byteCells_length]
    refine h w' ⟨by rw [Lib.byteCells_length, Nat.mul_one], .inr ⟨g, m, _, rfl, hg, hw', h1, h2, ?_, ?_⟩⟩ hb'
    · simp [splice, Lib.byteCells_length]; omega
    · simp [splice, Lib.byteCells_length]
end
end Go.Proofs.Ytfdafoibclfpgaa
