/-
  Rows of elements of k cells each (structs, numbers, slices), the call's own and any: read, appended to, cut. Over any program; no function of the project is named here.
-/
import Derived.Test.YtfdafoibclfpgaaAppA
import Derived.Maps.AppendAt
import Derived.Great.BuildSlice
namespace Go.Proofs.Ytfdafoibclfpgaa
open Go.ChangeShapes Go.WideShapes Go.ChangeAt Go.RowKit Go.Deep
set_option linter.unusedVariables false
set_option linter.unusedSimpArgs false
section
variable {α : Type}
/-- How elements lie: k cells each. -/
structure Enc (α : Type) where
  k : Nat
  cells : α → List Value
  len : ∀ x, (cells x).length = k
  one : ∀ x, ∀ u ∈ cells x, u.oneCell' = true
  pos : 0 < k
def flatK (E : Enc α) (l : List α) : List Value := l.flatMap E.cells
theorem flatK_nil (E : Enc α) : flatK E [] = [] := rfl
theorem flatK_cons (E : Enc α) (x : α) (r : List α) : flatK E (x :: r) = E.cells x ++ flatK E r := by unfold flatK; simp
theorem flatK_append (E : Enc α) (a b : List α) : flatK E (a ++ b) = flatK E a ++ flatK E b := by unfold flatK; simp
theorem flatK_len (E : Enc α) : ∀ l : List α, (flatK E l).length = l.length * E.k
  | [] => by simp [flatK]
  | x :: r => by rw [flatK_cons, List.length_append, flatK_len E r, E.len, List.length_cons, Nat.succ_mul, Nat.add_comm]
theorem flatK_get (E : Enc α) : ∀ (l : List α) (i : Nat) (h : i < l.length) (j : Nat), j < E.k → (flatK E l)[i * E.k + j]? = (E.cells l[i])[j]?
  | x :: r, 0, _, j, hj => by
    rw [flatK_cons, Nat.zero_mul, Nat.zero_add, List.getElem?_append_left (by rw [E.len]; exact hj)]
    rfl
  | x :: r, i + 1, h, j, hj => by
    have h' : i < r.length := by simpa using h
    rw [flatK_cons, List.getElem?_append_right (by rw [E.len, Nat.succ_mul]; omega), E.len, show (i + 1) * E.k + j - E.k = i * E.k + j by rw [Nat.succ_mul]; omega, flatK_get E r i h' j hj]
    rfl
theorem flatK_one (E : Enc α) (l : List α) : ∀ u ∈ flatK E l, u.oneCell' = true := fun u hu => by
  unfold flatK at hu
  obtain ⟨x, _, hx⟩ := List.mem_flatMap.1 hu
  exact E.one x u hx
theorem flatK_take (E : Enc α) (l : List α) (i : Nat) (h : i ≤ l.length) : (flatK E l).take (i * E.k) = flatK E (l.take i) := by
  have e : flatK E l = flatK E (l.take i) ++ flatK E (l.drop i) := by rw [← flatK_append, List.take_append_drop]
  have hl : (flatK E (l.take i)).length = i * E.k := by rw [flatK_len, List.length_take, Nat.min_eq_left h]
  rw [e, ← hl, List.take_left]
/-- v is a row of the call's own that holds l. -/
def OwnK (w : World) (base : Nat) (e : TypeId) (E : Enc α) (v : Value) (l : List α) : Prop := w.ownsRow base e E.k v l.length (flatK E l)
theorem OwnK.alloc {w : World} {B : Nat} {e : TypeId} {E : Enc α} {v : Value} {l : List α} (h : OwnK w B e E v l) (o : Obj) : OwnK (w.alloc o) B e E v l := World.ownsRow.alloc h o
theorem OwnK.drewN {w : World} {B : Nat} {e : TypeId} {E : Enc α} {v : Value} {l : List α} (h : OwnK w B e E v l) (n : Nat) : OwnK (w.drewN n) B e E v l := h
theorem OwnK.mono {w : World} {B B' : Nat} {e : TypeId} {E : Enc α} {v : Value} {l : List α} (h : OwnK w B e E v l) (hb : B' ≤ B) : OwnK w B' e E v l := Joins.ownsRow_le h hb
theorem OwnK.nil (w : World) (B : Nat) (e : TypeId) (E : Enc α) : OwnK w B e E (.slice none 0 0) [] := World.ownsRow_nil w B e E.k
theorem OwnK.below {w w' : World} {B : Nat} {e : TypeId} {E : Enc α} {v : Value} {l : List α} (h : OwnK w B e E v l) (hb : Below w.heap.size w w') : OwnK w' B e E v l := by
  refine ⟨h.1, ?_⟩
  rcases h.2 with h1 | ⟨g, cap, cur, h1, h2, h3, h4⟩
  · exact .inl h1
  · exact .inr ⟨g, cap, cur, h1, h2, (hb.block g (lt_of_block h3)).trans h3, h4⟩
theorem OwnK.same {w w' : World} {B : Nat} {e : TypeId} {E : Enc α} {v : Value} {l : List α} (h : OwnK w B e E v l) (hb : ∀ g, v.ownBlock = some g → w'.heap[g]? = w.heap[g]?) : OwnK w' B e E v l := by
  refine ⟨h.1, ?_⟩
  rcases h.2 with h1 | ⟨g, cap, cur, h1, h2, h3, h4⟩
  · exact .inl h1
  · exact .inr ⟨g, cap, cur, h1, h2, (hb g (by rw [h1]; rfl)).trans h3, h4⟩
theorem OwnK.kept {w w' : World} {B : Nat} {e : TypeId} {E : Enc α} {v : Value} {l : List α} {row : Option Nat} (h : OwnK w B e E v l) (hg : w.grownBy w' row) (hne : v.ownBlock ≠ row) : OwnK w' B e E v l := World.ownsRow.kept h hg (.inr hne)
theorem OwnK.apart {w : World} {B : Nat} {e : TypeId} {E : Enc α} {u v v' : Value} {M : List α} (hu : OwnK w B e E u M) (hne : u.ownBlock ≠ v.ownBlock) (h : v'.ownBlock = v.ownBlock ∨ v'.ownBlock = some w.heap.size) : u.ownBlock ≠ v'.ownBlock := by
  rcases h with h | h
  · rw [h]; exact hne
  · intro e
    rw [h] at e
    have := (World.ownsRow.lt hu _ e).2
    omega
theorem OwnK.lt {w : World} {B : Nat} {e : TypeId} {E : Enc α} {v : Value} {l : List α} (h : OwnK w B e E v l) : ∀ g, v.ownBlock = some g → B ≤ g ∧ g < w.heap.size := World.ownsRow.lt h
theorem OwnK.sl {w : World} {B : Nat} {e : TypeId} {E : Enc α} {v : Value} {l : List α} (h : OwnK w B e E v l) : ∃ p cap, v = .slice p l.length cap ∧ l.length ≤ cap ∧ cap ≤ maxLen := by
  rcases h.2 with ⟨rfl, hz⟩ | ⟨g, cap, cur, rfl, _, _, h4, h5, _⟩
  · exact ⟨none, 0, by rw [hz], by omega, Nat.zero_le _⟩
  · exact ⟨_, _, rfl, h4, h5⟩
/-- The row's form where it holds something. -/
theorem OwnK.form {w : World} {B : Nat} {e : TypeId} {E : Enc α} {v : Value} {l : List α} (h : OwnK w B e E v l) (h0 : 0 < l.length) : ∃ g cap, v = .slice (some ⟨g, 0, none⟩) l.length cap ∧ B ≤ g ∧ g < w.heap.size ∧ l.length ≤ cap ∧ cap ≤ maxLen ∧
    (∀ i (hi : i < l.length) (j : Nat) (u : Value), (E.cells l[i])[j]? = some u → w.cell? ⟨g, i * E.k + j, none⟩ = some u) ∧ ∀ j, w.frozen? ⟨g, j, none⟩ = false := by
  have h' := h
  rcases h.2 with ⟨_, hz⟩ | ⟨g, cap, cur, rfl, h2, h3, h4, h5, h6, h7⟩
  · omega
  · refine ⟨g, cap, rfl, h2, lt_of_block h3, h4, h5, fun i hi j u hu => ?_, fun j => by simp [World.frozen?, h3]⟩
    have hj : j < E.k := by rw [← E.len l[i]]; exact (List.getElem?_eq_some_iff.1 hu).1
    have hb : i * E.k + j < l.length * E.k := by
      have := Nat.mul_le_mul_right E.k hi
      rw [Nat.succ_mul] at this
      omega
    have hg := flatK_get E l i hi j hj
    rw [hu, ← h7, List.getElem?_take_of_lt hb] at hg
    simp only [World.cell?, h3]
    rw [← Array.getElem?_toList]
    exact hg
/-- The slice v reads as l, wherever it points if it has none. -/
def HasK (w : World) (E : Enc α) (v : Value) (l : List α) : Prop :=
  ∃ p cap b o, v = .slice p l.length cap ∧ l.length ≤ cap ∧ cap ≤ maxLen ∧ (0 < l.length → p = some ⟨b, o, none⟩ ∧ b < w.heap.size) ∧ ∀ i (h : i < l.length) (j : Nat) (u : Value), (E.cells l[i])[j]? = some u → w.cell? ⟨b, o + i * E.k + j, none⟩ = some u
theorem OwnK.has {w : World} {B : Nat} {e : TypeId} {E : Enc α} {v : Value} {l : List α} (h : OwnK w B e E v l) : HasK w E v l := by
  by_cases h0 : 0 < l.length
  · obtain ⟨g, cap, rfl, _, hg, h1, h2, hc, _⟩ := h.form h0
    exact ⟨_, cap, g, 0, rfl, h1, h2, fun _ => ⟨rfl, hg⟩, fun i hi j u hu => by rw [Nat.zero_add]; exact hc i hi j u hu⟩
  · obtain ⟨p, cap, rfl, h1, h2⟩ := h.sl
    exact ⟨p, cap, 0, 0, rfl, h1, h2, fun h => absurd h h0, fun i hi => absurd hi (by omega)⟩
theorem HasK.below {w w' : World} {E : Enc α} {v : Value} {l : List α} (h : HasK w E v l) (hb : Below w.heap.size w w') : HasK w' E v l := by
  obtain ⟨p, cap, b, o, rfl, h1, h2, h3, hc⟩ := h
  exact ⟨p, cap, b, o, rfl, h1, h2, fun h => ⟨(h3 h).1, Nat.lt_of_lt_of_le (h3 h).2 hb.size⟩, fun i hi j u hu => (hb.cell (p := ⟨b, o + i * E.k + j, none⟩) (h3 (by omega)).2).trans (hc i hi j u hu)⟩
/-- Blocks but one are as they were. -/
theorem HasK.same {w w' : World} {E : Enc α} {v : Value} {l : List α} (h : HasK w E v l) (hs : w.heap.size ≤ w'.heap.size) (hb : ∀ b, 0 < l.length → v.ownBlock = some b → w'.heap[b]? = w.heap[b]?) : HasK w' E v l := by
  obtain ⟨p, cap, b, o, rfl, h1, h2, h3, hc⟩ := h
  refine ⟨p, cap, b, o, rfl, h1, h2, fun h => ⟨(h3 h).1, Nat.lt_of_lt_of_le (h3 h).2 hs⟩, fun i hi j u hu => ?_⟩
  have h0 : 0 < l.length := by omega
  have := hb b h0 (by rw [(h3 h0).1]; rfl)
  exact (World.cell?_of_block (w := w) this).trans (hc i hi j u hu)
theorem HasK.drewN {w : World} {E : Enc α} {v : Value} {l : List α} (h : HasK w E v l) (n : Nat) : HasK (w.drewN n) E v l := h
theorem HasK.nil (w : World) (E : Enc α) : HasK w E (.slice none 0 0) [] := ⟨none, 0, 0, 0, rfl, Nat.le_refl _, Nat.zero_le _, fun h => absurd h (Nat.lt_irrefl _), fun i hi => absurd hi (Nat.not_lt_zero _)⟩
theorem HasK.form {w : World} {E : Enc α} {v : Value} {l : List α} (h : HasK w E v l) : ∃ p cap, v = .slice p l.length cap ∧ l.length ≤ cap ∧ cap ≤ maxLen := by
  obtain ⟨p, cap, b, o, hv, h1, h2, _⟩ := h
  exact ⟨p, cap, hv, h1, h2⟩
/-- What it reads, with its place. -/
theorem HasK.open {w : World} {E : Enc α} {v : Value} {l : List α} (h : HasK w E v l) : ∃ b o cap p, v = .slice p l.length cap ∧ l.length ≤ cap ∧ cap ≤ maxLen ∧ Hid (0 < l.length → p = some ⟨b, o, none⟩ ∧ b < w.heap.size) ∧
    Hid (∀ i (h : i < l.length) (j : Nat) (u : Value), (E.cells l[i])[j]? = some u → w.cell? ⟨b, o + i * E.k + j, none⟩ = some u) := by
  obtain ⟨p, cap, b, o, hv, h1, h2, h3, h4⟩ := h
  exact ⟨b, o, cap, p, hv, h1, h2, Lib.hid h3, Lib.hid h4⟩
/-- A part. -/
theorem HasK.sub {w : World} {E : Enc α} {p : Option Addr} {n cap : Nat} {l : List α} (h : HasK w E (.slice p n cap) l) (lo hi : Nat) (h1 : lo ≤ hi) (h2 : hi ≤ l.length) : HasK w E (sliced p lo hi cap E.k) ((l.take hi).drop lo) := by
  obtain ⟨p', cap', b, o, he, k1, k2, k3, kc⟩ := h
  simp only [Value.slice.injEq] at he
  obtain ⟨rfl, rfl, rfl⟩ := he
  have hlen : ((l.take hi).drop lo).length = hi - lo := by simp; omega
  unfold sliced
  refine ⟨_, cap - lo, b, o + lo * E.k, by rw [hlen], by rw [hlen]; omega, by omega, fun h => ?_, fun i hi' j u hu => ?_⟩
  · rw [hlen] at h
    obtain ⟨rfl, hb⟩ := k3 (by omega)
    rw [if_neg (by omega)]
    exact ⟨by simp [add_plain], hb⟩
  · rw [hlen] at hi'
    rw [List.getElem_drop, List.getElem_take] at hu
    have := kc (lo + i) (by omega) j u hu
    rw [show o + lo * E.k + i * E.k + j = o + (lo + i) * E.k + j by rw [Nat.add_mul]; omega]
    exact this
end
section
variable {P : Program} {α : Type}
theorem k_parts {e : TypeId} {z : Value} {k b : Nat} (h : (P.info? e).map (fun i => (i.zero, i.size, i.bytes)) = some (some z, k, b)) : ∃ i, P.info? e = some i ∧ i.zero = some z ∧ i.size = k ∧ i.bytes = b := by
  cases hi : P.info? e with
  | none => rw [hi] at h; simp at h
  | some i =>
    rw [hi] at h
    simp at h
    exact ⟨i, rfl, h.1, h.2.1, h.2.2⟩
theorem HasK.news {w : World} {E : Enc α} {b o : Nat} {l : List α} (hc : ∀ i (h : i < l.length) (j : Nat) (u : Value), (E.cells l[i])[j]? = some u → w.cell? ⟨b, o + i * E.k + j, none⟩ = some u) : ∀ j u, (flatK E l)[j]? = some u → w.cell? ((⟨b, o, none⟩ : Addr).add j) = some u := fun j u hu => by
  have hjl : j < l.length * E.k := by rw [← flatK_len E l]; exact (List.getElem?_eq_some_iff.1 hu).1
  have hp := E.pos
  have hi : j / E.k < l.length := (Nat.div_lt_iff_lt_mul hp).2 hjl
  have hr : j % E.k < E.k := Nat.mod_lt _ hp
  have hd : j / E.k * E.k + j % E.k = j := by have := Nat.div_add_mod j E.k; rw [Nat.mul_comm]; exact this
  have hg := flatK_get E l (j / E.k) hi (j % E.k) hr
  rw [hd, hu] at hg
  have := hc _ hi _ _ hg.symm
  rw [add_plain]
  rw [Nat.add_assoc, hd] at this
  exact this
/-- Elements appended, at least one; where the new row lies. -/
theorem wpList_append_k {w : World} {ops : Array Oper} {rest : List Oper} {o : Oper} {a : Act} {Q : Exit → Act → World → Prop} (hgd : o.guard = none) (s x : Operand) (t : TypeId)
    (ho : o.op = .call { callee := .builtin .append, args := #[s, x], argTypes := #[t, t] })
    (base : Nat) (e : TypeId) (E : Enc α) (z : Value) (by_ : Nat) (ht : P.underlying t = some (.slice e)) (hinfo : (P.info? e).map (fun i => (i.zero, i.size, i.bytes)) = some (some z, E.k, by_)) (hzk : z.cells.size = E.k) (h8 : by_ ≤ 100)
    (v : Value) (L : List α) (hs : a.eval s = v) (hown : OwnK w base e E v L)
    (y : Value) (M : List α) (hx : a.eval x = y) (hy : HasK w E y M) (hM : 0 < M.length) (hlen : L.length + M.length ≤ 1000000000) (hbase : base ≤ w.heap.size) (w0 : World) (hb : Below base w0 w)
    (h : ∀ v' w', OwnK w' base e E v' (L ++ M) → Below base w0 w' → w.grownBy w' v.ownBlock → (v'.ownBlock = v.ownBlock ∨ v'.ownBlock = some w.heap.size) → wpList P ops Q rest (a.put o.dst v') w') : wpList P ops Q (o :: rest) a w := by
  obtain ⟨i, hi, hz, hz1, hz2⟩ := k_parts hinfo
  obtain ⟨p, cap, b, off, rfl, k1, k2, k3, kc⟩ := hy
  obtain ⟨rfl, hbl⟩ := k3 hM
  refine wpList_append_own_at w hgd s x t ho base e i z E.k by_ ht hi hz hz1 hz2 hzk E.pos v L.length _ hs hown ⟨b, off, none⟩ M.length cap (flatK E M) hx (flatK_len E M) (HasK.news kc) (flatK_one E M)
    (by unfold maxLen; omega) (by have := Nat.mul_le_mul_left (L.length + M.length) h8; omega) hbase fun v' w' h1 h2 _ h4 => h v' w' ?_ (hb.grown h2 hbase (fun k hk => (World.ownsRow.lt hown k hk).1)) h2 h4
  unfold OwnK
  rw [List.length_append, flatK_append]
  exact h1
/-- Whatever elements are appended. -/
theorem wpList_append_ka {w : World} {ops : Array Oper} {rest : List Oper} {o : Oper} {a : Act} {Q : Exit → Act → World → Prop} (hgd : o.guard = none) (s x : Operand) (t : TypeId)
    (ho : o.op = .call { callee := .builtin .append, args := #[s, x], argTypes := #[t, t] })
    (base : Nat) (e : TypeId) (E : Enc α) (z : Value) (by_ : Nat) (ht : P.underlying t = some (.slice e)) (hinfo : (P.info? e).map (fun i => (i.zero, i.size, i.bytes)) = some (some z, E.k, by_)) (hzk : z.cells.size = E.k) (h8 : by_ ≤ 100)
    (v : Value) (L : List α) (hs : a.eval s = v) (hown : OwnK w base e E v L)
    (y : Value) (M : List α) (hx : a.eval x = y) (hy : HasK w E y M) (hlen : L.length + M.length ≤ 1000000000) (hbase : base ≤ w.heap.size) (w0 : World) (hb : Below base w0 w)
    (h : ∀ v' w', OwnK w' base e E v' (L ++ M) → Below base w0 w' → wpList P ops Q rest (a.put o.dst v') w') : wpList P ops Q (o :: rest) a w := by
  by_cases h0 : 0 < M.length
  · exact wpList_append_k hgd s x t ho base e E z by_ ht hinfo hzk h8 v L hs hown y M hx hy h0 hlen hbase w0 hb (fun v' w' h1 h2 _ _ => h v' w' h1 h2)
  · obtain rfl : M = [] := List.eq_nil_of_length_eq_zero (by omega)
    obtain ⟨i, hi, hz, hz1, hz2⟩ := k_parts hinfo
    obtain ⟨p, cap, b, off, rfl, k1, k2, k3, kc⟩ := hy
    rw [List.append_nil] at h
    cases p with
    | none =>
      have hf : ∃ q m c, v = .slice q m c ∧ m ≤ c := by
        obtain ⟨q, c, hv, h1, _⟩ := hown.sl
        exact ⟨q, _, c, hv, h1⟩
      obtain ⟨q, m, c, rfl, hmc⟩ := hf
      have hr := run_append_nothing (P := P) w t t o.type e i ht hi q m c hmc (.slice none 0 cap) (Src.ofNil w ht cap)
      refine wpList_plain hgd fun K hK => ?_
      unfold Oper.wp
      simp only [List.length_nil] at hx
      simp [execOp, ho, resolve, invoke, builtin, hs, hx, hr, Result.andThen]
      exact hK _ _ (h _ w hown hb)
    | some ad =>
      refine wpList_append_own w hgd s x t ho base e i z E.k by_ ht hi hz hz1 hz2 hzk E.pos v L.length _ hs hown ad 0 cap [] hx (by simp) (fun j u hu => by simp at hu) (fun u hu => by simp at hu)
        (by unfold maxLen; simp at hlen; omega) (by have := Nat.mul_le_mul_left (L.length + 0) h8; simp at hlen; omega) hbase fun v' w' h1 h2 _ => h v' w' ?_ (hb.grown h2 hbase (fun k hk => (World.ownsRow.lt hown k hk).1))
      unfold OwnK
      rw [List.append_nil, Nat.add_zero] at h1
      exact h1
end
/-- Numbers. -/
def encN (K : IntKind) : Enc Nat := ⟨1, fun x => [.int K (x : Int)], fun _ => rfl, fun x u hu => by simp at hu; subst hu; rfl, by decide⟩
theorem HasK.numAt {w : World} {K : IntKind} {b o : Nat} {l : List Nat} (hc : ∀ i (h : i < l.length) (j : Nat) (u : Value), ((encN K).cells l[i])[j]? = some u → w.cell? ⟨b, o + i * (encN K).k + j, none⟩ = some u) (i : Nat) (h : i < l.length) : w.cell? ⟨b, o + i, none⟩ = some (.int K ((l.getD i 0 : Nat) : Int)) := by
  have := hc i h 0 _ rfl
  rw [show o + i * (encN K).k + 0 = o + i by show o + i * 1 + 0 = o + i; omega] at this
  rw [this, List.getD_eq_getElem?_getD, List.getElem?_eq_getElem h]
  rfl
end Go.Proofs.Ytfdafoibclfpgaa
