/-
  The document's own laying of numbers and texts (rolodexref3.Uint, rolodexref3.Text); a conversion's row that is appended to.
-/
import Derived.Test.YtlmpokkpkglbfaaRows
import Derived.Test.YtlmpokkpkglbfaaGet
import Derived.Test.YtlmpokkpkglbfaaRoom
import Derived.ArgAppend
namespace Go.Proofs.Ytlmpokkpkglbfaa
open Go.ChangeShapes Go.WideShapes Go.ChangeAt Go.RowKit Go.Deep
set_option linter.unusedVariables false
section
variable {P : Program}
theorem Own.below {w w' : World} {B : Nat} {e : TypeId} {v : Value} {l : List UInt8} (h : Own w B e v l) (hb : Below w.heap.size w w') : Own w' B e v l := by
  refine ⟨h.1, h.2.imp id fun ⟨g, cap, cur, hv, hg, hh, r⟩ => ⟨g, cap, cur, hv, hg, (hb.block g (lt_of_block hh)).trans hh, r⟩⟩
theorem size_setCells' (b : Nat) : ∀ (vs : List Value) (o : Nat) (w : World), (w.setCells b o vs).heap.size = w.heap.size
  | [], _, _ => rfl
  | v :: r, o, w => by unfold World.setCells; rw [size_setCells' b r]; exact World.size_setCell _ _ _
theorem below_setCells' {B b : Nat} {a : World} (hb : B ≤ b) : ∀ (vs : List Value) (o : Nat) (w : World), Below B a w → Below B a (w.setCells b o vs)
  | [], _, _, h => h
  | v :: r, o, w, h => by unfold World.setCells; exact below_setCells' hb r (o + 1) _ (h.setCell hb v)
/-- A block of literal bytes that was just made is the call's own. -/
theorem own_one (w : World) (B : Nat) (T : TypeId) (k : Nat) (z : Int) (hk : k < 256) (hz : z = k) (hB : B ≤ w.heap.size) : Own (w.alloc (.cells #[.int .u8 z] T)) B T (.slice (some ⟨w.heap.size, 0, none⟩) 1 1) [k.toUInt8] := by
  subst hz
  refine ⟨rfl, .inr ⟨w.heap.size, 1, _, rfl, hB, heap_alloc_new _ _, Nat.le_refl _, by unfold maxLen; omega, rfl, ?_⟩⟩
  simp [Lib.byteCells, Nat.mod_eq_of_lt hk]
/-- What is appended to a row with bytes that nobody has frozen up to its end: in its room, or in a new row. -/
theorem wpList_append_mine {w : World} {ops : Array Oper} {rest : List Oper} {o : Oper} {a : Act} {Q : Exit → Act → World → Prop} (hgd : o.guard = none) (s x : Operand) (t : TypeId)
    (ho : o.op = .call { callee := .builtin .append, args := #[s, x], argTypes := #[t, t] })
    (base : Nat) (e : TypeId) (ht : P.underlying t = some (.slice e)) (hinfo : (P.info? e).map (fun i => (i.zero, i.size, i.bytes)) = some (some (.int .u8 0), 1, 1))
    (g n cap : Nat) (C : Array Value) (T : TypeId) (f : Nat × Nat) (l : List UInt8) (hs : a.eval s = .slice (some ⟨g, 0, none⟩) n cap) (hn : n = l.length) (hC : w.heap[g]? = some (.cells C T f)) (hf : C.size ≤ f.1) (hcs : C.size = cap) (hcap : cap ≤ maxLen) (hg : base ≤ g)
    (hcell : ∀ j (h : j < l.length), w.cell? ⟨g, j, none⟩ = some (.int .u8 (l[j].toNat : Int)))
    (y : Value) (k : List UInt8) (zs : List UInt8) (m : Nat) (hx : a.eval x = y) (hy : Has w y k) (hkm : k.length = m) (hk0 : 0 < m) (hzs : zs = l ++ k) (hlen : l.length + k.length ≤ 140737488355328) (w0 : World) (hb : Below base w0 w)
    (h : ∀ g' cap' w', base ≤ g' → Has w' (.slice (some ⟨g', 0, none⟩) (n + m) cap') zs → Below base w0 w' → wpList P ops Q rest (a.put o.dst (.slice (some ⟨g', 0, none⟩) (n + m) cap')) w') : wpList P ops Q (o :: rest) a w := by
  obtain ⟨i, hi, hz, hz1, hz2⟩ := info_parts hinfo
  subst hzs; subst hn; subst hkm
  have hgl : g < w.heap.size := lt_of_block hC
  rcases hy with ⟨rfl, rfl⟩ | ⟨b, off, c, rfl, hc1, hc2, hc3, hc⟩
  · exact absurd hk0 (Nat.lt_irrefl _)
  · have hin : ∀ j, j < cap → (w.cell? ⟨g, j, none⟩).isSome = true ∧ w.frozen? ⟨g, j, none⟩ = false := fun j hj => by
      have h1 : j < C.size := by omega
      constructor
      · simp [World.cell?, hC, h1]
      · obtain ⟨f1, f2⟩ := f
        have hf' : C.size ≤ f1 := hf
        simp [World.frozen?, hC]; omega
    have hbl : (Lib.byteCells l).length = l.length := Lib.byteCells_length l
    have hbk : (Lib.byteCells k).length = k.length := Lib.byteCells_length k
    have hcs' := cells_at (w := w) (l := l) (b := g) (o := 0) (fun j hj => by rw [Nat.zero_add]; exact hcell j hj)
    refine wpList_append_arg w hgd s x t ho e i (.int .u8 0) 1 1 ht hi hz hz1 hz2 rfl (by decide) g 0 l.length cap (Lib.byteCells l) hs (by rw [hbl, Nat.mul_one]) (fun j u hu => by have := hcs' j u hu; rwa [add_plain] at this)
      ⟨b, off, none⟩ k.length c (Lib.byteCells k) hx (by rw [hbk, Nat.mul_one]) (cells_at hc) (Lib.byteCells_one k)
      (fun hr j hj => by rw [Nat.zero_add, Nat.mul_one]; exact hin (l.length + j) (by omega)) (by unfold maxLen; omega) (by omega) ?_ ?_
    · intro hr
      rw [Nat.zero_add, Nat.mul_one]
      refine h g cap _ hg (.inr ⟨g, 0, cap, by rw [List.length_append], by rw [List.length_append]; exact hr, hcap, ?_, fun j hj => ?_⟩) (below_setCells' hg _ _ _ hb)
      · have hsz := size_setCells' g (Lib.byteCells k) l.length w
        rw [hsz]; exact hgl
      · rw [List.length_append] at hj
        rw [Nat.zero_add]
        by_cases hjl : j < l.length
        · rw [World.cell?_setCells_out g _ _ _ _ (fun _ _ => .inl hjl), hcell j hjl, List.getElem_append_left hjl]
        · have h2 := World.cell?_setCells_in g (Lib.byteCells k) l.length w (fun j hj => (hin (l.length + j) (by omega)).1) (j - l.length) (by omega)
          rw [show l.length + (j - l.length) = j by omega] at h2
          rw [h2, List.getElem_append_right (by omega)]
          have h3 := byteCells_get (l := k) (j := j - l.length) (by omega)
          rw [List.getElem?_eq_getElem (by omega)] at h3
          exact h3
    · intro hgrow v' w' hown hgb
      have hown' : Own w' w.heap.size e v' (l ++ k) := by
        unfold Own
        rw [List.length_append, Lib.byteCells_append]
        exact hown
      have hb' : Below base w0 w' := hb.grown hgb (by omega) (fun k hk => by cases hk)
      rcases hown'.2 with ⟨_, h0⟩ | ⟨g', cap', cur, hv, hg', hh', _⟩
      · rw [List.length_append] at h0; omega
      · have hl : (l ++ k).length = l.length + k.length := by rw [List.length_append]
        rw [hl] at hv
        subst hv
        exact h g' cap' w' (by omega) hown'.has hb'
end

theorem uv_big (x : Nat) (h : 128 ≤ x) : Lib.uvarint x = [(x % 128 + 128).toUInt8] ++ Lib.uvarint (x / 128) := by rw [Lib.uvarint_big h]; rfl

set_option maxRecDepth 100000 in
theorem RefUint_any : ∀ (n x : Nat), x ≤ n → x < 18446744073709551616 → ∀ w : World,
    Calls Try.prog 19 #[.int .u64 x] w fun e w' => ∃ v', e = .returned v' ∧ Own w' w.heap.size 5 v' (Lib.uvarint x) ∧ Below w.heap.size w w' := by
  intro n
  induction n with
  | zero =>
    intro x h0 hx w
    obtain rfl : x = 0 := by omega
    go_enter Try.func19, Try.ntmps19
    go_wp2
    go_ret
    exact ⟨_, rfl, by rw [Lib.uvarint_small (by omega)]; exact own_one w _ _ 0 _ (by omega) rfl (Nat.le_refl _), (Below.refl _ _).alloc (Nat.le_refl _) _⟩
  | succ n ih =>
    intro x h0 hx w
    have IH := Lib.hid ih
    clear ih
    by_cases h128 : x < 128
    · go_enter Try.func19, Try.ntmps19
      go_wp2
      go_ret
      exact ⟨_, rfl, by rw [Lib.uvarint_small (by omega)]; exact own_one w _ _ x _ (by omega) (by omega) (Nat.le_refl _), (Below.refl _ _).alloc (Nat.le_refl _) _⟩
    · have hl := uv_len hx
      have hbig := uv_big x (by omega)
      have hl2 : (Lib.uvarint (x / 128)).length ≤ 9 := by rw [hbig, List.length_append] at hl; simp at hl; omega
      have HBIG := Lib.hid hbig
      clear hbig hl
      go_enter Try.func19, Try.ntmps19
      go_wp2_with fail
      refine (IH.out (x / 128) (by omega) (by omega) _).mono ?_
      rintro e w2 ⟨v2, rfl, ho, hb⟩
      have HO := Lib.hid ho
      have HB := Lib.hid (((Below.refl w.heap.size w).alloc (Nat.le_refl _) _).trans (hb.mono (by simp)))
      have H1 := Lib.hid ((own_one w w.heap.size 5 (x % 128 + 128) ((x : Int) % 128 + 128) (by omega) (by omega) (Nat.le_refl _)).below hb)
      have hsz := HB.out.size
      clear ho hb
      obtain ⟨zs, hzs⟩ : ∃ zs, zs = [(x % 128 + 128).toUInt8] ++ Lib.uvarint (x / 128) := ⟨_, rfl⟩
      have HZ := Lib.hid hzs
      clear hzs
      go_wp2_with (at_builtin; refine wpList_append_has rfl (.tmp 12) (.tmp 15) 25 rfl w.heap.size 5 Try.underlying25 info_u8 _ [(x % 128 + 128).toUInt8] rfl H1.out _ (Lib.uvarint (x / 128)) zs rfl HO.out.has HZ.out (by simp; omega) hsz w HB.out ?_)
      intro v3 w3 ho hb
      have HO3 := Lib.hid ho
      have HB3 := Lib.hid hb
      clear ho hb
      go_wp2
      go_ret
      exact ⟨v3, rfl, by rw [HBIG.out, ← HZ.out]; exact HO3.out, HB3.out⟩
theorem RefUint (x : Nat) (hx : x < 18446744073709551616) (w : World) :
    Calls Try.prog 19 #[.int .u64 x] w fun e w' => ∃ v', e = .returned v' ∧ Own w' w.heap.size 5 v' (Lib.uvarint x) ∧ Below w.heap.size w w' := RefUint_any x x (Nat.le_refl _) hx w

set_option maxRecDepth 100000 in
theorem RefText (s : ByteArray) (hs : s.size ≤ 140737488351232) (w : World) :
    Calls Try.prog 20 #[.string s] w fun e w' => ∃ v', e = .returned v' ∧ Own w' w.heap.size 5 v' (Lib.uvarint s.size ++ s.data.toList) ∧ Below w.heap.size w w' := by
  have hl := uv_len (x := s.size) (by omega)
  obtain ⟨zs, hzs⟩ : ∃ zs, zs = Lib.uvarint s.size ++ s.data.toList := ⟨_, rfl⟩
  have HZ := Lib.hid hzs
  rw [← hzs]
  clear hzs
  go_enter Try.func20, Try.ntmps20
  go_wp2_with fail
  refine (RefUint s.size (by omega) _).mono ?_
  rintro e w2 ⟨v2, rfl, ho, hb⟩
  have HO := Lib.hid ho
  have HB := Lib.hid hb
  have hsz := hb.size
  clear ho hb
  go_wp2_with (at_builtin; refine wpList_append_str rfl (.tmp 6) (.tmp 7) 25 9 rfl w.heap.size 5 Try.underlying25 Try.underlying9 info_u8 _ (Lib.uvarint s.size) rfl HO.out s zs rfl HZ.out (by omega) hsz w HB.out ?_)
  intro v3 w3 ho hb
  have HO3 := Lib.hid ho
  have HB3 := Lib.hid hb
  clear ho hb
  go_wp2
  go_ret
  exact ⟨v3, rfl, HO3.out, HB3.out⟩
end Go.Proofs.Ytlmpokkpkglbfaa
