/-
  Package simnet: Feed and Rand.
-/
import Derived.Test.YtaopnoaopcbkoaaNetEasy
namespace Go.Proofs.Ytaopnoaopcbkoaa
open Go.ChangeShapes Go.WideShapes Go.ChangeAt Go.RowKit Go.Deep
set_option linter.unusedVariables false
set_option linter.unusedSimpArgs false

theorem size_setCells' (b : Nat) : ∀ (vs : List Value) (o : Nat) (w : World), (w.setCells b o vs).heap.size = w.heap.size
  | [], _, _ => rfl
  | v :: r, o, w => by unfold World.setCells; rw [size_setCells' b r]; exact World.size_setCell _ _ _
theorem heap_setCells_far (b : Nat) : ∀ (vs : List Value) (o : Nat) (w : World) (k : Nat), k ≠ b → (w.setCells b o vs).heap[k]? = w.heap[k]?
  | [], _, _, _, _ => rfl
  | v :: r, o, w, k, hk => by unfold World.setCells; rw [heap_setCells_far b r _ _ k hk]; exact Below.heap_setCell _ _ _ _ hk
theorem setCells_rest (b : Nat) : ∀ (vs : List Value) (o : Nat) (w : World), (w.setCells b o vs).os = w.os ∧ (w.setCells b o vs).tape = w.tape ∧ (w.setCells b o vs).output = w.output
  | [], _, _ => ⟨rfl, rfl, rfl⟩
  | v :: r, o, w => by unfold World.setCells; exact setCells_rest b r _ _
theorem heap_setCells_row (g : Nat) (T : TypeId) : ∀ (vs : List Value) (o : Nat) (w : World) (cur : Array Value), w.heap[g]? = some (.cells cur T (0, 0)) →
    ∃ cur', (w.setCells g o vs).heap[g]? = some (.cells cur' T (0, 0)) ∧ cur'.size = cur.size ∧ ∀ k, cur'[k]? = if o ≤ k ∧ k < o + vs.length ∧ k < cur.size then vs[k - o]? else cur[k]?
  | [], o, w, cur, h => ⟨cur, h, rfl, fun k => by rw [if_neg (by simp; omega)]⟩
  | v :: r, o, w, cur, h => by
    have h1 := heap_setCell_same w g o cur T v h
    obtain ⟨cur', k1, k2, k3⟩ := heap_setCells_row g T r (o + 1) _ _ h1
    refine ⟨cur', by unfold World.setCells; exact k1, by rw [k2]; simp, fun k => ?_⟩
    rw [k3 k]
    simp only [Array.size_setIfInBounds, List.length_cons]
    by_cases hk : k = o
    · subst hk
      rw [if_neg (by omega)]
      by_cases hs : k < cur.size
      · rw [if_pos (by omega), Nat.sub_self]
        simp [hs]
      · rw [if_neg (by omega)]
        simp [hs]
    · have e : (cur.setIfInBounds o v)[k]? = cur[k]? := by
        rw [Array.getElem?_setIfInBounds_ne (by omega)]
      rw [e]
      by_cases hc : o ≤ k ∧ k < o + (r.length + 1) ∧ k < cur.size
      · rw [if_pos hc, if_pos (by omega), show k - o = (k - (o + 1)) + 1 by omega, List.getElem?_cons_succ]
      · rw [if_neg hc, if_neg (by omega)]
theorem cell_new' (w : World) (u : Value) (T : TypeId) : (w.alloc (.cells #[u] T)).cell? ⟨w.heap.size, 0, none⟩ = some u := by
  have h := heap_alloc_new w (.cells #[u] T)
  unfold World.cell?
  rw [h]
  rfl
/-- What was there, and what is new. -/
def Wid (F : Nat → Prop) (w w' : World) : Nat → Prop := fun k => F k ∨ (w.heap.size ≤ k ∧ k < w'.heap.size)

section
variable {P : Program}
/-- A number appended to fed ones. -/
theorem wpList_append_fed {w : World} {ops : Array Oper} {rest : List Oper} {o : Oper} {a : Act} {Q : Exit → Act → World → Prop} (hgd : o.guard = none) (s x : Operand)
    (ho : o.op = .call { callee := .builtin .append, args := #[s, x], argTypes := #[39, 39] }) (B : Nat) (v : Value) (l : List Nat) (F : Nat → Prop) (hs : a.eval s = v) (hF : FRow w B v l F)
    (g1 : Nat) (hx : a.eval x = .slice (some ⟨g1, 0, none⟩) 1 1) (y : Nat) (hg1 : w.cell? ⟨g1, 0, none⟩ = some (.int .u64 (y : Int))) (hlen : l.length ≤ 1099511627776) (hB : B ≤ w.heap.size)
    (h : ∀ v' w', FRow w' B v' (l ++ [y]) (Wid F w w') → Keeps F w w' → (∀ k, k < w.heap.size → (∀ c, w.heap[k]? ≠ some (.cells c 40 (0, 0))) → w'.heap[k]? = w.heap[k]?) → wpList Try.prog ops Q rest (a.put o.dst v') w') : wpList Try.prog ops Q (o :: rest) a w := by
  obtain ⟨i, hi, hz, hz1, hz2⟩ := info_parts info_u64
  obtain ⟨p, cap, rfl, k1, k2, k3⟩ := hF
  have hnew : ∀ j u, [Value.int .u64 (y : Int)][j]? = some u → w.cell? ((⟨g1, 0, none⟩ : Addr).add j) = some u := fun j u hj => by
    cases j with
    | zero => simp at hj; subst hj; simpa [Addr.add] using hg1
    | succ j => simp at hj
  have hone : ∀ u ∈ [Value.int .u64 (y : Int)], u.oneCell' = true := fun u hu => by simp at hu; subst hu; rfl
  have hgr : ∀ v' w', w'.ownsRow w.heap.size 40 1 v' (l.length + 1) ((l.map fun (n : Nat) => Value.int .u64 (n : Int)) ++ [Value.int .u64 (y : Int)]) → w.grownBy w' none → wpList Try.prog ops Q rest (a.put o.dst v') w' := fun v' w' hr hg => by
    refine h v' w' ?_ ⟨hg.os, hg.tape, hg.output, hg.size, fun k hk _ => hg.block k hk (by simp)⟩ (fun k hk _ => hg.block k hk (by simp))
    rcases hr.2 with ⟨_, h0⟩ | ⟨g, cap', cur, hv, hgB, hh, q1, q2, q3, q4⟩
    · omega
    · refine ⟨_, cap', by rw [hv, List.length_append]; rfl, by rw [List.length_append]; exact q1, q2, fun _ => ⟨g, 0, cur, rfl, hh, by omega, .inr ⟨hgB, lt_of_block hh⟩, by omega, fun j hj => ?_⟩⟩
      rw [List.length_append] at hj
      simp only [List.length_cons, List.length_nil] at hj
      have h5 : (cur.toList.take ((l.length + 1) * 1))[j]? = some (.int .u64 (((l ++ [y])[j]'(by simp; omega) : Nat) : Int)) := by
        rw [q4]
        have e : ((l.map fun (n : Nat) => Value.int .u64 (n : Int)) ++ [Value.int .u64 (y : Int)]) = (l ++ [y]).map fun n => Value.int .u64 ((n : Nat) : Int) := by simp
        rw [e, List.getElem?_map, List.getElem?_eq_getElem (by simp; omega)]
        rfl
      rw [List.getElem?_take_of_lt (by omega)] at h5
      rw [Nat.zero_add]
      simpa using h5
  by_cases hc : 0 < cap
  · obtain ⟨g, off, cur, rfl, hh, hgB, hFg, hsz, hcell⟩ := k3 hc
    refine wpList_append_arg w hgd s x 39 ho 40 i (.int .u64 0) 1 8 Try.underlying39 hi hz hz1 hz2 rfl (by decide) g off l.length cap (l.map fun (n : Nat) => Value.int .u64 (n : Int)) hs (by simp) (fun j u hj => ?_) ⟨g1, 0, none⟩ 1 1 [Value.int .u64 (y : Int)] hx rfl hnew hone (fun hr j hj => ?_) (by unfold maxLen; omega) (by omega) (fun hr => ?_) (fun _ => hgr)
    · rw [List.getElem?_map, Option.map_eq_some_iff] at hj
      obtain ⟨n, hn, rfl⟩ := hj
      obtain ⟨hjl, rfl⟩ := List.getElem?_eq_some_iff.1 hn
      have := hcell j hjl
      simp [World.cell?, hh, this]
    · simp only [List.length_cons, List.length_nil] at hj
      have hlt : off + l.length * 1 + j < cur.size := by omega
      constructor
      · simp [World.cell?, hh]; omega
      · simp [World.frozen?, hh]
    · obtain ⟨cur', c1, c2, c3⟩ := heap_setCells_row g 40 [Value.int .u64 (y : Int)] (off + l.length * 1) w cur hh
      have hrest := setCells_rest g [Value.int .u64 (y : Int)] (off + l.length * 1) w
      refine h _ _ ⟨_, cap, by rw [List.length_append]; rfl, by rw [List.length_append]; exact hr, k2, fun _ => ⟨g, off, cur', rfl, c1, hgB, .inl hFg, by rw [c2]; exact hsz, fun j hj => ?_⟩⟩ ⟨hrest.1, hrest.2.1, hrest.2.2, by rw [size_setCells']; exact Nat.le_refl _, fun k hk hn => heap_setCells_far g _ _ _ _ (fun e => hn (by rw [e]; exact hFg))⟩ (fun k hk hn => heap_setCells_far g _ _ _ _ (fun e => hn cur (by rw [e]; exact hh)))
      rw [List.length_append] at hj
      simp only [List.length_cons, List.length_nil] at hj
      rw [c3]
      by_cases hjl : j < l.length
      · rw [if_neg (by omega), List.getElem_append_left hjl]
        exact hcell j hjl
      · obtain rfl : j = l.length := by omega
        rw [if_pos (by simp; omega)]
        simp
  · obtain rfl : cap = 0 := by omega
    have hl0 : l = [] := List.eq_nil_of_length_eq_zero (by omega)
    subst hl0
    exact wpList_append_grows w hgd s x 39 ho 40 i (.int .u64 0) 1 8 Try.underlying39 hi hz hz1 hz2 rfl (by decide) p 0 0 [] hs (fun _ => ⟨rfl, rfl⟩) rfl (fun _ _ j u hj => by simp at hj) ⟨g1, 0, none⟩ 1 1 [Value.int .u64 (y : Int)] hx rfl hnew hone (by omega) (by unfold maxLen; omega) (by omega) hgr
end
/-- Seed, number. -/
def seedNext (s : Nat) : Nat := (s + 11400714819323198485) % 18446744073709551616
def mixOne (x k m : Nat) : Nat := ((x ^^^ x / 2 ^ k) * m) % 18446744073709551616
def mixed (s : Nat) : Nat := let x := mixOne (mixOne s 30 13787848793156543929) 27 10723151780598845931; x ^^^ x / 2 ^ 31
def randV (N : NetV) : NetV := match N.fed with
  | _ :: r => { N with fed := r }
  | [] => { N with seed := seedNext N.seed }
def randN (N : NetV) : Nat := match N.fed with
  | v :: _ => v
  | [] => mixed (seedNext N.seed)
def FedOk (N : NetV) : Prop := N.seed < 18446744073709551616 ∧ ∀ v ∈ N.fed, v < 18446744073709551616
theorem Wid.base {F : Nat → Prop} {w w' : World} {B : Nat} (hF : ∀ k, F k → B ≤ k ∧ k < w.heap.size) (hs : w.heap.size ≤ w'.heap.size) (hB : B ≤ w.heap.size) : ∀ k, Wid F w w' k → B ≤ k ∧ k < w'.heap.size := fun k hk => by
  rcases hk with h | ⟨h1, h2⟩
  · have := hF k h; omega
  · omega
theorem net_cells {w : World} {R : Nat} {a b c d e : Value} {T : TypeId} (hh : w.heap[R]? = some (.cells #[a, b, c, d, e] T (0, 0))) : w.cell? ⟨R, 0, none⟩ = some a ∧ w.cell? ⟨R, 1, none⟩ = some b ∧ w.cell? ⟨R, 2, none⟩ = some c ∧ w.cell? ⟨R, 3, none⟩ = some d ∧ w.cell? ⟨R, 4, none⟩ = some e ∧ ∀ i, w.frozen? ⟨R, i, none⟩ = false :=
  ⟨by simp [World.cell?, hh], by simp [World.cell?, hh], by simp [World.cell?, hh], by simp [World.cell?, hh], by simp [World.cell?, hh], fun i => by simp [World.frozen?, hh]⟩
set_option maxRecDepth 100000 in
set_option maxHeartbeats 2000000 in
theorem Feed_any (w : World) (B R : Nat) (N : NetV) (F : Nat → Prop) (h : Net w B R N F) (y : Nat) (hl : N.fed.length ≤ 1099511627776) :
    Calls Try.prog 20 #[.pointer (some ⟨R, 0, none⟩), .int .u64 (y : Int)] w fun e w' => ∃ F', e = .returned (.tuple #[]) ∧ Net w' B R { N with fed := N.fed ++ [y] } F' ∧ Keeps F w w' ∧ (∀ k, k < w.heap.size → F' k → F k) := by
  have HH := Lib.hid h
  obtain ⟨wv, fv, c0, c1, c2, c3, c4, hz, hh, hR, hF, hW, hf⟩ := h.cells
  have hRl := h.lt
  have hBw : B ≤ w.heap.size := by have := hF.out R hR.out; omega
  clear h
  obtain ⟨pf, capf, hfv, _⟩ : ∃ p cap, fv = .slice p N.fed.length cap ∧ True := by obtain ⟨p, cap, hv, _⟩ := hf.out; exact ⟨p, cap, hv, trivial⟩
  subst hfv
  have hcn := cell_new' w (.int .u64 (y : Int)) 40
  have hb1 : Below w.heap.size w (w.alloc (.cells #[.int .u64 (y : Int)] 40)) := (Below.refl _ _).alloc (Nat.le_refl _) _
  have hf1 : FRow (w.alloc (.cells #[.int .u64 (y : Int)] 40)) B (.slice pf N.fed.length capf) N.fed F := hf.out.same (fun _ _ h => h) (fun k c hk hc => hb1.block k (lt_of_block hc))
  have HB1 := Lib.hid hb1
  have HF1 := Lib.hid hf1
  have hs1 := hb1.size
  have HCN := Lib.hid hcn
  clear hb1 hf1 hcn
  go_enter Try.func20, Try.ntmps20
  go_wp2_with (at_builtin; refine wpList_append_fed rfl _ _ rfl B _ N.fed F rfl HF1.out w.heap.size rfl y HCN.out hl (by omega) ?_)
  intro v' w' hf' hk' hn'
  have hk1 : Keeps F w w' := (Keeps.of_below HB1.out).trans hk' (fun _ _ h => h)
  have hs' := hk1.size
  have hT : ∀ (k : Nat) (c : Array Value) (T : TypeId), T ≠ 40 → w.heap[k]? = some (.cells c T (0, 0)) → w'.heap[k]? = w.heap[k]? := fun k c T hT hc => by
    have hkl := lt_of_block hc
    have e1 := HB1.out.block k hkl
    rw [hn' k (by omega) (fun c' hc' => by rw [e1, hc] at hc'; simp at hc'; exact hT hc'.2), e1]
  have hh' : w'.heap[R]? = some (.cells #[wv, .int .i64 (N.sent : Int), .int .i64 N.now, .slice pf N.fed.length capf, .int .u64 (N.seed : Int)] 68 (0, 0)) := (hT R _ 68 (by decide) hh.out).trans hh.out
  have hW' : WRow w' B wv N.wait (Wid F (w.alloc (.cells #[.int .u64 (y : Int)] 40)) w') := hW.out.same (fun k _ hk => .inl hk) (fun k c _ hc => hT k c 72 (by decide) hc) (fun k c _ hc => hT k c 5 (by decide) hc)
  obtain ⟨d0, d1, d2, d3, d4, dz⟩ := net_cells hh'
  have HF' := Lib.hid hf'
  have HK := Lib.hid hk1
  have HH' := Lib.hid hh'
  have HW' := Lib.hid hW'
  have hFF : ∀ k, Wid F (w.alloc (.cells #[.int .u64 (y : Int)] 40)) w' k → B ≤ k ∧ k < w'.heap.size := Wid.base (fun k hk => by have := hF.out k hk; omega) (by have := hk'.size; exact this) (by omega)
  have HFF := Lib.hid hFF
  obtain ⟨pv, nv, cv, hvv⟩ : ∃ p n c, v' = .slice p n c := by obtain ⟨p, cap, hv, _⟩ := hf'; exact ⟨p, _, cap, hv⟩
  subst hvv
  clear hf' hk' hn' hk1 hT hh' hW' hFF
  go_wp2
  go_end0
  refine ⟨Wid F (w.alloc (.cells #[.int .u64 (y : Int)] 40)) w', rfl, ?_, ?_, ?_⟩
  · refine Net.put HH'.out (.inl hR.out) HFF.out HW'.out HF'.out (World.size_setCell _ _ _) (fun k hk => Below.heap_setCell _ _ _ _ hk) ?_
    rw [heap_setCell_same _ _ _ _ _ _ HH'.out]
    rfl
  · exact HK.out.setCell _ _ (fun _ => hR.out)
  · intro k hk hf
    rcases hf with hf | ⟨hf, _⟩
    · exact hf
    · omega
end Go.Proofs.Ytaopnoaopcbkoaa
