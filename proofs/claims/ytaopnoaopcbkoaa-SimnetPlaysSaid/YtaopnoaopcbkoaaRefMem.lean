/-
  The document's own network (rolodexref5) in memory.
-/
import Derived.Test.YtaopnoaopcbkoaaNetTell
namespace Go.Proofs.Ytaopnoaopcbkoaa.Ref
open Go.ChangeShapes Go.WideShapes Go.ChangeAt Go.RowKit Go.Deep
set_option linter.unusedVariables false
set_option linter.unusedSimpArgs false

theorem info_pk : (Try.prog.info? 49).map (fun i => (i.zero, i.size, i.bytes)) = some (some (.agg #[.int .i64 0, .int .i64 0, .int .i64 0, .slice none 0 0]), 4, 48) := by kernel_rfl
/-- What waits: a row of the network's own. -/
def WRow (w : World) (B : Nat) (v : Value) (L : List Pk) (F : Nat → Prop) : Prop :=
  ∃ Ps : List (Pk × Value), Ps.map (·.1) = L ∧ w.ownsRow B 49 4 v L.length (rowOf Ps) ∧ (∀ g, v.ownBlock = some g → F g) ∧ ∀ p ∈ Ps, Own w B 5 p.2 p.1.data ∧ ∀ g, p.2.ownBlock = some g → F g
def Net (w : World) (B R : Nat) (N : NetV) (F : Nat → Prop) : Prop :=
  ∃ wv fv, w.heap[R]? = some (.cells #[wv, .int .i64 (N.sent : Int), .int .i64 N.now, fv, .int .u64 (N.seed : Int)] 42 (0, 0)) ∧ F R ∧ (∀ k, F k → B ≤ k ∧ k < w.heap.size) ∧ WRow w B wv N.wait F ∧ FRow w B fv N.fed F

theorem WRow.same {w w' : World} {B : Nat} {v : Value} {L : List Pk} {F F' : Nat → Prop} (h : WRow w B v L F) (hF : ∀ k, k < w.heap.size → F k → F' k) (h1 : ∀ k c, F k → w.heap[k]? = some (.cells c 49 (0, 0)) → w'.heap[k]? = w.heap[k]?) (h2 : ∀ k c, F k → w.heap[k]? = some (.cells c 5 (0, 0)) → w'.heap[k]? = w.heap[k]?) : WRow w' B v L F' := by
  obtain ⟨Ps, e, hr, hg, hp⟩ := h
  refine ⟨Ps, e, ⟨hr.1, hr.2.imp id fun ⟨g, cap, cur, hv, hgB, hh, r⟩ => ⟨g, cap, cur, hv, hgB, (h1 g cur (hg g (by rw [hv]; rfl)) hh).trans hh, r⟩⟩, fun g h => hF g (World.ownsRow.lt hr g h).2 (hg g h), fun p hp' => ?_⟩
  obtain ⟨k1, k2⟩ := hp p hp'
  exact ⟨⟨k1.1, k1.2.imp id fun ⟨g, cap, cur, hv, hgB, hh, r⟩ => ⟨g, cap, cur, hv, hgB, (h2 g cur (k2 g (by rw [hv]; rfl)) hh).trans hh, r⟩⟩, fun g h => hF g (World.ownsRow.lt k1 g h).2 (k2 g h)⟩
/-- Nothing of the network was written. -/
theorem Net.stay {w w' : World} {B R : Nat} {N : NetV} {F : Nat → Prop} (h : Net w B R N F) (hs : w.heap.size ≤ w'.heap.size) (hb : ∀ k, k < w.heap.size → F k → w'.heap[k]? = w.heap[k]?) : Net w' B R N F := by
  obtain ⟨wv, fv, hh, hR, hF, hW, hf⟩ := h
  exact ⟨wv, fv, (hb R (lt_of_block hh) hR).trans hh, hR, fun k hk => ⟨(hF k hk).1, Nat.lt_of_lt_of_le (hF k hk).2 hs⟩, hW.same (fun _ _ h => h) (fun k c hk hc => hb k (lt_of_block hc) hk) (fun k c hk hc => hb k (lt_of_block hc) hk), hf.same (fun _ _ h => h) (fun k c hk hc => hb k (lt_of_block hc) hk)⟩
theorem Net.below {w w' : World} {B R : Nat} {N : NetV} {F : Nat → Prop} (h : Net w B R N F) (hb : Below w.heap.size w w') : Net w' B R N F := h.stay hb.size (fun k hk _ => hb.block k hk)
/-- Another network was written. -/
theorem Net.other {w w' : World} {B R : Nat} {N : NetV} {F G : Nat → Prop} (h : Net w B R N F) (hk : Keeps G w w') (hd : ∀ k, F k → ¬ G k) : Net w' B R N F := h.stay hk.size (fun k h1 h2 => hk.block k h1 (hd k h2))
theorem Net.lt {w : World} {B R : Nat} {N : NetV} {F : Nat → Prop} (h : Net w B R N F) : R < w.heap.size := by obtain ⟨wv, fv, hh, _⟩ := h; exact lt_of_block hh
theorem Net.base {w : World} {B R : Nat} {N : NetV} {F : Nat → Prop} (h : Net w B R N F) : ∀ k, F k → B ≤ k := by obtain ⟨wv, fv, hh, hR, hF, _⟩ := h; exact fun k hk => (hF k hk).1
theorem Net.cells {w : World} {B R : Nat} {N : NetV} {F : Nat → Prop} (h : Net w B R N F) : ∃ wv fv, w.cell? ⟨R, 0, none⟩ = some wv ∧ w.cell? ⟨R, 1, none⟩ = some (.int .i64 (N.sent : Int)) ∧ w.cell? ⟨R, 2, none⟩ = some (.int .i64 N.now) ∧ w.cell? ⟨R, 3, none⟩ = some fv ∧ w.cell? ⟨R, 4, none⟩ = some (.int .u64 (N.seed : Int)) ∧
    (∀ i, w.frozen? ⟨R, i, none⟩ = false) ∧ Hid (w.heap[R]? = some (.cells #[wv, .int .i64 (N.sent : Int), .int .i64 N.now, fv, .int .u64 (N.seed : Int)] 42 (0, 0))) ∧ Hid (F R) ∧ Hid (∀ k, F k → B ≤ k ∧ k < w.heap.size) ∧ Hid (WRow w B wv N.wait F) ∧ Hid (FRow w B fv N.fed F) := by
  obtain ⟨wv, fv, hh, hR, hF, hW, hf⟩ := h
  exact ⟨wv, fv, by simp [World.cell?, hh], by simp [World.cell?, hh], by simp [World.cell?, hh], by simp [World.cell?, hh], by simp [World.cell?, hh], fun i => by simp [World.frozen?, hh], Lib.hid hh, Lib.hid hR, Lib.hid hF, Lib.hid hW, Lib.hid hf⟩
/-- The struct alone was written. -/
theorem Net.put {w w' : World} {B R : Nat} {F : Nat → Prop} {N : NetV} {wv fv wv' fv' : Value} {a b c : Value} (hh : w.heap[R]? = some (.cells #[wv, a, b, fv, c] 42 (0, 0))) (hR : F R) (hF : ∀ k, F k → B ≤ k ∧ k < w.heap.size) (hW : WRow w B wv' N.wait F) (hf : FRow w B fv' N.fed F)
    (hs : w'.heap.size = w.heap.size) (hb : ∀ k, k ≠ R → w'.heap[k]? = w.heap[k]?) (hh' : w'.heap[R]? = some (.cells #[wv', .int .i64 (N.sent : Int), .int .i64 N.now, fv', .int .u64 (N.seed : Int)] 42 (0, 0))) : Net w' B R N F :=
  ⟨wv', fv', hh', hR, fun k hk => by rw [hs]; exact hF k hk,
    hW.same (fun _ _ h => h) (fun k c _ hc => hb k (fun e => by subst e; rw [hh] at hc; cases hc)) (fun k c _ hc => hb k (fun e => by subst e; rw [hh] at hc; cases hc)),
    hf.same (fun _ _ h => h) (fun k c _ hc => hb k (fun e => by subst e; rw [hh] at hc; cases hc))⟩
theorem WRow.form' {w : World} {B : Nat} {v : Value} {L : List Pk} {F : Nat → Prop} (h : WRow w B v L F) : ∀ z, v ≠ .int .u8 z := by
  obtain ⟨Ps, _, hr, _⟩ := h
  rcases hr.2 with ⟨hv, _⟩ | ⟨g, cap, cur, hv, _⟩ <;> (intro z; rw [hv]; simp)
theorem WRow.later {w w2 : World} {B : Nat} {v : Value} {L : List Pk} {F : Nat → Prop} (h : WRow w B v L F) (hb : Below w.heap.size w w2) : WRow w2 B v L F :=
  h.same (fun _ _ h => h) (fun k c _ hc => hb.block k (lt_of_block hc)) (fun k c _ hc => hb.block k (lt_of_block hc))
/-- A packet appended to what waits, as a step of a region that draws. -/
theorem step_append_pk {ops : Array Oper} {o : Oper} {a : Act} {w : World} {K : Act → World → Prop} {Q : Exit → Act → World → Prop} {E : Prop} (hgd : o.guard = none) (s x : Operand)
    (ho : o.op = .call { callee := .builtin .append, args := #[s, x], argTypes := #[38, 38] }) (B : Nat) (v : Value) (L : List Pk) (F G : Nat → Prop) (hs : a.eval s = v) (hW : WRow w B v L F) (hFG : ∀ k, F k → G k)
    (p : Pk × Value) (hp : Own w B 5 p.2 p.1.data) (hpG : ∀ g, p.2.ownBlock = some g → G g) (g1 : Nat) (hx : a.eval x = .slice (some ⟨g1, 0, none⟩) 1 1) (hc : ∀ j u, (pkCells p)[j]? = some u → w.cell? ⟨g1, j, none⟩ = some u)
    (hlen : L.length ≤ 1099511627776) (hB : B ≤ w.heap.size)
    (hK : ∀ v' w', WRow w' B v' (L ++ [p.1]) (Wid G w w') → Keeps F w w' → (∀ k, k < w.heap.size → (∀ c, w.heap[k]? ≠ some (.cells c 49 (0, 0))) → w'.heap[k]? = w.heap[k]?) → K (a.put o.dst v') w') :
    if Region.wanted o (yielded ops a.tmps) = true then Oper.wp Try.prog o a w K Q else E := by
  obtain ⟨i, hi, hz, hz1, hz2⟩ := info_parts info_pk
  obtain ⟨Ps, e, hr, hg, hps⟩ := hW
  have hone : p.2.oneCell' = true := by
    obtain ⟨q, cap, hv, _⟩ := hp.has.form
    rw [hv]; rfl
  refine step_append_lies w hgd s x 38 ho B 49 i _ 4 48 Try.underlying38 hi hz hz1 hz2 rfl (by decide) v L.length _ hs hr ⟨g1, 0, none⟩ 1 1 (pkCells p) hx rfl (fun j u hj => by rw [add_plain, Nat.zero_add]; exact hc j u hj) (pkCells_one p hone)
    (by decide) (by unfold maxLen; omega) (by omega) hB w.heap.size rfl fun g cap w' h1 h2 h3 h4 => hK _ w' ⟨Ps ++ [p], by rw [List.map_append, e]; rfl, ?_, fun g' hg' => ?_, fun q hq => ?_⟩ ⟨h2.os, h2.tape, h2.output, h2.size, fun k hk hn => h2.block k hk (fun h' => hn (hg k h'.symm))⟩ (fun k hk hn => h2.block k hk (fun h' => ?_))
  · rw [rowOf_append, List.length_append]
    have e2 : rowOf [p] = pkCells p := by rw [rowOf_cons, rowOf_nil, List.append_nil]
    rw [e2]
    exact h1
  · simp only [Value.ownBlock, Option.some.injEq] at hg'
    subst hg'
    rcases h3 with h3 | h3
    · exact .inl (hFG _ (hg _ h3))
    · exact .inr ⟨by omega, h4⟩
  · rcases List.mem_append.1 hq with hq | hq
    · obtain ⟨k1, k2⟩ := hps q hq
      exact ⟨own_grown4 (by decide) hr k1 h2, fun g hg' => .inl (hFG g (k2 g hg'))⟩
    · simp only [List.mem_singleton] at hq
      subst hq
      exact ⟨own_grown4 (by decide) hr hp h2, fun g hg' => .inl (hpG g hg')⟩
  · rcases hr.2 with ⟨hv, _⟩ | ⟨g0, cap, cur, hv, _, hh, _⟩
    · rw [hv] at h'; simp [Value.ownBlock] at h'
    · rw [hv] at h'
      simp only [Value.ownBlock, Option.some.injEq] at h'
      exact hn cur (by rw [h']; exact hh)
theorem WRow.atPk {w : World} {B : Nat} {v : Value} {L : List Pk} {F : Nat → Prop} (h : WRow w B v L F) (i : Nat) (hi : i < L.length) :
    ∃ g cap bv, v = .slice (some ⟨g, 0, none⟩) L.length cap ∧ L.length ≤ cap ∧ cap ≤ maxLen ∧ w.cell? ⟨g, i * 4, none⟩ = some (.int .i64 (L[i].id : Int)) ∧ w.cell? ⟨g, i * 4 + 1, none⟩ = some (.int .i64 L[i].fr) ∧ w.cell? ⟨g, i * 4 + 2, none⟩ = some (.int .i64 L[i].to) ∧ w.cell? ⟨g, i * 4 + 3, none⟩ = some bv ∧ Own w B 5 bv L[i].data ∧ (∀ g, bv.ownBlock = some g → F g) := by
  obtain ⟨Ps, e, hr, _, hp⟩ := h
  have hPl : Ps.length = L.length := by rw [← e]; simp
  rcases hr.2 with ⟨hv, hn⟩ | ⟨g, cap, cur, hv, hg, hh, k1, k2, _⟩
  · omega
  · have hL : L[i] = (Ps[i]'(by omega)).1 := by subst e; simp
    have c := fun (j : Nat) (hj : j < 4) => (World.ownsRow.cellAt (hv ▸ hr : w.ownsRow B 49 4 (.slice (some ⟨g, 0, none⟩) L.length cap) L.length (rowOf Ps)) (i * 4 + j) (by omega)).trans (rowOf_get Ps i (by omega) j hj)
    refine ⟨g, cap, (Ps[i]'(by omega)).2, hv, k1, k2, ?_, ?_, ?_, ?_, ?_, (hp _ (List.getElem_mem _)).2⟩
    · have := c 0 (by omega); rw [hL]; simpa [pkCells] using this
    · have := c 1 (by omega); rw [hL]; simpa [pkCells] using this
    · have := c 2 (by omega); rw [hL]; simpa [pkCells] using this
    · have := c 3 (by omega); simpa [pkCells] using this
    · rw [hL]; exact (hp _ (List.getElem_mem _)).1
theorem WRow.form {w : World} {B : Nat} {v : Value} {L : List Pk} {F : Nat → Prop} (h : WRow w B v L F) : ∃ p n c, v = .slice p n c := by
  obtain ⟨Ps, _, hr, _⟩ := h
  rcases hr.2 with ⟨hv, _⟩ | ⟨g, cap, cur, hv, _⟩
  · exact ⟨_, _, _, hv⟩
  · exact ⟨_, _, _, hv⟩
end Go.Proofs.Ytaopnoaopcbkoaa.Ref
