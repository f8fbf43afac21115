/-
  Do the two networks tell the same? (rolodexlaw6.is); a number fed in a region that draws.
-/
import Derived.Test.YtaopnoaopcbkoaaRefRand
import Derived.Test.YtaopnoaopcbkoaaNetAwake
import Derived.Deep.Cut
namespace Go.Proofs.Ytaopnoaopcbkoaa
open Go.ChangeShapes Go.WideShapes Go.ChangeAt Go.RowKit Go.Deep
set_option linter.unusedVariables false
set_option linter.unusedSimpArgs false

theorem run_append_fed (w : World) (ty : TypeId) (B : Nat) (v : Value) (l : List Nat) (F : Nat → Prop) (hF : FRow w B v l F) (g1 : Nat) (y : Nat) (hg1 : w.cell? ⟨g1, 0, none⟩ = some (.int .u64 (y : Int))) (hlen : l.length ≤ 1099511627776) (hB : B ≤ w.heap.size) :
    ∃ v' w', (Builtin.append_ #[39, 39] ty #[v, .slice (some ⟨g1, 0, none⟩) 1 1]).run Try.prog w = .ok v' w' ∧ FRow w' B v' (l ++ [y]) (Wid F w w') ∧ Keeps F w w' ∧ (∀ k, k < w.heap.size → (∀ c, w.heap[k]? ≠ some (.cells c 40 (0, 0))) → w'.heap[k]? = w.heap[k]?) := by
  obtain ⟨i, hi, hz, hz1, hz2⟩ := info_parts info_u64
  obtain ⟨p, cap, rfl, k1, k2, k3⟩ := hF
  have hnew : ∀ j u, [Value.int .u64 (y : Int)][j]? = some u → w.cell? ((⟨g1, 0, none⟩ : Addr).add j) = some u := fun j u hj => by
    cases j with
    | zero => simp at hj; subst hj; simpa [Addr.add] using hg1
    | succ j => simp at hj
  have hone : ∀ u ∈ [Value.int .u64 (y : Int)], u.oneCell' = true := fun u hu => by simp at hu; subst hu; rfl
  have hgr : ∀ v' w', w'.ownsRow w.heap.size 40 1 v' (l.length + 1) ((l.map fun (n : Nat) => Value.int .u64 (n : Int)) ++ [Value.int .u64 (y : Int)]) → w.grownBy w' none → FRow w' B v' (l ++ [y]) (Wid F w w') ∧ Keeps F w w' ∧ (∀ k, k < w.heap.size → (∀ c, w.heap[k]? ≠ some (.cells c 40 (0, 0))) → w'.heap[k]? = w.heap[k]?) := fun v' w' hr hg => by
    refine ⟨Ref.fed_of_row (G := w.heap.size) (by simpa using hr) hB (fun k h1 h2 => .inr ⟨h1, h2⟩), ⟨hg.os, hg.tape, hg.output, hg.size, fun k hk _ => hg.block k hk (by simp)⟩, fun k hk _ => hg.block k hk (by simp)⟩
  by_cases hc : 0 < cap
  · obtain ⟨g, off, cur, rfl, hh, hgB, hFg, hsz, hcell⟩ := k3 hc
    have holds : ∀ j u, (l.map fun (n : Nat) => Value.int .u64 (n : Int))[j]? = some u → w.cell? ((⟨g, off, none⟩ : Addr).add j) = some u := fun j u hj => by
      rw [List.getElem?_map, Option.map_eq_some_iff] at hj
      obtain ⟨n, hn, rfl⟩ := hj
      obtain ⟨hjl, rfl⟩ := List.getElem?_eq_some_iff.1 hn
      have := hcell j hjl
      rw [add_plain]
      simp [World.cell?, hh, this]
    by_cases hr : l.length + 1 ≤ cap
    · have hrun := run_append_room_cells (P := Try.prog) w 39 ty 40 i Try.underlying39 hi g off l.length cap ⟨g1, 0, none⟩ 1 1 [Value.int .u64 (y : Int)] (by rw [hz1]; rfl) hnew hone hr (fun j hj => by
        simp only [List.length_cons, List.length_nil] at hj
        rw [hz1]
        have hlt : off + l.length * 1 + j < cur.size := by omega
        simp [World.cell?, hh]; omega) (fun j hj => by simp [World.frozen?, hh])
      rw [hz1] at hrun
      refine ⟨_, _, hrun, ?_⟩
      obtain ⟨cur', c1, c2, c3⟩ := heap_setCells_row g 40 [Value.int .u64 (y : Int)] (off + l.length * 1) w cur hh
      have hrest := setCells_rest g [Value.int .u64 (y : Int)] (off + l.length * 1) w
      refine ⟨⟨_, cap, by rw [List.length_append]; rfl, by rw [List.length_append]; exact hr, k2, fun _ => ⟨g, off, cur', rfl, c1, hgB, .inl hFg, by rw [c2]; exact hsz, fun j hj => ?_⟩⟩, ⟨hrest.1, hrest.2.1, hrest.2.2, by rw [size_setCells']; exact Nat.le_refl _, fun k hk hn => heap_setCells_far g _ _ _ _ (fun e => hn (by rw [e]; exact hFg))⟩, fun k hk hn => heap_setCells_far g _ _ _ _ (fun e => hn cur (by rw [e]; exact hh))⟩
      rw [List.length_append] at hj
      simp only [List.length_cons, List.length_nil] at hj
      rw [c3]
      by_cases hjl : j < l.length
      · rw [if_neg (by omega), List.getElem_append_left hjl]
        exact hcell j hjl
      · obtain rfl : j = l.length := by omega
        rw [if_pos (by simp; omega)]
        simp
    · obtain ⟨v', w', hrun, r1, r2⟩ := run_append_arg_grows (P := Try.prog) w 39 ty 40 i (.int .u64 0) 1 8 Try.underlying39 hi hz hz1 hz2 rfl (by decide) ⟨g, off, none⟩ l.length cap (l.map fun (n : Nat) => Value.int .u64 (n : Int)) (by simp) holds ⟨g1, 0, none⟩ 1 1 [Value.int .u64 (y : Int)] rfl hnew (by omega) (by unfold maxLen; omega) (by omega)
      exact ⟨v', w', hrun, hgr v' w' r1 r2⟩
  · obtain rfl : cap = 0 := by omega
    have hl0 : l = [] := List.eq_nil_of_length_eq_zero (by omega)
    subst hl0
    cases p with
    | some b =>
      obtain ⟨v', w', hrun, r1, r2⟩ := run_append_arg_grows (P := Try.prog) w 39 ty 40 i (.int .u64 0) 1 8 Try.underlying39 hi hz hz1 hz2 rfl (by decide) b 0 0 [] rfl (fun j u hj => by simp at hj) ⟨g1, 0, none⟩ 1 1 [Value.int .u64 (y : Int)] rfl hnew (by omega) (by unfold maxLen; omega) (by omega)
      exact ⟨v', w', hrun, hgr v' w' r1 r2⟩
    | none =>
      obtain ⟨v', w', hrun, r1, r2, _⟩ := run_append_own (P := Try.prog) w w.heap.size 39 ty 40 i (.int .u64 0) 1 8 Try.underlying39 hi hz hz1 hz2 rfl (by decide) (.slice none 0 0) 0 [] (World.ownsRow_nil w _ _ 1) ⟨g1, 0, none⟩ 1 1 [Value.int .u64 (y : Int)] rfl hnew hone (by unfold maxLen; omega) (by omega) (Nat.le_refl _)
      exact ⟨v', w', hrun, hgr v' w' r1 r2⟩
theorem step_append_fed {ops : Array Oper} {o : Oper} {a : Act} {w : World} {K : Act → World → Prop} {Q : Exit → Act → World → Prop} {E : Prop} (hgd : o.guard = none) (s x : Operand)
    (ho : o.op = .call { callee := .builtin .append, args := #[s, x], argTypes := #[39, 39] }) (B : Nat) (v : Value) (l : List Nat) (F : Nat → Prop) (hs : a.eval s = v) (hF : FRow w B v l F)
    (g1 : Nat) (hx : a.eval x = .slice (some ⟨g1, 0, none⟩) 1 1) (y : Nat) (hg1 : w.cell? ⟨g1, 0, none⟩ = some (.int .u64 (y : Int))) (hlen : l.length ≤ 1099511627776) (hB : B ≤ w.heap.size)
    (hK : ∀ v' w', FRow w' B v' (l ++ [y]) (Wid F w w') → Keeps F w w' → (∀ k, k < w.heap.size → (∀ c, w.heap[k]? ≠ some (.cells c 40 (0, 0))) → w'.heap[k]? = w.heap[k]?) → K (a.put o.dst v') w') :
    if Region.wanted o (yielded ops a.tmps) = true then Oper.wp Try.prog o a w K Q else E := by
  have hw : Region.wanted o (yielded ops a.tmps) = true := by simp [Region.wanted, hgd]
  rw [if_pos hw]
  obtain ⟨v', w', hrun, h1, h2, h3⟩ := run_append_fed w o.type B v l F hF g1 y hg1 hlen hB
  unfold Oper.wp
  simp [execOp, ho, resolve, invoke, builtin, hs, hx, hrun, Result.andThen]
  exact hK v' w' h1 h2 h3
/-- Told ones that were not yet gone through. -/
def TellAt (w : World) (g : Nat) (L : List Pk) (i : Nat) : Prop := ∃ cur, w.heap[g]? = some (.cells cur 64 (0, 0)) ∧ ∀ k (h : k < L.length), i ≤ k → cur[k * 4]? = some (.int .i64 (L[k].id : Int)) ∧ cur[k * 4 + 1]? = some (.int .i64 L[k].fr) ∧ cur[k * 4 + 2]? = some (.int .i64 L[k].to) ∧ cur[k * 4 + 3]? = some (.int .i64 (L[k].data.length : Int))
theorem Told.tellAt {w : World} {B : Nat} {v : Value} {L : List Pk} (h : Told w B v L) : ∃ g p cap, v = .slice p L.length cap ∧ L.length ≤ cap ∧ cap ≤ maxLen ∧ (0 < L.length → p = some ⟨g, 0, none⟩ ∧ B ≤ g ∧ TellAt w g L 0) := by
  by_cases h0 : 0 < L.length
  · obtain ⟨g, cap, hv, q1, q2, hB, hlt, hc⟩ := Told.cells h h0
    rcases h.2 with ⟨_, hn⟩ | ⟨g', cap', cur, hv', hg, hh, k1, k2, k3⟩
    · omega
    · rw [hv] at hv'
      simp only [Value.slice.injEq, Option.some.injEq, Addr.mk.injEq, true_and, and_true] at hv'
      obtain ⟨rfl, rfl⟩ := hv'
      refine ⟨g, _, cap, hv, q1, q2, fun _ => ⟨rfl, hB, cur, hh, fun k hk _ => ?_⟩⟩
      obtain ⟨c0, c1, c2, c3⟩ := hc k hk
      simp only [World.cell?, hh] at c0 c1 c2 c3
      exact ⟨by simpa using c0, by simpa using c1, by simpa using c2, by simpa using c3⟩
  · rcases h.2 with ⟨hv, hn⟩ | ⟨g', cap', cur, hv', hg, hh, k1, k2, k3⟩
    · exact ⟨0, none, 0, by rw [hv, hn], by omega, Nat.zero_le _, fun h => absurd h h0⟩
    · exact ⟨0, _, cap', hv', k1, k2, fun h => absurd h h0⟩
set_option maxRecDepth 100000 in
set_option maxHeartbeats 4000000 in
theorem is_any (w : World) (B B' R S : Nat) (N : NetV) (F G : Nat → Prop) (h : Net w B R N F) (h' : Ref.Net w B' S N G) (hl : N.wait.length ≤ 1099511627776) :
    Calls Try.prog 23 #[.pointer (some ⟨R, 0, none⟩), .pointer (some ⟨S, 0, none⟩)] w fun e w' => e = .returned (.bool true) ∧ Below w.heap.size w w' := by
  have HP := Lib.hid (Packets_any w B R N F h hl)
  have HN := Lib.hid h
  have HR := Lib.hid h'
  clear h h'
  go_enter Try.func23, Try.ntmps23
  go_wp2_with fail
  refine HP.out.mono ?_
  rintro e w1 ⟨lv, rfl, ht, hb⟩
  obtain ⟨gl, lp, lc, rfl, q1, q2, hT⟩ := ht.tellAt
  have hz1 := hb.size
  have HN1 := Lib.hid (HN.out.below hb)
  have HR1 := Lib.hid (HR.out.below hb)
  have HB1 := Lib.hid hb
  have HT := Lib.hid hT
  have HQ2 := Lib.hid q2
  have hm : (lc : Int) ≤ 9223372036854775807 := by unfold maxLen at q2; omega
  obtain ⟨wv, fv, c0, c1, c2, c3, c4, hz, hh, hS, hG, hW, hf⟩ := HR1.out.cells
  obtain ⟨wp, wc, hwv⟩ : ∃ p c, wv = .slice p N.wait.length c := by
    obtain ⟨Ps, _, hr, _⟩ := hW.out
    rcases hr.2 with ⟨hv, h0⟩ | ⟨g, cap, cur, hv, _⟩
    · exact ⟨none, 0, by rw [hv, h0]⟩
    · exact ⟨_, _, hv⟩
  subst hwv
  clear ht hb hT q2
  go_upto_region 2 with fail
  refine wp_region_held_drew (S := fun w' => w' = w1.drew) (by kernel_rfl) rfl (fun hHeld => ?_)
  refine wpAnyH_take (i := 0) (oi := _) (v := ?_) rfl (by kernel_rfl) (by kernel_rfl) (by kernel_rfl) (fun _ _ _ h => h) (Or.inl ⟨by rfl, ?hy1⟩) (by assumption) ?_
  case hy1 =>
    intro w9 hSw
    try dsimp only at hSw
    try simp only [List.getElem_toArray, List.getElem_cons_zero, List.getElem_cons_succ]
    go_simp
    try with_reducible rfl
  try simp only [Act.put, List.setIfInBounds_toArray, List.set_cons_zero, List.set_cons_succ, List.getElem_toArray, List.getElem_cons_zero, List.getElem_cons_succ]
  refine wpAnyH_take (i := 1) (oi := _) (v := ?_) rfl (by kernel_rfl) (by kernel_rfl) (by kernel_rfl) (fun _ _ _ h => h) (Or.inl ⟨by rfl, ?hy2⟩) (by assumption) ?_
  case hy2 =>
    intro w9 hSw
    try dsimp only at hSw
    try simp only [List.getElem_toArray, List.getElem_cons_zero, List.getElem_cons_succ]
    go_simp
    try with_reducible rfl
  try simp only [Act.put, List.setIfInBounds_toArray, List.set_cons_zero, List.set_cons_succ, List.getElem_toArray, List.getElem_cons_zero, List.getElem_cons_succ]
  refine wpAnyH_take (i := 2) (oi := _) (v := ?_) rfl (by kernel_rfl) (by kernel_rfl) (by kernel_rfl) (fun _ _ _ h => h) (Or.inl ⟨by rfl, ?hy3⟩) (by assumption) ?_
  case hy3 =>
    intro w9 hSw
    try dsimp only at hSw
    try simp only [List.getElem_toArray, List.getElem_cons_zero, List.getElem_cons_succ]
    go_simp
    try with_reducible rfl
  try simp only [Act.put, List.setIfInBounds_toArray, List.set_cons_zero, List.set_cons_succ, List.getElem_toArray, List.getElem_cons_zero, List.getElem_cons_succ]
  refine wpAnyH_take (i := 3) (oi := _) (v := ?_) rfl (by kernel_rfl) (by kernel_rfl) (by kernel_rfl) (fun _ _ _ h => h) (Or.inl ⟨by rfl, ?hy4⟩) (by assumption) ?_
  case hy4 =>
    intro w9 hSw
    try dsimp only at hSw
    try simp only [List.getElem_toArray, List.getElem_cons_zero, List.getElem_cons_succ]
    go_simp
    try with_reducible rfl
  try simp only [Act.put, List.setIfInBounds_toArray, List.set_cons_zero, List.set_cons_succ, List.getElem_toArray, List.getElem_cons_zero, List.getElem_cons_succ]
  refine wpAnyH_take (i := 4) (oi := _) (v := ?_) rfl (by kernel_rfl) (by kernel_rfl) (by kernel_rfl) (fun _ _ _ h => h) (Or.inl ⟨by rfl, ?hy5⟩) (by assumption) ?_
  case hy5 =>
    intro w9 hSw
    try dsimp only at hSw
    try simp only [List.getElem_toArray, List.getElem_cons_zero, List.getElem_cons_succ]
    go_simp
    try with_reducible rfl
  try simp only [Act.put, List.setIfInBounds_toArray, List.set_cons_zero, List.set_cons_succ, List.getElem_toArray, List.getElem_cons_zero, List.getElem_cons_succ]
  refine wpAnyH_take (i := 5) (oi := _) (v := ?_) rfl (by kernel_rfl) (by kernel_rfl) (by kernel_rfl) (fun _ _ _ h => h) (Or.inl ⟨by rfl, ?hy6⟩) (by assumption) ?_
  case hy6 =>
    intro w9 hSw
    try dsimp only at hSw
    try simp only [List.getElem_toArray, List.getElem_cons_zero, List.getElem_cons_succ]
    go_simp
    try with_reducible rfl
  try simp only [Act.put, List.setIfInBounds_toArray, List.set_cons_zero, List.set_cons_succ, List.getElem_toArray, List.getElem_cons_zero, List.getElem_cons_succ]
  refine wpAnyH_take (i := 6) (oi := _) (v := ?_) rfl (by kernel_rfl) (by kernel_rfl) (by kernel_rfl) (fun _ _ _ h => h) (Or.inl ⟨by rfl, ?hy7⟩) (by assumption) ?_
  case hy7 =>
    intro w9 hSw
    try dsimp only at hSw
    try simp only [List.getElem_toArray, List.getElem_cons_zero, List.getElem_cons_succ]
    go_simp
    try with_reducible rfl
  try simp only [Act.put, List.setIfInBounds_toArray, List.set_cons_zero, List.set_cons_succ, List.getElem_toArray, List.getElem_cons_zero, List.getElem_cons_succ]
  refine wpAnyH_take (i := 7) (oi := _) (v := ?_) rfl (by kernel_rfl) (by kernel_rfl) (by kernel_rfl) (fun _ _ _ h => h) (Or.inl ⟨by rfl, ?hy8⟩) (by assumption) ?_
  case hy8 =>
    intro w9 hSw
    try dsimp only at hSw
    try simp only [List.getElem_toArray, List.getElem_cons_zero, List.getElem_cons_succ]
    go_simp
    try with_reducible rfl
  try simp only [Act.put, List.setIfInBounds_toArray, List.set_cons_zero, List.set_cons_succ, List.getElem_toArray, List.getElem_cons_zero, List.getElem_cons_succ]
  refine wpAnyH_take (i := 8) (oi := _) (v := ?_) rfl (by kernel_rfl) (by kernel_rfl) (by kernel_rfl) (fun _ _ _ h => h) (Or.inl ⟨by rfl, ?hy9⟩) (by assumption) ?_
  case hy9 =>
    intro w9 hSw
    try dsimp only at hSw
    try simp only [List.getElem_toArray, List.getElem_cons_zero, List.getElem_cons_succ]
    go_simp
    try with_reducible rfl
  try simp only [Act.put, List.setIfInBounds_toArray, List.set_cons_zero, List.set_cons_succ, List.getElem_toArray, List.getElem_cons_zero, List.getElem_cons_succ]
  refine wpAnyH_take (i := 9) (oi := _) (v := ?_) rfl (by kernel_rfl) (by kernel_rfl) (by kernel_rfl) (fun _ _ _ h => h) (Or.inl ⟨by rfl, ?hy10⟩) (by assumption) ?_
  case hy10 =>
    intro w9 hSw
    try dsimp only at hSw
    try simp only [List.getElem_toArray, List.getElem_cons_zero, List.getElem_cons_succ]
    go_simp
    try with_reducible rfl
  try simp only [Act.put, List.setIfInBounds_toArray, List.set_cons_zero, List.set_cons_succ, List.getElem_toArray, List.getElem_cons_zero, List.getElem_cons_succ]
  refine wpAnyH_take (i := 11) (oi := _) (v := ?_) rfl (by kernel_rfl) (by kernel_rfl) (by kernel_rfl) (fun _ _ _ h => h) (Or.inl ⟨by rfl, ?hy11⟩) (by assumption) ?_
  case hy11 =>
    intro w9 hSw
    try dsimp only at hSw
    try simp only [List.getElem_toArray, List.getElem_cons_zero, List.getElem_cons_succ]
    go_simp
    try with_reducible rfl
  try simp only [Act.put, List.setIfInBounds_toArray, List.set_cons_zero, List.set_cons_succ, List.getElem_toArray, List.getElem_cons_zero, List.getElem_cons_succ]
  refine wpAnyH_take (i := 12) (oi := _) (v := ?_) rfl (by kernel_rfl) (by kernel_rfl) (by kernel_rfl) (fun _ _ _ h => h) (Or.inl ⟨by rfl, ?hy12⟩) (by assumption) ?_
  case hy12 =>
    intro w9 hSw
    try dsimp only at hSw
    try simp only [List.getElem_toArray, List.getElem_cons_zero, List.getElem_cons_succ]
    go_simp
    try with_reducible rfl
  try simp only [Act.put, List.setIfInBounds_toArray, List.set_cons_zero, List.set_cons_succ, List.getElem_toArray, List.getElem_cons_zero, List.getElem_cons_succ]
  refine wpAnyH_take (i := 13) (oi := _) (v := ?_) rfl (by kernel_rfl) (by kernel_rfl) (by kernel_rfl) (fun _ _ _ h => h) (Or.inl ⟨by rfl, ?hy13⟩) (by assumption) ?_
  case hy13 =>
    intro w9 hSw
    try dsimp only at hSw
    try simp only [List.getElem_toArray, List.getElem_cons_zero, List.getElem_cons_succ]
    go_simp
    try with_reducible rfl
  try simp only [Act.put, List.setIfInBounds_toArray, List.set_cons_zero, List.set_cons_succ, List.getElem_toArray, List.getElem_cons_zero, List.getElem_cons_succ]
  refine wpAnyH_take (i := 14) (oi := _) (v := ?_) rfl (by kernel_rfl) (by kernel_rfl) (by kernel_rfl) (fun _ _ _ h => h) (Or.inl ⟨by rfl, ?hy14⟩) (by assumption) ?_
  case hy14 =>
    intro w9 hSw
    try dsimp only at hSw
    try simp only [List.getElem_toArray, List.getElem_cons_zero, List.getElem_cons_succ]
    go_simp
    try with_reducible rfl
  try simp only [Act.put, List.setIfInBounds_toArray, List.set_cons_zero, List.set_cons_succ, List.getElem_toArray, List.getElem_cons_zero, List.getElem_cons_succ]
  refine wpAnyH_ready (rs := [10]) (by kernel_rfl) (by simp) (AllReadyH.cons (o := _) rfl (fun K hK => ?_) AllReadyH.nil)
  try simp only [List.getElem_toArray, List.getElem_cons_zero, List.getElem_cons_succ]
  go_simp
  refine (Sent_any w1.drew B R N F HN1.out).mono ?_
  rintro e w2 ⟨rfl, rfl⟩
  refine hK.out _ _ (rfl) (fun hHeld => ?_)
  clear hK K
  try simp only [Act.put, List.setIfInBounds_toArray, List.set_cons_zero, List.set_cons_succ, List.getElem_toArray, List.getElem_cons_zero, List.getElem_cons_succ]
  refine wpAnyH_take (i := 15) (oi := _) (v := ?_) rfl (by kernel_rfl) (by kernel_rfl) (by kernel_rfl) (fun _ _ _ h => h) (Or.inl ⟨by rfl, ?hy15⟩) (by assumption) ?_
  case hy15 =>
    intro w9 hSw
    try dsimp only at hSw
    try simp only [List.getElem_toArray, List.getElem_cons_zero, List.getElem_cons_succ]
    go_simp
    try with_reducible rfl
  try simp only [Act.put, List.setIfInBounds_toArray, List.set_cons_zero, List.set_cons_succ, List.getElem_toArray, List.getElem_cons_zero, List.getElem_cons_succ]
  refine wpAnyH_take (i := 16) (oi := _) (v := ?_) rfl (by kernel_rfl) (by kernel_rfl) (by kernel_rfl) (fun _ _ _ h => h) (Or.inl ⟨by rfl, ?hy16⟩) (by assumption) ?_
  case hy16 =>
    intro w9 hSw
    try dsimp only at hSw
    try simp only [List.getElem_toArray, List.getElem_cons_zero, List.getElem_cons_succ]
    go_simp
    try with_reducible rfl
  try simp only [Act.put, List.setIfInBounds_toArray, List.set_cons_zero, List.set_cons_succ, List.getElem_toArray, List.getElem_cons_zero, List.getElem_cons_succ]
  refine wpAnyH_take (i := 17) (oi := _) (v := ?_) rfl (by kernel_rfl) (by kernel_rfl) (by kernel_rfl) (fun _ _ _ h => h) (Or.inl ⟨by rfl, ?hy17⟩) (by assumption) ?_
  case hy17 =>
    intro w9 hSw
    try dsimp only at hSw
    try simp only [List.getElem_toArray, List.getElem_cons_zero, List.getElem_cons_succ]
    go_simp
    try with_reducible rfl
  try simp only [Act.put, List.setIfInBounds_toArray, List.set_cons_zero, List.set_cons_succ, List.getElem_toArray, List.getElem_cons_zero, List.getElem_cons_succ]
  refine wpAnyH_take (i := 18) (oi := _) (v := ?_) rfl (by kernel_rfl) (by kernel_rfl) (by kernel_rfl) (fun _ _ _ h => h) (Or.inl ⟨by rfl, ?hy18⟩) (by assumption) ?_
  case hy18 =>
    intro w9 hSw
    try dsimp only at hSw
    try simp only [List.getElem_toArray, List.getElem_cons_zero, List.getElem_cons_succ]
    go_simp
    try with_reducible rfl
  try simp only [Act.put, List.setIfInBounds_toArray, List.set_cons_zero, List.set_cons_succ, List.getElem_toArray, List.getElem_cons_zero, List.getElem_cons_succ]
  refine wpAnyH_take (i := 20) (oi := _) (v := ?_) rfl (by kernel_rfl) (by kernel_rfl) (by kernel_rfl) (fun _ _ _ h => h) (Or.inl ⟨by rfl, ?hy19⟩) (by assumption) ?_
  case hy19 =>
    intro w9 hSw
    try dsimp only at hSw
    try simp only [List.getElem_toArray, List.getElem_cons_zero, List.getElem_cons_succ]
    go_simp
    try with_reducible rfl
  try simp only [Act.put, List.setIfInBounds_toArray, List.set_cons_zero, List.set_cons_succ, List.getElem_toArray, List.getElem_cons_zero, List.getElem_cons_succ]
  refine wpAnyH_take (i := 21) (oi := _) (v := ?_) rfl (by kernel_rfl) (by kernel_rfl) (by kernel_rfl) (fun _ _ _ h => h) (Or.inl ⟨by rfl, ?hy20⟩) (by assumption) ?_
  case hy20 =>
    intro w9 hSw
    try dsimp only at hSw
    try simp only [List.getElem_toArray, List.getElem_cons_zero, List.getElem_cons_succ]
    go_simp
    try with_reducible rfl
  try simp only [Act.put, List.setIfInBounds_toArray, List.set_cons_zero, List.set_cons_succ, List.getElem_toArray, List.getElem_cons_zero, List.getElem_cons_succ]
  refine wpAnyH_take (i := 22) (oi := _) (v := ?_) rfl (by kernel_rfl) (by kernel_rfl) (by kernel_rfl) (fun _ _ _ h => h) (Or.inl ⟨by rfl, ?hy21⟩) (by assumption) ?_
  case hy21 =>
    intro w9 hSw
    try dsimp only at hSw
    try simp only [List.getElem_toArray, List.getElem_cons_zero, List.getElem_cons_succ]
    go_simp
    try with_reducible rfl
  try simp only [Act.put, List.setIfInBounds_toArray, List.set_cons_zero, List.set_cons_succ, List.getElem_toArray, List.getElem_cons_zero, List.getElem_cons_succ]
  refine wpAnyH_take (i := 23) (oi := _) (v := ?_) rfl (by kernel_rfl) (by kernel_rfl) (by kernel_rfl) (fun _ _ _ h => h) (Or.inl ⟨by rfl, ?hy22⟩) (by assumption) ?_
  case hy22 =>
    intro w9 hSw
    try dsimp only at hSw
    try simp only [List.getElem_toArray, List.getElem_cons_zero, List.getElem_cons_succ]
    go_simp
    try with_reducible rfl
  try simp only [Act.put, List.setIfInBounds_toArray, List.set_cons_zero, List.set_cons_succ, List.getElem_toArray, List.getElem_cons_zero, List.getElem_cons_succ]
  refine wpAnyH_ready (rs := [19]) (by kernel_rfl) (by simp) (AllReadyH.cons (o := _) rfl (fun K hK => ?_) AllReadyH.nil)
  try simp only [List.getElem_toArray, List.getElem_cons_zero, List.getElem_cons_succ]
  go_simp
  refine (Now_any w1.drew B R N F HN1.out).mono ?_
  rintro e w2 ⟨rfl, rfl⟩
  refine hK.out _ _ (rfl) (fun hHeld => ?_)
  clear hK K
  try simp only [Act.put, List.setIfInBounds_toArray, List.set_cons_zero, List.set_cons_succ, List.getElem_toArray, List.getElem_cons_zero, List.getElem_cons_succ]
  refine wpAnyH_take (i := 24) (oi := _) (v := ?_) rfl (by kernel_rfl) (by kernel_rfl) (by kernel_rfl) (fun _ _ _ h => h) (Or.inl ⟨by rfl, ?hy23⟩) (by assumption) ?_
  case hy23 =>
    intro w9 hSw
    try dsimp only at hSw
    try simp only [List.getElem_toArray, List.getElem_cons_zero, List.getElem_cons_succ]
    go_simp
    try with_reducible rfl
  try simp only [Act.put, List.setIfInBounds_toArray, List.set_cons_zero, List.set_cons_succ, List.getElem_toArray, List.getElem_cons_zero, List.getElem_cons_succ]
  refine wpAnyH_take (i := 25) (oi := _) (v := ?_) rfl (by kernel_rfl) (by kernel_rfl) (by kernel_rfl) (fun _ _ _ h => h) (Or.inl ⟨by rfl, ?hy24⟩) (by assumption) ?_
  case hy24 =>
    intro w9 hSw
    try dsimp only at hSw
    try simp only [List.getElem_toArray, List.getElem_cons_zero, List.getElem_cons_succ]
    go_simp
    try with_reducible rfl
  try simp only [Act.put, List.setIfInBounds_toArray, List.set_cons_zero, List.set_cons_succ, List.getElem_toArray, List.getElem_cons_zero, List.getElem_cons_succ]
  refine wpAnyH_done (by kernel_rfl) ?_ _
  obtain ⟨L, hL⟩ : ∃ L, N.wait = L := ⟨_, rfl⟩
  have HLE := Lib.hid hL
  rw [hL] at HT hl q1 c0 hh ⊢
  clear hL hW
  go_wp2_with fail
  go_loopw [6] (fun vi wr => ∃ i : Nat, vi = .int .i64 i ∧ i ≤ L.length ∧ Below w.heap.size w wr ∧ Hid (0 < L.length → TellAt wr gl L i)) (fun vi _ => L.length - (intOf vi).toNat)
  case atStart => exact ⟨0, rfl, Nat.zero_le _, HB1.out.drew, Lib.hid (fun h => (HT.out h).2.2)⟩
  case round =>
    obtain ⟨i, rfl, hiL, hb, HTA⟩ := hrel
    have hzr := hb.size
    have HRN := Lib.hid (HR.out.below hb)
    have HB := Lib.hid hb
    clear hb
    rcases Nat.lt_or_ge i L.length with hlt | hge
    · have hlt' : (i : Int) < (L.length : Int) := by omega
      obtain ⟨rfl, hgB, _⟩ := HT.out (by omega)
      obtain ⟨cur, hch, hcc⟩ := HTA.out (by omega)
      obtain ⟨t0, t1, t2, t3⟩ := hcc i hlt (Nat.le_refl _)
      have hgl := lt_of_block hch
      obtain ⟨xv, xf, x0, x1, x2, x3, x4, xz, xh, xS, xG, xW, xff⟩ := HRN.out.cells
      rw [HLE.out] at xW
      obtain ⟨g, cap, bv, hv, r1, r2, p0, p1, p2, p3, hown, _⟩ := xW.out.atPk i hlt
      subst hv
      have hm2 : (cap : Int) ≤ 9223372036854775807 := by unfold maxLen at r2; omega
      obtain ⟨pk, hpk⟩ : ∃ pk, L[i] = pk := ⟨_, rfl⟩
      rw [hpk] at p0 p1 p2 hown t0 t1 t2 t3
      obtain ⟨bp, bc, hbv, -, -⟩ := hown.has.form
      subst hbv
      have s0 : wr.cell? ⟨gl, i * 4, none⟩ = some (.int .i64 (pk.id : Int)) := by simp [World.cell?, hch, t0]
      have s1 : wr.cell? ⟨gl, i * 4 + 1, none⟩ = some (.int .i64 pk.fr) := by simp [World.cell?, hch, t1]
      have s2 : wr.cell? ⟨gl, i * 4 + 2, none⟩ = some (.int .i64 pk.to) := by simp [World.cell?, hch, t2]
      have s3 : wr.cell? ⟨gl, i * 4 + 3, none⟩ = some (.int .i64 (pk.data.length : Int)) := by simp [World.cell?, hch, t3]
      have sf : ∀ j, wr.frozen? ⟨gl, j, none⟩ = false := fun j => by simp [World.frozen?, hch]
      have HCH := Lib.hid hch
      have HCC := Lib.hid hcc
      clear hown hpk r2 hch hcc t0 t1 t2 t3 x1 x2 x3 x4 xz xff xG xS xh xW
      go_upto_region 8 with fail
      have hba := (Below.refl wr.heap.size wr).alloc (Nat.le_refl _) (.cells #[.int .i64 (pk.id : Int), .int .i64 pk.fr, .int .i64 pk.to, .slice bp pk.data.length bc] 49)
      have hA := heap_alloc_new wr (.cells #[.int .i64 (pk.id : Int), .int .i64 pk.fr, .int .i64 pk.to, .slice bp pk.data.length bc] 49)
      have HCH2 := Lib.hid ((hba.block gl hgl).trans HCH.out)
      have s0 := (hba.cell (p := ⟨gl, i * 4, none⟩) hgl).trans s0
      have s1 := (hba.cell (p := ⟨gl, i * 4 + 1, none⟩) hgl).trans s1
      have s2 := (hba.cell (p := ⟨gl, i * 4 + 2, none⟩) hgl).trans s2
      have s3 := (hba.cell (p := ⟨gl, i * 4 + 3, none⟩) hgl).trans s3
      have sf : ∀ j, (wr.alloc (.cells #[.int .i64 (pk.id : Int), .int .i64 pk.fr, .int .i64 pk.to, .slice bp pk.data.length bc] 49)).frozen? ⟨gl, j, none⟩ = false := fun j => by simp [World.frozen?, HCH2.out]
      have a0 : (wr.alloc (.cells #[.int .i64 (pk.id : Int), .int .i64 pk.fr, .int .i64 pk.to, .slice bp pk.data.length bc] 49)).cell? ⟨wr.heap.size, 0, none⟩ = some (.int .i64 (pk.id : Int)) := by unfold World.cell?; rw [hA]; rfl
      have a1 : (wr.alloc (.cells #[.int .i64 (pk.id : Int), .int .i64 pk.fr, .int .i64 pk.to, .slice bp pk.data.length bc] 49)).cell? ⟨wr.heap.size, 1, none⟩ = some (.int .i64 pk.fr) := by unfold World.cell?; rw [hA]; rfl
      have a2 : (wr.alloc (.cells #[.int .i64 (pk.id : Int), .int .i64 pk.fr, .int .i64 pk.to, .slice bp pk.data.length bc] 49)).cell? ⟨wr.heap.size, 2, none⟩ = some (.int .i64 pk.to) := by unfold World.cell?; rw [hA]; rfl
      have a3 : (wr.alloc (.cells #[.int .i64 (pk.id : Int), .int .i64 pk.fr, .int .i64 pk.to, .slice bp pk.data.length bc] 49)).cell? ⟨wr.heap.size, 3, none⟩ = some (.slice bp pk.data.length bc) := by unfold World.cell?; rw [hA]; rfl
      generalize wr.alloc (.cells #[.int .i64 (pk.id : Int), .int .i64 pk.fr, .int .i64 pk.to, .slice bp pk.data.length bc] 49) = w3 at *
      have HBA := Lib.hid (HB.out.trans (hba.mono hzr))
      clear hba hA
      refine wp_region_held_drew (S := fun w' => w' = w3.drew) (by kernel_rfl) rfl (fun hHeld => ?_)
      refine wpAnyH_take (i := 0) (oi := _) (v := ?_) rfl (by kernel_rfl) (by kernel_rfl) (by kernel_rfl) (fun _ _ _ h => h) (Or.inl ⟨by rfl, ?hy25⟩) (by assumption) ?_
      case hy25 =>
        intro w9 hSw
        try dsimp only at hSw
        try simp only [List.getElem_toArray, List.getElem_cons_zero, List.getElem_cons_succ]
        go_simp
        try with_reducible rfl
      try simp only [Act.put, List.setIfInBounds_toArray, List.set_cons_zero, List.set_cons_succ, List.getElem_toArray, List.getElem_cons_zero, List.getElem_cons_succ]
      refine wpAnyH_take (i := 1) (oi := _) (v := ?_) rfl (by kernel_rfl) (by kernel_rfl) (by kernel_rfl) (fun _ _ _ h => h) (Or.inl ⟨by rfl, ?hy26⟩) (by assumption) ?_
      case hy26 =>
        intro w9 hSw
        try dsimp only at hSw
        try simp only [List.getElem_toArray, List.getElem_cons_zero, List.getElem_cons_succ]
        go_simp
        try with_reducible rfl
      try simp only [Act.put, List.setIfInBounds_toArray, List.set_cons_zero, List.set_cons_succ, List.getElem_toArray, List.getElem_cons_zero, List.getElem_cons_succ]
      refine wpAnyH_take (i := 2) (oi := _) (v := ?_) rfl (by kernel_rfl) (by kernel_rfl) (by kernel_rfl) (fun _ _ _ h => h) (Or.inl ⟨by rfl, ?hy27⟩) (by assumption) ?_
      case hy27 =>
        intro w9 hSw
        try dsimp only at hSw
        try simp only [List.getElem_toArray, List.getElem_cons_zero, List.getElem_cons_succ]
        go_simp
        try with_reducible rfl
      try simp only [Act.put, List.setIfInBounds_toArray, List.set_cons_zero, List.set_cons_succ, List.getElem_toArray, List.getElem_cons_zero, List.getElem_cons_succ]
      refine wpAnyH_take (i := 3) (oi := _) (v := ?_) rfl (by kernel_rfl) (by kernel_rfl) (by kernel_rfl) (fun _ _ _ h => h) (Or.inl ⟨by rfl, ?hy28⟩) (by assumption) ?_
      case hy28 =>
        intro w9 hSw
        try dsimp only at hSw
        try simp only [List.getElem_toArray, List.getElem_cons_zero, List.getElem_cons_succ]
        go_simp
        try with_reducible rfl
      try simp only [Act.put, List.setIfInBounds_toArray, List.set_cons_zero, List.set_cons_succ, List.getElem_toArray, List.getElem_cons_zero, List.getElem_cons_succ]
      refine wpAnyH_take (i := 4) (oi := _) (v := ?_) rfl (by kernel_rfl) (by kernel_rfl) (by kernel_rfl) (fun _ _ _ h => h) (Or.inl ⟨by rfl, ?hy29⟩) (by assumption) ?_
      case hy29 =>
        intro w9 hSw
        try dsimp only at hSw
        try simp only [List.getElem_toArray, List.getElem_cons_zero, List.getElem_cons_succ]
        go_simp
        try with_reducible rfl
      try simp only [Act.put, List.setIfInBounds_toArray, List.set_cons_zero, List.set_cons_succ, List.getElem_toArray, List.getElem_cons_zero, List.getElem_cons_succ]
      refine wpAnyH_take (i := 5) (oi := _) (v := ?_) rfl (by kernel_rfl) (by kernel_rfl) (by kernel_rfl) (fun _ _ _ h => h) (Or.inl ⟨by rfl, ?hy30⟩) (by assumption) ?_
      case hy30 =>
        intro w9 hSw
        try dsimp only at hSw
        try simp only [List.getElem_toArray, List.getElem_cons_zero, List.getElem_cons_succ]
        go_simp
        try with_reducible rfl
      try simp only [Act.put, List.setIfInBounds_toArray, List.set_cons_zero, List.set_cons_succ, List.getElem_toArray, List.getElem_cons_zero, List.getElem_cons_succ]
      refine wpAnyH_take (i := 6) (oi := _) (v := ?_) rfl (by kernel_rfl) (by kernel_rfl) (by kernel_rfl) (fun _ _ _ h => h) (Or.inl ⟨by rfl, ?hy31⟩) (by assumption) ?_
      case hy31 =>
        intro w9 hSw
        try dsimp only at hSw
        try simp only [List.getElem_toArray, List.getElem_cons_zero, List.getElem_cons_succ]
        go_simp
        try with_reducible rfl
      try simp only [Act.put, List.setIfInBounds_toArray, List.set_cons_zero, List.set_cons_succ, List.getElem_toArray, List.getElem_cons_zero, List.getElem_cons_succ]
      refine wpAnyH_take (i := 7) (oi := _) (v := ?_) rfl (by kernel_rfl) (by kernel_rfl) (by kernel_rfl) (fun _ _ _ h => h) (Or.inl ⟨by rfl, ?hy32⟩) (by assumption) ?_
      case hy32 =>
        intro w9 hSw
        try dsimp only at hSw
        try simp only [List.getElem_toArray, List.getElem_cons_zero, List.getElem_cons_succ]
        go_simp
        try with_reducible rfl
      try simp only [Act.put, List.setIfInBounds_toArray, List.set_cons_zero, List.set_cons_succ, List.getElem_toArray, List.getElem_cons_zero, List.getElem_cons_succ]
      refine wpAnyH_take (i := 8) (oi := _) (v := ?_) rfl (by kernel_rfl) (by kernel_rfl) (by kernel_rfl) (fun _ _ _ h => h) (Or.inl ⟨by rfl, ?hy33⟩) (by assumption) ?_
      case hy33 =>
        intro w9 hSw
        try dsimp only at hSw
        try simp only [List.getElem_toArray, List.getElem_cons_zero, List.getElem_cons_succ]
        go_simp
        try with_reducible rfl
      try simp only [Act.put, List.setIfInBounds_toArray, List.set_cons_zero, List.set_cons_succ, List.getElem_toArray, List.getElem_cons_zero, List.getElem_cons_succ]
      refine wpAnyH_take (i := 9) (oi := _) (v := ?_) rfl (by kernel_rfl) (by kernel_rfl) (by kernel_rfl) (fun _ _ _ h => h) (Or.inl ⟨by rfl, ?hy34⟩) (by assumption) ?_
      case hy34 =>
        intro w9 hSw
        try dsimp only at hSw
        try simp only [List.getElem_toArray, List.getElem_cons_zero, List.getElem_cons_succ]
        go_simp
        try with_reducible rfl
      try simp only [Act.put, List.setIfInBounds_toArray, List.set_cons_zero, List.set_cons_succ, List.getElem_toArray, List.getElem_cons_zero, List.getElem_cons_succ]
      refine wpAnyH_take (i := 10) (oi := _) (v := ?_) rfl (by kernel_rfl) (by kernel_rfl) (by kernel_rfl) (fun _ _ _ h => h) (Or.inl ⟨by rfl, ?hy35⟩) (by assumption) ?_
      case hy35 =>
        intro w9 hSw
        try dsimp only at hSw
        try simp only [List.getElem_toArray, List.getElem_cons_zero, List.getElem_cons_succ]
        go_simp
        try with_reducible rfl
      try simp only [Act.put, List.setIfInBounds_toArray, List.set_cons_zero, List.set_cons_succ, List.getElem_toArray, List.getElem_cons_zero, List.getElem_cons_succ]
      refine wpAnyH_take (i := 11) (oi := _) (v := ?_) rfl (by kernel_rfl) (by kernel_rfl) (by kernel_rfl) (fun _ _ _ h => h) (Or.inl ⟨by rfl, ?hy36⟩) (by assumption) ?_
      case hy36 =>
        intro w9 hSw
        try dsimp only at hSw
        try simp only [List.getElem_toArray, List.getElem_cons_zero, List.getElem_cons_succ]
        go_simp
        try with_reducible rfl
      try simp only [Act.put, List.setIfInBounds_toArray, List.set_cons_zero, List.set_cons_succ, List.getElem_toArray, List.getElem_cons_zero, List.getElem_cons_succ]
      refine wpAnyH_take (i := 12) (oi := _) (v := ?_) rfl (by kernel_rfl) (by kernel_rfl) (by kernel_rfl) (fun _ _ _ h => h) (Or.inl ⟨by rfl, ?hy37⟩) (by assumption) ?_
      case hy37 =>
        intro w9 hSw
        try dsimp only at hSw
        try simp only [List.getElem_toArray, List.getElem_cons_zero, List.getElem_cons_succ]
        go_simp
        try with_reducible rfl
      try simp only [Act.put, List.setIfInBounds_toArray, List.set_cons_zero, List.set_cons_succ, List.getElem_toArray, List.getElem_cons_zero, List.getElem_cons_succ]
      refine wpAnyH_take (i := 13) (oi := _) (v := ?_) rfl (by kernel_rfl) (by kernel_rfl) (by kernel_rfl) (fun _ _ _ h => h) (Or.inl ⟨by rfl, ?hy38⟩) (by assumption) ?_
      case hy38 =>
        intro w9 hSw
        try dsimp only at hSw
        try simp only [List.getElem_toArray, List.getElem_cons_zero, List.getElem_cons_succ]
        go_simp
        try with_reducible rfl
      try simp only [Act.put, List.setIfInBounds_toArray, List.set_cons_zero, List.set_cons_succ, List.getElem_toArray, List.getElem_cons_zero, List.getElem_cons_succ]
      refine wpAnyH_take (i := 14) (oi := _) (v := ?_) rfl (by kernel_rfl) (by kernel_rfl) (by kernel_rfl) (fun _ _ _ h => h) (Or.inl ⟨by rfl, ?hy39⟩) (by assumption) ?_
      case hy39 =>
        intro w9 hSw
        try dsimp only at hSw
        try simp only [List.getElem_toArray, List.getElem_cons_zero, List.getElem_cons_succ]
        go_simp
        try with_reducible rfl
      try simp only [Act.put, List.setIfInBounds_toArray, List.set_cons_zero, List.set_cons_succ, List.getElem_toArray, List.getElem_cons_zero, List.getElem_cons_succ]
      refine wpAnyH_done (by kernel_rfl) ?_ _
      go_wp2
      go_roundw
      case rel => exact ⟨i + 1, by go_num, hlt, (HBA.out.setCell hgB _).drew, Lib.hid (fun _ => ⟨_, heap_setCell_same _ _ _ _ _ _ HCH2.out, fun k hk hik => by
        obtain ⟨b0, b1, b2, b3⟩ := HCC.out k hk (by omega)
        rw [Array.getElem?_setIfInBounds_ne (by omega), Array.getElem?_setIfInBounds_ne (by omega), Array.getElem?_setIfInBounds_ne (by omega), Array.getElem?_setIfInBounds_ne (by omega)]
        exact ⟨b0, b1, b2, b3⟩⟩)⟩
      case measure => simp [intOf]; omega
    · have hge' : ¬ (i : Int) < (L.length : Int) := by omega
      go_wp2
      go_ret
      exact ⟨rfl, HB.out⟩
end Go.Proofs.Ytaopnoaopcbkoaa
