/-
  Package merge: the function that Walk gives, ranged over.
-/
import Derived.Test.YtfdafoibclfpgaaMMerge
import Derived.RangeFuncNested
import Derived.RangeFuncBound
import Derived.RangeFuncCalls
import Derived.RangeFuncLeaves
import Derived.RangeFuncFrom
import Derived.RangeFuncBox
import Derived.Shelf.Abstract
import Derived.Shelf.RegionOpen
import Derived.OwnWalkIn
import Derived.TacticsInMore
import Derived.LoopNIn
import Derived.LoopIn
namespace Go.Proofs.Ytfdafoibclfpgaa
open Go.ChangeShapes Go.WideShapes Go.ChangeAt Go.RowKit Go.Deep Go.Shelf
set_option linter.unusedVariables false
set_option linter.unusedSimpArgs false
attribute [local go_sem] Oper.semAt_some
/-- A row of items whose block lies below n₀, if it has any. -/
def RowB (n₀ : Nat) (W : World) (v : Value) (m : List Itm) : Prop :=
  ∃ p cap b o, v = .slice p m.length cap ∧ m.length ≤ cap ∧ cap ≤ maxLen ∧ (0 < m.length → p = some ⟨b, o, none⟩ ∧ b < n₀ ∧ b < W.heap.size) ∧ ∀ i (h : i < m.length), ItC W b (o + i * 4) m[i]
theorem RowB.of {W : World} {v : Value} {m : List Itm} (h : HasK W encI v m) : RowB W.heap.size W v m := by
  obtain ⟨p, cap, b, o, hv, h1, h2, h3, h4⟩ := h
  exact ⟨p, cap, b, o, hv, h1, h2, fun h0 => ⟨(h3 h0).1, (h3 h0).2, (h3 h0).2⟩, fun i hi => HasK.itAt h4 i hi⟩
theorem ItC.to {n₀ : Nat} {W W' : World} {b o : Nat} {x : Itm} (h : ItC W b o x) (hb : b < n₀) (hB : Below n₀ W W') : ItC W' b o x :=
  ⟨(hB.cell (p := ⟨b, o, none⟩) hb).trans h.1, (hB.cell (p := ⟨b, o + 1, none⟩) hb).trans h.2.1, (hB.cell (p := ⟨b, o + 2, none⟩) hb).trans h.2.2.1, (hB.cell (p := ⟨b, o + 3, none⟩) hb).trans h.2.2.2⟩
theorem RowB.below {n₀ : Nat} {W W' : World} {v : Value} {m : List Itm} (h : RowB n₀ W v m) (hB : Below n₀ W W') : RowB n₀ W' v m := by
  obtain ⟨p, cap, b, o, hv, h1, h2, h3, h4⟩ := h
  refine ⟨p, cap, b, o, hv, h1, h2, fun h0 => ⟨(h3 h0).1, (h3 h0).2.1, Nat.lt_of_lt_of_le (h3 h0).2.2 hB.size⟩, fun i hi => (h4 i hi).to (h3 (by omega)).2.1 hB⟩
set_option maxRecDepth 100000 in
set_option maxHeartbeats 4000000 in
theorem Walk1_in (F : Fence) (n : Nat) (hf : F.fn 25) (hro : F.round = none) (hn : 1 ≤ n) (l Bs n₀ : Nat) (sv : Value) (m : List Itm) (J Jx : List Itm → World → Prop)
    (A : Nat) (hJ : AbidesFrom A J)
    (hY : ∀ pre x W, J pre W → pre.length < m.length → YieldAt F (n - 1) Try.prog l #[x.v] W fun e W' =>
      (e = .returned (.bool true) ∧ J (pre ++ [x]) W' ∧ Below n₀ W W') ∨ (e = .returned (.bool false) ∧ Jx (pre ++ [x]) W'))
    (W : World) (hBs : W.cell? ⟨Bs, 0, none⟩ = some sv) (hs : RowB n₀ W sv m) (h0 : J [] W) (hsz : n₀ ≤ W.heap.size) :
    CallsIn F n Try.prog 25 #[.func (.yield l) #[] #[], .pointer (some ⟨Bs, 0, none⟩)] W fun e W' => (∃ v, e = .returned v) ∧
      ((∃ ys, ys = m ∧ J ys W') ∨ (∃ pre, pre <+: m ∧ Jx pre W')) := by
  obtain ⟨p, cap, b, o, rfl, h1, h2, h3, hc⟩ := hs
  obtain ⟨N, hN⟩ : ∃ N, m.length = N := ⟨_, rfl⟩
  have HN := Lib.hid hN
  have HC := Lib.hid hc
  have H3 := Lib.hid h3
  have hcI : (cap : Int) ≤ 9223372036854775807 := by unfold maxLen at h2; omega
  rw [hN] at h1 hY hBs
  have HNB : N ≤ 9223372036854775807 := by omega
  clear hN hc h3 h2
  refine callsIn_of_wp Try.func25 rfl hf ?_ hro
  simp only [Try.ntmps25, List.size_toArray, List.length_cons, List.length_nil, Nat.reduceAdd, Nat.reduceSub, Array.replicate_succ, Array.replicate_zero, List.push_toArray, List.append_toArray, List.nil_append, List.cons_append]
  gi_wp2
  gi_loopw [7] (fun i wr => ∃ k : Nat, k ≤ N ∧ i = .int .i64 k ∧ J (m.take k) wr ∧ Below n₀ W wr) (fun i _ => N - (intOf i).toNat)
  case atStart => exact ⟨0, Nat.zero_le _, rfl, h0, Below.refl _ _⟩
  case round =>
    obtain ⟨k, hk, rfl, hJs, hnx⟩ := hrel
    rcases Nat.lt_or_ge k N with hlt | hge
    · have hkm : k < m.length := by rw [HN.out]; exact hlt
      obtain ⟨rfl, hb, hbl⟩ := H3.out (by omega)
      have hx := (HC.out k hkm).to hb hnx
      have hta : m.take k ++ [m[k]] = m.take (k + 1) := (List.take_succ_eq_append_getElem hkm).symm
      obtain ⟨x, hxe⟩ : ∃ x, m[k] = x := ⟨_, rfl⟩
      rw [hxe] at hx hta
      have hszr : n₀ ≤ wr.heap.size := Nat.le_trans hsz hnx.size
      have hJa : J (m.take k) (wr.alloc (.cells #[.string x.key, .int .u64 (x.seq : Int), .bool x.gone, .string x.val] 29)) := hJ _ _ _ _ hJs (World.grownBy_alloc _ _ none) (fun r e => by cases e)
      have hnxa : Below n₀ W (wr.alloc (.cells #[.string x.key, .int .u64 (x.seq : Int), .bool x.gone, .string x.val] 29)) := hnx.alloc hszr _
      obtain ⟨fn, tmps, assign, body, hy, hR⟩ := hY _ x _ hJa (by rw [List.length_take, HN.out]; omega)
      unfold Itm.v at hy
      rw [hta] at hR
      obtain ⟨c0, c1, c2, c3⟩ := hx
      have hkI : (k : Int) < (N : Int) := by omega
      clear hJs hta hxe hkm
      gi_wp2
      refine hR.mono ?_
      rintro e W3 (⟨rfl, hJ3, hk3⟩ | ⟨rfl, hJx3⟩)
      · have hB3 := hnxa.trans hk3
        gi_wp2
        go_roundw
        case rel => exact ⟨k + 1, by omega, by simp, hJ3, hB3⟩
        case measure => simp [intOf] <;> omega
      · gi_wp2
        refine bodyPost_ret (results_none rfl _ _ _) rfl ?_
        exact ⟨⟨_, rfl⟩, .inr ⟨_, List.take_prefix _ _, hJx3⟩⟩
    · obtain rfl : k = N := by omega
      gi_wp2
      go_end0
      exact ⟨⟨_, rfl⟩, .inl ⟨m, rfl, by have e : m.take k = m := List.take_of_length_le (by rw [HN.out]; exact Nat.le_refl _); rw [e] at hJs; exact hJs⟩⟩
theorem walk_stops (F : Fence) (n : Nat) (hf : F.fn 25) (hro : F.round = none) (hn : 1 ≤ n) (Bs n₀ : Nat) (sv : Value) (m : List Itm) (w : World) (hBs : Bs < w.heap.size) (hn₀ : n₀ ≤ w.heap.size) (hc : w.cell? ⟨Bs, 0, none⟩ = some sv) (hI : RowB n₀ w sv m) :
    SeqStopsK F n Try.prog 25 #[.pointer (some ⟨Bs, 0, none⟩)] (fun x : Itm => #[x.v]) (Below n₀) (fun ys => ys = m) (fun pre => pre <+: m) m.length w := fun l J Jx W hW hJ hJx hY h0 => by
  have hc' := (hW.cell (p := ⟨Bs, 0, none⟩) hBs).trans hc
  exact Walk1_in F n hf hro hn l Bs n₀ sv m J Jx W.heap.size hJ hY W hc' (hI.below (hW.mono hn₀)) h0 (Nat.le_trans hn₀ hW.size)
end Go.Proofs.Ytfdafoibclfpgaa
