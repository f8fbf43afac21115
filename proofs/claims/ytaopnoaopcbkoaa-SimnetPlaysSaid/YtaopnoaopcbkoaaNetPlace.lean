/-
  Package simnet: where a packet lies (slices.BinarySearchFunc, cmp.Compare).
-/
import Derived.Test.YtaopnoaopcbkoaaNetRand
namespace Go.Proofs.Ytaopnoaopcbkoaa
open Go.ChangeShapes Go.WideShapes Go.ChangeAt Go.RowKit Go.Deep
set_option linter.unusedVariables false
set_option linter.unusedSimpArgs false

/-- What waits, read where it lies. -/
def Reads (w : World) (v : Value) (L : List Pk) : Prop :=
  ∃ p cap g, v = .slice p L.length cap ∧ L.length ≤ cap ∧ cap ≤ maxLen ∧ (0 < L.length → p = some ⟨g, 0, none⟩ ∧ g < w.heap.size) ∧ ∀ i (h : i < L.length), ∃ bv, w.cell? ⟨g, i * 4, none⟩ = some (.int .i64 (L[i].id : Int)) ∧ w.cell? ⟨g, i * 4 + 1, none⟩ = some (.int .i64 L[i].fr) ∧ w.cell? ⟨g, i * 4 + 2, none⟩ = some (.int .i64 L[i].to) ∧ w.cell? ⟨g, i * 4 + 3, none⟩ = some bv ∧ HasA w bv L[i].data
theorem WRow.reads {w : World} {B : Nat} {v : Value} {L : List Pk} {F : Nat → Prop} (h : WRow w B v L F) : Reads w v L := by
  obtain ⟨Ps, e, hr, _, hp⟩ := h
  have hPl : Ps.length = L.length := by rw [← e]; simp
  have hcell := fun {g cap : Nat} (hv : v = .slice (some ⟨g, 0, none⟩) L.length cap) (j : Nat) (hj : j < L.length * 4) => World.ownsRow.cellAt (hv ▸ hr : w.ownsRow B 72 4 (.slice (some ⟨g, 0, none⟩) L.length cap) L.length (rowOf Ps)) j hj
  rcases hr.2 with ⟨hv, hn⟩ | ⟨g, cap, cur, hv, hg, hh, k1, k2, _⟩
  · exact ⟨none, 0, 0, by rw [hv, hn], by omega, Nat.zero_le _, fun h => by omega, fun i hi => by omega⟩
  · refine ⟨_, cap, g, hv, k1, k2, fun _ => ⟨rfl, lt_of_block hh⟩, fun i hi => ?_⟩
    have hL : L[i] = (Ps[i]'(by omega)).1 := by subst e; simp
    have c := fun (j : Nat) (hj : j < 4) => (hcell hv (i * 4 + j) (by omega)).trans (rowOf_get Ps i (by omega) j hj)
    refine ⟨(Ps[i]'(by omega)).2, ?_, ?_, ?_, ?_, ?_⟩
    · have := c 0 (by omega); rw [hL]; simpa [pkCells] using this
    · have := c 1 (by omega); rw [hL]; simpa [pkCells] using this
    · have := c 2 (by omega); rw [hL]; simpa [pkCells] using this
    · have := c 3 (by omega); simpa [pkCells] using this
    · rw [hL]; exact (hp _ (List.getElem_mem _)).1.has.wide
theorem Reads.below {w w' : World} {v : Value} {L : List Pk} (h : Reads w v L) (hb : Below w.heap.size w w') : Reads w' v L := by
  obtain ⟨p, cap, g, hv, k1, k2, k3, k4⟩ := h
  refine ⟨p, cap, g, hv, k1, k2, fun h => ⟨(k3 h).1, Nat.lt_of_lt_of_le (k3 h).2 hb.size⟩, fun i hi => ?_⟩
  obtain ⟨bv, c0, c1, c2, c3, hA⟩ := k4 i hi
  have hg := (k3 (by omega)).2
  exact ⟨bv, (hb.cell (p := ⟨g, i * 4, none⟩) hg).trans c0, (hb.cell (p := ⟨g, i * 4 + 1, none⟩) hg).trans c1, (hb.cell (p := ⟨g, i * 4 + 2, none⟩) hg).trans c2, (hb.cell (p := ⟨g, i * 4 + 3, none⟩) hg).trans c3, hA.below hb⟩

/-- Found, or not there. -/
def Found (L : List Pk) (t : Int) (i : Nat) (f : Bool) : Prop := (f = true ∧ ∃ h : i < L.length, (L[i].id : Int) = t) ∨ (f = false ∧ ∀ p ∈ L, (p.id : Int) ≠ t)
def FoundE (L : List Pk) (t : Int) (e : Ending) : Prop := ∃ (i : Nat) (f : Bool), e = .returned (.tuple #[.int .i64 i, .bool f]) ∧ Found L t i f
def cmpV (a b : Int) : Int := if a < b then -1 else if b < a then 1 else 0
set_option maxRecDepth 100000 in
set_option maxHeartbeats 2000000 in
theorem Compare_any (a b : Int) (w : World) : Calls Try.prog 29 #[.int .i64 a, .int .i64 b] w fun e w' => e = .returned (.int .i64 (cmpV a b)) ∧ w' = w := by
  by_cases h1 : a < b
  · have HC : Hid (cmpV a b = -1) := Lib.hid (by unfold cmpV; rw [if_pos h1])
    go_enter Try.func29, Try.ntmps29
    go_wp2
    go_ret
    exact ⟨by rw [HC.out]; rfl, rfl⟩
  · by_cases h2 : b < a
    · have HC : Hid (cmpV a b = 1) := Lib.hid (by unfold cmpV; rw [if_neg h1, if_pos h2])
      go_enter Try.func29, Try.ntmps29
      go_wp2
      go_ret
      exact ⟨by rw [HC.out]; rfl, rfl⟩
    · have HC : Hid (cmpV a b = 0) := Lib.hid (by unfold cmpV; rw [if_neg h1, if_neg h2])
      go_enter Try.func29, Try.ntmps29
      go_wp2
      go_ret
      exact ⟨by rw [HC.out]; rfl, rfl⟩
set_option maxRecDepth 100000 in
set_option maxHeartbeats 2000000 in
theorem clos_any (a f t : Int) (bv : Value) (b : Int) (w : World) : Calls Try.prog 28 #[.agg #[.int .i64 a, .int .i64 f, .int .i64 t, bv], .int .i64 b] w fun e w' => e = .returned (.int .i64 (cmpV a b)) ∧ Below w.heap.size w w' := by
  have hb : ∀ o, Below w.heap.size w (w.alloc o) := fun o => (Below.refl w.heap.size w).alloc (Nat.le_refl _) o
  go_enter Try.func28, Try.ntmps28
  go_wp2_with fail
  refine (Compare_any a b _).mono ?_
  rintro e w1 ⟨rfl, rfl⟩
  go_wp2
  go_ret
  exact ⟨rfl, hb _⟩
set_option maxRecDepth 100000 in
set_option maxHeartbeats 4000000 in
theorem bsearch_any (v : Value) (L : List Pk) (t : Int) (w : World) (hr : Reads w v L) (hl : L.length ≤ 1099511627776) (hs : L.Pairwise (fun a b => a.id < b.id)) :
    Calls Try.prog 27 #[v, .int .i64 t, .func (.func 28) #[] #[]] w fun e w' => Below w.heap.size w w' ∧ FoundE L t e := by
  have HRR := Lib.hid hr
  obtain ⟨p, cap, g, rfl, k1, k2, k3, k4⟩ := hr
  have hm : (cap : Int) ≤ 9223372036854775807 := by unfold maxLen at k2; omega
  have HM := Lib.hid k2
  have HS := Lib.hid hs
  clear k2 k3 k4 hs
  go_enter Try.func27, Try.ntmps27
  go_wp2_with fail
  go_loopw [9, 10] (fun vi vj wr => ∃ (i j : Nat), vi = .int .i64 i ∧ vj = .int .i64 j ∧ i ≤ j ∧ j ≤ L.length ∧ Hid (∀ k (h : k < L.length), k < i → (L[k].id : Int) < t) ∧ Hid (∀ k (h : k < L.length), j ≤ k → t ≤ (L[k].id : Int)) ∧ Below w.heap.size w wr) (fun vi vj _ => (intOf vj).toNat - (intOf vi).toNat)
  case atStart => exact ⟨0, L.length, rfl, rfl, Nat.zero_le _, Nat.le_refl _, Lib.hid (fun k h h' => absurd h' (Nat.not_lt_zero _)), Lib.hid (fun k h h' => by omega), Below.refl _ _⟩
  case round =>
    obtain ⟨i, j, rfl, rfl, hij, hjn, HA, HB, hb⟩ := hrel
    have hzr := hb.size
    have HW := Lib.hid hb
    have HR := Lib.hid (HRR.out.below hb)
    clear hb
    rcases Nat.lt_or_ge i j with hlt | hge
    · have hlt' : (i : Int) < (j : Int) := by omega
      obtain ⟨h, hh⟩ : ∃ h, (i + j) / 2 = h := ⟨_, rfl⟩
      have hh1 : ((i : Int) + (j : Int)) / 2 = (h : Int) := by omega
      have hhn : h < L.length := by omega
      have hhi : (h : Int) < (L.length : Int) := by omega
      have hw1 : IntKind.u64.wrap ((i : Int) + (j : Int)) = (i : Int) + (j : Int) := by rw [IntKind.wrap_u64]; omega
      obtain ⟨p', cap', g', hv, _, _, k3, k4⟩ := HR.out
      simp only [Value.slice.injEq, true_and] at hv
      obtain ⟨rfl, rfl⟩ := hv
      obtain ⟨rfl, _⟩ := k3 (by omega)
      obtain ⟨bv, c0, c1, c2, c3, _⟩ := k4 h hhn
      have HH := Lib.hid (show i ≤ h ∧ h < j by omega)
      obtain ⟨m, hm1⟩ : ∃ m, (L[h].id : Int) = m := ⟨_, rfl⟩
      rw [hm1] at c0
      have HMM := Lib.hid hm1
      clear k3 k4 hh hm1
      by_cases hc : m < t
      · have HV : Hid (cmpV m t = -1) := Lib.hid (by unfold cmpV; rw [if_pos hc])
        go_wp2_with fail
        refine (clos_any m _ _ bv t wr).mono ?_
        rintro e w1 ⟨rfl, hb1⟩
        rw [HV.out]
        have HB1 := Lib.hid (HW.out.trans (hb1.mono hzr))
        clear hb1
        go_wp2
        go_roundw
        case rel => exact ⟨h + 1, j, by go_num, rfl, by have := HH.out; omega, hjn, Lib.hid (fun k hk hlt => by
          by_cases hkh : k = h
          · subst hkh; rw [HMM.out]; exact hc
          · have h1 := List.pairwise_iff_getElem.1 HS.out k h hk hhn (by omega)
            have := HMM.out
            omega), HB, HB1.out⟩
        case measure => simp [intOf]; have := HH.out; omega
      · have HV : Hid (0 ≤ cmpV m t) := Lib.hid (by unfold cmpV; rw [if_neg hc]; split <;> omega)
        obtain ⟨q, hq⟩ : ∃ q, cmpV m t = q := ⟨_, rfl⟩
        have hq0 : ¬ q < 0 := by have := HV.out; omega
        go_wp2_with fail
        refine (clos_any m _ _ bv t wr).mono ?_
        rintro e w1 ⟨rfl, hb1⟩
        rw [hq]
        have HB1 := Lib.hid (HW.out.trans (hb1.mono hzr))
        clear hb1 hq
        go_wp2
        go_roundw
        case rel => exact ⟨i, h, rfl, rfl, by have := HH.out; omega, by omega, HA, Lib.hid (fun k hk hle => by
          by_cases hkh : k = h
          · subst hkh; rw [HMM.out]; omega
          · have h1 := List.pairwise_iff_getElem.1 HS.out h k hhn hk (by omega)
            have := HMM.out
            omega), HB1.out⟩
        case measure => simp [intOf]; have := HH.out; omega
    · have hge' : ¬ (i : Int) < (j : Int) := by omega
      obtain rfl : i = j := by omega
      rcases Nat.lt_or_ge i L.length with hin | hin
      · have hin' : (i : Int) < (L.length : Int) := by omega
        obtain ⟨p', cap', g', hv, _, _, k3, k4⟩ := HR.out
        simp only [Value.slice.injEq, true_and] at hv
        obtain ⟨rfl, rfl⟩ := hv
        obtain ⟨rfl, _⟩ := k3 (by omega)
        obtain ⟨bv, c0, c1, c2, c3, _⟩ := k4 i hin
        obtain ⟨m, hm1⟩ : ∃ m, (L[i].id : Int) = m := ⟨_, rfl⟩
        rw [hm1] at c0
        have HMM := Lib.hid hm1
        clear k3 k4 hm1
        by_cases hc : m = t
        · have HV : Hid (cmpV m t = 0) := Lib.hid (by unfold cmpV; rw [if_neg (by omega), if_neg (by omega)])
          have HCC := Lib.hid hc
          clear hc
          go_wp2_with fail
          refine (clos_any m _ _ bv t wr).mono ?_
          rintro e w1 ⟨rfl, hb1⟩
          rw [HV.out]
          have HB1 := Lib.hid (HW.out.trans (hb1.mono hzr))
          clear hb1
          go_wp2
          go_ret2
          exact ⟨HB1.out, i, true, rfl, .inl ⟨rfl, hin, by rw [HMM.out]; exact HCC.out⟩⟩
        · obtain ⟨q, hq⟩ : ∃ q, cmpV m t = q := ⟨_, rfl⟩
          have hq0 : (q == 0) = false := by
            have h2 := HB.out i hin (Nat.le_refl _)
            rw [HMM.out] at h2
            have : q = 1 := by rw [← hq]; unfold cmpV; rw [if_neg (by omega), if_pos (by omega)]
            rw [this]; rfl
          go_wp2_with fail
          refine (clos_any m _ _ bv t wr).mono ?_
          rintro e w1 ⟨rfl, hb1⟩
          rw [hq]
          have HB1 := Lib.hid (HW.out.trans (hb1.mono hzr))
          clear hb1 hq
          go_wp2
          go_ret2
          refine ⟨HB1.out, i, false, rfl, .inr ⟨rfl, fun p hp => ?_⟩⟩
          obtain ⟨k, hk, rfl⟩ := List.getElem_of_mem hp
          rcases Nat.lt_trichotomy k i with h1 | h1 | h1
          · have := HA.out k hk h1; omega
          · subst h1; rw [HMM.out]; exact hc
          · have h2 := List.pairwise_iff_getElem.1 HS.out i k hin hk h1
            have h3 := HB.out i hin (Nat.le_refl _)
            omega
      · have hin' : ¬ (i : Int) < (L.length : Int) := by omega
        go_wp2
        go_ret2
        refine ⟨HW.out, i, false, rfl, .inr ⟨rfl, fun p hp => ?_⟩⟩
        obtain ⟨k, hk, rfl⟩ := List.getElem_of_mem hp
        have := HA.out k hk (by omega)
        omega
set_option maxRecDepth 100000 in
set_option maxHeartbeats 4000000 in
theorem place_any (w : World) (B R : Nat) (N : NetV) (F : Nat → Prop) (h : Net w B R N F) (t : Int) (hl : N.wait.length ≤ 1099511627776) (hs : N.wait.Pairwise (fun a b => a.id < b.id)) :
    Calls Try.prog 25 #[.pointer (some ⟨R, 0, none⟩), .int .i64 t] w fun e w' => Below w.heap.size w w' ∧ FoundE N.wait t e := by
  obtain ⟨wv, fv, c0, c1, c2, c3, c4, hz, hh, hR, hF, hW, hf⟩ := h.cells
  have HC := Lib.hid (bsearch_any wv N.wait t w hW.out.reads hl hs)
  clear h hs
  go_enter Try.func25, Try.ntmps25
  go_wp2_with fail
  refine HC.out.mono ?_
  rintro e w1 ⟨hb, i, f, rfl, hif⟩
  have HB := Lib.hid hb
  have HIF := Lib.hid hif
  clear hb hif
  go_wp2
  go_ret2
  exact ⟨HB.out, i, f, rfl, HIF.out⟩
end Go.Proofs.Ytaopnoaopcbkoaa
