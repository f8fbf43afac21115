/-
  Package frame: what stands first.
-/
import Derived.Test.YtbkoejhnlmbciaaDoorFour
import Derived.Test.YtbkoejhnlmbciaaDoorSlices
namespace Go.Proofs.YtbkoejhnlmbciaaDoor
open Go.ChangeShapes Go.WideShapes Go.ChangeAt Go.RowKit Go.Deep
set_option linter.unusedVariables false

/-- What first answers. -/
def Fst (w : World) (v : Value) (l : List UInt8) (e : Ending) (w' : World) : Prop :=
  ∃ (p : Option Addr) (n c : Nat) (k : Nat), e = .returned (.tuple #[.slice p n c, .int .i64 (fHow l : Nat)]) ∧ w' = w.drewN k ∧ (fHow l = 0 → ∀ W0, HasA W0 v l → HasA W0 (.slice p n c) (fPay l))
theorem Nib.drewN {w : World} (h : Nib w) (n : Nat) : Nib (w.drewN n) := h
theorem fst_no {w : World} {v : Value} {l : List UInt8} (k n : Nat) (h : fHow l = k + 1) : Fst w v l (.returned (.tuple #[.slice none 0 0, .int .i64 ((k + 1 : Nat) : Int)])) (w.drewN n) :=
  ⟨none, 0, 0, n, by rw [h], rfl, fun h0 => by omega⟩

set_option maxRecDepth 100000 in
set_option maxHeartbeats 4000000 in
theorem first_short (v : Value) (l : List UInt8) (w : World) (hv : HasA w v l) (hN : Nib w) (h8 : l.length < 8) :
    Calls Tryd.prog 17 #[v] w (Fst w v l) := by
  obtain ⟨p, cap, rfl, hc1, hc2⟩ := hv.form
  have HV := Lib.hid hv
  have HN := Lib.hid hN
  have hml : (cap : Int) ≤ 9223372036854775807 := by unfold maxLen at hc2; omega
  have H2 := Lib.hid hc2
  have hh := Lib.hid (show fHow l = 0 + 1 by unfold fHow; rw [if_pos h8])
  have h8' : (l.length : Int) < 8 := by omega
  clear hv hN hc2 h8
  go_enter Tryd.func17, Tryd.ntmps17
  go_wp2_with fail
  go_ret2
  exact fst_no (w := w) 0 0 hh.out
set_option maxRecDepth 100000 in
set_option maxHeartbeats 4000000 in
theorem first_big (v : Value) (l : List UInt8) (w : World) (hv : HasA w v l) (hN : Nib w) (h8 : ¬ l.length < 8) (hb : 65536 < n4 l) :
    Calls Tryd.prog 17 #[v] w (Fst w v l) := by
  obtain ⟨p, cap, rfl, hc1, hc2⟩ := hv.form
  have HV := Lib.hid hv
  have HN := Lib.hid hN
  have hml : (cap : Int) ≤ 9223372036854775807 := by unfold maxLen at hc2; omega
  have H2 := Lib.hid hc2
  have hh := Lib.hid (show fHow l = 1 + 1 by unfold fHow; rw [if_neg h8, if_pos hb])
  have h8' : ¬ (l.length : Int) < 8 := by omega
  obtain ⟨k, hk⟩ : ∃ k, n4 l = k := ⟨_, rfl⟩
  have hk32 : k < 4294967296 := by rw [← hk]; exact n4_lt l
  have HNum := Lib.hid (number_any _ l w hv (by omega))
  rw [hk] at HNum
  have hb' : (65536 : Int) < (k : Int) := by omega
  clear hv hN hc2 h8 hb hk
  go_enter Tryd.func17, Tryd.ntmps17
  go_wp2_with fail
  refine HNum.out.mono ?_
  rintro e w1 ⟨rfl, n1, rfl⟩
  go_wp2_with fail
  go_ret2
  exact fst_no (w := w) 1 n1 hh.out
set_option maxRecDepth 100000 in
set_option maxHeartbeats 4000000 in
theorem first_torn (v : Value) (l : List UInt8) (w : World) (hv : HasA w v l) (hN : Nib w) (h8 : ¬ l.length < 8) (hb : ¬ 65536 < n4 l) (ht : l.length < 8 + n4 l) :
    Calls Tryd.prog 17 #[v] w (Fst w v l) := by
  obtain ⟨p, cap, rfl, hc1, hc2⟩ := hv.form
  have HV := Lib.hid hv
  have HN := Lib.hid hN
  have hml : (cap : Int) ≤ 9223372036854775807 := by unfold maxLen at hc2; omega
  have H2 := Lib.hid hc2
  have hh := Lib.hid (show fHow l = 0 + 1 by unfold fHow; rw [if_neg h8, if_neg hb, if_pos ht])
  have h8' : ¬ (l.length : Int) < 8 := by omega
  obtain ⟨k, hk⟩ : ∃ k, n4 l = k := ⟨_, rfl⟩
  have hk32 : k < 4294967296 := by rw [← hk]; exact n4_lt l
  have HNum := Lib.hid (number_any _ l w hv (by omega))
  rw [hk] at HNum
  have hb' : ¬ (65536 : Int) < (k : Int) := by omega
  have ht' : (l.length : Int) < 8 + (k : Int) := by omega
  clear hv hN hc2 h8 hb ht hk
  go_enter Tryd.func17, Tryd.ntmps17
  go_wp2_with fail
  refine HNum.out.mono ?_
  rintro e w1 ⟨rfl, n1, rfl⟩
  go_wp2_with fail
  go_ret2
  exact fst_no (w := w) 0 n1 hh.out
set_option maxRecDepth 100000 in
set_option maxHeartbeats 4000000 in
theorem first_sum (v : Value) (l : List UInt8) (w : World) (hv : HasA w v l) (hN : Nib w) (h8 : ¬ l.length < 8) (hb : ¬ 65536 < n4 l) (ht : ¬ l.length < 8 + n4 l) :
    Calls Tryd.prog 17 #[v] w (Fst w v l) := by
  obtain ⟨p, cap, rfl, hc1, hc2⟩ := hv.form
  have HV := Lib.hid hv
  have HN := Lib.hid hN
  have hml : (cap : Int) ≤ 9223372036854775807 := by unfold maxLen at hc2; omega
  have H2 := Lib.hid hc2
  have hh := Lib.hid (show fHow l = if crcMore (crcSum (l.take 4)) (fPay l) = n4 (l.drop 4) then 0 else 2 by unfold fHow; rw [if_neg h8, if_neg hb, if_neg ht]; rfl)
  have h8' : ¬ (l.length : Int) < 8 := by omega
  obtain ⟨k, hk⟩ : ∃ k, n4 l = k := ⟨_, rfl⟩
  have hk32 : k < 4294967296 := by rw [← hk]; exact n4_lt l
  have HNum := Lib.hid (number_any _ l w hv (by omega))
  rw [hk] at HNum
  have hb' : ¬ (65536 : Int) < (k : Int) := by omega
  have ht' : ¬ (l.length : Int) < 8 + (k : Int) := by omega
  obtain ⟨p1, c1, r1, g1⟩ := HV.out.head 4 (by omega)
  obtain ⟨p2, c2, r2, g2⟩ := HV.out.mid 8 (8 + k) (by omega) (by omega)
  obtain ⟨p3, c3, r3, g3⟩ := HV.out.tail 4 (by omega)
  have hpay : ((l.take (8 + k)).drop 8) = fPay l := by unfold fPay; rw [hk, List.drop_take]; congr 1; omega
  rw [hpay] at g2
  have e2 : ((8 + k : Nat) : Int) = 8 + (k : Int) := by omega
  rw [e2] at r2
  rw [Nat.add_sub_cancel_left] at r2 g2
  have r1 : ∀ W, (Instr.slice 23 (.slice p l.length cap) none (some (.int .i64 4)) none).run Tryd.prog W = .ok (.slice p1 4 c1) W := r1
  have r2 : ∀ W, (Instr.slice 23 (.slice p l.length cap) (some (.int .i64 8)) (some (.int .i64 (8 + (k : Int)))) none).run Tryd.prog W = .ok (.slice p2 k c2) W := r2
  have r3 : ∀ W, (Instr.slice 23 (.slice p l.length cap) (some (.int .i64 4)) none none).run Tryd.prog W = .ok (.slice p3 (l.length - 4) c3) W := r3
  obtain ⟨s1, e1⟩ : ∃ s1, crcSum (l.take 4) = s1 := ⟨_, rfl⟩
  obtain ⟨s2, e3⟩ : ∃ s2, crcMore s1 (fPay l) = s2 := ⟨_, rfl⟩
  obtain ⟨s3, e4⟩ : ∃ s3, n4 (l.drop 4) = s3 := ⟨_, rfl⟩
  have hs1 : s1 < 4294967296 := by rw [← e1]; exact crcMore_lt _ _
  have HC1 : Hid (∀ m W, W = w.drewN m → ∀ n, Calls Tryd.prog 16 #[.slice p1 4 c1] (W.drewN n) fun e w' => e = .returned (.int .u32 (s1 : Nat)) ∧ w' = W.drewN n) := Lib.hid (fun m W hW n => by subst hW; have := Sum_any _ _ ((w.drewN m).drewN n) ((g1 w hv).drewN n) (hN.drewN n); rw [e1] at this; exact this)
  have HC2 : Hid (∀ m W, W = w.drewN m → ∀ n, Calls Tryd.prog 15 #[.int .u32 (s1 : Nat), .slice p2 k c2] (W.drewN n) fun e w' => e = .returned (.int .u32 (s2 : Nat)) ∧ w' = W.drewN n) := Lib.hid (fun m W hW n => by subst hW; have := More_any s1 hs1 _ _ ((w.drewN m).drewN n) ((g2 w hv).drewN n) (hN.drewN n); rw [e3] at this; exact this)
  have HC3 : Hid (∀ m W, W = w.drewN m → ∀ n, Calls Tryd.prog 21 #[.slice p3 (l.length - 4) c3] (W.drewN n) fun e w' => e = .returned (.int .u32 (s3 : Nat)) ∧ ∃ q, w' = (W.drewN n).drewN q) := Lib.hid (fun m W hW n => by subst hW; have := number_any _ _ ((w.drewN m).drewN n) ((g3 w hv).drewN n) (by simp; omega); rw [e4] at this; exact this)
  have hh : Hid (fHow l = if s2 = s3 then 0 else 2) := by rw [e1, e3, e4] at hh; exact hh
  have G2 := Lib.hid g2
  clear g1 g2 g3 hpay
  by_cases hq : s2 = s3
  · have hh := Lib.hid (hh.out.trans (if_pos hq))
    have hq' : (s2 : Int) = (s3 : Int) := by omega
    clear hv hN hc2 h8 hb ht hk e1 e3 e4 hs1 hq
    go_enter Tryd.func17, Tryd.ntmps17
    go_wp2_with fail
    refine HNum.out.mono ?_
    rintro e w1 ⟨rfl, n1, hw1⟩
    have HW := Lib.hid hw1
    clear hw1
    go_wp2_with fail
    go_quiet (first | (go_at_call 16; exact Calls.quiet_of_same (HC1.out _ _ HW.out _)) | (go_at_call 15; exact Calls.quiet_of_same (HC2.out _ _ HW.out _)) | (go_at_call 21; exact Calls.quiet_of (HC3.out _ _ HW.out _)))
    go_wp2_with fail
    go_ret2
    refine ⟨_, _, _, n1 + nq, by rw [hh.out]; rfl, by rw [HW.out, World.drewN_drewN], fun _ W0 h0 => G2.out W0 h0⟩
  · have hh := Lib.hid (hh.out.trans (if_neg hq))
    have hq' : ¬ (s2 : Int) = (s3 : Int) := by omega
    clear hv hN hc2 h8 hb ht hk e1 e3 e4 hs1 hq
    go_enter Tryd.func17, Tryd.ntmps17
    go_wp2_with fail
    refine HNum.out.mono ?_
    rintro e w1 ⟨rfl, n1, hw1⟩
    have HW := Lib.hid hw1
    clear hw1
    go_wp2_with fail
    go_quiet (first | (go_at_call 16; exact Calls.quiet_of_same (HC1.out _ _ HW.out _)) | (go_at_call 15; exact Calls.quiet_of_same (HC2.out _ _ HW.out _)) | (go_at_call 21; exact Calls.quiet_of (HC3.out _ _ HW.out _)))
    go_wp2_with fail
    go_ret2
    rw [HW.out, World.drewN_drewN]
    exact fst_no (w := w) 1 _ hh.out

theorem first_any (v : Value) (l : List UInt8) (w : World) (hv : HasA w v l) (hN : Nib w) : Calls Tryd.prog 17 #[v] w (Fst w v l) := by
  by_cases h8 : l.length < 8
  · exact first_short v l w hv hN h8
  · by_cases hb : 65536 < n4 l
    · exact first_big v l w hv hN h8 hb
    · by_cases ht : l.length < 8 + n4 l
      · exact first_torn v l w hv hN h8 hb ht
      · exact first_sum v l w hv hN h8 hb ht
end Go.Proofs.YtbkoejhnlmbciaaDoor
