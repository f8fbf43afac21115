/-
  The statement SimnetClock holds: the clock is the sum of its ticks. No condition.
-/
import Derived.Test.YtaopnoaopcbkoaaRows
import Derived.Test.YtaopnoaopcbkoaaStay
import Derived.Test.YtaopnoaopcbkoaaNetAwake
import Derived.Test.YtaopnoaopcbkoaaOpenG
import Derived.WalkKit
import Derived.ProofKit
import Derived.OpenShut
import Derived.SizedLaws
namespace Go.Proofs.Ytaopnoaopcbkoaa.simnetClock
open Go.ChangeShapes Go.WideShapes Go.ChangeAt Go.RowKit Go.Deep
set_option linter.unusedVariables false

theorem own : ownKnob Try.prog.godebug = none := by kernel_rfl
theorem laidOut : laidOutB Try.prog = true := by kernel_rfl
def clockN (n : Int) : NetV := { zeroNet with now := n }
set_option maxRecDepth 100000 in
set_option maxHeartbeats 4000000 in
theorem walk (w : World) (p : Option Addr) (n c b o : Nat) (Z : Nat → Int) (hl : n ≤ c) (hm : c ≤ maxLen) (hr : c * 8 ≤ 140737488351232) (hp : 0 < n → p = some ⟨b, o, none⟩ ∧ b < w.heap.size)
    (hZ : ∀ i, i < n → w.cell? ⟨b, o + i, none⟩ = some (.int .i64 (Z i)) ∧ (Lit.int .i64 (Z i)).wf = true) :
    Calls Try.prog 7 #[.slice p n c] w fun e w' => e = .returned (.bool true) ∧ Below w.heap.size w w' := by
  have hm' : (c : Int) ≤ 9223372036854775807 := by unfold maxLen at hm; omega
  have HP := Lib.hid hp
  have HZ := Lib.hid hZ
  have HM := Lib.hid hm
  clear hp hZ hm
  go_enter Try.func7, Try.ntmps7
  go_wp2_with fail
  refine (awake_any w).mono ?_
  rintro e w0 ⟨rfl, hb0⟩
  have hz0 := hb0.size
  have HB0 := Lib.hid hb0
  clear hb0
  go_wp2_with fail
  refine (New_any w0).mono ?_
  rintro e w1 ⟨R, F, rfl, hn1, hb1⟩
  have hz1 := hb1.size
  have HN1 := Lib.hid hn1
  have HB1 := Lib.hid (HB0.out.trans (hb1.mono hz0))
  clear hn1 hb1
  go_wp2_with fail
  go_loopw [5, 4] (fun vi vn wr => ∃ (i : Nat) (m : Int), vi = .int .i64 i ∧ vn = .int .i64 m ∧ i ≤ n ∧ i ≤ 100 ∧ 0 ≤ m ∧ m ≤ 1152921504606846976 ∧ Net wr w0.heap.size R (clockN m) F ∧ Below w.heap.size w wr ∧ w1.heap.size ≤ wr.heap.size) (fun vi _ _ => 100 - (intOf vi).toNat)
  case atStart => exact ⟨0, 0, rfl, rfl, Nat.zero_le _, by decide, by decide, by decide, HN1.out, HB1.out, Nat.le_refl _⟩
  case round =>
    obtain ⟨i, m, rfl, rfl, hin, hi100, hm0, hm1, hnet, hb, hsz⟩ := hrel
    have HNET := Lib.hid hnet
    have HB := Lib.hid hb
    have hzr := hb.size
    clear hnet hb
    rcases Nat.lt_or_ge i n with hlt | hge
    · have hlt' : (i : Int) < (n : Int) := by omega
      rcases Nat.lt_or_ge i 100 with hlt1 | hge1
      · have hlt1' : (i : Int) < 100 := by omega
        obtain ⟨rfl, hbl⟩ := HP.out (by omega)
        obtain ⟨hc, hw⟩ := HZ.out i hlt
        have hcr : wr.cell? ⟨b, o + i, none⟩ = some (.int .i64 (Z i)) := (HB.out.cell (p := ⟨b, o + i, none⟩) hbl).trans hc
        simp only [Lit.wf, Bool.and_eq_true, decide_eq_true_eq] at hw
        have hz : -9223372036854775808 ≤ Z i ∧ Z i ≤ 9223372036854775807 := by
          exact hw
        obtain ⟨z, hzz⟩ : ∃ z, Z i = z := ⟨_, rfl⟩
        rw [hzz] at hcr hz
        clear hc hw hzz
        obtain ⟨hz0', hz1'⟩ := hz
        have HT := Lib.hid (Tick_any wr w0.heap.size R (clockN m) F HNET.out ⟨hm0, hm1⟩ z ⟨hz0', hz1'⟩)
        by_cases t0 : 0 ≤ z
        · by_cases t1 : z ≤ 1152921504606846976 - m
          · have ht : Ticks (clockN m) z := ⟨t0, t1⟩
            have hv : tickV (clockN m) z = clockN (m + z) := by unfold tickV; rw [if_pos ht]; rfl
            rw [hv, if_pos ht] at HT
            clear hv ht
            go_wp2_with fail
            refine HT.out.mono ?_
            rintro e w2 ⟨rfl, hn2, hk2⟩
            have hz2 := hk2.size
            have HB2 := Lib.hid (HB.out.trans ((hk2.below HNET.out.base (by omega)).mono hz0))
            have hcr2 : w2.cell? ⟨b, o + i, none⟩ = some (.int .i64 z) := by
              have hb2 := (hk2.below HNET.out.base (by omega))
              exact ((hb2.mono hz0).cell (p := ⟨b, o + i, none⟩) hbl).trans hcr
            have HN2 := Lib.hid hn2
            clear hn2 hk2
            go_wp2_with fail
            refine (Now_any w2 w0.heap.size R (clockN (m + z)) F HN2.out).mono ?_
            rintro e w3 ⟨rfl, rfl⟩
            rw [show (clockN (m + z)).now = m + z from rfl]
            go_wp2
            go_roundw
            case rel => exact ⟨i + 1, m + z, by go_num, by first | rfl | go_num, hlt, hlt1, by omega, by omega, HN2.out, HB2.out, by omega⟩
            case measure => simp [intOf]; omega
          · have ht : ¬ Ticks (clockN m) z := fun h => t1 h.2
            have hv : tickV (clockN m) z = clockN m := by unfold tickV; rw [if_neg ht]
            rw [hv, if_neg ht] at HT
            clear hv ht
            go_wp2_with fail
            refine HT.out.mono ?_
            rintro e w2 ⟨rfl, hn2, hk2⟩
            have hz2 := hk2.size
            have HB2 := Lib.hid (HB.out.trans ((hk2.below HNET.out.base (by omega)).mono hz0))
            have hcr2 : w2.cell? ⟨b, o + i, none⟩ = some (.int .i64 z) := by
              have hb2 := (hk2.below HNET.out.base (by omega))
              exact ((hb2.mono hz0).cell (p := ⟨b, o + i, none⟩) hbl).trans hcr
            have HN2 := Lib.hid hn2
            clear hn2 hk2
            go_wp2_with fail
            refine (Now_any w2 w0.heap.size R (clockN m) F HN2.out).mono ?_
            rintro e w3 ⟨rfl, rfl⟩
            rw [show (clockN m).now = m from rfl]
            go_wp2
            go_roundw
            case rel => exact ⟨i + 1, m, by go_num, rfl, hlt, hlt1, hm0, hm1, HN2.out, HB2.out, by omega⟩
            case measure => simp [intOf]; omega
        · have ht : ¬ Ticks (clockN m) z := fun h => t0 h.1
          have hv : tickV (clockN m) z = clockN m := by unfold tickV; rw [if_neg ht]
          rw [hv, if_neg ht] at HT
          clear hv ht
          go_wp2_with fail
          refine HT.out.mono ?_
          rintro e w2 ⟨rfl, hn2, hk2⟩
          have hz2 := hk2.size
          have HB2 := Lib.hid (HB.out.trans ((hk2.below HNET.out.base (by omega)).mono hz0))
          have hcr2 : w2.cell? ⟨b, o + i, none⟩ = some (.int .i64 z) := by
            have hb2 := (hk2.below HNET.out.base (by omega))
            exact ((hb2.mono hz0).cell (p := ⟨b, o + i, none⟩) hbl).trans hcr
          have HN2 := Lib.hid hn2
          clear hn2 hk2
          go_wp2_with fail
          refine (Now_any w2 w0.heap.size R (clockN m) F HN2.out).mono ?_
          rintro e w3 ⟨rfl, rfl⟩
          rw [show (clockN m).now = m from rfl]
          go_wp2
          go_roundw
          case rel => exact ⟨i + 1, m, by go_num, rfl, hlt, hlt1, hm0, hm1, HN2.out, HB2.out, by omega⟩
          case measure => simp [intOf]; omega
      · have hge1' : ¬ (i : Int) < 100 := by omega
        go_wp2
        go_ret
        exact ⟨rfl, HB.out⟩
    · have hge' : ¬ (i : Int) < (n : Int) := by omega
      go_wp2
      go_ret
      exact ⟨rfl, HB.out⟩

set_option maxRecDepth 100000 in
theorem lifted (os : Os) (started : os.Started) (H : Type) (enc : TypeId × Value → H) :
    ReturnsInHanded {} Try.checked os 7 .any (Rows.simnetClockSpec.pre6 enc Try.prog Try.f7 Rows.simnetClockRow.domain false) (Rows.simnetClockSpec.post enc Try.prog Try.f7 false true false false) := by
  refine returnsInHanded_of_change_sized (C := Try.checked) own started (by kernel_rfl) Try.func7
    (ChangeSpec.witness6 (enc := enc) (C := Try.checked) false ⟨#[], #[.slice none 0 0], []⟩ 8 (by kernel_rfl) (by kernel_rfl) (by kernel_rfl) (by kernel_rfl)) ?_
  intro W base args ds gs before hval0 hW hcnd hsz0 _
  have hsz : (DataW.weightsEach Try.prog (Try.f7.params.toList ++ Rows.simnetClockSpec.plain.varTypes Try.prog) (ds ++ gs)).all (· ≤ reachBytes) = true := hsz0
  clear hsz0
  have hval : ∀ (j : Nat) t v, Try.f7.params[j]? = some t → args[j]? = some v → Value.okWide Try.prog W .any base t v := hval0
  have hW' := hW
  obtain ⟨p, q, hA0, hV, rfl, hfz, hnd⟩ := hW
  have hA : DataW.TrodAll enc Try.prog W 0 (fun _ => true) true Try.f7.params.toList args.toList ds p := hA0
  have hAk := hA
  rw [Try.params7] at hA hval hsz
  obtain ⟨v0, vs0, d0, ds0, p0, q0, hargs, rfl, rfl, h0, r0⟩ := trodAll_cons hA
  obtain ⟨rfl, rfl, rfl⟩ := trodAll_nil r0
  obtain rfl : args = #[v0] := by cases args; simp_all
  obtain ⟨rfl, rfl⟩ := trodVars_none hV
  obtain ⟨pt0, len0, cap0, rfl⟩ := okWide_slice Try.underlying61 (hval 0 61 v0 rfl rfl)
  obtain ⟨hl0, hm0, hs0, b0, o0, Z0, hp0, hZ0⟩ := open_rows (P := Try.prog) Try.underlying61 Try.underlying2 (by kernel_rfl) h0
  have hr0 := cap_reach hsz (j := 0) (t := 61) (b := 8) rfl rfl Try.underlying61 (by kernel_rfl) hs0
  clear hA0 hval0
  refine (walk W pt0 len0 cap0 b0 o0 Z0 hl0 hm0 hr0 hp0 hZ0).mono fun e W' ⟨he, hb⟩ => ?_
  subst he
  exact ⟨_, rfl, law_post laidOut rfl hW' hAk (by rw [Try.params7]; intro t ht; revert t; decide +kernel) (by kernel_rfl) Try.underlying4 rfl hb⟩

theorem over : Rows.simnetClockRow.holds Try.pinned (OpenSpec.ofChange Rows.simnetClockSpec) :=
  OpenClaim.holds_of_wide 7 Try.f7 rfl rfl rfl rfl rfl rfl rfl ⟨rfl, rfl, rfl, rfl, rfl⟩ rfl rfl rfl rfl rfl (by kernel_rfl) Try.func7 (by kernel_rfl)
    (of_decide_eq_true (by kernel_rfl)) (by unfold Func.isWrapper; first | (rw [if_pos (by decide +kernel)]; kernel_rfl) | (rw [if_neg (by decide +kernel)]; exact ⟨rfl, rfl⟩))
    (fun os started H enc _ => lifted os started H enc)

/-- The statement. -/
theorem proved : Rows.SimnetClockSaid :=
  over
#print axioms proved
end Go.Proofs.Ytaopnoaopcbkoaa.simnetClock
