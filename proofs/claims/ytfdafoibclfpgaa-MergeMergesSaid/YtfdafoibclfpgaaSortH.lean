/-
  Package slices, of numbers: the heap sort.
-/
import Derived.Test.YtfdafoibclfpgaaSortA
import Derived.Sort.LotB
namespace Go.Proofs.Ytfdafoibclfpgaa
open Go.ChangeShapes Go.WideShapes Go.ChangeAt Go.RowKit Go.Deep
set_option linter.unusedVariables false
set_option linter.unusedSimpArgs false
theorem int_eq {a b : Int} (h : a = b) : Value.int .i64 a = .int .i64 b := by rw [h]
theorem wrap_sum {a b c : Nat} (h : a + b = c) (hc : (c : Int) ≤ 4611686018427387904) : IntKind.i64.wrap ((a : Int) + (b : Int)) = (c : Int) := by
  rw [IntWalk.i64_in _ (by omega)]
  omega
theorem wrap_one {a c : Nat} (h : a + 1 = c) (hc : (c : Int) ≤ 4611686018427387904) : IntKind.i64.wrap ((a : Int) + 1) = (c : Int) := by
  rw [IntWalk.i64_in _ (by omega)]
  omega
theorem wrap_less {a c : Nat} (h : a = c + 1) (hc : (c : Int) ≤ 4611686018427387904) : IntKind.i64.wrap ((a : Int) - 1) = (c : Int) := by
  rw [IntWalk.i64_in _ (by omega)]
  omega
theorem sift_end {hi f r : Nat} {d : Array Nat} (h : hi ≤ 2 * r + 1) : Sort.siftDown ltB hi f r d = d := by
  unfold Sort.siftDown
  rw [dif_pos h]
theorem sift_next {hi f r c : Nat} {d : Array Nat} (h : ¬ hi ≤ 2 * r + 1) (hc : c = if (decide (2 * r + 1 + 1 < hi) && ltB d[f + (2 * r + 1)]! d[f + (2 * r + 1) + 1]!) = true then 2 * r + 2 else 2 * r + 1) :
    Sort.siftDown ltB hi f r d = if ltB d[f + r]! d[f + c]! = true then Sort.siftDown ltB hi f c (Sort.swp d (f + r) (f + c)) else d := by
  conv => lhs; unfold Sort.siftDown
  rw [dif_neg h]
  cases hq : (decide (2 * r + 1 + 1 < hi) && ltB d[f + (2 * r + 1)]! d[f + (2 * r + 1) + 1]!) with
  | true =>
    rw [hq, if_pos rfl] at hc
    subst hc
    rw [if_pos rfl]
    cases hl : ltB d[f + r]! d[f + (2 * r + 2)]! with
    | true =>
      rw [Bool.and_eq_true, decide_eq_true_eq] at hq
      rw [if_neg (by simp), dif_pos (by omega), if_pos rfl]
    | false => rw [if_pos (by simp), if_neg (by simp)]
  | false =>
    rw [hq, if_neg (by simp)] at hc
    subst hc
    rw [if_neg (by simp)]
    cases hl : ltB d[f + r]! d[f + (2 * r + 1)]! with
    | true => rw [if_neg (by simp), if_pos rfl]
    | false => rw [if_pos (by simp), if_neg (by simp)]
set_option maxRecDepth 100000 in
set_option maxHeartbeats 32000000 in
theorem Sift_any (g n cap lo hi f : Nat) (d : Array Nat) (w : World) (hA : Arr w g d) (hn : d.size = n) (hnc : n ≤ cap) (hcap : (cap : Int) ≤ 9223372036854775807) (hn40 : (n : Int) ≤ 1099511627776) (hh : f + hi ≤ n) (hlo : (lo : Int) ≤ 1099511627776) :
    Calls Try.prog 46 #[.slice (some ⟨g, 0, none⟩) n cap, .int .i64 (lo : Int), .int .i64 (hi : Int), .int .i64 (f : Int)] w fun e w' => Sorts g n w (Sort.siftDown ltB hi f lo d) e w' := by
  have HA := Lib.hid hA
  have HN := Lib.hid hn
  have hh0 : (hi : Int) ≤ 1099511627776 := by omega
  have hf0 : (f : Int) ≤ 1099511627776 := by omega
  clear hA hn
  go_enter Try.func46, Try.ntmps46
  go_wp2_with fail
  go_loopw [8] (fun v8 wr => ∃ (r : Nat) (dk : Array Nat), v8 = .int .i64 (r : Int) ∧ (r : Int) ≤ 1099511627776 ∧ dk.size = n ∧ Arr wr g dk ∧ Kq g w wr ∧ Hid (Sort.siftDown ltB hi f r dk = Sort.siftDown ltB hi f lo d)) (fun v8 _ => 1099511627776 - (intOf v8).toNat)
  case atStart => exact ⟨lo, d, rfl, hlo, HN.out, HA.out, Kq.refl _ _, Lib.hid rfl⟩
  case round =>
    obtain ⟨r, dk, rfl, hr, hs, h0, hk0, HO⟩ := hrel
    obtain ⟨W0, rfl⟩ : ∃ W0, W0 = wr := ⟨wr, rfl⟩
    have H0 := Lib.hid h0
    have HK0 := Lib.hid hk0
    have HS := Lib.hid hs
    obtain ⟨c1, hc1⟩ : ∃ c1, 2 * r + 1 = c1 := ⟨_, rfl⟩
    have hc1I : (c1 : Int) ≤ 4611686018427387904 := by omega
    have HC1 := Lib.hid hc1
    clear h0 hk0 hs hc1
    go_upto_region 1 with fail
    go_cut [9] (fun v wz => v = .int .i64 (c1 : Int) ∧ W0 = wz)
    case first =>
      go_wp2
      go_meet
      exact ⟨int_eq (by have := HC1.out; omega), rfl⟩
    case rest =>
      obtain ⟨rfl, rfl⟩ := hcut
      have hc1 := HC1.out
      rcases Nat.lt_or_ge c1 hi with hlt | hge
      · have hI : ¬ (hi : Int) ≤ (c1 : Int) := by omega
        obtain ⟨fr, hfr⟩ : ∃ x, f + r = x := ⟨_, rfl⟩
        obtain ⟨fc, hfc⟩ : ∃ x, f + c1 = x := ⟨_, rfl⟩
        obtain ⟨fd, hfd⟩ : ∃ x, fc + 1 = x := ⟨_, rfl⟩
        obtain ⟨q, hq⟩ : ∃ q, (decide (2 * r + 1 + 1 < hi) && ltB dk[f + (2 * r + 1)]! dk[f + (2 * r + 1) + 1]!) = q := ⟨_, rfl⟩
        obtain ⟨c, hc⟩ : ∃ c, c = if (decide (2 * r + 1 + 1 < hi) && ltB dk[f + (2 * r + 1)]! dk[f + (2 * r + 1) + 1]!) = true then 2 * r + 2 else 2 * r + 1 := ⟨_, rfl⟩
        have hnx := sift_next (d := dk) (f := f) (by omega : ¬ hi ≤ 2 * r + 1) hc
        rw [HO.out] at hnx
        rw [hq] at hc
        have hchi : c < hi := by
          rw [hc]
          split
          · rename_i h
            rw [h] at hq
            rw [Bool.and_eq_true, decide_eq_true_eq] at hq
            omega
          · omega
        rw [hc1, hfc, hfd] at hq
        have HNX := Lib.hid hnx
        have HC := Lib.hid hc
        have HQ := Lib.hid hq
        have HFR := Lib.hid hfr
        have HFC := Lib.hid hfc
        have HFD := Lib.hid hfd
        have hfcn : fc < n := by omega
        have hc1I2 : (c1 : Int) ≤ 1099511627776 := by omega
        have hfcI : (fc : Int) ≤ 1099511627776 := by omega
        clear hnx hc hq hfr hfc hfd hc1
        go_upto_region 3 with fail
        go_cut [36] (fun v wz => v = .bool q ∧ ∃ kq, wz = W0.drewN kq)
        case first =>
          rcases Nat.lt_or_ge (c1 + 1) hi with h2 | h2
          · have cy := H0.out.cell fc (by rw [HS.out]; omega)
            have cx := H0.out.cell fd (by rw [HS.out]; have := HFC.out; have := HFD.out; omega)
            obtain ⟨y, hy⟩ : ∃ y, dk[fc]! = y := ⟨_, rfl⟩
            obtain ⟨x, hx⟩ : ∃ x, dk[fd]! = x := ⟨_, rfl⟩
            have hq2 := HQ.out
            rw [decide_eq_true h2, Bool.true_and, hy, hx] at hq2
            rw [hy] at cy
            rw [hx] at cx
            have HQ2 := Lib.hid hq2
            have hfcnI : (fc : Int) < (n : Int) := by omega
            have hfdn : (fd : Int) < (n : Int) := by have := HFC.out; have := HFD.out; omega
            have hfc0 : (0 : Int) ≤ (fc : Int) := by omega
            have hfd0 : (0 : Int) ≤ (fd : Int) := by omega
            have hw3 : (c1 : Int) + 1 < (hi : Int) := by omega
            have hw4 : IntKind.i64.wrap ((c1 : Int) + 1) = (c1 : Int) + 1 := IntWalk.i64_in _ (by omega)
            have hw1 := wrap_sum HFC.out (by omega)
            have hw2 := wrap_one HFD.out (by omega)
            clear hy hx hq2
            go_quiet ((go_at_call 40; exact Calls.quiet_of_same (less_q HQ2.out _)))
            go_wp2
            go_meet
            exact ⟨rfl, _, rfl⟩
          · have hqf : q = false := by rw [← HQ.out, decide_eq_false (by omega), Bool.false_and]
            subst hqf
            have hw3 : ¬ (c1 : Int) + 1 < (hi : Int) := by omega
            have hw5 : decide ((c1 : Int) + 1 < (hi : Int)) = false := decide_eq_false hw3
            have hw4 : IntKind.i64.wrap ((c1 : Int) + 1) = (c1 : Int) + 1 := IntWalk.i64_in _ (by omega)
            go_quiet (fail)
            clear hw3 hw4 hw5
            go_wp2
            go_meet
            exact ⟨rfl, _, rfl⟩
        case rest =>
          obtain ⟨rfl, kq, rfl⟩ := hcut
          have h1 := H0.out.drewN kq
          have hk1 := HK0.out.trans (Kq.drewN g W0 kq)
          obtain ⟨W1, hW1⟩ : ∃ W1, W0.drewN kq = W1 := ⟨_, rfl⟩
          rw [hW1] at h1 hk1 ⊢
          have H1 := Lib.hid h1
          have HK1 := Lib.hid hk1
          clear h1 hk1 hW1 H0 HK0 HQ
          go_upto_if 36 with (fail)
          go_cut [9] (fun v wz => v = .int .i64 (c : Int) ∧ W1 = wz)
          case first =>
            have hcc := HC.out
            cases q with
            | true =>
              rw [if_pos rfl] at hcc
              have HCC := Lib.hid hcc
              clear hcc
              go_wp2
              go_meet
              exact ⟨int_eq (by have := HCC.out; have := HC1.out; omega), rfl⟩
            | false =>
              rw [if_neg (by simp)] at hcc
              have HCC := Lib.hid hcc
              clear hcc
              go_wp2
              go_meet
              exact ⟨int_eq (by have := HCC.out; have := HC1.out; omega), rfl⟩
          case rest =>
            obtain ⟨rfl, rfl⟩ := hcut
            have hcr : r < c := by have h1 := HC1.out; have h2 := HC.out; split at h2 <;> omega
            have hfr := HFR.out
            obtain ⟨fe, hfe⟩ : ∃ x, f + c = x := ⟨_, rfl⟩
            have hfrn0 : fr < dk.size := by rw [HS.out]; omega
            have hfen0 : fe < dk.size := by rw [HS.out]; omega
            have cy := H1.out.cell fr hfrn0
            have cx := H1.out.cell fe hfen0
            have hnx := HNX.out
            rw [hfr, hfe] at hnx
            have HSW := Lib.hid (fun (W : World) (hW : Arr W g dk) (x y : Nat) (hx : dk[fr]! = x) (hy : dk[fe]! = y) => hW.swp (i := fr) (j := fe) (x := x) (y := y) hfrn0 hfen0 hx hy)
            have HSC := Lib.hid (fun (W : World) (hW : Arr W g dk) (y : Nat) (hy : dk[fe]! = y) => hW.second (i := fr) (j := fe) hfrn0 hfen0 hy)
            obtain ⟨y, hy⟩ : ∃ y, dk[fr]! = y := ⟨_, rfl⟩
            obtain ⟨x, hx⟩ : ∃ x, dk[fe]! = x := ⟨_, rfl⟩
            rw [hy] at cy hnx
            rw [hx] at cx hnx
            obtain ⟨q2, hq2⟩ : ∃ q, ltB y x = q := ⟨_, rfl⟩
            rw [hq2] at hnx
            have HNX2 := Lib.hid hnx
            have HQ2 := Lib.hid hq2
            have HX := Lib.hid hx
            have HY := Lib.hid hy
            have hz1 := H1.out.nf fr
            have hz2 := H1.out.nf fe
            have hfrn : (fr : Int) < (n : Int) := by omega
            have hfen : (fe : Int) < (n : Int) := by omega
            have hfr0 : (0 : Int) ≤ (fr : Int) := by omega
            have hfe0 : (0 : Int) ≤ (fe : Int) := by omega
            have hcI : (c : Int) ≤ 1099511627776 := by omega
            have hmeas : 1099511627776 - c < 1099511627776 - r := by omega
            have hw1 := wrap_sum hfr (by omega)
            have hw2 := wrap_sum hfe (by omega)
            clear hnx hq2 hx hy hfr hfe hfrn0 hfen0 HNX
            go_upto_region 5 with fail
            go_cut [52] (fun v wz => v = .bool (!q2) ∧ ∃ kq, wz = W1.drewN kq)
            case first =>
              go_quiet ((go_at_call 40; exact Calls.quiet_of_same (less_q HQ2.out _)))
              go_wp2
              go_meet
              exact ⟨rfl, _, rfl⟩
            case rest =>
              obtain ⟨rfl, kq, rfl⟩ := hcut
              cases q2 with
              | false =>
                have hfin := HNX2.out
                rw [if_neg (by simp)] at hfin
                have HF := Lib.hid hfin
                clear hfin hw1 hw2
                go_wp2
                first | go_end0 | (refine bodyPost_ret (results_none rfl _ _ _) rfl ?_) | (refine bodyPost_end (results_none rfl _ _ _) rfl ?_)
                exact ⟨rfl, by rw [HF.out]; exact H1.out.drewN kq, HK1.out.trans (Kq.drewN g W1 kq), by rw [HF.out]; exact HS.out⟩
              | true =>
                have hfin := HNX2.out
                rw [if_pos rfl] at hfin
                have HF := Lib.hid hfin
                clear hfin
                go_upto_region 6 with fail
                have hs2 := HSC.out _ (H1.out.drewN (kq + 1)) x HX.out
                go_region
                clear hw1 hw2
                go_wp2
                go_roundw
                case rel => exact ⟨c, _, rfl, hcI, by rw [Sort.swp_size]; exact HS.out, HSW.out _ (H1.out.drewN (kq + 1)) y x HY.out HX.out, (HK1.out.trans (Kq.drewN g W1 (kq + 1))).trans (swp_kp g fr fe _ _ _), Lib.hid HF.out.symm⟩
                case measure => simp [intOf] <;> omega
      · have hI : (hi : Int) ≤ (c1 : Int) := by omega
        have hfin := HO.out
        rw [sift_end (by omega)] at hfin
        have HF := Lib.hid hfin
        clear hfin hc1
        go_wp2
        first | go_end0 | (refine bodyPost_end (results_none rfl _ _ _) rfl ?_) | (refine bodyPost_ret (results_none rfl _ _ _) rfl ?_)
        exact ⟨rfl, by rw [← HF.out]; exact H0.out, HK0.out, by rw [← HF.out]; exact HS.out⟩
end Go.Proofs.Ytfdafoibclfpgaa
