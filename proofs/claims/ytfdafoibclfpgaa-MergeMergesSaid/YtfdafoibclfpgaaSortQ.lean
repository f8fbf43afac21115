/-
  Package slices, of numbers: a range turned round; the partitions.
-/
import Derived.Test.YtfdafoibclfpgaaSortP
import Derived.Sort.LotC
namespace Go.Proofs.Ytfdafoibclfpgaa
open Go.ChangeShapes Go.WideShapes Go.ChangeAt Go.RowKit Go.Deep
set_option linter.unusedVariables false
set_option linter.unusedSimpArgs false
theorem rev_next (i j : Nat) (d : Array Nat) (h : i < j) : Sort.reverseLoop i j d = Sort.reverseLoop (i + 1) (j - 1) (Sort.swp d i j) := by
  conv => lhs; unfold Sort.reverseLoop
  rw [if_pos h]
theorem rev_end (i j : Nat) (d : Array Nat) (h : ¬ i < j) : Sort.reverseLoop i j d = d := by
  unfold Sort.reverseLoop
  rw [if_neg h]
set_option maxRecDepth 100000 in
set_option maxHeartbeats 32000000 in
theorem Reverse_any (g n cap a b : Nat) (d : Array Nat) (w : World) (hA : Arr w g d) (hn : d.size = n) (hnc : n ≤ cap) (hcap : (cap : Int) ≤ 9223372036854775807) (hn40 : (n : Int) ≤ 1099511627776) (hb : b ≤ n) (hab : a < b) :
    Calls Try.prog 38 #[.slice (some ⟨g, 0, none⟩) n cap, .int .i64 (a : Int), .int .i64 (b : Int)] w fun e w' => Sorts g n w (Sort.reverseRange d a b) e w' := by
  have HA := Lib.hid hA
  have HN := Lib.hid hn
  obtain ⟨b1, hb1⟩ : ∃ x, b - 1 = x := ⟨_, rfl⟩
  have hb1I : (b : Int) - 1 = (b1 : Int) := by omega
  have hbI : (b : Int) ≤ 1099511627776 := by omega
  have hb1n : b1 < n := by omega
  have hDF : Sort.reverseRange d a b = Sort.reverseLoop a b1 d := by unfold Sort.reverseRange; rw [hb1]
  have HDF := Lib.hid hDF
  have HB1 := Lib.hid hb1I
  clear hA hn hb1 hDF hb1I
  go_enter Try.func38, Try.ntmps38
  go_upto_region 1 with fail
  go_cut [7] (fun v wz => v = .int .i64 (b1 : Int) ∧ w = wz)
  case first =>
    go_wp2
    go_meet
    exact ⟨int_eq HB1.out, rfl⟩
  case rest =>
    obtain ⟨rfl, rfl⟩ := hcut
    go_wp2_with fail
    go_loopw [6, 7] (fun v6 v7 wr => ∃ (i j : Nat) (dk : Array Nat), v6 = .int .i64 (i : Int) ∧ v7 = .int .i64 (j : Int) ∧ i ≤ n ∧ j < n ∧ dk.size = n ∧ Arr wr g dk ∧ Kq g w wr ∧ Hid (Sort.reverseLoop i j dk = Sort.reverseLoop a b1 d)) (fun _ v7 _ => (intOf v7).toNat)
    case atStart => exact ⟨a, b1, d, rfl, rfl, by omega, hb1n, HN.out, HA.out, Kq.refl _ _, Lib.hid rfl⟩
    case round =>
      obtain ⟨i, j, dk, rfl, rfl, hi, hj, hs, h0, hk0, HO⟩ := hrel
      obtain ⟨W0, rfl⟩ : ∃ W0, W0 = wr := ⟨wr, rfl⟩
      have H0 := Lib.hid h0
      have HK0 := Lib.hid hk0
      have HS := Lib.hid hs
      clear h0 hk0 hs
      rcases Nat.lt_or_ge i j with hlt | hge
      · have hI : (i : Int) < (j : Int) := by omega
        have ha : i < (dk).size := by rw [HS.out]; omega
        have hb : j < (dk).size := by rw [HS.out]; omega
        have ci := H0.out.cell i ha
        have cj := H0.out.cell j hb
        have HSW := Lib.hid (fun (x y : Nat) (hx : (dk)[i]! = x) (hy : (dk)[j]! = y) => H0.out.swp (i := i) (j := j) (x := x) (y := y) ha hb hx hy)
        have HSC := Lib.hid (fun (y : Nat) (hy : (dk)[j]! = y) => H0.out.second (i := i) (j := j) ha hb hy)
        obtain ⟨x, hx⟩ : ∃ x, (dk)[i]! = x := ⟨_, rfl⟩
        obtain ⟨y, hy⟩ : ∃ y, (dk)[j]! = y := ⟨_, rfl⟩
        rw [hx] at ci
        rw [hy] at cj
        have HX := Lib.hid hx
        have HY := Lib.hid hy
        have zi := H0.out.nf i
        have zj := H0.out.nf j
        have hiN : (i : Int) < (n : Int) := by omega
        have hjN : (j : Int) < (n : Int) := by omega
        have hi0 : (0 : Int) ≤ (i : Int) := by omega
        have hj0 : (0 : Int) ≤ (j : Int) := by omega
        clear hx hy ha hb
        go_upto_region 3 with fail
        have hs := HSC.out y HY.out
        go_region
        clear ci cj zi zj hs
        have H2 := Lib.hid ((HSW.out x y HX.out HY.out).drew)
        have HK2 := Lib.hid ((HK0.out.trans (swp_kp g i j W0 (.int .u64 (y : Int)) (.int .u64 (x : Int)))).trans (Kq.drew g _))
        clear HSW HSC HX HY
        have hnI : (n : Int) ≤ 1099511627776 := by omega
        go_wp2
        go_roundw
        case rel => exact ⟨i + 1, j - 1, _, by go_num, int_eq (by omega), by omega, by omega, by rw [Sort.swp_size]; exact HS.out, H2.out, HK2.out, Lib.hid (by rw [← HO.out, rev_next i j dk hlt])⟩
        case measure => simp [intOf] <;> omega
      · have hI : ¬ (i : Int) < (j : Int) := by omega
        have hfin : dk = Sort.reverseRange d a b := by rw [HDF.out, ← HO.out, rev_end i j dk (by omega)]
        have HF := Lib.hid hfin
        clear hfin
        go_wp2
        first | go_end0 | (refine bodyPost_end (results_none rfl _ _ _) rfl ?_) | (refine bodyPost_ret (results_none rfl _ _ _) rfl ?_)
        exact ⟨rfl, by rw [← HF.out]; exact H0.out, HK0.out, by rw [← HF.out]; exact HS.out⟩

theorem up_next {p : Nat → Bool} {d : Array Nat} {j i : Nat} (_ : Unit) (_ : Unit) (h : (decide (i ≤ j) && p d[i]!) = true) : Sort.scanUp p d j i = Sort.scanUp p d j (i + 1) := by
  conv => lhs; unfold Sort.scanUp
  rw [if_pos h]
theorem up_end {p : Nat → Bool} {d : Array Nat} {j i : Nat} (_ : Unit) (_ : Unit) (h : (decide (i ≤ j) && p d[i]!) = false) : Sort.scanUp p d j i = i := by
  unfold Sort.scanUp
  rw [if_neg (by rw [h]; exact Bool.false_ne_true)]
theorem down_next {p : Nat → Bool} {d : Array Nat} {i j : Nat} (_ : Unit) (_ : Unit) (h1 : 1 ≤ j) (h : (decide (i ≤ j) && p d[j]!) = true) : Sort.scanDown p d i j = Sort.scanDown p d i (j - 1) := by
  obtain ⟨k, rfl⟩ : ∃ k, j = k + 1 := ⟨j - 1, by omega⟩
  conv => lhs; unfold Sort.scanDown
  rw [if_pos h]
  rfl
theorem down_end {p : Nat → Bool} {d : Array Nat} {i j : Nat} (_ : Unit) (_ : Unit) (h : (decide (i ≤ j) && p d[j]!) = false) : Sort.scanDown p d i j = j := by
  cases j with
  | zero => rfl
  | succ k =>
    unfold Sort.scanDown
    rw [if_neg (by rw [h]; exact Bool.false_ne_true)]
set_option maxRecDepth 100000 in
set_option maxHeartbeats 64000000 in
theorem PartEq_any (g n cap a b pv : Nat) (d : Array Nat) (w : World) (hA : Arr w g d) (hn : d.size = n) (hnc : n ≤ cap) (hcap : (cap : Int) ≤ 9223372036854775807) (hn40 : (n : Int) ≤ 1099511627776) (hb : b ≤ n) (hp1 : a ≤ pv) (hp2 : pv < b) :
    Calls Try.prog 41 #[.slice (some ⟨g, 0, none⟩) n cap, .int .i64 (a : Int), .int .i64 (b : Int), .int .i64 (pv : Int)] w fun e w' => e = .returned (.int .i64 ((Sort.partitionEqual ltB d a b pv).1 : Int)) ∧ Arr w' g (Sort.partitionEqual ltB d a b pv).2 ∧ Kq g w w' ∧ (Sort.partitionEqual ltB d a b pv).2.size = n := by
  have HA := Lib.hid hA
  have HS0 := Lib.hid hn
  have HK0 := Lib.hid (Kq.refl g w)
  obtain ⟨b1, hb1⟩ : ∃ x, b - 1 = x := ⟨_, rfl⟩
  have hb1I : (b : Int) - 1 = (b1 : Int) := by omega
  have hbI : (b : Int) ≤ 1099511627776 := by omega
  have haI : (a : Int) ≤ 1099511627776 := by omega
  have hb1n : b1 < n := by omega
  have hab : a < b1 + 1 := by omega
  have han : a < n := by omega
  obtain ⟨R, hR⟩ : ∃ R, Sort.partitionEqual ltB d a b pv = R := ⟨_, rfl⟩
  have hDF : Sort.partEqLoop ltB a (a + 1) b1 (Sort.swp d a pv) = R := by rw [← hR]; unfold Sort.partitionEqual; rw [hb1]
  rw [hR]
  have HDF := Lib.hid hDF
  have HB1 := Lib.hid hb1I
  clear hA hn hb1 hDF hb1I hR
  go_enter Try.func41, Try.ntmps41
  have ha : a < (d).size := by rw [HS0.out]; omega
  have hb : pv < (d).size := by rw [HS0.out]; omega
  have ci := HA.out.cell a ha
  have cj := HA.out.cell pv hb
  have HSW := Lib.hid (fun (x y : Nat) (hx : (d)[a]! = x) (hy : (d)[pv]! = y) => HA.out.swp (i := a) (j := pv) (x := x) (y := y) ha hb hx hy)
  have HSC := Lib.hid (fun (y : Nat) (hy : (d)[pv]! = y) => HA.out.second (i := a) (j := pv) ha hb hy)
  obtain ⟨x, hx⟩ : ∃ x, (d)[a]! = x := ⟨_, rfl⟩
  obtain ⟨y, hy⟩ : ∃ y, (d)[pv]! = y := ⟨_, rfl⟩
  rw [hx] at ci
  rw [hy] at cj
  have HX := Lib.hid hx
  have HY := Lib.hid hy
  have zi := HA.out.nf a
  have zj := HA.out.nf pv
  have hiN : (a : Int) < (n : Int) := by omega
  have hjN : (pv : Int) < (n : Int) := by omega
  have hi0 : (0 : Int) ≤ (a : Int) := by omega
  have hj0 : (0 : Int) ≤ (pv : Int) := by omega
  clear hx hy ha hb
  go_upto_region 1 with fail
  have hs := HSC.out y HY.out
  go_region
  clear ci cj zi zj hs
  have H1 := Lib.hid ((HSW.out x y HX.out HY.out).drew)
  have HK1 := Lib.hid ((HK0.out.trans (swp_kp g a pv w (.int .u64 (y : Int)) (.int .u64 (x : Int)))).trans (Kq.drew g _))
  clear HSW HSC HX HY
  obtain ⟨w1, hw1⟩ : ∃ zz, ((w.setCell ⟨g, a, none⟩ (.int .u64 (y : Int))).setCell ⟨g, pv, none⟩ (.int .u64 (x : Int))).drew = zz := ⟨_, rfl⟩
  rw [hw1] at H1 HK1 ⊢
  clear hw1
  obtain ⟨d1, hd1⟩ : ∃ x, Sort.swp d a pv = x := ⟨_, rfl⟩
  have hs1 : d1.size = n := by rw [← hd1, Sort.swp_size]; exact HS0.out
  rw [hd1] at H1 HDF
  have HS1 := Lib.hid hs1
  clear hd1 hs1 HS0
  go_upto_region 2 with fail
  go_cut [9, 10] (fun v9 v10 wz => v9 = .int .i64 ((a + 1 : Nat) : Int) ∧ v10 = .int .i64 (b1 : Int) ∧ w1 = wz)
  case first =>
    go_wp2
    go_meet
    exact ⟨int_eq (by omega), int_eq HB1.out, rfl⟩
  case rest =>
    obtain ⟨rfl, rfl, rfl⟩ := hcut
    go_wp2_with fail
    go_loopw [9, 10] (fun v9 v10 wr => ∃ (i j : Nat) (dk : Array Nat), v9 = .int .i64 (i : Int) ∧ v10 = .int .i64 (j : Int) ∧ a < i ∧ i ≤ j + 1 ∧ j < n ∧ dk.size = n ∧ Arr wr g dk ∧ Kq g w wr ∧ Hid (Sort.partEqLoop ltB a i j dk = R)) (fun v9 v10 _ => (intOf v10 + 1 - intOf v9).toNat)
    case atStart => exact ⟨a + 1, b1, d1, rfl, rfl, by omega, by omega, hb1n, HS1.out, H1.out, HK1.out, HDF⟩
    case round =>
      obtain ⟨i, j, dk, rfl, rfl, hai, hij, hjn, hs, h0, hk0, HO⟩ := hrel
      obtain ⟨W0, rfl⟩ : ∃ W0, W0 = wr := ⟨wr, rfl⟩
      have H0 := Lib.hid h0
      have HK0 := Lib.hid hk0
      have HS := Lib.hid hs
      clear h0 hk0 hs
      obtain ⟨rA, hrA⟩ : ∃ x, Sort.scanUp (fun x => !ltB (dk)[a]! x) (dk) j i = x := ⟨_, rfl⟩
      have HRA := Lib.hid hrA
      clear hrA
      go_wp2_with fail
      go_loopw [9] (fun z wr => ∃ uA : Nat, z = .int .i64 (uA : Int) ∧ i ≤ uA ∧ uA ≤ j + 1 ∧ Hid (Sort.scanUp (fun x => !ltB (dk)[a]! x) (dk) j uA = rA) ∧ Arr wr g (dk) ∧ Kq g w wr) (fun z _ => j + 1 - (intOf z).toNat)
      case atStart => exact ⟨i, rfl, by omega, by omega, HRA, H0.out, HK0.out⟩
      case round =>
        obtain ⟨uA, rfl, raA, rbA, HRA', h_, hk_⟩ := hrel
        obtain ⟨WA, rfl⟩ : ∃ WA, WA = wr := ⟨wr, rfl⟩
        have HA := Lib.hid h_
        have HKA := Lib.hid hk_
        clear h_ hk_
        obtain ⟨cbA, hcb⟩ : ∃ q, (decide (uA ≤ j) && (fun x => !ltB (dk)[a]! x) (dk)[uA]!) = q := ⟨_, rfl⟩
        have HCBA := Lib.hid hcb
        clear hcb
        go_upto_region 3 with fail
        go_cut [43] (fun v wz => v = .bool cbA ∧ ∃ kq, wz = WA.drewN kq)
        case first =>
          by_cases hle : uA ≤ j
          · have hleI : (uA : Int) ≤ (j : Int) := by omega
            have hvn : uA < n := by omega
            have haA : a < (dk).size := by rw [HS.out]; omega
            have hbA : uA < (dk).size := by rw [HS.out]; omega
            have ciA := HA.out.cell a haA
            have cjA := HA.out.cell uA hbA
            obtain ⟨xA, hxA⟩ : ∃ x, (dk)[a]! = x := ⟨_, rfl⟩
            obtain ⟨yA, hyA⟩ : ∃ y, (dk)[uA]! = y := ⟨_, rfl⟩
            rw [hxA] at ciA
            rw [hyA] at cjA
            obtain ⟨qA, hqA⟩ : ∃ q, ltB xA yA = q := ⟨_, rfl⟩
            have HQA := Lib.hid hqA
            have HLA : Hid (ltB (dk)[a]! (dk)[uA]! = qA) := by rw [hxA, hyA]; exact HQA
            have hiNA : (a : Int) < (n : Int) := by omega
            have hjNA : (uA : Int) < (n : Int) := by omega
            have hi0A : (0 : Int) ≤ (a : Int) := by omega
            have hj0A : (0 : Int) ≤ (uA : Int) := by omega
            clear hxA hyA haA hbA hqA
            have hce : cbA = (!qA) := by rw [← HCBA.out, decide_eq_true hle, Bool.true_and]; show (!ltB _ _) = _; rw [HLA.out]
            subst hce
            go_quiet ((go_at_call 40; exact Calls.quiet_of_same (less_q HQA.out _)))
            go_wp2
            go_meet
            exact ⟨rfl, _, rfl⟩
          · have hleI : ¬ (uA : Int) ≤ (j : Int) := by omega
            have hce : cbA = false := by rw [← HCBA.out, decide_eq_false hle, Bool.false_and]
            subst hce
            go_quiet (fail)
            go_wp2
            go_meet
            exact ⟨rfl, _, rfl⟩
        case rest =>
          obtain ⟨rfl, kq, rfl⟩ := hcut
          have h1_ := HA.out.drewN kq
          have hk1_ := HKA.out.trans (Kq.drewN g WA kq)
          obtain ⟨VA, hW_⟩ : ∃ VA, WA.drewN kq = VA := ⟨_, rfl⟩
          rw [hW_] at h1_ hk1_ ⊢
          have HVA := Lib.hid h1_
          have HKVA := Lib.hid hk1_
          clear h1_ hk1_ hW_
          cases cbA with
          | true =>
            have hnI : (n : Int) ≤ 1099511627776 := by omega
            have hcc : uA ≤ j := by
              have := HCBA.out
              rw [Bool.and_eq_true, decide_eq_true_eq] at this
              exact this.1
            have hvI : (uA : Int) ≤ 1099511627776 := by omega
            go_wp2
            go_roundw
            case rel => exact ⟨uA + 1, int_eq (by omega), by omega, by omega, Lib.hid ((up_next (p := fun x => !ltB (dk)[a]! x) () () HCBA.out).symm.trans HRA'.out), HVA.out, HKVA.out⟩
            case measure => simp [intOf] <;> omega
          | false =>
            obtain rfl : uA = rA := (up_end (p := fun x => !ltB (dk)[a]! x) () () HCBA.out).symm.trans HRA'.out
            obtain ⟨rB, hrB⟩ : ∃ x, Sort.scanDown (fun x => ltB (dk)[a]! x) (dk) uA j = x := ⟨_, rfl⟩
            have HRB := Lib.hid hrB
            clear hrB
            go_wp2_with fail
            go_loopw [10] (fun z wr => ∃ uB : Nat, z = .int .i64 (uB : Int) ∧ uA ≤ uB + 1 ∧ uB ≤ j ∧ Hid (Sort.scanDown (fun x => ltB (dk)[a]! x) (dk) uA uB = rB) ∧ Arr wr g (dk) ∧ Kq g w wr) (fun z _ => (intOf z).toNat)
            case atStart => exact ⟨j, rfl, by omega, by omega, HRB, HVA.out, HKVA.out⟩
            case round =>
              obtain ⟨uB, rfl, raB, rbB, HRB', h_, hk_⟩ := hrel
              obtain ⟨WB, rfl⟩ : ∃ WB, WB = wr := ⟨wr, rfl⟩
              have HB := Lib.hid h_
              have HKB := Lib.hid hk_
              clear h_ hk_
              obtain ⟨cbB, hcb⟩ : ∃ q, (decide (uA ≤ uB) && (fun x => ltB (dk)[a]! x) (dk)[uB]!) = q := ⟨_, rfl⟩
              have HCBB := Lib.hid hcb
              clear hcb
              go_upto_region 5 with fail
              go_cut [59] (fun v wz => v = .bool cbB ∧ ∃ kq, wz = WB.drewN kq)
              case first =>
                by_cases hle : uA ≤ uB
                · have hleI : (uA : Int) ≤ (uB : Int) := by omega
                  have hvn : uB < n := by omega
                  have haB : a < (dk).size := by rw [HS.out]; omega
                  have hbB : uB < (dk).size := by rw [HS.out]; omega
                  have ciB := HB.out.cell a haB
                  have cjB := HB.out.cell uB hbB
                  obtain ⟨xB, hxB⟩ : ∃ x, (dk)[a]! = x := ⟨_, rfl⟩
                  obtain ⟨yB, hyB⟩ : ∃ y, (dk)[uB]! = y := ⟨_, rfl⟩
                  rw [hxB] at ciB
                  rw [hyB] at cjB
                  obtain ⟨qB, hqB⟩ : ∃ q, ltB xB yB = q := ⟨_, rfl⟩
                  have HQB := Lib.hid hqB
                  have HLB : Hid (ltB (dk)[a]! (dk)[uB]! = qB) := by rw [hxB, hyB]; exact HQB
                  have hiNB : (a : Int) < (n : Int) := by omega
                  have hjNB : (uB : Int) < (n : Int) := by omega
                  have hi0B : (0 : Int) ≤ (a : Int) := by omega
                  have hj0B : (0 : Int) ≤ (uB : Int) := by omega
                  clear hxB hyB haB hbB hqB
                  have hce : cbB = (qB) := by rw [← HCBB.out, decide_eq_true hle, Bool.true_and]; show (ltB _ _) = _; rw [HLB.out]
                  subst hce
                  go_quiet ((go_at_call 40; exact Calls.quiet_of_same (less_q HQB.out _)))
                  go_wp2
                  go_meet
                  exact ⟨rfl, _, rfl⟩
                · have hleI : ¬ (uA : Int) ≤ (uB : Int) := by omega
                  have hce : cbB = false := by rw [← HCBB.out, decide_eq_false hle, Bool.false_and]
                  subst hce
                  go_quiet (fail)
                  go_wp2
                  go_meet
                  exact ⟨rfl, _, rfl⟩
              case rest =>
                obtain ⟨rfl, kq, rfl⟩ := hcut
                have h1_ := HB.out.drewN kq
                have hk1_ := HKB.out.trans (Kq.drewN g WB kq)
                obtain ⟨VB, hW_⟩ : ∃ VB, WB.drewN kq = VB := ⟨_, rfl⟩
                rw [hW_] at h1_ hk1_ ⊢
                have HVB := Lib.hid h1_
                have HKVB := Lib.hid hk1_
                clear h1_ hk1_ hW_
                cases cbB with
                | true =>
                  have hnI : (n : Int) ≤ 1099511627776 := by omega
                  have hcc : uA ≤ uB := by
                    have := HCBB.out
                    rw [Bool.and_eq_true, decide_eq_true_eq] at this
                    exact this.1
                  have hvI : (uB : Int) ≤ 1099511627776 := by omega
                  go_wp2
                  go_roundw
                  case rel => exact ⟨uB - 1, int_eq (by omega), by omega, by omega, Lib.hid ((down_next (p := fun x => ltB (dk)[a]! x) () () (by omega) HCBB.out).symm.trans HRB'.out), HVB.out, HKVB.out⟩
                  case measure => simp [intOf] <;> omega
                | false =>
                  obtain rfl : uB = rB := (down_end (p := fun x => ltB (dk)[a]! x) () () HCBB.out).symm.trans HRB'.out
                  have hpe := Sort.partEqLoop_eq ltB a i j dk
                  rw [HRA.out, HRB.out, HO.out] at hpe
                  rcases Nat.lt_or_ge uB uA with hlt | hge
                  · rw [if_pos hlt] at hpe
                    subst hpe
                    have hltI : (uB : Int) < (uA : Int) := by omega
                    go_wp2
                    go_ret
                    exact ⟨rfl, HVB.out, HKVB.out, HS.out⟩
                  · rw [if_neg (by omega)] at hpe
                    have HPE := Lib.hid hpe
                    have hne : uA < uB := by
                      rcases Nat.lt_or_ge uA uB with h | h
                      · exact h
                      · obtain rfl : uA = uB := by omega
                        have h1 := HCBA.out
                        have h2 := HCBB.out
                        rw [decide_eq_true (by omega), Bool.true_and] at h1 h2
                        have h1' : (!ltB dk[a]! dk[uA]!) = false := h1
                        have h2' : ltB dk[a]! dk[uA]! = false := h2
                        rw [h2'] at h1'
                        cases h1'
                    have hgeI : ¬ (uB : Int) < (uA : Int) := by omega
                    clear hpe
                    have haS : uA < (dk).size := by rw [HS.out]; omega
                    have hbS : uB < (dk).size := by rw [HS.out]; omega
                    have ciS := HVB.out.cell uA haS
                    have cjS := HVB.out.cell uB hbS
                    have HSWS := Lib.hid (fun (x y : Nat) (hx : (dk)[uA]! = x) (hy : (dk)[uB]! = y) => HVB.out.swp (i := uA) (j := uB) (x := x) (y := y) haS hbS hx hy)
                    have HSCS := Lib.hid (fun (y : Nat) (hy : (dk)[uB]! = y) => HVB.out.second (i := uA) (j := uB) haS hbS hy)
                    obtain ⟨xS, hxS⟩ : ∃ x, (dk)[uA]! = x := ⟨_, rfl⟩
                    obtain ⟨yS, hyS⟩ : ∃ y, (dk)[uB]! = y := ⟨_, rfl⟩
                    rw [hxS] at ciS
                    rw [hyS] at cjS
                    have HXS := Lib.hid hxS
                    have HYS := Lib.hid hyS
                    have ziS := HVB.out.nf uA
                    have zjS := HVB.out.nf uB
                    have hiNS : (uA : Int) < (n : Int) := by omega
                    have hjNS : (uB : Int) < (n : Int) := by omega
                    have hi0S : (0 : Int) ≤ (uA : Int) := by omega
                    have hj0S : (0 : Int) ≤ (uB : Int) := by omega
                    clear hxS hyS haS hbS
                    go_upto_region 8 with fail
                    have hsS := HSCS.out yS HYS.out
                    go_region
                    clear ciS cjS ziS zjS hsS
                    have H2 := Lib.hid ((HSWS.out xS yS HXS.out HYS.out).drew)
                    have HK2 := Lib.hid ((HKVB.out.trans (swp_kp g uA uB VB (.int .u64 (yS : Int)) (.int .u64 (xS : Int)))).trans (Kq.drew g _))
                    clear HSWS HSCS HXS HYS
                    have hnI : (n : Int) ≤ 1099511627776 := by omega
                    have huB : (uB : Int) ≤ 1099511627776 := by omega
                    have huA : (uA : Int) ≤ 1099511627776 := by omega
                    go_wp2
                    go_roundw
                    case rel => exact ⟨uA + 1, uB - 1, _, by go_num, int_eq (by omega), by omega, by omega, by omega, by rw [Sort.swp_size]; exact HS.out, H2.out, HK2.out, Lib.hid HPE.out.symm⟩
                    case measure => simp [intOf] <;> omega
end Go.Proofs.Ytfdafoibclfpgaa
