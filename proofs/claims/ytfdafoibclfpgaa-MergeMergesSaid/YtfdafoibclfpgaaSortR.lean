/-
  Package slices, of numbers: the partition.
-/
import Derived.Test.YtfdafoibclfpgaaSortQ
namespace Go.Proofs.Ytfdafoibclfpgaa
open Go.ChangeShapes Go.WideShapes Go.ChangeAt Go.RowKit Go.Deep
set_option linter.unusedVariables false
set_option linter.unusedSimpArgs false
theorem part_is {d d1 : Array Nat} {a b b1 pv i j : Nat} (hb : b - 1 = b1) (h1 : Sort.swp d a pv = d1) (hi : Sort.scanUp (fun x => ltB x d1[a]!) d1 b1 (a + 1) = i) (hj : Sort.scanDown (fun x => !ltB x d1[a]!) d1 i b1 = j) :
    Sort.partition ltB d a b pv = if j < i then (j, true, Sort.swp d1 j a) else ((Sort.partLoop ltB a (i + 1) (j - 1) (Sort.swp d1 i j)).1, false, Sort.swp (Sort.partLoop ltB a (i + 1) (j - 1) (Sort.swp d1 i j)).2 (Sort.partLoop ltB a (i + 1) (j - 1) (Sort.swp d1 i j)).1 a) := by
  subst h1
  subst hb
  subst hi
  subst hj
  rfl
set_option maxRecDepth 100000 in
set_option maxHeartbeats 64000000 in
theorem Part_any (g n cap a b pv : Nat) (d : Array Nat) (w : World) (hA : Arr w g d) (hn : d.size = n) (hnc : n ≤ cap) (hcap : (cap : Int) ≤ 9223372036854775807) (hn40 : (n : Int) ≤ 1099511627776) (hb : b ≤ n) (hp1 : a ≤ pv) (hp2 : pv < b) :
    Calls Try.prog 42 #[.slice (some ⟨g, 0, none⟩) n cap, .int .i64 (a : Int), .int .i64 (b : Int), .int .i64 (pv : Int)] w fun e w' => e = .returned (.tuple #[.int .i64 ((Sort.partition ltB d a b pv).1 : Int), .bool (Sort.partition ltB d a b pv).2.1]) ∧ Arr w' g (Sort.partition ltB d a b pv).2.2 ∧ Kq g w w' ∧ (Sort.partition ltB d a b pv).2.2.size = n := by
  have HA := Lib.hid hA
  have HS0 := Lib.hid hn
  have HK0 := Lib.hid (Kq.refl g w)
  obtain ⟨b1, hb1⟩ : ∃ x, b - 1 = x := ⟨_, rfl⟩
  have hb1I : (b : Int) - 1 = (b1 : Int) := by omega
  have hbI : (b : Int) ≤ 1099511627776 := by omega
  have haI : (a : Int) ≤ 1099511627776 := by omega
  have hb1n : b1 < n := by omega
  have hab : a < b1 + 1 := by omega
  have han : a < n := by omega
  obtain ⟨R, hR⟩ : ∃ R, Sort.partition ltB d a b pv = R := ⟨_, rfl⟩
  rw [hR]
  have HRR := Lib.hid hR
  have HBB := Lib.hid hb1
  have HB1 := Lib.hid hb1I
  clear hA hn hb1 hb1I hR
  go_enter Try.func42, Try.ntmps42
  have ha : a < (d).size := by rw [HS0.out]; omega
  have hb : pv < (d).size := by rw [HS0.out]; omega
  have ci := HA.out.cell a ha
  have cj := HA.out.cell pv hb
  have HSW := Lib.hid (fun (x y : Nat) (hx : (d)[a]! = x) (hy : (d)[pv]! = y) => HA.out.swp (i := a) (j := pv) (x := x) (y := y) ha hb hx hy)
  have HSC := Lib.hid (fun (y : Nat) (hy : (d)[pv]! = y) => HA.out.second (i := a) (j := pv) ha hb hy)
  obtain ⟨x, hx⟩ : ∃ x, (d)[a]! = x := ⟨_, rfl⟩
  obtain ⟨y, hy⟩ : ∃ y, (d)[pv]! = y := ⟨_, rfl⟩
  rw [hx] at ci
  rw [hy] at cj
  have HX := Lib.hid hx
  have HY := Lib.hid hy
  have zi := HA.out.nf a
  have zj := HA.out.nf pv
  have hiN : (a : Int) < (n : Int) := by omega
  have hjN : (pv : Int) < (n : Int) := by omega
  have hi0 : (0 : Int) ≤ (a : Int) := by omega
  have hj0 : (0 : Int) ≤ (pv : Int) := by omega
  clear hx hy ha hb
  go_upto_region 1 with fail
  have hs := HSC.out y HY.out
  go_region
  clear ci cj zi zj hs
  have H1 := Lib.hid ((HSW.out x y HX.out HY.out).drew)
  have HK1 := Lib.hid ((HK0.out.trans (swp_kp g a pv w (.int .u64 (y : Int)) (.int .u64 (x : Int)))).trans (Kq.drew g _))
  clear HSW HSC HX HY
  obtain ⟨w1, hw1⟩ : ∃ zz, ((w.setCell ⟨g, a, none⟩ (.int .u64 (y : Int))).setCell ⟨g, pv, none⟩ (.int .u64 (x : Int))).drew = zz := ⟨_, rfl⟩
  rw [hw1] at H1 HK1 ⊢
  clear hw1
  obtain ⟨d1, hd1⟩ : ∃ x, Sort.swp d a pv = x := ⟨_, rfl⟩
  have hs1 : d1.size = n := by rw [← hd1, Sort.swp_size]; exact HS0.out
  rw [hd1] at H1
  have HS := Lib.hid hs1
  have HD1 := Lib.hid hd1
  clear hd1 hs1 HS0
  go_upto_region 2 with fail
  go_cut [10, 11] (fun v9 v10 wz => v9 = .int .i64 ((a + 1 : Nat) : Int) ∧ v10 = .int .i64 (b1 : Int) ∧ w1 = wz)
  case first =>
    go_wp2
    go_meet
    exact ⟨int_eq (by omega), int_eq HB1.out, rfl⟩
  case rest =>
    obtain ⟨rfl, rfl, rfl⟩ := hcut
    obtain ⟨i, hi⟩ : ∃ i, a + 1 = i := ⟨_, rfl⟩
    rw [hi]
    have HI := Lib.hid hi
    have hai : a < i := by omega
    have hij : i ≤ b1 + 1 := by omega
    clear hi
    obtain ⟨rA, hrA⟩ : ∃ x, Sort.scanUp (fun x => ltB x (d1)[a]!) (d1) b1 i = x := ⟨_, rfl⟩
    have HRA := Lib.hid hrA
    clear hrA
    go_wp2_with fail
    go_loopw [10] (fun z wr => ∃ uA : Nat, z = .int .i64 (uA : Int) ∧ i ≤ uA ∧ uA ≤ b1 + 1 ∧ Hid (Sort.scanUp (fun x => ltB x (d1)[a]!) (d1) b1 uA = rA) ∧ Arr wr g (d1) ∧ Kq g w wr) (fun z _ => b1 + 1 - (intOf z).toNat)
    case atStart => exact ⟨i, rfl, by omega, by omega, HRA, H1.out, HK1.out⟩
    case round =>
      obtain ⟨uA, rfl, raA, rbA, HRA', h_, hk_⟩ := hrel
      obtain ⟨WA, rfl⟩ : ∃ WA, WA = wr := ⟨wr, rfl⟩
      have HA := Lib.hid h_
      have HKA := Lib.hid hk_
      clear h_ hk_
      obtain ⟨cbA, hcb⟩ : ∃ q, (decide (uA ≤ b1) && (fun x => ltB x (d1)[a]!) (d1)[uA]!) = q := ⟨_, rfl⟩
      have HCBA := Lib.hid hcb
      clear hcb
      go_upto_region 3 with fail
      go_cut [43] (fun v wz => v = .bool cbA ∧ ∃ kq, wz = WA.drewN kq)
      case first =>
        by_cases hle : uA ≤ b1
        · have hleI : (uA : Int) ≤ (b1 : Int) := by omega
          have hvn : uA < n := by omega
          have haA : uA < (d1).size := by rw [HS.out]; omega
          have hbA : a < (d1).size := by rw [HS.out]; omega
          have ciA := HA.out.cell uA haA
          have cjA := HA.out.cell a hbA
          obtain ⟨xA, hxA⟩ : ∃ x, (d1)[uA]! = x := ⟨_, rfl⟩
          obtain ⟨yA, hyA⟩ : ∃ y, (d1)[a]! = y := ⟨_, rfl⟩
          rw [hxA] at ciA
          rw [hyA] at cjA
          obtain ⟨qA, hqA⟩ : ∃ q, ltB xA yA = q := ⟨_, rfl⟩
          have HQA := Lib.hid hqA
          have HLA : Hid (ltB (d1)[uA]! (d1)[a]! = qA) := by rw [hxA, hyA]; exact HQA
          have hiNA : (uA : Int) < (n : Int) := by omega
          have hjNA : (a : Int) < (n : Int) := by omega
          have hi0A : (0 : Int) ≤ (uA : Int) := by omega
          have hj0A : (0 : Int) ≤ (a : Int) := by omega
          clear hxA hyA haA hbA hqA
          have hce : cbA = (qA) := by rw [← HCBA.out, decide_eq_true hle, Bool.true_and]; show (ltB _ _) = _; rw [HLA.out]
          subst hce
          go_quiet ((go_at_call 40; exact Calls.quiet_of_same (less_q HQA.out _)))
          go_wp2
          go_meet
          exact ⟨rfl, _, rfl⟩
        · have hleI : ¬ (uA : Int) ≤ (b1 : Int) := by omega
          have hce : cbA = false := by rw [← HCBA.out, decide_eq_false hle, Bool.false_and]
          subst hce
          go_quiet (fail)
          go_wp2
          go_meet
          exact ⟨rfl, _, rfl⟩
      case rest =>
        obtain ⟨rfl, kq, rfl⟩ := hcut
        have h1_ := HA.out.drewN kq
        have hk1_ := HKA.out.trans (Kq.drewN g WA kq)
        obtain ⟨VA, hW_⟩ : ∃ VA, WA.drewN kq = VA := ⟨_, rfl⟩
        rw [hW_] at h1_ hk1_ ⊢
        have HVA := Lib.hid h1_
        have HKVA := Lib.hid hk1_
        clear h1_ hk1_ hW_
        cases cbA with
        | true =>
          have hnI : (n : Int) ≤ 1099511627776 := by omega
          have hcc : uA ≤ b1 := by
            have := HCBA.out
            rw [Bool.and_eq_true, decide_eq_true_eq] at this
            exact this.1
          have hvI : (uA : Int) ≤ 1099511627776 := by omega
          go_wp2
          go_roundw
          case rel => exact ⟨uA + 1, int_eq (by omega), by omega, by omega, Lib.hid ((up_next (p := fun x => ltB x (d1)[a]!) () () HCBA.out).symm.trans HRA'.out), HVA.out, HKVA.out⟩
          case measure => simp [intOf] <;> omega
        | false =>
          obtain rfl : uA = rA := (up_end (p := fun x => ltB x (d1)[a]!) () () HCBA.out).symm.trans HRA'.out
          obtain ⟨rB, hrB⟩ : ∃ x, Sort.scanDown (fun x => !ltB x (d1)[a]!) (d1) uA b1 = x := ⟨_, rfl⟩
          have HRB := Lib.hid hrB
          clear hrB
          go_wp2_with fail
          go_loopw [11] (fun z wr => ∃ uB : Nat, z = .int .i64 (uB : Int) ∧ uA ≤ uB + 1 ∧ uB ≤ b1 ∧ Hid (Sort.scanDown (fun x => !ltB x (d1)[a]!) (d1) uA uB = rB) ∧ Arr wr g (d1) ∧ Kq g w wr) (fun z _ => (intOf z).toNat)
          case atStart => exact ⟨b1, rfl, by omega, by omega, HRB, HVA.out, HKVA.out⟩
          case round =>
            obtain ⟨uB, rfl, raB, rbB, HRB', h_, hk_⟩ := hrel
            obtain ⟨WB, rfl⟩ : ∃ WB, WB = wr := ⟨wr, rfl⟩
            have HB := Lib.hid h_
            have HKB := Lib.hid hk_
            clear h_ hk_
            obtain ⟨cbB, hcb⟩ : ∃ q, (decide (uA ≤ uB) && (fun x => !ltB x (d1)[a]!) (d1)[uB]!) = q := ⟨_, rfl⟩
            have HCBB := Lib.hid hcb
            clear hcb
            go_upto_region 5 with fail
            go_cut [60] (fun v wz => v = .bool cbB ∧ ∃ kq, wz = WB.drewN kq)
            case first =>
              by_cases hle : uA ≤ uB
              · have hleI : (uA : Int) ≤ (uB : Int) := by omega
                have hvn : uB < n := by omega
                have haB : uB < (d1).size := by rw [HS.out]; omega
                have hbB : a < (d1).size := by rw [HS.out]; omega
                have ciB := HB.out.cell uB haB
                have cjB := HB.out.cell a hbB
                obtain ⟨xB, hxB⟩ : ∃ x, (d1)[uB]! = x := ⟨_, rfl⟩
                obtain ⟨yB, hyB⟩ : ∃ y, (d1)[a]! = y := ⟨_, rfl⟩
                rw [hxB] at ciB
                rw [hyB] at cjB
                obtain ⟨qB, hqB⟩ : ∃ q, ltB xB yB = q := ⟨_, rfl⟩
                have HQB := Lib.hid hqB
                have HLB : Hid (ltB (d1)[uB]! (d1)[a]! = qB) := by rw [hxB, hyB]; exact HQB
                have hiNB : (uB : Int) < (n : Int) := by omega
                have hjNB : (a : Int) < (n : Int) := by omega
                have hi0B : (0 : Int) ≤ (uB : Int) := by omega
                have hj0B : (0 : Int) ≤ (a : Int) := by omega
                clear hxB hyB haB hbB hqB
                have hce : cbB = (!qB) := by rw [← HCBB.out, decide_eq_true hle, Bool.true_and]; show (!ltB _ _) = _; rw [HLB.out]
                subst hce
                go_quiet ((go_at_call 40; exact Calls.quiet_of_same (less_q HQB.out _)))
                go_wp2
                go_meet
                exact ⟨rfl, _, rfl⟩
              · have hleI : ¬ (uA : Int) ≤ (uB : Int) := by omega
                have hce : cbB = false := by rw [← HCBB.out, decide_eq_false hle, Bool.false_and]
                subst hce
                go_quiet (fail)
                go_wp2
                go_meet
                exact ⟨rfl, _, rfl⟩
            case rest =>
              obtain ⟨rfl, kq, rfl⟩ := hcut
              have h1_ := HB.out.drewN kq
              have hk1_ := HKB.out.trans (Kq.drewN g WB kq)
              obtain ⟨VB, hW_⟩ : ∃ VB, WB.drewN kq = VB := ⟨_, rfl⟩
              rw [hW_] at h1_ hk1_ ⊢
              have HVB := Lib.hid h1_
              have HKVB := Lib.hid hk1_
              clear h1_ hk1_ hW_
              cases cbB with
              | true =>
                have hnI : (n : Int) ≤ 1099511627776 := by omega
                have hcc : uA ≤ uB := by
                  have := HCBB.out
                  rw [Bool.and_eq_true, decide_eq_true_eq] at this
                  exact this.1
                have hvI : (uB : Int) ≤ 1099511627776 := by omega
                go_wp2
                go_roundw
                case rel => exact ⟨uB - 1, int_eq (by omega), by omega, by omega, Lib.hid ((down_next (p := fun x => !ltB x (d1)[a]!) () () (by omega) HCBB.out).symm.trans HRB'.out), HVB.out, HKVB.out⟩
                case measure => simp [intOf] <;> omega
              | false =>
                obtain rfl : uB = rB := (down_end (p := fun x => !ltB x (d1)[a]!) () () HCBB.out).symm.trans HRB'.out
                have hpi := part_is HBB.out HD1.out (by rw [HI.out]; exact HRA.out) HRB.out
                rw [HRR.out] at hpi
                rcases Nat.lt_or_ge uB uA with hlt | hge
                · rw [if_pos hlt] at hpi
                  have HPI := Lib.hid hpi
                  have hltI : (uB : Int) < (uA : Int) := by omega
                  clear hpi
                  have haS : uB < (d1).size := by rw [HS.out]; omega
                  have hbS : a < (d1).size := by rw [HS.out]; omega
                  have ciS := HVB.out.cell uB haS
                  have cjS := HVB.out.cell a hbS
                  have HSWS := Lib.hid (fun (x y : Nat) (hx : (d1)[uB]! = x) (hy : (d1)[a]! = y) => HVB.out.swp (i := uB) (j := a) (x := x) (y := y) haS hbS hx hy)
                  have HSCS := Lib.hid (fun (y : Nat) (hy : (d1)[a]! = y) => HVB.out.second (i := uB) (j := a) haS hbS hy)
                  obtain ⟨xS, hxS⟩ : ∃ x, (d1)[uB]! = x := ⟨_, rfl⟩
                  obtain ⟨yS, hyS⟩ : ∃ y, (d1)[a]! = y := ⟨_, rfl⟩
                  rw [hxS] at ciS
                  rw [hyS] at cjS
                  have HXS := Lib.hid hxS
                  have HYS := Lib.hid hyS
                  have ziS := HVB.out.nf uB
                  have zjS := HVB.out.nf a
                  have hiNS : (uB : Int) < (n : Int) := by omega
                  have hjNS : (a : Int) < (n : Int) := by omega
                  have hi0S : (0 : Int) ≤ (uB : Int) := by omega
                  have hj0S : (0 : Int) ≤ (a : Int) := by omega
                  clear hxS hyS haS hbS
                  go_upto_region 8 with fail
                  have hsS := HSCS.out yS HYS.out
                  go_region
                  clear ciS cjS ziS zjS hsS
                  have H2 := Lib.hid ((HSWS.out xS yS HXS.out HYS.out).drew)
                  have HK2 := Lib.hid ((HKVB.out.trans (swp_kp g uB a VB (.int .u64 (yS : Int)) (.int .u64 (xS : Int)))).trans (Kq.drew g _))
                  clear HSWS HSCS HXS HYS
                  go_wp2
                  go_ret2
                  exact ⟨by rw [HPI.out]; rfl, by rw [HPI.out]; exact H2.out, HK2.out, by rw [HPI.out]; show (Sort.swp d1 uB a).size = n; rw [Sort.swp_size]; exact HS.out⟩
                · rw [if_neg (by omega)] at hpi
                  have HPI := Lib.hid hpi
                  have hne : uA < uB := by
                    rcases Nat.lt_or_ge uA uB with h | h
                    · exact h
                    · obtain rfl : uA = uB := by omega
                      have h1 := HCBA.out
                      have h2 := HCBB.out
                      rw [decide_eq_true (by omega), Bool.true_and] at h1 h2
                      have h1' : ltB d1[uA]! d1[a]! = false := h1
                      have h2' : (!ltB d1[uA]! d1[a]!) = false := h2
                      rw [h1'] at h2'
                      cases h2'
                  have hgeI : ¬ (uB : Int) < (uA : Int) := by omega
                  clear hpi
                  have haS : uA < (d1).size := by rw [HS.out]; omega
                  have hbS : uB < (d1).size := by rw [HS.out]; omega
                  have ciS := HVB.out.cell uA haS
                  have cjS := HVB.out.cell uB hbS
                  have HSWS := Lib.hid (fun (x y : Nat) (hx : (d1)[uA]! = x) (hy : (d1)[uB]! = y) => HVB.out.swp (i := uA) (j := uB) (x := x) (y := y) haS hbS hx hy)
                  have HSCS := Lib.hid (fun (y : Nat) (hy : (d1)[uB]! = y) => HVB.out.second (i := uA) (j := uB) haS hbS hy)
                  obtain ⟨xS, hxS⟩ : ∃ x, (d1)[uA]! = x := ⟨_, rfl⟩
                  obtain ⟨yS, hyS⟩ : ∃ y, (d1)[uB]! = y := ⟨_, rfl⟩
                  rw [hxS] at ciS
                  rw [hyS] at cjS
                  have HXS := Lib.hid hxS
                  have HYS := Lib.hid hyS
                  have ziS := HVB.out.nf uA
                  have zjS := HVB.out.nf uB
                  have hiNS : (uA : Int) < (n : Int) := by omega
                  have hjNS : (uB : Int) < (n : Int) := by omega
                  have hi0S : (0 : Int) ≤ (uA : Int) := by omega
                  have hj0S : (0 : Int) ≤ (uB : Int) := by omega
                  clear hxS hyS haS hbS
                  go_upto_region 10 with fail
                  have hsS := HSCS.out yS HYS.out
                  go_region
                  clear ciS cjS ziS zjS hsS
                  have H2 := Lib.hid ((HSWS.out xS yS HXS.out HYS.out).drew)
                  have HK2 := Lib.hid ((HKVB.out.trans (swp_kp g uA uB VB (.int .u64 (yS : Int)) (.int .u64 (xS : Int)))).trans (Kq.drew g _))
                  clear HSWS HSCS HXS HYS
                  obtain ⟨w2, hw2⟩ : ∃ zz, ((VB.setCell ⟨g, uA, none⟩ (.int .u64 (yS : Int))).setCell ⟨g, uB, none⟩ (.int .u64 (xS : Int))).drew = zz := ⟨_, rfl⟩
                  rw [hw2] at H2 HK2 ⊢
                  clear hw2
                  obtain ⟨PL, hPL⟩ : ∃ R, Sort.partLoop ltB a (uA + 1) (uB - 1) (Sort.swp d1 uA uB) = R := ⟨_, rfl⟩
                  rw [hPL] at HPI
                  have HPL := Lib.hid hPL
                  have hs2 : (Sort.swp d1 uA uB).size = n := by rw [Sort.swp_size]; exact HS.out
                  have HS2 := Lib.hid hs2
                  have huAI : (uA : Int) ≤ 1099511627776 := by omega
                  have huBI : (uB : Int) ≤ 1099511627776 := by omega
                  obtain ⟨ia, hia⟩ : ∃ x, uA + 1 = x := ⟨_, rfl⟩
                  obtain ⟨ja, hja⟩ : ∃ x, uB - 1 = x := ⟨_, rfl⟩
                  rw [hia, hja] at HPL
                  have hiaI : (uA : Int) + 1 = (ia : Int) := by omega
                  have hjaI : (uB : Int) - 1 = (ja : Int) := by omega
                  have hai2 : a < ia := by omega
                  have hij2 : ia ≤ ja + 1 := by omega
                  have hjn2 : ja < n := by omega
                  have HIA := Lib.hid hiaI
                  have HJA := Lib.hid hjaI
                  clear hPL hs2 hia hja hiaI hjaI
                  go_upto_region 11 with fail
                  go_cut [10] (fun v wz => v = .int .i64 (ia : Int) ∧ w2 = wz)
                  case first =>
                    go_wp2
                    go_meet
                    exact ⟨int_eq HIA.out, rfl⟩
                  case rest =>
                    obtain ⟨rfl, rfl⟩ := hcut
                    go_upto_region 12 with fail
                    go_cut [11] (fun v wz => v = .int .i64 (ja : Int) ∧ w2 = wz)
                    case first =>
                      go_wp2
                      go_meet
                      exact ⟨int_eq HJA.out, rfl⟩
                    case rest =>
                      obtain ⟨rfl, rfl⟩ := hcut
                      clear HCBA HCBB
                      go_wp2_with fail
                      go_loopw [10, 11] (fun v9 v10 wr => ∃ (i j : Nat) (dk : Array Nat), v9 = .int .i64 (i : Int) ∧ v10 = .int .i64 (j : Int) ∧ a < i ∧ i ≤ j + 1 ∧ j < n ∧ dk.size = n ∧ Arr wr g dk ∧ Kq g w wr ∧ Hid (Sort.partLoop ltB a i j dk = PL)) (fun v9 v10 _ => (intOf v10 + 1 - intOf v9).toNat)
                      case atStart => exact ⟨ia, ja, _, rfl, rfl, hai2, hij2, hjn2, HS2.out, H2.out, HK2.out, HPL⟩
                      case round =>
                        obtain ⟨i, j, dk, rfl, rfl, hai, hij, hjn, hs, h0, hk0, HO⟩ := hrel
                        obtain ⟨W0, rfl⟩ : ∃ W0, W0 = wr := ⟨wr, rfl⟩
                        have H0 := Lib.hid h0
                        have HK0 := Lib.hid hk0
                        have HS := Lib.hid hs
                        clear h0 hk0 hs
                        obtain ⟨rC, hrC⟩ : ∃ x, Sort.scanUp (fun x => ltB x (dk)[a]!) (dk) j i = x := ⟨_, rfl⟩
                        have HRC := Lib.hid hrC
                        clear hrC
                        go_wp2_with fail
                        go_loopw [10] (fun z wr => ∃ uC : Nat, z = .int .i64 (uC : Int) ∧ i ≤ uC ∧ uC ≤ j + 1 ∧ Hid (Sort.scanUp (fun x => ltB x (dk)[a]!) (dk) j uC = rC) ∧ Arr wr g (dk) ∧ Kq g w wr) (fun z _ => j + 1 - (intOf z).toNat)
                        case atStart => exact ⟨i, rfl, by omega, by omega, HRC, H0.out, HK0.out⟩
                        case round =>
                          obtain ⟨uC, rfl, raC, rbC, HRC', h_, hk_⟩ := hrel
                          obtain ⟨WC, rfl⟩ : ∃ WC, WC = wr := ⟨wr, rfl⟩
                          have HC := Lib.hid h_
                          have HKC := Lib.hid hk_
                          clear h_ hk_
                          obtain ⟨cbC, hcb⟩ : ∃ q, (decide (uC ≤ j) && (fun x => ltB x (dk)[a]!) (dk)[uC]!) = q := ⟨_, rfl⟩
                          have HCBC := Lib.hid hcb
                          clear hcb
                          go_upto_region 13 with fail
                          go_cut [112] (fun v wz => v = .bool cbC ∧ ∃ kq, wz = WC.drewN kq)
                          case first =>
                            by_cases hle : uC ≤ j
                            · have hleI : (uC : Int) ≤ (j : Int) := by omega
                              have hvn : uC < n := by omega
                              have haC : uC < (dk).size := by rw [HS.out]; omega
                              have hbC : a < (dk).size := by rw [HS.out]; omega
                              have ciC := HC.out.cell uC haC
                              have cjC := HC.out.cell a hbC
                              obtain ⟨xC, hxC⟩ : ∃ x, (dk)[uC]! = x := ⟨_, rfl⟩
                              obtain ⟨yC, hyC⟩ : ∃ y, (dk)[a]! = y := ⟨_, rfl⟩
                              rw [hxC] at ciC
                              rw [hyC] at cjC
                              obtain ⟨qC, hqC⟩ : ∃ q, ltB xC yC = q := ⟨_, rfl⟩
                              have HQC := Lib.hid hqC
                              have HLC : Hid (ltB (dk)[uC]! (dk)[a]! = qC) := by rw [hxC, hyC]; exact HQC
                              have hiNC : (uC : Int) < (n : Int) := by omega
                              have hjNC : (a : Int) < (n : Int) := by omega
                              have hi0C : (0 : Int) ≤ (uC : Int) := by omega
                              have hj0C : (0 : Int) ≤ (a : Int) := by omega
                              clear hxC hyC haC hbC hqC
                              have hce : cbC = (qC) := by rw [← HCBC.out, decide_eq_true hle, Bool.true_and]; show (ltB _ _) = _; rw [HLC.out]
                              subst hce
                              go_quiet ((go_at_call 40; exact Calls.quiet_of_same (less_q HQC.out _)))
                              go_wp2
                              go_meet
                              exact ⟨rfl, _, rfl⟩
                            · have hleI : ¬ (uC : Int) ≤ (j : Int) := by omega
                              have hce : cbC = false := by rw [← HCBC.out, decide_eq_false hle, Bool.false_and]
                              subst hce
                              go_quiet (fail)
                              go_wp2
                              go_meet
                              exact ⟨rfl, _, rfl⟩
                          case rest =>
                            obtain ⟨rfl, kq, rfl⟩ := hcut
                            have h1_ := HC.out.drewN kq
                            have hk1_ := HKC.out.trans (Kq.drewN g WC kq)
                            obtain ⟨VC, hW_⟩ : ∃ VC, WC.drewN kq = VC := ⟨_, rfl⟩
                            rw [hW_] at h1_ hk1_ ⊢
                            have HVC := Lib.hid h1_
                            have HKVC := Lib.hid hk1_
                            clear h1_ hk1_ hW_
                            cases cbC with
                            | true =>
                              have hnI : (n : Int) ≤ 1099511627776 := by omega
                              have hcc : uC ≤ j := by
                                have := HCBC.out
                                rw [Bool.and_eq_true, decide_eq_true_eq] at this
                                exact this.1
                              have hvI : (uC : Int) ≤ 1099511627776 := by omega
                              go_wp2
                              go_roundw
                              case rel => exact ⟨uC + 1, int_eq (by omega), by omega, by omega, Lib.hid ((up_next (p := fun x => ltB x (dk)[a]!) () () HCBC.out).symm.trans HRC'.out), HVC.out, HKVC.out⟩
                              case measure => simp [intOf] <;> omega
                            | false =>
                              obtain rfl : uC = rC := (up_end (p := fun x => ltB x (dk)[a]!) () () HCBC.out).symm.trans HRC'.out
                              obtain ⟨rD, hrD⟩ : ∃ x, Sort.scanDown (fun x => !ltB x (dk)[a]!) (dk) uC j = x := ⟨_, rfl⟩
                              have HRD := Lib.hid hrD
                              clear hrD
                              go_wp2_with fail
                              go_loopw [11] (fun z wr => ∃ uD : Nat, z = .int .i64 (uD : Int) ∧ uC ≤ uD + 1 ∧ uD ≤ j ∧ Hid (Sort.scanDown (fun x => !ltB x (dk)[a]!) (dk) uC uD = rD) ∧ Arr wr g (dk) ∧ Kq g w wr) (fun z _ => (intOf z).toNat)
                              case atStart => exact ⟨j, rfl, by omega, by omega, HRD, HVC.out, HKVC.out⟩
                              case round =>
                                obtain ⟨uD, rfl, raD, rbD, HRD', h_, hk_⟩ := hrel
                                obtain ⟨WD, rfl⟩ : ∃ WD, WD = wr := ⟨wr, rfl⟩
                                have HD := Lib.hid h_
                                have HKD := Lib.hid hk_
                                clear h_ hk_
                                obtain ⟨cbD, hcb⟩ : ∃ q, (decide (uC ≤ uD) && (fun x => !ltB x (dk)[a]!) (dk)[uD]!) = q := ⟨_, rfl⟩
                                have HCBD := Lib.hid hcb
                                clear hcb
                                go_upto_region 15 with fail
                                go_cut [129] (fun v wz => v = .bool cbD ∧ ∃ kq, wz = WD.drewN kq)
                                case first =>
                                  by_cases hle : uC ≤ uD
                                  · have hleI : (uC : Int) ≤ (uD : Int) := by omega
                                    have hvn : uD < n := by omega
                                    have haD : uD < (dk).size := by rw [HS.out]; omega
                                    have hbD : a < (dk).size := by rw [HS.out]; omega
                                    have ciD := HD.out.cell uD haD
                                    have cjD := HD.out.cell a hbD
                                    obtain ⟨xD, hxD⟩ : ∃ x, (dk)[uD]! = x := ⟨_, rfl⟩
                                    obtain ⟨yD, hyD⟩ : ∃ y, (dk)[a]! = y := ⟨_, rfl⟩
                                    rw [hxD] at ciD
                                    rw [hyD] at cjD
                                    obtain ⟨qD, hqD⟩ : ∃ q, ltB xD yD = q := ⟨_, rfl⟩
                                    have HQD := Lib.hid hqD
                                    have HLD : Hid (ltB (dk)[uD]! (dk)[a]! = qD) := by rw [hxD, hyD]; exact HQD
                                    have hiND : (uD : Int) < (n : Int) := by omega
                                    have hjND : (a : Int) < (n : Int) := by omega
                                    have hi0D : (0 : Int) ≤ (uD : Int) := by omega
                                    have hj0D : (0 : Int) ≤ (a : Int) := by omega
                                    clear hxD hyD haD hbD hqD
                                    have hce : cbD = (!qD) := by rw [← HCBD.out, decide_eq_true hle, Bool.true_and]; show (!ltB _ _) = _; rw [HLD.out]
                                    subst hce
                                    go_quiet ((go_at_call 40; exact Calls.quiet_of_same (less_q HQD.out _)))
                                    go_wp2
                                    go_meet
                                    exact ⟨rfl, _, rfl⟩
                                  · have hleI : ¬ (uC : Int) ≤ (uD : Int) := by omega
                                    have hce : cbD = false := by rw [← HCBD.out, decide_eq_false hle, Bool.false_and]
                                    subst hce
                                    go_quiet (fail)
                                    go_wp2
                                    go_meet
                                    exact ⟨rfl, _, rfl⟩
                                case rest =>
                                  obtain ⟨rfl, kq, rfl⟩ := hcut
                                  have h1_ := HD.out.drewN kq
                                  have hk1_ := HKD.out.trans (Kq.drewN g WD kq)
                                  obtain ⟨VD, hW_⟩ : ∃ VD, WD.drewN kq = VD := ⟨_, rfl⟩
                                  rw [hW_] at h1_ hk1_ ⊢
                                  have HVD := Lib.hid h1_
                                  have HKVD := Lib.hid hk1_
                                  clear h1_ hk1_ hW_
                                  cases cbD with
                                  | true =>
                                    have hnI : (n : Int) ≤ 1099511627776 := by omega
                                    have hcc : uC ≤ uD := by
                                      have := HCBD.out
                                      rw [Bool.and_eq_true, decide_eq_true_eq] at this
                                      exact this.1
                                    have hvI : (uD : Int) ≤ 1099511627776 := by omega
                                    go_wp2
                                    go_roundw
                                    case rel => exact ⟨uD - 1, int_eq (by omega), by omega, by omega, Lib.hid ((down_next (p := fun x => !ltB x (dk)[a]!) () () (by omega) HCBD.out).symm.trans HRD'.out), HVD.out, HKVD.out⟩
                                    case measure => simp [intOf] <;> omega
                                  | false =>
                                    obtain rfl : uD = rD := (down_end (p := fun x => !ltB x (dk)[a]!) () () HCBD.out).symm.trans HRD'.out
                                    have hpe := Sort.partLoop_eq ltB a i j dk
                                    rw [HRC.out, HRD.out, HO.out] at hpe
                                    rcases Nat.lt_or_ge uD uC with hlt | hge
                                    · rw [if_pos hlt] at hpe
                                      rw [hpe] at HPI
                                      have hltI : (uD : Int) < (uC : Int) := by omega
                                      clear hpe
                                      have haT : uD < (dk).size := by rw [HS.out]; omega
                                      have hbT : a < (dk).size := by rw [HS.out]; omega
                                      have ciT := HVD.out.cell uD haT
                                      have cjT := HVD.out.cell a hbT
                                      have HSWT := Lib.hid (fun (x y : Nat) (hx : (dk)[uD]! = x) (hy : (dk)[a]! = y) => HVD.out.swp (i := uD) (j := a) (x := x) (y := y) haT hbT hx hy)
                                      have HSCT := Lib.hid (fun (y : Nat) (hy : (dk)[a]! = y) => HVD.out.second (i := uD) (j := a) haT hbT hy)
                                      obtain ⟨xT, hxT⟩ : ∃ x, (dk)[uD]! = x := ⟨_, rfl⟩
                                      obtain ⟨yT, hyT⟩ : ∃ y, (dk)[a]! = y := ⟨_, rfl⟩
                                      rw [hxT] at ciT
                                      rw [hyT] at cjT
                                      have HXT := Lib.hid hxT
                                      have HYT := Lib.hid hyT
                                      have ziT := HVD.out.nf uD
                                      have zjT := HVD.out.nf a
                                      have hiNT : (uD : Int) < (n : Int) := by omega
                                      have hjNT : (a : Int) < (n : Int) := by omega
                                      have hi0T : (0 : Int) ≤ (uD : Int) := by omega
                                      have hj0T : (0 : Int) ≤ (a : Int) := by omega
                                      clear hxT hyT haT hbT
                                      go_upto_region 21 with fail
                                      have hsT := HSCT.out yT HYT.out
                                      go_region
                                      clear ciT cjT ziT zjT hsT
                                      have H3 := Lib.hid ((HSWT.out xT yT HXT.out HYT.out).drew)
                                      have HK3 := Lib.hid ((HKVD.out.trans (swp_kp g uD a VD (.int .u64 (yT : Int)) (.int .u64 (xT : Int)))).trans (Kq.drew g _))
                                      clear HSWT HSCT HXT HYT
                                      go_wp2
                                      go_ret2
                                      exact ⟨by rw [HPI.out]; rfl, by rw [HPI.out]; exact H3.out, HK3.out, by rw [HPI.out]; show (Sort.swp dk uD a).size = n; rw [Sort.swp_size]; exact HS.out⟩
                                    · rw [if_neg (by omega)] at hpe
                                      have HPE := Lib.hid hpe
                                      have hne : uC < uD := by
                                        rcases Nat.lt_or_ge uC uD with h | h
                                        · exact h
                                        · obtain rfl : uC = uD := by omega
                                          have h1 := HCBC.out
                                          have h2 := HCBD.out
                                          rw [decide_eq_true (by omega), Bool.true_and] at h1 h2
                                          have h1' : ltB dk[uC]! dk[a]! = false := h1
                                          have h2' : (!ltB dk[uC]! dk[a]!) = false := h2
                                          rw [h1'] at h2'
                                          cases h2'
                                      have hgeI : ¬ (uD : Int) < (uC : Int) := by omega
                                      clear hpe
                                      have haT : uC < (dk).size := by rw [HS.out]; omega
                                      have hbT : uD < (dk).size := by rw [HS.out]; omega
                                      have ciT := HVD.out.cell uC haT
                                      have cjT := HVD.out.cell uD hbT
                                      have HSWT := Lib.hid (fun (x y : Nat) (hx : (dk)[uC]! = x) (hy : (dk)[uD]! = y) => HVD.out.swp (i := uC) (j := uD) (x := x) (y := y) haT hbT hx hy)
                                      have HSCT := Lib.hid (fun (y : Nat) (hy : (dk)[uD]! = y) => HVD.out.second (i := uC) (j := uD) haT hbT hy)
                                      obtain ⟨xT, hxT⟩ : ∃ x, (dk)[uC]! = x := ⟨_, rfl⟩
                                      obtain ⟨yT, hyT⟩ : ∃ y, (dk)[uD]! = y := ⟨_, rfl⟩
                                      rw [hxT] at ciT
                                      rw [hyT] at cjT
                                      have HXT := Lib.hid hxT
                                      have HYT := Lib.hid hyT
                                      have ziT := HVD.out.nf uC
                                      have zjT := HVD.out.nf uD
                                      have hiNT : (uC : Int) < (n : Int) := by omega
                                      have hjNT : (uD : Int) < (n : Int) := by omega
                                      have hi0T : (0 : Int) ≤ (uC : Int) := by omega
                                      have hj0T : (0 : Int) ≤ (uD : Int) := by omega
                                      clear hxT hyT haT hbT
                                      go_upto_region 18 with fail
                                      have hsT := HSCT.out yT HYT.out
                                      go_region
                                      clear ciT cjT ziT zjT hsT
                                      have H3 := Lib.hid ((HSWT.out xT yT HXT.out HYT.out).drew)
                                      have HK3 := Lib.hid ((HKVD.out.trans (swp_kp g uC uD VD (.int .u64 (yT : Int)) (.int .u64 (xT : Int)))).trans (Kq.drew g _))
                                      clear HSWT HSCT HXT HYT
                                      have hnI : (n : Int) ≤ 1099511627776 := by omega
                                      have huB2 : (uD : Int) ≤ 1099511627776 := by omega
                                      have huA2 : (uC : Int) ≤ 1099511627776 := by omega
                                      go_wp2
                                      go_roundw
                                      case rel => exact ⟨uC + 1, uD - 1, _, by go_num, int_eq (by omega), by omega, by omega, by omega, by rw [Sort.swp_size]; exact HS.out, H3.out, HK3.out, Lib.hid HPE.out.symm⟩
                                      case measure => simp [intOf] <;> omega
end Go.Proofs.Ytfdafoibclfpgaa
