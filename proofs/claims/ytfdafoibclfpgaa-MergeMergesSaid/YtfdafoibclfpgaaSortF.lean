/-
  Package slices, of numbers: a few insertions tried.
-/
import Derived.Test.YtfdafoibclfpgaaSortK
import Derived.Sort.LotA
namespace Go.Proofs.Ytfdafoibclfpgaa
open Go.ChangeShapes Go.WideShapes Go.ChangeAt Go.RowKit Go.Deep
set_option linter.unusedVariables false
set_option linter.unusedSimpArgs false
theorem pin_true {a b t i : Nat} {d : Array Nat} (hK : Sort.scanSorted ltB d b i = b) : Sort.partialIns ltB a b (t + 1) i d = (d, true) := by rw [Sort.partialIns_succ, if_pos hK]
theorem pin_short {a b t i : Nat} {d : Array Nat} (hK : Sort.scanSorted ltB d b i ≠ b) (h : b - a < 50) : Sort.partialIns ltB a b (t + 1) i d = (d, false) := by rw [Sort.partialIns_succ, if_neg hK, if_pos h]
theorem pin_go {a b t i k : Nat} {d : Array Nat} (hK : Sort.scanSorted ltB d b i = k) (hk : k ≠ b) (h : ¬ b - a < 50) : Sort.partialIns ltB a b (t + 1) i d = Sort.partialIns ltB a b t k (Sort.fixUp ltB b k (Sort.fixDown ltB a k (Sort.swp d k (k - 1)))) := by rw [Sort.partialIns_succ, hK, if_neg hk, if_neg h]
theorem ss_go {d : Array Nat} {b u : Nat} (h : (decide (u < b) && !ltB d[u]! d[u - 1]!) = true) : Sort.scanSorted ltB d b u = Sort.scanSorted ltB d b (u + 1) := by
  rw [Sort.scanSorted, if_pos h]
theorem ss_end {d : Array Nat} {b u : Nat} (h : (decide (u < b) && !ltB d[u]! d[u - 1]!) = false) : Sort.scanSorted ltB d b u = u := by
  rw [Sort.scanSorted, h]
  rfl
theorem sd_zero (d : Array Nat) : Sort.shiftDown ltB 0 d = d := by rw [Sort.shiftDown]
theorem sd_go {d : Array Nat} {k : Nat} (h : ltB d[k + 1]! d[k]! = true) : Sort.shiftDown ltB (k + 1) d = Sort.shiftDown ltB k (Sort.swp d (k + 1) k) := by
  rw [Sort.shiftDown, h]
  rfl
theorem sd_stop {d : Array Nat} {k : Nat} (h : ltB d[k + 1]! d[k]! = false) : Sort.shiftDown ltB (k + 1) d = d := by
  rw [Sort.shiftDown, h]
  rfl
theorem su_end {d : Array Nat} {b j : Nat} (h : ¬ j < b) : Sort.shiftUp ltB b j d = d := by
  rw [Sort.shiftUp, if_neg h]
theorem su_go {d : Array Nat} {b j : Nat} (h : j < b) (hl : ltB d[j]! d[j - 1]! = true) : Sort.shiftUp ltB b j d = Sort.shiftUp ltB b (j + 1) (Sort.swp d j (j - 1)) := by
  rw [Sort.shiftUp, if_pos h, hl]
  rfl
theorem su_stop {d : Array Nat} {b j : Nat} (h : j < b) (hl : ltB d[j]! d[j - 1]! = false) : Sort.shiftUp ltB b j d = d := by
  rw [Sort.shiftUp, if_pos h, hl]
  rfl
def Tries (g n : Nat) (w : World) (R : Array Nat × Bool) (e : Ending) (w' : World) : Prop := ∃ D r, R = (D, r) ∧ e = .returned (.bool r) ∧ Arr w' g D ∧ Kq g w w' ∧ D.size = n
set_option maxRecDepth 100000 in
set_option maxHeartbeats 64000000 in
theorem PartialIns_any (g n cap a b : Nat) (d : Array Nat) (w : World) (hA : Arr w g d) (hn : d.size = n) (hnc : n ≤ cap) (hcap : (cap : Int) ≤ 9223372036854775807) (hn40 : (n : Int) ≤ 1099511627776) (hb : b ≤ n) (hab : a < b) :
    Calls Try.prog 39 #[.slice (some ⟨g, 0, none⟩) n cap, .int .i64 (a : Int), .int .i64 (b : Int)] w fun e w' => Tries g n w (Sort.partialInsertionSort ltB d a b) e w' := by
  have HA := Lib.hid hA
  have HN := Lib.hid hn
  obtain ⟨R, hR⟩ : ∃ R, Sort.partialInsertionSort ltB d a b = R := ⟨_, rfl⟩
  rw [hR]
  have HR : Hid (Sort.partialIns ltB a b 5 (a + 1) d = R) := Lib.hid hR
  have haI : (a : Int) ≤ 1099511627776 := by omega
  have hbI : (b : Int) ≤ 1099511627776 := by omega
  clear hA hn hR
  go_enter Try.func39, Try.ntmps39
  go_wp2_with fail
  go_loopw [7, 8] (fun v7 v8 wr => ∃ (i s t : Nat) (dk : Array Nat), v7 = .int .i64 (i : Int) ∧ v8 = .int .i64 (s : Int) ∧ a < i ∧ i ≤ b ∧ s + t = 5 ∧ dk.size = n ∧ Arr wr g dk ∧ Kq g w wr ∧ Hid (Sort.partialIns ltB a b t i dk = R)) (fun _ v8 _ => 5 - (intOf v8).toNat)
  case atStart => exact ⟨a + 1, 0, 5, d, by go_num, rfl, by omega, by omega, rfl, HN.out, HA.out, Kq.refl _ _, HR⟩
  case round =>
    obtain ⟨i, s, t, dk, rfl, rfl, hai, hib, hst, hs, h0, hk0, HO⟩ := hrel
    obtain ⟨W0, rfl⟩ : ∃ W0, W0 = wr := ⟨wr, rfl⟩
    have H0 := Lib.hid h0
    have HK0 := Lib.hid hk0
    have HS := Lib.hid hs
    have HST := Lib.hid hst
    clear h0 hk0 hs
    rcases Nat.eq_zero_or_pos t with rfl | ht
    · obtain rfl : s = 5 := by omega
      clear hst
      go_wp2
      go_ret
      exact ⟨dk, false, HO.out.symm, rfl, H0.out, HK0.out, HS.out⟩
    obtain ⟨t1, rfl⟩ : ∃ t1, t = t1 + 1 := ⟨t - 1, by omega⟩
    have hs5 : (s : Int) < 5 := by omega
    have hs0 : (0 : Int) ≤ (s : Int) := by omega
    clear hst
    obtain ⟨k, hk⟩ : ∃ k, Sort.scanSorted ltB dk b i = k := ⟨_, rfl⟩
    have HKK := Lib.hid hk
    clear hk
    go_wp2_with fail
    go_loopw [7] (fun z wr => ∃ u : Nat, z = .int .i64 (u : Int) ∧ a < u ∧ u ≤ b ∧ Hid (Sort.scanSorted ltB dk b u = k) ∧ Arr wr g dk ∧ Kq g w wr) (fun z _ => b + 1 - (intOf z).toNat)
    case atStart => exact ⟨i, rfl, hai, hib, HKK, H0.out, HK0.out⟩
    case round =>
      obtain ⟨u, rfl, hau, hub, HSC, h_, hk_⟩ := hrel
      obtain ⟨W1, rfl⟩ : ∃ W1, W1 = wr := ⟨wr, rfl⟩
      have H1 := Lib.hid h_
      have HK1 := Lib.hid hk_
      clear h_ hk_
      obtain ⟨v, hv⟩ : ∃ v, u - 1 = v := ⟨_, rfl⟩
      have hvI : (u : Int) - 1 = (v : Int) := by omega
      have hvn : v < n := by omega
      have huI : (u : Int) ≤ 1099511627776 := by omega
      have HV := Lib.hid hv
      clear hv
      obtain ⟨cb, hcb⟩ : ∃ q, (decide (u < b) && !ltB dk[u]! dk[u - 1]!) = q := ⟨_, rfl⟩
      have HCB := Lib.hid hcb
      clear hcb
      go_upto_region 5 with fail
      go_cut [32] (fun x wz => x = .bool cb ∧ ∃ kq, wz = W1.drewN kq)
      case first =>
        by_cases hle : u < b
        · have hleI : (u : Int) < (b : Int) := by omega
          have hun : u < n := by omega
          have haA : u < (dk).size := by rw [HS.out]; omega
          have hbA : v < (dk).size := by rw [HS.out]; omega
          have ciA := H1.out.cell u haA
          have cjA := H1.out.cell v hbA
          obtain ⟨xA, hxA⟩ : ∃ x, (dk)[u]! = x := ⟨_, rfl⟩
          obtain ⟨yA, hyA⟩ : ∃ y, (dk)[v]! = y := ⟨_, rfl⟩
          rw [hxA] at ciA
          rw [hyA] at cjA
          obtain ⟨q, hqA⟩ : ∃ q, ltB xA yA = q := ⟨_, rfl⟩
          have HQA := Lib.hid hqA
          have HLA : Hid (ltB (dk)[u]! (dk)[v]! = q) := by rw [hxA, hyA]; exact HQA
          have hiNA : (u : Int) < (n : Int) := by omega
          have hjNA : (v : Int) < (n : Int) := by omega
          have hi0A : (0 : Int) ≤ (u : Int) := by omega
          have hj0A : (0 : Int) ≤ (v : Int) := by omega
          clear hxA hyA haA hbA hqA
          have hce : cb = !q := by rw [← HCB.out, decide_eq_true hle, Bool.true_and, HV.out]; rw [HLA.out]
          subst hce
          go_quiet ((go_at_call 40; exact Calls.quiet_of_same (less_q HQA.out _)))
          go_wp2
          go_meet
          exact ⟨rfl, _, rfl⟩
        · have hleI : ¬ (u : Int) < (b : Int) := by omega
          have hce : cb = false := by rw [← HCB.out, decide_eq_false hle, Bool.false_and]
          subst hce
          go_quiet (fail)
          go_wp2
          go_meet
          exact ⟨rfl, _, rfl⟩
      case rest =>
        obtain ⟨rfl, kq, rfl⟩ := hcut
        have h1_ := H1.out.drewN kq
        have hk1_ := HK1.out.trans (Kq.drewN g W1 kq)
        obtain ⟨W2, hW_⟩ : ∃ W2, W1.drewN kq = W2 := ⟨_, rfl⟩
        rw [hW_] at h1_ hk1_ ⊢
        have H2 := Lib.hid h1_
        have HK2 := Lib.hid hk1_
        clear h1_ hk1_ hW_
        cases cb with
        | true =>
          have hcc : u < b := by
            have := HCB.out
            rw [Bool.and_eq_true, decide_eq_true_eq] at this
            exact this.1
          go_wp2
          go_roundw
          case rel => exact ⟨u + 1, int_eq (by omega), by omega, by omega, Lib.hid ((ss_go HCB.out).symm.trans HSC.out), H2.out, HK2.out⟩
          case measure => simp [intOf] <;> omega
        | false =>
          obtain rfl : u = k := (ss_end HCB.out).symm.trans HSC.out
          rcases Nat.lt_or_ge u b with hlt | hge
          rotate_left
          · obtain rfl : u = b := by omega
            go_wp2
            go_ret
            exact ⟨dk, true, by rw [← HO.out, pin_true HKK.out], rfl, H2.out, HK2.out, HS.out⟩
          · have heqI : ((u : Int) == (b : Int)) = false := beq_eq_false_iff_ne.2 (by omega)
            rcases Nat.lt_or_ge (b - a) 50 with h50 | h50
            · have h50I : (b : Int) - (a : Int) < 50 := by omega
              go_wp2
              go_ret
              exact ⟨dk, false, by rw [← HO.out, pin_short (by rw [HKK.out]; omega) h50], rfl, H2.out, HK2.out, HS.out⟩
            · have h50I : ¬ (b : Int) - (a : Int) < 50 := by omega
              have hun : u < n := by omega
              have haS : u < (dk).size := by rw [HS.out]; exact hun
              have hbS : v < (dk).size := by rw [HS.out]; exact hvn
              have ciS := H2.out.cell u haS
              have cjS := H2.out.cell v hbS
              have HSWS := Lib.hid (fun (x y : Nat) (hx : (dk)[u]! = x) (hy : (dk)[v]! = y) => H2.out.swp (i := u) (j := v) (x := x) (y := y) haS hbS hx hy)
              have HSCS := Lib.hid (fun (y : Nat) (hy : (dk)[v]! = y) => H2.out.second (i := u) (j := v) haS hbS hy)
              obtain ⟨xS, hxS⟩ : ∃ x, (dk)[u]! = x := ⟨_, rfl⟩
              obtain ⟨yS, hyS⟩ : ∃ y, (dk)[v]! = y := ⟨_, rfl⟩
              rw [hxS] at ciS
              rw [hyS] at cjS
              have HXS := Lib.hid hxS
              have HYS := Lib.hid hyS
              have ziS := H2.out.nf u
              have zjS := H2.out.nf v
              have hiNS : (u : Int) < (n : Int) := by omega
              have hjNS : (v : Int) < (n : Int) := by omega
              have hi0S : (0 : Int) ≤ (u : Int) := by omega
              have hj0S : (0 : Int) ≤ (v : Int) := by omega
              clear hxS hyS haS hbS
              go_upto_region 11 with fail
              have hsS := HSCS.out yS HYS.out
              go_region
              clear ciS cjS ziS zjS hsS
              have H3 := Lib.hid ((HSWS.out xS yS HXS.out HYS.out).drew)
              have HK3 := Lib.hid ((HK2.out.trans (swp_kp g u v W2 (.int .u64 (yS : Int)) (.int .u64 (xS : Int)))).trans (Kq.drew g _))
              clear HSWS HSCS HXS HYS
              obtain ⟨W3, hW3⟩ : ∃ W3, ((W2.setCell ⟨g, u, none⟩ (.int .u64 (yS : Int))).setCell ⟨g, v, none⟩ (.int .u64 (xS : Int))).drew = W3 := ⟨_, rfl⟩
              rw [hW3] at H3 HK3 ⊢
              clear hW3
              have hnew : Sort.partialIns ltB a b t1 u (Sort.fixUp ltB b u (Sort.fixDown ltB a u (Sort.swp dk u v))) = R := by rw [← HV.out, ← pin_go HKK.out (by omega) (by omega)]; exact HO.out
              have HS3 : Hid ((Sort.swp dk u v).size = n) := Lib.hid (by rw [Sort.swp_size]; exact HS.out)
              obtain ⟨d3, hd3⟩ : ∃ d3, Sort.swp dk u v = d3 := ⟨_, rfl⟩
              rw [hd3] at H3 HS3 hnew
              obtain ⟨D1, hD1⟩ : ∃ D1, Sort.fixDown ltB a u d3 = D1 := ⟨_, rfl⟩
              rw [hD1] at hnew
              have HNEW := Lib.hid hnew
              have HD1 := Lib.hid hD1
              clear hnew hD1 hd3
              obtain ⟨c1, hc1⟩ : ∃ c, decide (2 ≤ u - a) = c := ⟨_, rfl⟩
              go_upto_region 12 with fail
              go_cut [61] (fun x wz => x = .bool c1 ∧ W3 = wz)
              case first =>
                go_wp2
                go_meet
                exact ⟨congrArg Value.bool (by rw [← hc1]; exact decide_eq_decide.2 (by omega)), rfl⟩
              case rest =>
                obtain ⟨rfl, rfl⟩ := hcut
                go_upto_if 61 with fail
                go_cut [9] (fun x wz => Arr wz g D1 ∧ Kq g w wz ∧ D1.size = n)
                case first =>
                  cases c1 with
                  | false =>
                    have h2 : ¬ 2 ≤ u - a := of_decide_eq_false hc1
                    have hD : D1 = d3 := by rw [← HD1.out]; unfold Sort.fixDown; rw [if_neg h2]
                    have HD := Lib.hid hD
                    clear hD
                    go_wp2
                    go_meet
                    exact ⟨by rw [HD.out]; exact H3.out, HK3.out, by rw [HD.out]; exact HS3.out⟩
                  | true =>
                    have h2 : 2 ≤ u - a := of_decide_eq_true hc1
                    have hD : Sort.shiftDown ltB v d3 = D1 := by rw [← HD1.out]; unfold Sort.fixDown; rw [if_pos h2, HV.out]
                    have HD := Lib.hid hD
                    clear hD
                    go_wp2_with fail
                    go_loopw [9] (fun z wr => ∃ (j : Nat) (dj : Array Nat), z = .int .i64 (j : Int) ∧ j < u ∧ dj.size = n ∧ Hid (Sort.shiftDown ltB j dj = D1) ∧ Arr wr g dj ∧ Kq g w wr) (fun z _ => (intOf z).toNat)
                    case atStart => exact ⟨v, d3, rfl, by omega, HS3.out, HD, H3.out, HK3.out⟩
                    case round =>
                      obtain ⟨j, dj, rfl, hju, hsj, HJ, h_, hk_⟩ := hrel
                      obtain ⟨W4, rfl⟩ : ∃ W4, W4 = wr := ⟨wr, rfl⟩
                      have H4 := Lib.hid h_
                      have HK4 := Lib.hid hk_
                      have HSJ := Lib.hid hsj
                      clear h_ hk_ hsj
                      rcases Nat.eq_zero_or_pos j with rfl | hj0
                      · go_wp2
                        go_meet
                        exact ⟨by rw [← HJ.out, sd_zero]; exact H4.out, HK4.out, by rw [← HJ.out, sd_zero]; exact HSJ.out⟩
                      · obtain ⟨m, rfl⟩ : ∃ m, j = m + 1 := ⟨j - 1, by omega⟩
                        obtain ⟨j, hj⟩ : ∃ j, m + 1 = j := ⟨_, rfl⟩
                        have hmI : (j : Int) - 1 = (m : Int) := by omega
                        have hjI : (1 : Int) ≤ (j : Int) := by omega
                        have hjI2 : (j : Int) ≤ 1099511627776 := by omega
                        have hmn : m < n := by omega
                        have hjn : j < n := by omega
                        rw [hj] at HJ hju ⊢
                        have HJE := Lib.hid hj
                        clear hj
                        go_upto_region 16 with fail
                        have haB : j < (dj).size := by rw [HSJ.out]; exact hjn
                        have hbB : m < (dj).size := by rw [HSJ.out]; exact hmn
                        have ciB := H4.out.cell j haB
                        have cjB := H4.out.cell m hbB
                        obtain ⟨xB, hxB⟩ : ∃ x, (dj)[j]! = x := ⟨_, rfl⟩
                        obtain ⟨yB, hyB⟩ : ∃ y, (dj)[m]! = y := ⟨_, rfl⟩
                        rw [hxB] at ciB
                        rw [hyB] at cjB
                        obtain ⟨q, hqB⟩ : ∃ q, ltB xB yB = q := ⟨_, rfl⟩
                        have HQB := Lib.hid hqB
                        have HLB : Hid (ltB (dj)[j]! (dj)[m]! = q) := by rw [hxB, hyB]; exact HQB
                        have hiNB : (j : Int) < (n : Int) := by omega
                        have hjNB : (m : Int) < (n : Int) := by omega
                        have hi0B : (0 : Int) ≤ (j : Int) := by omega
                        have hj0B : (0 : Int) ≤ (m : Int) := by omega
                        clear hxB hyB haB hbB hqB
                        go_cut [78] (fun x wz => x = .bool (!q) ∧ ∃ kq, wz = W4.drewN kq)
                        case first =>
                          go_quiet ((go_at_call 40; exact Calls.quiet_of_same (less_q HQB.out _)))
                          go_wp2
                          go_meet
                          exact ⟨rfl, _, rfl⟩
                        case rest =>
                          obtain ⟨rfl, kr, rfl⟩ := hcut
                          clear ciB cjB
                          have h1_ := H4.out.drewN kr
                          have hk1_ := HK4.out.trans (Kq.drewN g W4 kr)
                          obtain ⟨W5, hW_⟩ : ∃ W5, W4.drewN kr = W5 := ⟨_, rfl⟩
                          rw [hW_] at h1_ hk1_ ⊢
                          have H5 := Lib.hid h1_
                          have HK5 := Lib.hid hk1_
                          clear h1_ hk1_ hW_
                          cases q with
                          | false =>
                            have hD : dj = D1 := by
                              have h := HJ.out
                              have hl := HLB.out
                              rw [← HJE.out] at h hl
                              rw [sd_stop hl] at h
                              exact h
                            have HDD := Lib.hid hD
                            clear hD
                            go_wp2
                            go_meet
                            exact ⟨by rw [← HDD.out]; exact H5.out, HK5.out, by rw [← HDD.out]; exact HSJ.out⟩
                          | true =>
                            have hD : Sort.shiftDown ltB m (Sort.swp dj j m) = D1 := by
                              have h := HJ.out
                              have hl := HLB.out
                              rw [← HJE.out] at h hl ⊢
                              rw [← sd_go hl]
                              exact h
                            have HDD := Lib.hid hD
                            clear hD
                            have haT : j < (dj).size := by rw [HSJ.out]; exact hjn
                            have hbT : m < (dj).size := by rw [HSJ.out]; exact hmn
                            have ciT := H5.out.cell j haT
                            have cjT := H5.out.cell m hbT
                            have HSWT := Lib.hid (fun (x y : Nat) (hx : (dj)[j]! = x) (hy : (dj)[m]! = y) => H5.out.swp (i := j) (j := m) (x := x) (y := y) haT hbT hx hy)
                            have HSCT := Lib.hid (fun (y : Nat) (hy : (dj)[m]! = y) => H5.out.second (i := j) (j := m) haT hbT hy)
                            obtain ⟨xT, hxT⟩ : ∃ x, (dj)[j]! = x := ⟨_, rfl⟩
                            obtain ⟨yT, hyT⟩ : ∃ y, (dj)[m]! = y := ⟨_, rfl⟩
                            rw [hxT] at ciT
                            rw [hyT] at cjT
                            have HXT := Lib.hid hxT
                            have HYT := Lib.hid hyT
                            have ziT := H5.out.nf j
                            have zjT := H5.out.nf m
                            have hiNT : (j : Int) < (n : Int) := by omega
                            have hjNT : (m : Int) < (n : Int) := by omega
                            have hi0T : (0 : Int) ≤ (j : Int) := by omega
                            have hj0T : (0 : Int) ≤ (m : Int) := by omega
                            clear hxT hyT haT hbT
                            go_upto_region 17 with fail
                            have hsT := HSCT.out yT HYT.out
                            go_region
                            clear ciT cjT ziT zjT hsT
                            have H6 := Lib.hid ((HSWT.out xT yT HXT.out HYT.out).drew)
                            have HK6 := Lib.hid ((HK5.out.trans (swp_kp g j m W5 (.int .u64 (yT : Int)) (.int .u64 (xT : Int)))).trans (Kq.drew g _))
                            clear HSWT HSCT HXT HYT
                            have hmu : m < u := by have := HJE.out; omega
                            go_wp2
                            go_roundw
                            case rel => exact ⟨m, _, rfl, hmu, by rw [Sort.swp_size]; exact HSJ.out, HDD, H6.out, HK6.out⟩
                            case measure => simp [intOf] <;> omega
                case rest =>
                  obtain ⟨hAD, hKD, hSD⟩ := hcut
                  obtain ⟨W7, rfl⟩ : ∃ W7, W7 = wc := ⟨wc, rfl⟩
                  have H7 := Lib.hid hAD
                  have HK7 := Lib.hid hKD
                  have HS7 := Lib.hid hSD
                  have hnew := HNEW.out
                  obtain ⟨D2, hD2⟩ : ∃ D2, Sort.fixUp ltB b u D1 = D2 := ⟨_, rfl⟩
                  rw [hD2] at hnew
                  have HNEW2 := Lib.hid hnew
                  have HD2 := Lib.hid hD2
                  clear hnew hD2 hAD hKD hSD
                  obtain ⟨c2, hc2⟩ : ∃ c, decide (2 ≤ b - u) = c := ⟨_, rfl⟩
                  go_upto_region 18 with fail
                  go_cut [98] (fun x wz => x = .bool c2 ∧ W7 = wz)
                  case first =>
                    go_wp2
                    go_meet
                    exact ⟨congrArg Value.bool (by rw [← hc2]; exact decide_eq_decide.2 (by omega)), rfl⟩
                  case rest =>
                    obtain ⟨rfl, rfl⟩ := hcut
                    cases c2 with
                    | false =>
                      have h2 : ¬ 2 ≤ b - u := of_decide_eq_false hc2
                      have hD : D2 = D1 := by rw [← HD2.out]; unfold Sort.fixUp; rw [if_neg h2]
                      have HD := Lib.hid hD
                      clear hD
                      go_wp2
                      go_roundw
                      case rel => exact ⟨u, s + 1, t1, D1, rfl, by go_num, hau, hub, by have := HST.out; omega, HS7.out, H7.out, HK7.out, by rw [← HD.out]; exact HNEW2⟩
                      case measure => simp [intOf] <;> omega
                    | true =>
                      have h2 : 2 ≤ b - u := of_decide_eq_true hc2
                      have hD : Sort.shiftUp ltB b (u + 1) D1 = D2 := by rw [← HD2.out]; unfold Sort.fixUp; rw [if_pos h2]
                      have HD := Lib.hid hD
                      clear hD
                      go_wp2_with fail
                      go_loopw [10] (fun z wr => ∃ (j : Nat) (dj : Array Nat), z = .int .i64 (j : Int) ∧ 1 ≤ j ∧ j ≤ b ∧ dj.size = n ∧ Hid (Sort.shiftUp ltB b j dj = D2) ∧ Arr wr g dj ∧ Kq g w wr) (fun z _ => b + 1 - (intOf z).toNat)
                      case atStart => exact ⟨u + 1, D1, int_eq (by omega), by omega, by omega, HS7.out, HD, H7.out, HK7.out⟩
                      case round =>
                        obtain ⟨j, dj, rfl, hj1, hjb, hsj, HJ, h_, hk_⟩ := hrel
                        obtain ⟨W4, rfl⟩ : ∃ W4, W4 = wr := ⟨wr, rfl⟩
                        have H4 := Lib.hid h_
                        have HK4 := Lib.hid hk_
                        have HSJ := Lib.hid hsj
                        clear h_ hk_ hsj
                        rcases Nat.lt_or_ge j b with hjb2 | hjb2
                        rotate_left
                        · have hjN : ¬ (j : Int) < (b : Int) := by omega
                          have hD : dj = D2 := by rw [← HJ.out, su_end (by omega)]
                          have HDD := Lib.hid hD
                          clear hD
                          go_wp2
                          go_roundw
                          case rel => exact ⟨u, s + 1, t1, dj, rfl, by go_num, hau, hub, by have := HST.out; omega, HSJ.out, H4.out, HK4.out, by rw [HDD.out]; exact HNEW2⟩
                          case measure => simp [intOf] <;> omega
                        · have hjbI : (j : Int) < (b : Int) := by omega
                          obtain ⟨m, hm⟩ : ∃ m, j - 1 = m := ⟨_, rfl⟩
                          have hmI : (j : Int) - 1 = (m : Int) := by omega
                          have hjI2 : (j : Int) ≤ 1099511627776 := by omega
                          have hmn : m < n := by omega
                          have hjn : j < n := by omega
                          have HM := Lib.hid hm
                          clear hm
                          go_upto_region 22 with fail
                          have haB : j < (dj).size := by rw [HSJ.out]; exact hjn
                          have hbB : m < (dj).size := by rw [HSJ.out]; exact hmn
                          have ciB := H4.out.cell j haB
                          have cjB := H4.out.cell m hbB
                          obtain ⟨xB, hxB⟩ : ∃ x, (dj)[j]! = x := ⟨_, rfl⟩
                          obtain ⟨yB, hyB⟩ : ∃ y, (dj)[m]! = y := ⟨_, rfl⟩
                          rw [hxB] at ciB
                          rw [hyB] at cjB
                          obtain ⟨q, hqB⟩ : ∃ q, ltB xB yB = q := ⟨_, rfl⟩
                          have HQB := Lib.hid hqB
                          have HLB : Hid (ltB (dj)[j]! (dj)[m]! = q) := by rw [hxB, hyB]; exact HQB
                          have hiNB : (j : Int) < (n : Int) := by omega
                          have hjNB : (m : Int) < (n : Int) := by omega
                          have hi0B : (0 : Int) ≤ (j : Int) := by omega
                          have hj0B : (0 : Int) ≤ (m : Int) := by omega
                          clear hxB hyB haB hbB hqB
                          go_cut [116] (fun x wz => x = .bool (!q) ∧ ∃ kq, wz = W4.drewN kq)
                          case first =>
                            go_quiet ((go_at_call 40; exact Calls.quiet_of_same (less_q HQB.out _)))
                            go_wp2
                            go_meet
                            exact ⟨rfl, _, rfl⟩
                          case rest =>
                            obtain ⟨rfl, kr, rfl⟩ := hcut
                            clear ciB cjB
                            have h1_ := H4.out.drewN kr
                            have hk1_ := HK4.out.trans (Kq.drewN g W4 kr)
                            obtain ⟨W5, hW_⟩ : ∃ W5, W4.drewN kr = W5 := ⟨_, rfl⟩
                            rw [hW_] at h1_ hk1_ ⊢
                            have H5 := Lib.hid h1_
                            have HK5 := Lib.hid hk1_
                            clear h1_ hk1_ hW_
                            cases q with
                            | false =>
                              have hD : dj = D2 := by
                                rw [← HJ.out, su_stop hjb2 (by rw [HM.out]; exact HLB.out)]
                              have HDD := Lib.hid hD
                              clear hD
                              go_wp2
                              go_roundw
                              case rel => exact ⟨u, s + 1, t1, dj, rfl, by go_num, hau, hub, by have := HST.out; omega, HSJ.out, H5.out, HK5.out, by rw [HDD.out]; exact HNEW2⟩
                              case measure => simp [intOf] <;> omega
                            | true =>
                              have hD : Sort.shiftUp ltB b (j + 1) (Sort.swp dj j m) = D2 := by
                                rw [← HJ.out, su_go hjb2 (by rw [HM.out]; exact HLB.out), HM.out]
                              have HDD := Lib.hid hD
                              clear hD
                              have haT : j < (dj).size := by rw [HSJ.out]; exact hjn
                              have hbT : m < (dj).size := by rw [HSJ.out]; exact hmn
                              have ciT := H5.out.cell j haT
                              have cjT := H5.out.cell m hbT
                              have HSWT := Lib.hid (fun (x y : Nat) (hx : (dj)[j]! = x) (hy : (dj)[m]! = y) => H5.out.swp (i := j) (j := m) (x := x) (y := y) haT hbT hx hy)
                              have HSCT := Lib.hid (fun (y : Nat) (hy : (dj)[m]! = y) => H5.out.second (i := j) (j := m) haT hbT hy)
                              obtain ⟨xT, hxT⟩ : ∃ x, (dj)[j]! = x := ⟨_, rfl⟩
                              obtain ⟨yT, hyT⟩ : ∃ y, (dj)[m]! = y := ⟨_, rfl⟩
                              rw [hxT] at ciT
                              rw [hyT] at cjT
                              have HXT := Lib.hid hxT
                              have HYT := Lib.hid hyT
                              have ziT := H5.out.nf j
                              have zjT := H5.out.nf m
                              have hiNT : (j : Int) < (n : Int) := by omega
                              have hjNT : (m : Int) < (n : Int) := by omega
                              have hi0T : (0 : Int) ≤ (j : Int) := by omega
                              have hj0T : (0 : Int) ≤ (m : Int) := by omega
                              clear hxT hyT haT hbT
                              go_upto_region 23 with fail
                              have hsT := HSCT.out yT HYT.out
                              go_region
                              clear ciT cjT ziT zjT hsT
                              have H6 := Lib.hid ((HSWT.out xT yT HXT.out HYT.out).drew)
                              have HK6 := Lib.hid ((HK5.out.trans (swp_kp g j m W5 (.int .u64 (yT : Int)) (.int .u64 (xT : Int)))).trans (Kq.drew g _))
                              clear HSWT HSCT HXT HYT
                              go_wp2
                              go_roundw
                              case rel => exact ⟨j + 1, _, int_eq (by omega), by omega, by omega, by rw [Sort.swp_size]; exact HSJ.out, HDD, H6.out, HK6.out⟩
                              case measure => simp [intOf] <;> omega
end Go.Proofs.Ytfdafoibclfpgaa
