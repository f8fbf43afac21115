/-
  Package slices, of numbers: a few insertions tried.
  Package slices, of numbers: the whole of the sort, and its entry.
  Package slices, of numbers: Sort, of a row of the call's own, of any length.
-/
import Derived.Test.YtfgfamafjkjakaaSorter
import Derived.Sort.LotA
import Derived.Sort.LotD3
import Derived.Test.YtfgfamafjkjakaaDotSorts
namespace Go.Proofs.Ytfgfamafjkjakaa
open Go.ChangeShapes Go.WideShapes Go.ChangeAt Go.RowKit Go.Deep
set_option linter.unusedVariables false
set_option linter.unusedSimpArgs false
theorem pin_true {a b t i : Nat} {d : Array Nat} (hK : Sort.scanSorted ltB d b i = b) : Sort.partialIns ltB a b (t + 1) i d = (d, true) := by rw [Sort.partialIns_succ, if_pos hK]
theorem pin_short {a b t i : Nat} {d : Array Nat} (hK : Sort.scanSorted ltB d b i ≠ b) (h : b - a < 50) : Sort.partialIns ltB a b (t + 1) i d = (d, false) := by rw [Sort.partialIns_succ, if_neg hK, if_pos h]
theorem pin_go {a b t i k : Nat} {d : Array Nat} (hK : Sort.scanSorted ltB d b i = k) (hk : k ≠ b) (h : ¬ b - a < 50) : Sort.partialIns ltB a b (t + 1) i d = Sort.partialIns ltB a b t k (Sort.fixUp ltB b k (Sort.fixDown ltB a k (Sort.swp d k (k - 1)))) := by rw [Sort.partialIns_succ, hK, if_neg hk, if_neg h]
theorem ss_go {d : Array Nat} {b u : Nat} (h : (decide (u < b) && !ltB d[u]! d[u - 1]!) = true) : Sort.scanSorted ltB d b u = Sort.scanSorted ltB d b (u + 1) := by
  rw [Sort.scanSorted, if_pos h]
theorem ss_end {d : Array Nat} {b u : Nat} (h : (decide (u < b) && !ltB d[u]! d[u - 1]!) = false) : Sort.scanSorted ltB d b u = u := by
  rw [Sort.scanSorted, h]
  rfl
theorem sd_zero (d : Array Nat) : Sort.shiftDown ltB 0 d = d := by rw [Sort.shiftDown]
theorem sd_go {d : Array Nat} {k : Nat} (h : ltB d[k + 1]! d[k]! = true) : Sort.shiftDown ltB (k + 1) d = Sort.shiftDown ltB k (Sort.swp d (k + 1) k) := by
  rw [Sort.shiftDown, h]
  rfl
theorem sd_stop {d : Array Nat} {k : Nat} (h : ltB d[k + 1]! d[k]! = false) : Sort.shiftDown ltB (k + 1) d = d := by
  rw [Sort.shiftDown, h]
  rfl
theorem su_end {d : Array Nat} {b j : Nat} (h : ¬ j < b) : Sort.shiftUp ltB b j d = d := by
  rw [Sort.shiftUp, if_neg h]
theorem su_go {d : Array Nat} {b j : Nat} (h : j < b) (hl : ltB d[j]! d[j - 1]! = true) : Sort.shiftUp ltB b j d = Sort.shiftUp ltB b (j + 1) (Sort.swp d j (j - 1)) := by
  rw [Sort.shiftUp, if_pos h, hl]
  rfl
theorem su_stop {d : Array Nat} {b j : Nat} (h : j < b) (hl : ltB d[j]! d[j - 1]! = false) : Sort.shiftUp ltB b j d = d := by
  rw [Sort.shiftUp, if_pos h, hl]
  rfl
def Tries (g n : Nat) (w : World) (R : Array Nat × Bool) (e : Ending) (w' : World) : Prop := ∃ D r, R = (D, r) ∧ e = .returned (.bool r) ∧ Arr w' g D ∧ Kq g w w' ∧ D.size = n
set_option maxRecDepth 100000 in
set_option maxHeartbeats 64000000 in
theorem PartialIns_any (g n cap a b : Nat) (d : Array Nat) (w : World) (hA : Arr w g d) (hn : d.size = n) (hnc : n ≤ cap) (hcap : (cap : Int) ≤ 9223372036854775807) (hn40 : (n : Int) ≤ 1099511627776) (hb : b ≤ n) (hab : a < b) :
    Calls Try.prog 62 #[.slice (some ⟨g, 0, none⟩) n cap, .int .i64 (a : Int), .int .i64 (b : Int)] w fun e w' => Tries g n w (Sort.partialInsertionSort ltB d a b) e w' := by
  have HA := Lib.hid hA
  have HN := Lib.hid hn
  obtain ⟨R, hR⟩ : ∃ R, Sort.partialInsertionSort ltB d a b = R := ⟨_, rfl⟩
  rw [hR]
  have HR : Hid (Sort.partialIns ltB a b 5 (a + 1) d = R) := Lib.hid hR
  have haI : (a : Int) ≤ 1099511627776 := by omega
  have hbI : (b : Int) ≤ 1099511627776 := by omega
  clear hA hn hR
  go_enter Try.func62, Try.ntmps62
  go_wp2_with fail
  go_loopw [7, 8] (fun v7 v8 wr => ∃ (i s t : Nat) (dk : Array Nat), v7 = .int .i64 (i : Int) ∧ v8 = .int .i64 (s : Int) ∧ a < i ∧ i ≤ b ∧ s + t = 5 ∧ dk.size = n ∧ Arr wr g dk ∧ Kq g w wr ∧ Hid (Sort.partialIns ltB a b t i dk = R)) (fun _ v8 _ => 5 - (intOf v8).toNat)
  case atStart => exact ⟨a + 1, 0, 5, d, by go_num, rfl, by omega, by omega, rfl, HN.out, HA.out, Kq.refl _ _, HR⟩
  case round =>
    obtain ⟨i, s, t, dk, rfl, rfl, hai, hib, hst, hs, h0, hk0, HO⟩ := hrel
    obtain ⟨W0, rfl⟩ : ∃ W0, W0 = wr := ⟨wr, rfl⟩
    have H0 := Lib.hid h0
    have HK0 := Lib.hid hk0
    have HS := Lib.hid hs
    have HST := Lib.hid hst
    clear h0 hk0 hs
    rcases Nat.eq_zero_or_pos t with rfl | ht
    · obtain rfl : s = 5 := by omega
      clear hst
      go_wp2
      go_ret
      exact ⟨dk, false, HO.out.symm, rfl, H0.out, HK0.out, HS.out⟩
    obtain ⟨t1, rfl⟩ : ∃ t1, t = t1 + 1 := ⟨t - 1, by omega⟩
    have hs5 : (s : Int) < 5 := by omega
    have hs0 : (0 : Int) ≤ (s : Int) := by omega
    clear hst
    obtain ⟨k, hk⟩ : ∃ k, Sort.scanSorted ltB dk b i = k := ⟨_, rfl⟩
    have HKK := Lib.hid hk
    clear hk
    go_wp2_with fail
    go_loopw [7] (fun z wr => ∃ u : Nat, z = .int .i64 (u : Int) ∧ a < u ∧ u ≤ b ∧ Hid (Sort.scanSorted ltB dk b u = k) ∧ Arr wr g dk ∧ Kq g w wr) (fun z _ => b + 1 - (intOf z).toNat)
    case atStart => exact ⟨i, rfl, hai, hib, HKK, H0.out, HK0.out⟩
    case round =>
      obtain ⟨u, rfl, hau, hub, HSC, h_, hk_⟩ := hrel
      obtain ⟨W1, rfl⟩ : ∃ W1, W1 = wr := ⟨wr, rfl⟩
      have H1 := Lib.hid h_
      have HK1 := Lib.hid hk_
      clear h_ hk_
      obtain ⟨v, hv⟩ : ∃ v, u - 1 = v := ⟨_, rfl⟩
      have hvI : (u : Int) - 1 = (v : Int) := by omega
      have hvn : v < n := by omega
      have huI : (u : Int) ≤ 1099511627776 := by omega
      have HV := Lib.hid hv
      clear hv
      obtain ⟨cb, hcb⟩ : ∃ q, (decide (u < b) && !ltB dk[u]! dk[u - 1]!) = q := ⟨_, rfl⟩
      have HCB := Lib.hid hcb
      clear hcb
      go_upto_region 5 with fail
      go_cut [32] (fun x wz => x = .bool cb ∧ ∃ kq, wz = W1.drewN kq)
      case first =>
        by_cases hle : u < b
        · have hleI : (u : Int) < (b : Int) := by omega
          have hun : u < n := by omega
          have haA : u < (dk).size := by rw [HS.out]; omega
          have hbA : v < (dk).size := by rw [HS.out]; omega
          have ciA := H1.out.cell u haA
          have cjA := H1.out.cell v hbA
          obtain ⟨xA, hxA⟩ : ∃ x, (dk)[u]! = x := ⟨_, rfl⟩
          obtain ⟨yA, hyA⟩ : ∃ y, (dk)[v]! = y := ⟨_, rfl⟩
          rw [hxA] at ciA
          rw [hyA] at cjA
          obtain ⟨q, hqA⟩ : ∃ q, ltB xA yA = q := ⟨_, rfl⟩
          have HQA := Lib.hid hqA
          have HLA : Hid (ltB (dk)[u]! (dk)[v]! = q) := by rw [hxA, hyA]; exact HQA
          have hiNA : (u : Int) < (n : Int) := by omega
          have hjNA : (v : Int) < (n : Int) := by omega
          have hi0A : (0 : Int) ≤ (u : Int) := by omega
          have hj0A : (0 : Int) ≤ (v : Int) := by omega
          clear hxA hyA haA hbA hqA
          have hce : cb = !q := by rw [← HCB.out, decide_eq_true hle, Bool.true_and, HV.out]; rw [HLA.out]
          subst hce
          go_quiet ((go_at_call 53; exact Calls.quiet_of_same (less_q HQA.out _)))
          go_wp2
          go_meet
          exact ⟨rfl, _, rfl⟩
        · have hleI : ¬ (u : Int) < (b : Int) := by omega
          have hce : cb = false := by rw [← HCB.out, decide_eq_false hle, Bool.false_and]
          subst hce
          go_quiet (fail)
          go_wp2
          go_meet
          exact ⟨rfl, _, rfl⟩
      case rest =>
        obtain ⟨rfl, kq, rfl⟩ := hcut
        have h1_ := H1.out.drewN kq
        have hk1_ := HK1.out.trans (Kq.drewN g W1 kq)
        obtain ⟨W2, hW_⟩ : ∃ W2, W1.drewN kq = W2 := ⟨_, rfl⟩
        rw [hW_] at h1_ hk1_ ⊢
        have H2 := Lib.hid h1_
        have HK2 := Lib.hid hk1_
        clear h1_ hk1_ hW_
        cases cb with
        | true =>
          have hcc : u < b := by
            have := HCB.out
            rw [Bool.and_eq_true, decide_eq_true_eq] at this
            exact this.1
          go_wp2
          go_roundw
          case rel => exact ⟨u + 1, int_eq (by omega), by omega, by omega, Lib.hid ((ss_go HCB.out).symm.trans HSC.out), H2.out, HK2.out⟩
          case measure => simp [intOf] <;> omega
        | false =>
          obtain rfl : u = k := (ss_end HCB.out).symm.trans HSC.out
          rcases Nat.lt_or_ge u b with hlt | hge
          rotate_left
          · obtain rfl : u = b := by omega
            go_wp2
            go_ret
            exact ⟨dk, true, by rw [← HO.out, pin_true HKK.out], rfl, H2.out, HK2.out, HS.out⟩
          · have heqI : ((u : Int) == (b : Int)) = false := beq_eq_false_iff_ne.2 (by omega)
            rcases Nat.lt_or_ge (b - a) 50 with h50 | h50
            · have h50I : (b : Int) - (a : Int) < 50 := by omega
              go_wp2
              go_ret
              exact ⟨dk, false, by rw [← HO.out, pin_short (by rw [HKK.out]; omega) h50], rfl, H2.out, HK2.out, HS.out⟩
            · have h50I : ¬ (b : Int) - (a : Int) < 50 := by omega
              have hun : u < n := by omega
              have haS : u < (dk).size := by rw [HS.out]; exact hun
              have hbS : v < (dk).size := by rw [HS.out]; exact hvn
              have ciS := H2.out.cell u haS
              have cjS := H2.out.cell v hbS
              have HSWS := Lib.hid (fun (x y : Nat) (hx : (dk)[u]! = x) (hy : (dk)[v]! = y) => H2.out.swp (i := u) (j := v) (x := x) (y := y) haS hbS hx hy)
              have HSCS := Lib.hid (fun (y : Nat) (hy : (dk)[v]! = y) => H2.out.second (i := u) (j := v) haS hbS hy)
              obtain ⟨xS, hxS⟩ : ∃ x, (dk)[u]! = x := ⟨_, rfl⟩
              obtain ⟨yS, hyS⟩ : ∃ y, (dk)[v]! = y := ⟨_, rfl⟩
              rw [hxS] at ciS
              rw [hyS] at cjS
              have HXS := Lib.hid hxS
              have HYS := Lib.hid hyS
              have ziS := H2.out.nf u
              have zjS := H2.out.nf v
              have hiNS : (u : Int) < (n : Int) := by omega
              have hjNS : (v : Int) < (n : Int) := by omega
              have hi0S : (0 : Int) ≤ (u : Int) := by omega
              have hj0S : (0 : Int) ≤ (v : Int) := by omega
              clear hxS hyS haS hbS
              go_upto_region 11 with fail
              have hsS := HSCS.out yS HYS.out
              go_region
              clear ciS cjS ziS zjS hsS
              have H3 := Lib.hid ((HSWS.out xS yS HXS.out HYS.out).drew)
              have HK3 := Lib.hid ((HK2.out.trans (swp_kp g u v W2 (.int .u64 (yS : Int)) (.int .u64 (xS : Int)))).trans (Kq.drew g _))
              clear HSWS HSCS HXS HYS
              obtain ⟨W3, hW3⟩ : ∃ W3, ((W2.setCell ⟨g, u, none⟩ (.int .u64 (yS : Int))).setCell ⟨g, v, none⟩ (.int .u64 (xS : Int))).drew = W3 := ⟨_, rfl⟩
              rw [hW3] at H3 HK3 ⊢
              clear hW3
              have hnew : Sort.partialIns ltB a b t1 u (Sort.fixUp ltB b u (Sort.fixDown ltB a u (Sort.swp dk u v))) = R := by rw [← HV.out, ← pin_go HKK.out (by omega) (by omega)]; exact HO.out
              have HS3 : Hid ((Sort.swp dk u v).size = n) := Lib.hid (by rw [Sort.swp_size]; exact HS.out)
              obtain ⟨d3, hd3⟩ : ∃ d3, Sort.swp dk u v = d3 := ⟨_, rfl⟩
              rw [hd3] at H3 HS3 hnew
              obtain ⟨D1, hD1⟩ : ∃ D1, Sort.fixDown ltB a u d3 = D1 := ⟨_, rfl⟩
              rw [hD1] at hnew
              have HNEW := Lib.hid hnew
              have HD1 := Lib.hid hD1
              clear hnew hD1 hd3
              obtain ⟨c1, hc1⟩ : ∃ c, decide (2 ≤ u - a) = c := ⟨_, rfl⟩
              go_upto_region 12 with fail
              go_cut [61] (fun x wz => x = .bool c1 ∧ W3 = wz)
              case first =>
                go_wp2
                go_meet
                exact ⟨congrArg Value.bool (by rw [← hc1]; exact decide_eq_decide.2 (by omega)), rfl⟩
              case rest =>
                obtain ⟨rfl, rfl⟩ := hcut
                go_upto_if 61 with fail
                go_cut [9] (fun x wz => Arr wz g D1 ∧ Kq g w wz ∧ D1.size = n)
                case first =>
                  cases c1 with
                  | false =>
                    have h2 : ¬ 2 ≤ u - a := of_decide_eq_false hc1
                    have hD : D1 = d3 := by rw [← HD1.out]; unfold Sort.fixDown; rw [if_neg h2]
                    have HD := Lib.hid hD
                    clear hD
                    go_wp2
                    go_meet
                    exact ⟨by rw [HD.out]; exact H3.out, HK3.out, by rw [HD.out]; exact HS3.out⟩
                  | true =>
                    have h2 : 2 ≤ u - a := of_decide_eq_true hc1
                    have hD : Sort.shiftDown ltB v d3 = D1 := by rw [← HD1.out]; unfold Sort.fixDown; rw [if_pos h2, HV.out]
                    have HD := Lib.hid hD
                    clear hD
                    go_wp2_with fail
                    go_loopw [9] (fun z wr => ∃ (j : Nat) (dj : Array Nat), z = .int .i64 (j : Int) ∧ j < u ∧ dj.size = n ∧ Hid (Sort.shiftDown ltB j dj = D1) ∧ Arr wr g dj ∧ Kq g w wr) (fun z _ => (intOf z).toNat)
                    case atStart => exact ⟨v, d3, rfl, by omega, HS3.out, HD, H3.out, HK3.out⟩
                    case round =>
                      obtain ⟨j, dj, rfl, hju, hsj, HJ, h_, hk_⟩ := hrel
                      obtain ⟨W4, rfl⟩ : ∃ W4, W4 = wr := ⟨wr, rfl⟩
                      have H4 := Lib.hid h_
                      have HK4 := Lib.hid hk_
                      have HSJ := Lib.hid hsj
                      clear h_ hk_ hsj
                      rcases Nat.eq_zero_or_pos j with rfl | hj0
                      · go_wp2
                        go_meet
                        exact ⟨by rw [← HJ.out, sd_zero]; exact H4.out, HK4.out, by rw [← HJ.out, sd_zero]; exact HSJ.out⟩
                      · obtain ⟨m, rfl⟩ : ∃ m, j = m + 1 := ⟨j - 1, by omega⟩
                        obtain ⟨j, hj⟩ : ∃ j, m + 1 = j := ⟨_, rfl⟩
                        have hmI : (j : Int) - 1 = (m : Int) := by omega
                        have hjI : (1 : Int) ≤ (j : Int) := by omega
                        have hjI2 : (j : Int) ≤ 1099511627776 := by omega
                        have hmn : m < n := by omega
                        have hjn : j < n := by omega
                        rw [hj] at HJ hju ⊢
                        have HJE := Lib.hid hj
                        clear hj
                        go_upto_region 16 with fail
                        have haB : j < (dj).size := by rw [HSJ.out]; exact hjn
                        have hbB : m < (dj).size := by rw [HSJ.out]; exact hmn
                        have ciB := H4.out.cell j haB
                        have cjB := H4.out.cell m hbB
                        obtain ⟨xB, hxB⟩ : ∃ x, (dj)[j]! = x := ⟨_, rfl⟩
                        obtain ⟨yB, hyB⟩ : ∃ y, (dj)[m]! = y := ⟨_, rfl⟩
                        rw [hxB] at ciB
                        rw [hyB] at cjB
                        obtain ⟨q, hqB⟩ : ∃ q, ltB xB yB = q := ⟨_, rfl⟩
                        have HQB := Lib.hid hqB
                        have HLB : Hid (ltB (dj)[j]! (dj)[m]! = q) := by rw [hxB, hyB]; exact HQB
                        have hiNB : (j : Int) < (n : Int) := by omega
                        have hjNB : (m : Int) < (n : Int) := by omega
                        have hi0B : (0 : Int) ≤ (j : Int) := by omega
                        have hj0B : (0 : Int) ≤ (m : Int) := by omega
                        clear hxB hyB haB hbB hqB
                        go_cut [78] (fun x wz => x = .bool (!q) ∧ ∃ kq, wz = W4.drewN kq)
                        case first =>
                          go_quiet ((go_at_call 53; exact Calls.quiet_of_same (less_q HQB.out _)))
                          go_wp2
                          go_meet
                          exact ⟨rfl, _, rfl⟩
                        case rest =>
                          obtain ⟨rfl, kr, rfl⟩ := hcut
                          clear ciB cjB
                          have h1_ := H4.out.drewN kr
                          have hk1_ := HK4.out.trans (Kq.drewN g W4 kr)
                          obtain ⟨W5, hW_⟩ : ∃ W5, W4.drewN kr = W5 := ⟨_, rfl⟩
                          rw [hW_] at h1_ hk1_ ⊢
                          have H5 := Lib.hid h1_
                          have HK5 := Lib.hid hk1_
                          clear h1_ hk1_ hW_
                          cases q with
                          | false =>
                            have hD : dj = D1 := by
                              have h := HJ.out
                              have hl := HLB.out
                              rw [← HJE.out] at h hl
                              rw [sd_stop hl] at h
                              exact h
                            have HDD := Lib.hid hD
                            clear hD
                            go_wp2
                            go_meet
                            exact ⟨by rw [← HDD.out]; exact H5.out, HK5.out, by rw [← HDD.out]; exact HSJ.out⟩
                          | true =>
                            have hD : Sort.shiftDown ltB m (Sort.swp dj j m) = D1 := by
                              have h := HJ.out
                              have hl := HLB.out
                              rw [← HJE.out] at h hl ⊢
                              rw [← sd_go hl]
                              exact h
                            have HDD := Lib.hid hD
                            clear hD
                            have haT : j < (dj).size := by rw [HSJ.out]; exact hjn
                            have hbT : m < (dj).size := by rw [HSJ.out]; exact hmn
                            have ciT := H5.out.cell j haT
                            have cjT := H5.out.cell m hbT
                            have HSWT := Lib.hid (fun (x y : Nat) (hx : (dj)[j]! = x) (hy : (dj)[m]! = y) => H5.out.swp (i := j) (j := m) (x := x) (y := y) haT hbT hx hy)
                            have HSCT := Lib.hid (fun (y : Nat) (hy : (dj)[m]! = y) => H5.out.second (i := j) (j := m) haT hbT hy)
                            obtain ⟨xT, hxT⟩ : ∃ x, (dj)[j]! = x := ⟨_, rfl⟩
                            obtain ⟨yT, hyT⟩ : ∃ y, (dj)[m]! = y := ⟨_, rfl⟩
                            rw [hxT] at ciT
                            rw [hyT] at cjT
                            have HXT := Lib.hid hxT
                            have HYT := Lib.hid hyT
                            have ziT := H5.out.nf j
                            have zjT := H5.out.nf m
                            have hiNT : (j : Int) < (n : Int) := by omega
                            have hjNT : (m : Int) < (n : Int) := by omega
                            have hi0T : (0 : Int) ≤ (j : Int) := by omega
                            have hj0T : (0 : Int) ≤ (m : Int) := by omega
                            clear hxT hyT haT hbT
                            go_upto_region 17 with fail
                            have hsT := HSCT.out yT HYT.out
                            go_region
                            clear ciT cjT ziT zjT hsT
                            have H6 := Lib.hid ((HSWT.out xT yT HXT.out HYT.out).drew)
                            have HK6 := Lib.hid ((HK5.out.trans (swp_kp g j m W5 (.int .u64 (yT : Int)) (.int .u64 (xT : Int)))).trans (Kq.drew g _))
                            clear HSWT HSCT HXT HYT
                            have hmu : m < u := by have := HJE.out; omega
                            go_wp2
                            go_roundw
                            case rel => exact ⟨m, _, rfl, hmu, by rw [Sort.swp_size]; exact HSJ.out, HDD, H6.out, HK6.out⟩
                            case measure => simp [intOf] <;> omega
                case rest =>
                  obtain ⟨hAD, hKD, hSD⟩ := hcut
                  obtain ⟨W7, rfl⟩ : ∃ W7, W7 = wc := ⟨wc, rfl⟩
                  have H7 := Lib.hid hAD
                  have HK7 := Lib.hid hKD
                  have HS7 := Lib.hid hSD
                  have hnew := HNEW.out
                  obtain ⟨D2, hD2⟩ : ∃ D2, Sort.fixUp ltB b u D1 = D2 := ⟨_, rfl⟩
                  rw [hD2] at hnew
                  have HNEW2 := Lib.hid hnew
                  have HD2 := Lib.hid hD2
                  clear hnew hD2 hAD hKD hSD
                  obtain ⟨c2, hc2⟩ : ∃ c, decide (2 ≤ b - u) = c := ⟨_, rfl⟩
                  go_upto_region 18 with fail
                  go_cut [98] (fun x wz => x = .bool c2 ∧ W7 = wz)
                  case first =>
                    go_wp2
                    go_meet
                    exact ⟨congrArg Value.bool (by rw [← hc2]; exact decide_eq_decide.2 (by omega)), rfl⟩
                  case rest =>
                    obtain ⟨rfl, rfl⟩ := hcut
                    cases c2 with
                    | false =>
                      have h2 : ¬ 2 ≤ b - u := of_decide_eq_false hc2
                      have hD : D2 = D1 := by rw [← HD2.out]; unfold Sort.fixUp; rw [if_neg h2]
                      have HD := Lib.hid hD
                      clear hD
                      go_wp2
                      go_roundw
                      case rel => exact ⟨u, s + 1, t1, D1, rfl, by go_num, hau, hub, by have := HST.out; omega, HS7.out, H7.out, HK7.out, by rw [← HD.out]; exact HNEW2⟩
                      case measure => simp [intOf] <;> omega
                    | true =>
                      have h2 : 2 ≤ b - u := of_decide_eq_true hc2
                      have hD : Sort.shiftUp ltB b (u + 1) D1 = D2 := by rw [← HD2.out]; unfold Sort.fixUp; rw [if_pos h2]
                      have HD := Lib.hid hD
                      clear hD
                      go_wp2_with fail
                      go_loopw [10] (fun z wr => ∃ (j : Nat) (dj : Array Nat), z = .int .i64 (j : Int) ∧ 1 ≤ j ∧ j ≤ b ∧ dj.size = n ∧ Hid (Sort.shiftUp ltB b j dj = D2) ∧ Arr wr g dj ∧ Kq g w wr) (fun z _ => b + 1 - (intOf z).toNat)
                      case atStart => exact ⟨u + 1, D1, int_eq (by omega), by omega, by omega, HS7.out, HD, H7.out, HK7.out⟩
                      case round =>
                        obtain ⟨j, dj, rfl, hj1, hjb, hsj, HJ, h_, hk_⟩ := hrel
                        obtain ⟨W4, rfl⟩ : ∃ W4, W4 = wr := ⟨wr, rfl⟩
                        have H4 := Lib.hid h_
                        have HK4 := Lib.hid hk_
                        have HSJ := Lib.hid hsj
                        clear h_ hk_ hsj
                        rcases Nat.lt_or_ge j b with hjb2 | hjb2
                        rotate_left
                        · have hjN : ¬ (j : Int) < (b : Int) := by omega
                          have hD : dj = D2 := by rw [← HJ.out, su_end (by omega)]
                          have HDD := Lib.hid hD
                          clear hD
                          go_wp2
                          go_roundw
                          case rel => exact ⟨u, s + 1, t1, dj, rfl, by go_num, hau, hub, by have := HST.out; omega, HSJ.out, H4.out, HK4.out, by rw [HDD.out]; exact HNEW2⟩
                          case measure => simp [intOf] <;> omega
                        · have hjbI : (j : Int) < (b : Int) := by omega
                          obtain ⟨m, hm⟩ : ∃ m, j - 1 = m := ⟨_, rfl⟩
                          have hmI : (j : Int) - 1 = (m : Int) := by omega
                          have hjI2 : (j : Int) ≤ 1099511627776 := by omega
                          have hmn : m < n := by omega
                          have hjn : j < n := by omega
                          have HM := Lib.hid hm
                          clear hm
                          go_upto_region 22 with fail
                          have haB : j < (dj).size := by rw [HSJ.out]; exact hjn
                          have hbB : m < (dj).size := by rw [HSJ.out]; exact hmn
                          have ciB := H4.out.cell j haB
                          have cjB := H4.out.cell m hbB
                          obtain ⟨xB, hxB⟩ : ∃ x, (dj)[j]! = x := ⟨_, rfl⟩
                          obtain ⟨yB, hyB⟩ : ∃ y, (dj)[m]! = y := ⟨_, rfl⟩
                          rw [hxB] at ciB
                          rw [hyB] at cjB
                          obtain ⟨q, hqB⟩ : ∃ q, ltB xB yB = q := ⟨_, rfl⟩
                          have HQB := Lib.hid hqB
                          have HLB : Hid (ltB (dj)[j]! (dj)[m]! = q) := by rw [hxB, hyB]; exact HQB
                          have hiNB : (j : Int) < (n : Int) := by omega
                          have hjNB : (m : Int) < (n : Int) := by omega
                          have hi0B : (0 : Int) ≤ (j : Int) := by omega
                          have hj0B : (0 : Int) ≤ (m : Int) := by omega
                          clear hxB hyB haB hbB hqB
                          go_cut [116] (fun x wz => x = .bool (!q) ∧ ∃ kq, wz = W4.drewN kq)
                          case first =>
                            go_quiet ((go_at_call 53; exact Calls.quiet_of_same (less_q HQB.out _)))
                            go_wp2
                            go_meet
                            exact ⟨rfl, _, rfl⟩
                          case rest =>
                            obtain ⟨rfl, kr, rfl⟩ := hcut
                            clear ciB cjB
                            have h1_ := H4.out.drewN kr
                            have hk1_ := HK4.out.trans (Kq.drewN g W4 kr)
                            obtain ⟨W5, hW_⟩ : ∃ W5, W4.drewN kr = W5 := ⟨_, rfl⟩
                            rw [hW_] at h1_ hk1_ ⊢
                            have H5 := Lib.hid h1_
                            have HK5 := Lib.hid hk1_
                            clear h1_ hk1_ hW_
                            cases q with
                            | false =>
                              have hD : dj = D2 := by
                                rw [← HJ.out, su_stop hjb2 (by rw [HM.out]; exact HLB.out)]
                              have HDD := Lib.hid hD
                              clear hD
                              go_wp2
                              go_roundw
                              case rel => exact ⟨u, s + 1, t1, dj, rfl, by go_num, hau, hub, by have := HST.out; omega, HSJ.out, H5.out, HK5.out, by rw [HDD.out]; exact HNEW2⟩
                              case measure => simp [intOf] <;> omega
                            | true =>
                              have hD : Sort.shiftUp ltB b (j + 1) (Sort.swp dj j m) = D2 := by
                                rw [← HJ.out, su_go hjb2 (by rw [HM.out]; exact HLB.out), HM.out]
                              have HDD := Lib.hid hD
                              clear hD
                              have haT : j < (dj).size := by rw [HSJ.out]; exact hjn
                              have hbT : m < (dj).size := by rw [HSJ.out]; exact hmn
                              have ciT := H5.out.cell j haT
                              have cjT := H5.out.cell m hbT
                              have HSWT := Lib.hid (fun (x y : Nat) (hx : (dj)[j]! = x) (hy : (dj)[m]! = y) => H5.out.swp (i := j) (j := m) (x := x) (y := y) haT hbT hx hy)
                              have HSCT := Lib.hid (fun (y : Nat) (hy : (dj)[m]! = y) => H5.out.second (i := j) (j := m) haT hbT hy)
                              obtain ⟨xT, hxT⟩ : ∃ x, (dj)[j]! = x := ⟨_, rfl⟩
                              obtain ⟨yT, hyT⟩ : ∃ y, (dj)[m]! = y := ⟨_, rfl⟩
                              rw [hxT] at ciT
                              rw [hyT] at cjT
                              have HXT := Lib.hid hxT
                              have HYT := Lib.hid hyT
                              have ziT := H5.out.nf j
                              have zjT := H5.out.nf m
                              have hiNT : (j : Int) < (n : Int) := by omega
                              have hjNT : (m : Int) < (n : Int) := by omega
                              have hi0T : (0 : Int) ≤ (j : Int) := by omega
                              have hj0T : (0 : Int) ≤ (m : Int) := by omega
                              clear hxT hyT haT hbT
                              go_upto_region 23 with fail
                              have hsT := HSCT.out yT HYT.out
                              go_region
                              clear ciT cjT ziT zjT hsT
                              have H6 := Lib.hid ((HSWT.out xT yT HXT.out HYT.out).drew)
                              have HK6 := Lib.hid ((HK5.out.trans (swp_kp g j m W5 (.int .u64 (yT : Int)) (.int .u64 (xT : Int)))).trans (Kq.drew g _))
                              clear HSWT HSCT HXT HYT
                              go_wp2
                              go_roundw
                              case rel => exact ⟨j + 1, _, int_eq (by omega), by omega, by omega, by rw [Sort.swp_size]; exact HSJ.out, HDD, H6.out, HK6.out⟩
                              case measure => simp [intOf] <;> omega
end Go.Proofs.Ytfgfamafjkjakaa
namespace Go.Proofs.Ytfgfamafjkjakaa
open Go.ChangeShapes Go.WideShapes Go.ChangeAt Go.RowKit Go.Deep
set_option linter.unusedVariables false
set_option linter.unusedSimpArgs false
/-- What is still to do, done, ends it. -/
def Rest (a b : Nat) (d : Array Nat) (a0 b0 : Nat) (d0 : Array Nat) : Prop := ∀ R, Sort.PermIn a b d R → Sort.SortedIn ltB a b R → Sort.PermIn a0 b0 d0 R ∧ Sort.SortedIn ltB a0 b0 R
theorem Rest.perm {a b a0 b0 : Nat} {d d1 d0 : Array Nat} (h : Rest a b d a0 b0 d0) (hp : Sort.PermIn a b d d1) : Rest a b d1 a0 b0 d0 := fun R r1 r2 => h R (Sort.permIn_trans d d1 R a b hp r1) r2
theorem pdq_eq {a b pv : Nat} {d3 : Array Nat} (ha0 : 0 < a) (hp1 : a ≤ pv) (hp2 : pv < b) (hb : b ≤ d3.size) (hB : Sort.Below ltB a b d3) (hnl : ltB d3[a - 1]! d3[pv]! = false) :
    a < (Sort.partitionEqual ltB d3 a b pv).1 ∧ (Sort.partitionEqual ltB d3 a b pv).1 ≤ b ∧ Sort.Below ltB (Sort.partitionEqual ltB d3 a b pv).1 b (Sort.partitionEqual ltB d3 a b pv).2 ∧ ∀ a0 b0 d0, Rest a b d3 a0 b0 d0 → Rest (Sort.partitionEqual ltB d3 a b pv).1 b (Sort.partitionEqual ltB d3 a b pv).2 a0 b0 d0 := by
  obtain ⟨h1, h2, h3, h4, h5⟩ := Sort.round_eq swo_ltB (Sort.partitionEqual_holds _) ha0 hp1 hp2 hb hB hnl (Prod.eta _).symm
  exact ⟨h1, h2, h4, fun a0 b0 d0 hR R r1 r2 => hR R (h5 R r1 r2).1 (h5 R r1 r2).2⟩
theorem pdq_part {a b pv mid : Nat} {ap : Bool} {d3 d4 : Array Nat} (hp1 : a ≤ pv) (hp2 : pv < b) (hb : b ≤ d3.size) (hB : Sort.Below ltB a b d3) (hx : Sort.partition ltB d3 a b pv = (mid, ap, d4)) :
    a ≤ mid ∧ mid < b ∧ Sort.Below ltB a mid d4 ∧ Sort.Below ltB (mid + 1) b d4 ∧
    (∀ L, Sort.PermIn a mid d4 L → Sort.SortedIn ltB a mid L → Sort.Below ltB (mid + 1) b L ∧ ∀ a0 b0 d0, Rest a b d3 a0 b0 d0 → Rest (mid + 1) b L a0 b0 d0) ∧
    (∀ L, Sort.PermIn (mid + 1) b d4 L → Sort.SortedIn ltB (mid + 1) b L → Sort.Below ltB a mid L ∧ ∀ a0 b0 d0, Rest a b d3 a0 b0 d0 → Rest a mid L a0 b0 d0) := by
  obtain ⟨h1, h2, h3, h4, h5, h6, h7⟩ := Sort.round_part swo_ltB (Sort.partition_holds _) hp1 hp2 hb hB hx
  exact ⟨h1, h2, h4, h5, fun L l1 l2 => ⟨(h6 L l1 l2).1, fun a0 b0 d0 hR R r1 r2 => hR R ((h6 L l1 l2).2 R r1 r2).1 ((h6 L l1 l2).2 R r1 r2).2⟩, fun L l1 l2 => ⟨(h7 L l1 l2).1, fun a0 b0 d0 hR R r1 r2 => hR R ((h7 L l1 l2).2 R r1 r2).1 ((h7 L l1 l2).2 R r1 r2).2⟩⟩
def Pdqs (g n a b : Nat) (d : Array Nat) (w : World) (e : Ending) (w' : World) : Prop := e = .returned (.tuple #[]) ∧ ∃ D, Arr w' g D ∧ Sort.PermIn a b d D ∧ Sort.SortedIn ltB a b D ∧ D.size = n ∧ Kq g w w'
theorem pdqs_end {g n a b a0 b0 : Nat} {dk d0 D : Array Nat} {w w' : World} (hR : Rest a b dk a0 b0 d0) (h1 : Sort.PermIn a b dk D) (h2 : Sort.SortedIn ltB a b D) (hA : Arr w' g D) (hs : D.size = n) (hk : Kq g w w') : Pdqs g n a0 b0 d0 w (.returned (.tuple #[])) w' :=
  ⟨rfl, D, hA, (hR D h1 h2).1, (hR D h1 h2).2, hs, hk⟩
set_option maxRecDepth 100000 in
set_option maxHeartbeats 64000000 in
theorem Pdq_any (g n cap : Nat) (hnc : n ≤ cap) (hcap : (cap : Int) ≤ 9223372036854775807) (hn16 : n < 65536) : ∀ (m a b limit : Nat) (d : Array Nat) (w : World), b - a < m → a ≤ b → b ≤ n → Arr w g d → d.size = n → limit ≤ 100 → Sort.Below ltB a b d →
    Calls Try.prog 50 #[.slice (some ⟨g, 0, none⟩) n cap, .int .i64 (a : Int), .int .i64 (b : Int), .int .i64 (limit : Int)] w fun e w' => Pdqs g n a b d w e w' := by
  intro m
  induction m with
  | zero => intro a b limit d w h; omega
  | succ m IH =>
    intro a b limit d w hbm hab hbn hA hs0 hlim hBel
    have HIH := Lib.hid IH
    have HA := Lib.hid hA
    have HN := Lib.hid hs0
    have HB0 := Lib.hid hBel
    have hn40 : (n : Int) ≤ 1099511627776 := by omega
    clear IH hA hs0 hBel
    go_enter Try.func50, Try.ntmps50
    go_wp2_with fail
    go_loopw [1, 2, 3, 8, 9] (fun v1 v2 v3 v8 v9 wr => ∃ (a1 b1 l : Nat) (wb wp : Bool) (dk : Array Nat), v1 = .int .i64 (a1 : Int) ∧ v2 = .int .i64 (b1 : Int) ∧ v3 = .int .i64 (l : Int) ∧ v8 = .bool wb ∧ v9 = .bool wp ∧ a ≤ a1 ∧ a1 ≤ b1 ∧ b1 ≤ b ∧ l ≤ 100 ∧ dk.size = n ∧ Arr wr g dk ∧ Kq g w wr ∧ Hid (Sort.Below ltB a1 b1 dk) ∧ Hid (Rest a1 b1 dk a b d)) (fun v1 v2 _ _ _ _ => (intOf v2).toNat - (intOf v1).toNat)
    case atStart => exact ⟨a, b, limit, true, true, d, rfl, rfl, rfl, rfl, rfl, Nat.le_refl _, hab, Nat.le_refl _, hlim, HN.out, HA.out, Kq.refl _ _, HB0, Lib.hid fun R r1 r2 => ⟨r1, r2⟩⟩
    case round =>
      obtain ⟨a1, b1, l, wb, wp, dk, rfl, rfl, rfl, rfl, rfl, haa, hab1, hbb, hl, hs_, h0, hk0, HBE, HRE⟩ := hrel
      obtain ⟨W0, rfl⟩ : ∃ W0, W0 = wr := ⟨wr, rfl⟩
      have H0 := Lib.hid h0
      have HK0 := Lib.hid hk0
      have HS := Lib.hid hs_
      clear h0 hk0 hs_
      have haI : (a1 : Int) ≤ 65536 := by omega
      have hbI : (b1 : Int) ≤ 65536 := by omega
      have hlI : (l : Int) ≤ 100 := by omega
      obtain ⟨len, hlen⟩ : ∃ x, b1 - a1 = x := ⟨_, rfl⟩
      have hlenI : (b1 : Int) - (a1 : Int) = (len : Int) := by omega
      have HLEN := Lib.hid hlen
      have hbs : Hid (b1 ≤ dk.size) := Lib.hid (by rw [HS.out]; omega)
      clear hlen
      rcases Nat.lt_or_ge 12 len with h12 | h12
      rotate_left
      · have h12I : (len : Int) ≤ 12 := by omega
        go_wp2_with fail
        refine (Insertion_any g n cap a1 b1 dk W0 H0.out HS.out hnc hcap (by omega) (by omega) hab1).mono ?_
        rintro e W1 ⟨rfl, r1, r2, r3⟩
        have HF := Lib.hid (pdqs_end HRE.out (Sort.insertionSort_holds swo_ltB dk a1 b1 hab1 hbs.out).1 (Sort.insertionSort_holds swo_ltB dk a1 b1 hab1 hbs.out).2 r1 r3 (HK0.out.trans r2))
        clear r1 r2 r3
        go_wp2
        first | go_end0 | (refine bodyPost_end (results_none rfl _ _ _) rfl ?_) | (refine bodyPost_ret (results_none rfl _ _ _) rfl ?_)
        exact HF.out
      have h12I : ¬ (len : Int) ≤ 12 := by omega
      rcases Nat.eq_zero_or_pos l with rfl | hl1
      · go_wp2_with fail
        refine (Heap_any g n cap a1 b1 dk W0 H0.out HS.out hnc hcap hn40 (by omega) (by have := HLEN.out; omega)).mono ?_
        rintro e W1 ⟨rfl, r1, r2, r3⟩
        have HF := Lib.hid (pdqs_end HRE.out (Sort.heapSort_holds swo_ltB dk a1 b1 hab1 hbs.out).1 (Sort.heapSort_holds swo_ltB dk a1 b1 hab1 hbs.out).2 r1 r3 (HK0.out.trans r2))
        clear r1 r2 r3
        go_wp2
        first | go_end0 | (refine bodyPost_end (results_none rfl _ _ _) rfl ?_) | (refine bodyPost_ret (results_none rfl _ _ _) rfl ?_)
        exact HF.out
      have hl1I : ((l : Int) == 0) = false := beq_eq_false_iff_ne.2 (by omega)
      go_upto_if 35 with fail
      go_cut [3] (fun v wz => ∃ (l2 : Nat) (d1 : Array Nat), v = .int .i64 (l2 : Int) ∧ l2 ≤ 100 ∧ d1.size = n ∧ Arr wz g d1 ∧ Kq g w wz ∧ Sort.PermIn a1 b1 dk d1)
      case first =>
        cases wb with
        | false =>
          go_wp2_with fail
          refine (Break_any g n cap a1 b1 dk W0 H0.out HS.out hnc hcap hn16 (by omega) (by have := HLEN.out; omega)).mono ?_
          rintro e W1 ⟨rfl, d1, r1, r2, r3, r4⟩
          have HR1 := Lib.hid r1
          have HR2 := Lib.hid r2
          have HR3 := Lib.hid r3
          have HR4 := Lib.hid (HK0.out.trans r4)
          clear r1 r2 r3 r4
          go_wp2
          go_meet
          exact ⟨l - 1, d1, int_eq (by omega), by omega, HR3.out, HR1.out, HR4.out, HR2.out⟩
        | true =>
          go_wp2
          go_meet
          exact ⟨l, dk, rfl, hl, HS.out, H0.out, HK0.out, Sort.permIn_refl dk a1 b1⟩
      case rest =>
        obtain ⟨l2, d1, rfl, hl2, hs1, r1, r2, r3⟩ := hcut
        obtain ⟨W1, rfl⟩ : ∃ W1, W1 = wc := ⟨wc, rfl⟩
        have H1 := Lib.hid r1
        have HK1 := Lib.hid r2
        have HP1 := Lib.hid r3
        have HS1 := Lib.hid hs1
        have hl2I : (l2 : Int) ≤ 100 := by omega
        clear r1 r2 r3 hs1 hl1I
        go_wp2_with fail
        refine (Pivot_any g n cap a1 b1 d1 W1 H1.out HS1.out hnc hcap hn40 (by omega) (by have := HLEN.out; omega)).mono ?_
        rintro e W2 ⟨p, h, rfl, hp1, hp2, hh, hbl⟩
        have H2 := Lib.hid (H1.out.below hbl)
        have HK2 := Lib.hid (HK1.out.trans (Kq.of_below hbl))
        have hpI : (p : Int) ≤ 65536 := by omega
        clear hbl
        go_upto_if 50 with fail
        go_cut [11, 12] (fun v11 v12 wz => ∃ (p2 h2 : Nat) (d2 : Array Nat), v11 = .int .i64 (p2 : Int) ∧ v12 = .int .i64 (h2 : Int) ∧ a1 ≤ p2 ∧ p2 < b1 ∧ (h2 = 0 ∨ h2 = 1) ∧ d2.size = n ∧ Arr wz g d2 ∧ Kq g w wz ∧ Sort.PermIn a1 b1 dk d2)
        case first =>
          rcases hh with rfl | rfl | rfl
          · go_wp2
            go_meet
            exact ⟨p, 0, d1, rfl, rfl, hp1, hp2, .inl rfl, HS1.out, H2.out, HK2.out, HP1.out⟩
          · go_wp2
            go_meet
            exact ⟨p, 1, d1, rfl, rfl, hp1, hp2, .inr rfl, HS1.out, H2.out, HK2.out, HP1.out⟩
          · go_wp2_with fail
            refine (Reverse_any g n cap a1 b1 d1 W2 H2.out HS1.out hnc hcap hn40 (by omega) (by omega)).mono ?_
            rintro e W3 ⟨rfl, r1, r2, r3⟩
            have HR1 := Lib.hid r1
            have HR2 := Lib.hid (HK2.out.trans r2)
            have HR3 := Lib.hid r3
            have HP := Lib.hid (Sort.permIn_trans dk d1 _ a1 b1 HP1.out (Sort.reverseRange_holds d1 a1 b1 hab1 (by rw [HS1.out]; omega)))
            clear r1 r2 r3
            go_wp2
            go_meet
            exact ⟨b1 - 1 - (p - a1), 1, _, int_eq (by omega), rfl, by omega, by omega, .inr rfl, HR3.out, HR1.out, HR2.out, HP.out⟩
        case rest =>
          obtain ⟨p2, h2, d2, rfl, rfl, hq1, hq2, hh2, hs2, r1, r2, r3⟩ := hcut
          obtain ⟨W3, rfl⟩ : ∃ W3, W3 = wc := ⟨wc, rfl⟩
          have H3 := Lib.hid r1
          have HK3 := Lib.hid r2
          have HP3 := Lib.hid r3
          have HS3 := Lib.hid hs2
          clear r1 r2 r3 hs2 hp1 hp2 hpI hh
          have hp2I : (p2 : Int) ≤ 65536 := by omega
          obtain ⟨c1, hc1⟩ : ∃ c, (wb && wp && decide (h2 = 1)) = c := ⟨_, rfl⟩
          go_upto_region 15 with fail
          go_cut [68] (fun v wz => v = .bool c1 ∧ W3 = wz)
          case first =>
            subst hc1
            cases wb <;> cases wp <;> rcases hh2 with rfl | rfl <;> go_wp2 <;> go_meet <;> exact ⟨rfl, rfl⟩
          case rest =>
            obtain ⟨rfl, rfl⟩ := hcut
            clear hc1
            have HBE2 : Hid (Sort.Below ltB a1 b1 d2) := Lib.hid (HBE.out.perm hbs.out HP3.out)
            have HRE2 : Hid (Rest a1 b1 d2 a b d) := Lib.hid (HRE.out.perm HP3.out)
            go_upto_if 68 with fail
            go_cut [69] (fun v wz => ∃ d3 : Array Nat, d3.size = n ∧ Arr wz g d3 ∧ Kq g w wz ∧ Sort.PermIn a1 b1 dk d3)
            case first =>
              cases c1 with
              | false =>
                go_wp2
                go_meet
                exact ⟨d2, HS3.out, H3.out, HK3.out, HP3.out⟩
              | true =>
                go_wp2_with fail
                refine (PartialIns_any g n cap a1 b1 d2 W3 H3.out HS3.out hnc hcap hn40 (by omega) (by omega)).mono ?_
                rintro e W4 ⟨D, r, hx, rfl, r1, r2, r3⟩
                obtain ⟨e1, e2⟩ := Sort.partialInsertionSort_holds swo_ltB d2 a1 b1 (by omega) (by rw [HS3.out]; omega) HBE2.out
                rw [hx] at e1 e2
                have HP4 := Lib.hid (Sort.permIn_trans dk d2 D a1 b1 HP3.out e1)
                have HE1 := Lib.hid e1
                have HE2 := Lib.hid e2
                have H4 := Lib.hid r1
                have HK4 := Lib.hid (HK3.out.trans r2)
                have HS4 := Lib.hid r3
                clear r1 r2 r3 e1 e2 hx
                cases r with
                | true =>
                  have HF := Lib.hid (pdqs_end HRE2.out HE1.out (HE2.out rfl) H4.out HS4.out HK4.out)
                  go_wp2
                  first | go_end0 | (refine bodyPost_end (results_none rfl _ _ _) rfl ?_) | (refine bodyPost_ret (results_none rfl _ _ _) rfl ?_)
                  exact HF.out
                | false =>
                  go_wp2
                  go_meet
                  exact ⟨D, HS4.out, H4.out, HK4.out, HP4.out⟩
            case rest =>
              obtain ⟨d3, hs3, r1, r2, r3⟩ := hcut
              obtain ⟨W4, rfl⟩ : ∃ W4, W4 = wc := ⟨wc, rfl⟩
              have H4 := Lib.hid r1
              have HK4 := Lib.hid r2
              have HS4 := Lib.hid hs3
              have HBE3 : Hid (Sort.Below ltB a1 b1 d3) := Lib.hid (HBE.out.perm hbs.out r3)
              have HRE3 : Hid (Rest a1 b1 d3 a b d) := Lib.hid (HRE.out.perm r3)
              clear r1 r2 r3 hs3 HBE HRE HBE2 HRE2 H3 HK3 HS3 HP3 H0 HK0
              obtain ⟨aq, haq⟩ : ∃ x, a1 - 1 = x := ⟨_, rfl⟩
              have HAQ := Lib.hid haq
              obtain ⟨cb, hcb⟩ : ∃ q, (decide (0 < a1) && !ltB d3[a1 - 1]! d3[p2]!) = q := ⟨_, rfl⟩
              have HCB := Lib.hid hcb
              clear hcb
              have haqn : aq < n := by omega
              have hpn : p2 < n := by omega
              clear haq
              go_upto_region 17 with fail
              go_cut [87] (fun x wz => x = .bool cb ∧ ∃ kq, wz = W4.drewN kq)
              case first =>
                by_cases hle : 0 < a1
                · have hleI : (0 : Int) < (a1 : Int) := by omega
                  have haqI : (a1 : Int) - 1 = (aq : Int) := by have := HAQ.out; omega
                  have haA : aq < (d3).size := by rw [HS4.out]; exact haqn
                  have hbA : p2 < (d3).size := by rw [HS4.out]; exact hpn
                  have ciA := H4.out.cell aq haA
                  have cjA := H4.out.cell p2 hbA
                  obtain ⟨xA, hxA⟩ : ∃ x, (d3)[aq]! = x := ⟨_, rfl⟩
                  obtain ⟨yA, hyA⟩ : ∃ y, (d3)[p2]! = y := ⟨_, rfl⟩
                  rw [hxA] at ciA
                  rw [hyA] at cjA
                  obtain ⟨q, hqA⟩ : ∃ q, ltB xA yA = q := ⟨_, rfl⟩
                  have HQA := Lib.hid hqA
                  have HLA : Hid (ltB (d3)[aq]! (d3)[p2]! = q) := by rw [hxA, hyA]; exact HQA
                  have hiNA : (aq : Int) < (n : Int) := by omega
                  have hjNA : (p2 : Int) < (n : Int) := by omega
                  have hi0A : (0 : Int) ≤ (aq : Int) := by omega
                  have hj0A : (0 : Int) ≤ (p2 : Int) := by omega
                  clear hxA hyA haA hbA hqA
                  have hce : cb = !q := by rw [← HCB.out, decide_eq_true hle, Bool.true_and, HAQ.out]; rw [HLA.out]
                  subst hce
                  go_quiet ((go_at_call 53; exact Calls.quiet_of_same (less_q HQA.out _)))
                  go_wp2
                  go_meet
                  exact ⟨rfl, _, rfl⟩
                · have hleI : ¬ (0 : Int) < (a1 : Int) := by omega
                  have hce : cb = false := by rw [← HCB.out, decide_eq_false hle, Bool.false_and]
                  subst hce
                  go_quiet (fail)
                  go_wp2
                  go_meet
                  exact ⟨rfl, _, rfl⟩
              case rest =>
                obtain ⟨rfl, kq, rfl⟩ := hcut
                have h1_ := H4.out.drewN kq
                have hk1_ := HK4.out.trans (Kq.drewN g W4 kq)
                obtain ⟨W5, hW_⟩ : ∃ W5, W4.drewN kq = W5 := ⟨_, rfl⟩
                rw [hW_] at h1_ hk1_ ⊢
                have H5 := Lib.hid h1_
                have HK5 := Lib.hid hk1_
                clear h1_ hk1_ hW_
                cases cb with
                | true =>
                  have hcc : 0 < a1 ∧ ltB d3[a1 - 1]! d3[p2]! = false := by
                    have := HCB.out
                    rw [Bool.and_eq_true, decide_eq_true_eq] at this
                    exact ⟨this.1, by have h := this.2; rw [Bool.not_eq_true'] at h; exact h⟩
                  obtain ⟨e1, e2, e3, e4⟩ := pdq_eq hcc.1 hq1 hq2 (by rw [HS4.out]; omega) HBE3.out hcc.2
                  have hcall := PartEq_any g n cap a1 b1 p2 d3 W5 H5.out HS4.out hnc hcap hn40 (by omega) hq1 hq2
                  obtain ⟨mid, hmid⟩ : ∃ x, (Sort.partitionEqual ltB d3 a1 b1 p2).1 = x := ⟨_, rfl⟩
                  obtain ⟨d4, hd4⟩ : ∃ x, (Sort.partitionEqual ltB d3 a1 b1 p2).2 = x := ⟨_, rfl⟩
                  rw [hmid] at e1 e2 e3 e4 hcall
                  rw [hd4] at e3 e4 hcall
                  have HG1 := Lib.hid e3
                  have HG2 := Lib.hid (e4 a b d HRE3.out)
                  clear e3 e4 hmid hd4 hcc
                  go_wp2_with fail
                  refine hcall.mono ?_
                  rintro e W6 ⟨rfl, r1, r2, r3⟩
                  have H6 := Lib.hid r1
                  have HK6 := Lib.hid (HK5.out.trans r2)
                  have HS6 := Lib.hid r3
                  clear r1 r2 r3 hcall
                  go_wp2
                  go_roundw
                  case rel => exact ⟨mid, b1, l2, wb, wp, d4, rfl, rfl, rfl, rfl, rfl, by omega, e2, hbb, hl2, HS6.out, H6.out, HK6.out, HG1, HG2⟩
                  case measure => simp [intOf] <;> omega
                | false =>
                  have hcall := Part_any g n cap a1 b1 p2 d3 W5 H5.out HS4.out hnc hcap hn40 (by omega) hq1 hq2
                  obtain ⟨pr, hpr⟩ : ∃ x, Sort.partition ltB d3 a1 b1 p2 = x := ⟨_, rfl⟩
                  obtain ⟨mid, ap, d4⟩ := pr
                  obtain ⟨f1, f2, f3, f4, f5, f6⟩ := pdq_part hq1 hq2 (by rw [HS4.out]; omega) HBE3.out hpr
                  rw [hpr] at hcall
                  have HBL := Lib.hid f3
                  have HBR := Lib.hid f4
                  have HL1 := Lib.hid f5
                  have HL2 := Lib.hid f6
                  have hmI : (mid : Int) ≤ 65536 := by omega
                  clear f3 f4 f5 f6 hpr
                  go_wp2_with fail
                  refine hcall.mono ?_
                  rintro e W6 ⟨rfl, r1, r2, r3⟩
                  have H6 := Lib.hid r1
                  have HK6 := Lib.hid (HK5.out.trans r2)
                  have HS6 := Lib.hid r3
                  clear r1 r2 r3 hcall
                  obtain ⟨L, hL⟩ : ∃ x, mid - a1 = x := ⟨_, rfl⟩
                  obtain ⟨Rr, hRr⟩ : ∃ x, b1 - mid = x := ⟨_, rfl⟩
                  have hLI : (mid : Int) - (a1 : Int) = (L : Int) := by omega
                  have hRI : (b1 : Int) - (mid : Int) = (Rr : Int) := by omega
                  have HLL := Lib.hid hL
                  have HRR := Lib.hid hRr
                  clear hL hRr
                  rcases Nat.lt_or_ge L Rr with hc | hc
                  · have hcI : (L : Int) < (Rr : Int) := by omega
                    go_wp2_with fail
                    have hcall := HIH.out a1 mid l2 d4 W6 (by omega) (by omega) (by omega) H6.out HS6.out hl2 HBL.out
                    clear hcI
                    refine hcall.mono ?_
                    rintro e W7 ⟨rfl, D, r1, r2, r3, r4, r5⟩
                    obtain ⟨g1, g2⟩ := HL1.out D r2 r3
                    have HG1 := Lib.hid g1
                    have HG2 := Lib.hid (g2 a b d HRE3.out)
                    have H7 := Lib.hid r1
                    have HK7 := Lib.hid (HK6.out.trans r5)
                    have HS7 := Lib.hid r4
                    clear r1 r2 r3 r4 r5 g1 g2 hcall
                    go_wp2
                    go_roundw
                    case rel => exact ⟨(mid + 1), b1, l2, _, ap, D, int_eq (by omega), rfl, rfl, rfl, rfl, by omega, by omega, by omega, hl2, HS7.out, H7.out, HK7.out, HG1, HG2⟩
                    case measure => simp [intOf] <;> omega
                  · have hcI : ¬ (L : Int) < (Rr : Int) := by omega
                    go_wp2_with fail
                    have hcall := HIH.out (mid + 1) b1 l2 d4 W6 (by omega) (by omega) (by omega) H6.out HS6.out hl2 HBR.out
                    rw [show ((mid + 1 : Nat) : Int) = (mid : Int) + 1 by omega] at hcall
                    refine hcall.mono ?_
                    rintro e W7 ⟨rfl, D, r1, r2, r3, r4, r5⟩
                    obtain ⟨g1, g2⟩ := HL2.out D r2 r3
                    have HG1 := Lib.hid g1
                    have HG2 := Lib.hid (g2 a b d HRE3.out)
                    have H7 := Lib.hid r1
                    have HK7 := Lib.hid (HK6.out.trans r5)
                    have HS7 := Lib.hid r4
                    clear r1 r2 r3 r4 r5 g1 g2 hcall
                    go_wp2
                    go_roundw
                    case rel => exact ⟨a1, mid, l2, _, ap, D, rfl, rfl, rfl, rfl, rfl, by omega, by omega, by omega, hl2, HS7.out, H7.out, HK7.out, HG1, HG2⟩
                    case measure => simp [intOf] <;> omega
end Go.Proofs.Ytfgfamafjkjakaa
namespace Go.Proofs.Ytfgfamafjkjakaa
open Go.ChangeShapes Go.WideShapes Go.ChangeAt Go.RowKit Go.Deep
set_option linter.unusedVariables false
set_option linter.unusedSimpArgs false
/-- The numbers, ascending. -/
def sortN (l : List Nat) : List Nat := l.mergeSort (fun x y => !ltB y x)
theorem sortN_len (l : List Nat) : (sortN l).length = l.length := List.length_mergeSort l
theorem sortN_nil : sortN [] = [] := by simp [sortN]
theorem sorted_is {d D : Array Nat} (hp : Sort.PermIn 0 d.size d D) (hs : Sort.SortedIn ltB 0 d.size D) : D.toList = sortN d.toList :=
  Sort.sorted_unique_holds swo_ltB (fun x y h1 h2 => by unfold ltB at h1 h2; rw [decide_eq_false_iff_not] at h1 h2; omega) d D hp hs
theorem flat_map : ∀ l : List Nat, flatK (encN .u64) l = l.map (fun x : Nat => Value.int .u64 (x : Int))
  | [] => rfl
  | _ :: r => congrArg (List.cons _) (flat_map r)
theorem arr_take {w : World} {g : Nat} {D : Array Nat} {cur : Array Value} {T : TypeId} (hA : Arr w g D) (hc : w.heap[g]? = some (.cells cur T (0, 0))) : cur.toList.take D.size = flatK (encN .u64) D.toList := by
  rw [flat_map]
  apply List.ext_getElem?
  intro i
  by_cases hi : i < D.size
  · rw [List.getElem?_take_of_lt hi, Array.getElem?_toList]
    have h : cur[i]? = some (.int .u64 ((D[i]! : Nat) : Int)) := by have h := hA.cell i hi; simpa [World.cell?, hc] using h
    rw [h, List.getElem?_map, Array.getElem?_toList, Array.getElem?_eq_getElem hi]
    rw [getElem!_pos D i hi]
    rfl
  · rw [List.getElem?_eq_none (by rw [List.length_take]; omega), List.getElem?_eq_none (by rw [List.length_map, Array.length_toList]; omega)]
def Sorted_ (g n : Nat) (d : Array Nat) (w : World) (e : Ending) (w' : World) : Prop := e = .returned (.tuple #[]) ∧ ∃ D : Array Nat, Arr w' g D ∧ D.toList = sortN d.toList ∧ D.size = n ∧ Kq g w w'
theorem sorted_end {g n : Nat} {d D : Array Nat} {w w' : World} (h1 : Arr w' g D) (h2 : D.toList = sortN d.toList) (h3 : D.size = n) (h4 : Kq g w w') : Sorted_ g n d w (.returned (.tuple #[])) w' := ⟨rfl, D, h1, h2, h3, h4⟩
set_option maxRecDepth 100000 in
set_option maxHeartbeats 32000000 in
theorem Sort_gen (g n cap : Nat) (d : Array Nat) (w : World) (hA : Arr w g d) (hn : d.size = n) (hnc : n ≤ cap) (hcap : (cap : Int) ≤ 9223372036854775807) (hn16 : n < 65536) :
    Calls Try.prog 40 #[.slice (some ⟨g, 0, none⟩) n cap] w fun e w' => Sorted_ g n d w e w' := by
  have HA := Lib.hid hA
  have HN := Lib.hid hn
  have hnI : (n : Int) ≤ 65536 := by omega
  clear hA hn
  go_enter Try.func40, Try.ntmps40
  go_wp2_with fail
  refine (Len_gen n w hn16).mono ?_
  rintro e w1 ⟨⟨r, rfl, h⟩, rfl⟩
  have hr := h.2.2
  clear h
  go_wp2_with fail
  refine (Pdq_any g n cap hnc hcap hn16 (n + 1) 0 n r d w1 (by omega) (Nat.zero_le _) (Nat.le_refl _) HA.out HN.out (by omega) (.inl rfl)).mono ?_
  rintro e w2 ⟨rfl, D, r1, r2, r3, r4, r5⟩
  have hd := sorted_is (d := d) (D := D) (by rw [HN.out]; exact r2) (by rw [HN.out]; exact r3)
  have HF := Lib.hid (sorted_end r1 hd r4 r5)
  clear r1 r2 r3 r4 r5 hd
  go_wp2
  first | go_end0 | (refine bodyPost_end (results_none rfl _ _ _) rfl ?_) | (refine bodyPost_ret (results_none rfl _ _ _) rfl ?_)
  exact HF.out
theorem Sort_own (v : Value) (l : List Nat) (w : World) (B : Nat) (hB : B ≤ w.heap.size) (hv : OwnK w B 30 (encN .u64) v l) (hl : l.length < 65536) :
    Calls Try.prog 40 #[v] w fun e w' => e = .returned (.tuple #[]) ∧ OwnK w' B 30 (encN .u64) v (sortN l) ∧ Below B w w' := by
  rcases Nat.eq_zero_or_pos l.length with h0 | h0
  · obtain rfl : l = [] := List.eq_nil_of_length_eq_zero h0
    refine (Sort_up v [] w hv.has (fun i hi => absurd hi (by simp)) (by simp)).mono ?_
    rintro e w' ⟨h1, h2⟩
    exact ⟨h1, by rw [sortN_nil]; exact hv.below h2, h2.mono hB⟩
  · obtain ⟨g, c, rfl, hg, hgl, h1, h2, hc, hf⟩ := hv.form h0
    obtain ⟨cur, -, -, -, hcur, -, -, hsz, htk⟩ := own_parts (n := l.length) hv h0
    have hA : Arr w g l.toArray := ⟨fun i hi => by
      have hi' : i < l.length := by simpa using hi
      have h := hc i hi' 0 (.int .u64 ((l[i] : Nat) : Int)) rfl
      rw [show i * (encN .u64).k + 0 = i from Nat.mul_one i] at h
      rw [h, getElem!_pos l.toArray i hi]
      rfl, hf, hgl⟩
    refine (Sort_gen g l.length c l.toArray w hA (by simp) h1 (by unfold maxLen at h2; omega) hl).mono ?_
    rintro e w' ⟨rfl, D, hA', hD, hDs, hK⟩
    obtain ⟨cur', hcur', hsz'⟩ := hK.shape cur _ hcur
    rw [List.toList_toArray] at hD
    refine ⟨rfl, own_of (sortN_len l).symm hg hcur' h1 h2 (hsz'.trans hsz) ?_, hK.below hg hB⟩
    rw [← hDs, arr_take hA' hcur', hD]
end Go.Proofs.Ytfgfamafjkjakaa
