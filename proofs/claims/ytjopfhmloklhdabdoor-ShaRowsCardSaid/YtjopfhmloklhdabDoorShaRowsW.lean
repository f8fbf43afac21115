/-
  The walk of ShaRows.
-/
import Derived.Test.YtjopfhmloklhdabDoorShS
import Derived.Deep.CutBlock
namespace Go.Proofs.YtjopfhmloklhdabDoor
open Go.ChangeShapes Go.WideShapes Go.ChangeAt Go.RowKit Go.Deep
set_option linter.unusedVariables false
set_option linter.unusedSimpArgs false

theorem take_mid (l : List UInt8) (lo hi : Nat) (h1 : lo ≤ hi) : l.take lo ++ (l.take hi).drop lo = l.take hi := by
  have e : l.take lo = (l.take hi).take lo := by rw [List.take_take, Nat.min_eq_left h1]
  rw [e, List.take_append_drop]
theorem mid_len (l : List UInt8) (lo hi : Nat) (h1 : lo ≤ hi) (h2 : hi ≤ l.length) : ((l.take hi).drop lo).length = hi - lo := by
  rw [List.length_drop, List.length_take]
  omega
set_option maxRecDepth 100000 in
set_option maxHeartbeats 8000000 in
theorem ShaRows_any (v : Value) (b : List UInt8) (step : Int) (w : World) (hv : HasA w v b) (hsw : (Lit.int .i64 step).wf = true) (hG : Grnd w) :
    Calls Tryd.prog 3 #[v, .int .i64 step] w fun e w' => e = .returned (.bool true) ∧ Below w.heap.size w w' := by
  obtain ⟨bp, bc, hve, k1, k2⟩ := hv.form
  obtain ⟨n, hn⟩ : ∃ n, b.length = n := ⟨_, rfl⟩
  rw [hn] at hve k1
  subst hve
  have hnm : (n : Int) ≤ 9223372036854775807 := by unfold maxLen at k2; omega
  have HV := Lib.hid hv
  have HG := Lib.hid hG
  have HN := Lib.hid hn
  have hgs := hG.s
  have hgr := hG.r
  clear hv hG hn k1 k2 hsw
  go_enter Tryd.func3, Tryd.ntmps3
  go_wp2_with fail
  refine (awake_any w HG.out).mono ?_
  rintro e w1 ⟨rfl, hb1⟩
  have HG1 := Lib.hid (HG.out.below hb1)
  have HB1 := Lib.hid hb1
  have hz1 := hb1.size
  clear hb1
  by_cases c1 : 600 < n
  · have c1' : (600 : Int) < (n : Int) := by omega
    clear c1
    go_wp2
    go_ret
    exact ⟨rfl, HB1.out⟩
  · have c1' : (n : Int) ≤ 600 := by omega
    have hn600 : n ≤ 600 := by omega
    by_cases c2 : step < 1
    · clear c1
      go_wp2
      go_ret
      exact ⟨rfl, HB1.out⟩
    · have c2' : 1 ≤ step := by omega
      by_cases c3 : 600 < step
      · clear c1 c2
        go_wp2
        go_ret
        exact ⟨rfl, HB1.out⟩
      · have c3' : step ≤ 600 := by omega
        obtain ⟨st, rfl⟩ : ∃ st : Nat, step = (st : Int) := ⟨step.toNat, by omega⟩
        have hst : 1 ≤ st := by omega
        have hst6 : st ≤ 600 := by omega
        clear c1 c2 c3
        go_wp2_with fail
        refine (New_std w1 HG1.out).mono ?_
        rintro e w2 ⟨rfl, hs2, hb2⟩
        have HS2 := Lib.hid hs2
        have hzz2 := hs2.lt
        have HG2 := Lib.hid (HG1.out.below hb2)
        have HB2 := Lib.hid (HB1.out.trans (hb2.mono hz1))
        clear hs2 hb2
        generalize w1.heap.size = R1 at *
        go_wp2_with fail
        refine (New_std w2 HG2.out).mono ?_
        rintro e w3 ⟨rfl, hs3, hb3⟩
        have HX3 := Lib.hid (HS2.out.below hb3)
        have HS3 := Lib.hid hs3
        have hzz3 := hs3.lt
        have HB3 := Lib.hid (HB2.out.trans (hb3.mono (by omega)))
        clear hs3 hb3
        generalize w2.heap.size = R2 at *
        have hR12 : R1 < R2 := hzz2
        go_wp2_with fail
        go_loopw [7] (fun v7 wr => ∃ k : Nat, v7 = .int .i64 k ∧ k ≤ n ∧ HStd wr R1 (b.take k) ∧ HStd wr R2 [] ∧ Below w.heap.size w wr) (fun v7 _ => n - (intOf v7).toNat)
        case atStart => exact ⟨0, rfl, Nat.zero_le _, by rw [List.take_zero]; exact HX3.out, HS3.out, HB3.out⟩
        case round =>
          obtain ⟨k, rfl, hk, hx, hy, hb⟩ := hrel
          rcases Nat.lt_or_ge k n with hlt | hge
          · have hlt' : (k : Int) < (n : Int) := by omega
            obtain ⟨mp, mc, hm1, hm2⟩ := HV.out.mid k (k + 1) (by omega) (by rw [HN.out]; omega)
            try rw [HN.out] at hm1
            try rw [HN.out] at hm2
            rw [show k + 1 - k = 1 by omega] at hm1 hm2
            rw [show (((k + 1 : Nat)) : Int) = (k : Int) + 1 by omega] at hm1
            have hml := mid_len b k (k + 1) (by omega) (by rw [HN.out]; omega)
            have hmt := take_mid b k (k + 1) (by omega)
            have hmo := own_ne (hm2 w HV.out) R1 hz1
            have hma := (hm2 w HV.out).below hb
            generalize (b.take (k + 1)).drop k = mid at *
            have HMO := Lib.hid hmo
            have HMA := Lib.hid hma
            have HML := Lib.hid hml
            have HMT := Lib.hid hmt
            have HX := Lib.hid hx
            have HY := Lib.hid hy
            have HB := Lib.hid hb
            have hlk : (b.take k).length ≤ 600 := by rw [List.length_take]; omega
            clear hm2 hml hmt hmo hma hx hy hb
            go_wp2_with fail
            refine (Write_std wr R1 _ HX.out _ mid HMA.out HMO.out (by rw [HML.out]; omega) (HG.out.below HB.out) (by omega)).mono ?_
            rintro e w5 ⟨rfl, hk5, hs5⟩
            rw [HMT.out] at hs5
            have HX5 := Lib.hid hs5
            have HY5 := Lib.hid (HY.out.kp hk5 (by omega))
            have HB5 := Lib.hid (HB.out.trans (hk5.below hz1 HB.out.size))
            clear hk5 hs5 hm1
            go_wp2
            go_roundw
            case rel => exact ⟨k + 1, by go_num, hlt, HX5.out, HY5.out, HB5.out⟩
            case measure => simp [intOf]; omega
          · obtain rfl : k = n := by omega
            rw [List.take_of_length_le (Nat.le_of_eq HN.out)] at hx
            have hnl : ¬ (k : Int) < (k : Int) := by omega
            have HX := Lib.hid hx
            have HY := Lib.hid hy
            have HB := Lib.hid hb
            clear hx hy hb
            go_wp2_with fail
            go_loopw [8, 9] (fun v8 v9 wr2 => ∃ j : Nat, v8 = .int .i64 j ∧ j ≤ k + 600 ∧ HStd wr2 R1 b ∧ HStd wr2 R2 (b.take j) ∧ Below w.heap.size w wr2) (fun v8 _ _ => k + 600 - (intOf v8).toNat)
            case atStart => exact ⟨0, rfl, Nat.zero_le _, HX.out, by rw [List.take_zero]; exact HY.out, HB.out⟩
            case round =>
              obtain ⟨j, rfl, hj, hx, hy, hb⟩ := hrel
              rcases Nat.lt_or_ge j k with hlt | hge2
              · have hltI : (j : Int) < (k : Int) := by omega
                by_cases hto : k < j + st
                · have htoI : (k : Int) < (j : Int) + (st : Int) := by omega
                  obtain ⟨mp, mc, hm1, hm2⟩ := HV.out.mid j k (by omega) (by rw [HN.out]; omega)
                  try rw [HN.out] at hm1
                  try rw [HN.out] at hm2
                  have hml := mid_len b j k (by omega) (by rw [HN.out]; omega)
                  have hmt := take_mid b j k (by omega)
                  have hmo := own_ne (hm2 w HV.out) R2 (by omega)
                  have hma := (hm2 w HV.out).below hb
                  generalize (b.take k).drop j = mid at *
                  have HMO := Lib.hid hmo
                  have HMA := Lib.hid hma
                  have HML := Lib.hid hml
                  have HMT := Lib.hid hmt
                  have HX := Lib.hid hx
                  have HY := Lib.hid hy
                  have HB := Lib.hid hb
                  have hlj : (b.take j).length ≤ 600 := by rw [List.length_take]; have := HN.out; omega
                  clear hm2 hml hmt hmo hma hx hy hb
                  go_wp2_with fail
                  refine (Write_std wr R2 _ HY.out _ mid HMA.out HMO.out (by rw [HML.out]; omega) (HG.out.below HB.out) (by omega)).mono ?_
                  rintro e w5 ⟨rfl, hk5, hs5⟩
                  rw [HMT.out] at hs5
                  have HY5 := Lib.hid hs5
                  have HX5 := Lib.hid (HX.out.kp hk5 (by omega))
                  have HB5 := Lib.hid (HB.out.trans (hk5.below (by omega) HB.out.size))
                  clear hk5 hs5 hm1
                  go_wp2
                  go_roundw
                  case rel => exact ⟨j + st, by go_num, by omega, HX5.out, by rw [List.take_of_length_le (by have := HN.out; omega)]; have q := HY5.out; rw [List.take_of_length_le (Nat.le_of_eq HN.out)] at q; exact q, HB5.out⟩
                  case measure => simp [intOf]; omega
                · have htoI : ¬ (k : Int) < (j : Int) + (st : Int) := by omega
                  obtain ⟨mp, mc, hm1, hm2⟩ := HV.out.mid j (j + st) (by omega) (by rw [HN.out]; omega)
                  try rw [HN.out] at hm1
                  try rw [HN.out] at hm2
                  rw [show j + st - j = st by omega] at hm1 hm2
                  rw [show (((j + st : Nat)) : Int) = (j : Int) + (st : Int) by omega] at hm1
                  have hml := mid_len b j (j + st) (by omega) (by rw [HN.out]; omega)
                  have hmt := take_mid b j (j + st) (by omega)
                  have hmo := own_ne (hm2 w HV.out) R2 (by omega)
                  have hma := (hm2 w HV.out).below hb
                  generalize (b.take (j + st)).drop j = mid at *
                  have HMO := Lib.hid hmo
                  have HMA := Lib.hid hma
                  have HML := Lib.hid hml
                  have HMT := Lib.hid hmt
                  have HX := Lib.hid hx
                  have HY := Lib.hid hy
                  have HB := Lib.hid hb
                  have hlj : (b.take j).length ≤ 600 := by rw [List.length_take]; have := HN.out; omega
                  clear hm2 hml hmt hmo hma hx hy hb
                  go_wp2_with fail
                  refine (Write_std wr R2 _ HY.out _ mid HMA.out HMO.out (by rw [HML.out]; omega) (HG.out.below HB.out) (by omega)).mono ?_
                  rintro e w5 ⟨rfl, hk5, hs5⟩
                  rw [HMT.out] at hs5
                  have HY5 := Lib.hid hs5
                  have HX5 := Lib.hid (HX.out.kp hk5 (by omega))
                  have HB5 := Lib.hid (HB.out.trans (hk5.below (by omega) HB.out.size))
                  clear hk5 hs5 hm1
                  go_wp2
                  go_roundw
                  case rel => exact ⟨j + st, by go_num, by omega, HX5.out, HY5.out, HB5.out⟩
                  case measure => simp [intOf]; omega
              · have hnl2 : ¬ (j : Int) < (k : Int) := by omega
                rw [List.take_of_length_le (by have := HN.out; omega)] at hy
                have HX := Lib.hid hx
                have HY := Lib.hid hy
                have HB := Lib.hid hb
                have hdl := shaOf_len b
                obtain ⟨D, hD⟩ : ∃ D, shaOf b = D := ⟨_, rfl⟩
                rw [hD] at hdl
                have HD := Lib.hid hD
                have HDL := Lib.hid hdl
                clear hx hy hb hdl hD
                go_wp2_with fail
                refine (Len_std wr R1 b HX.out).mono ?_
                rw [HN.out]
                rintro e w4 ⟨rfl, rfl⟩
                go_wp2_with fail
                refine (Sum_std w4 R1 b HX.out (by have := HN.out; omega) (HG.out.below HB.out) (by omega)).mono ?_
                rw [HD.out]
                rintro e w5 ⟨rfl, hd5, hk5⟩
                have HX5 := Lib.hid hd5
                have HY5 := Lib.hid (HY.out.kp hk5 (by omega))
                have HB5 := Lib.hid (HB.out.trans (hk5.below hz1 HB.out.size))
                clear hd5 hk5
                go_wp2_with fail
                refine (Sum_std w5 R2 b HY5.out (by have := HN.out; omega) (HG.out.below HB5.out) (by omega)).mono ?_
                rw [HD.out]
                rintro e w6 ⟨rfl, hd6, hk6⟩
                have HY6 := Lib.hid hd6
                have HX6 := Lib.hid (HX5.out.kp hk6 (by omega))
                have HB6 := Lib.hid (HB5.out.trans (hk6.below (by omega) HB5.out.size))
                clear hd6 hk6
                go_wp2_with (first | (refine wpList_run (by kernel_rfl) (exec_eq32 (.tmp 67) (.tmp 69) 28 rfl D D rfl rfl HDL.out HDL.out true (decide_eq_true rfl) _) ?_))
                refine (Sum_again w6 R1 b HX6.out).mono ?_
                rw [HD.out]
                rintro e w7 ⟨rfl, hd7, hk7⟩
                have HX7 := Lib.hid hd7
                have HY7 := Lib.hid (HY6.out.kp hk7 (by omega))
                have HB7 := Lib.hid (HB6.out.trans (hk7.below hz1 HB6.out.size))
                clear hd7 hk7
                go_wp2_with fail
                refine (Sum_any w7 _ b (HV.out.below HB7.out) (by have := HN.out; omega) (HG.out.below HB7.out)).mono ?_
                rw [HD.out]
                rintro e w8 ⟨rfl, hb8⟩
                have HX8 := Lib.hid (HX7.out.below hb8)
                have HY8 := Lib.hid (HY7.out.below hb8)
                have HB8 := Lib.hid (HB7.out.trans (hb8.mono HB7.out.size))
                clear hb8
                go_wp2_with (first | (refine wpList_run (by kernel_rfl) (exec_eq32 (.tmp 74) (.tmp 76) 28 rfl D D rfl rfl HDL.out HDL.out true (decide_eq_true rfl) _) ?_))
                refine (Sum_again w8 R1 b HX8.out).mono ?_
                rw [HD.out]
                rintro e w9 ⟨rfl, hd9, hk9⟩
                have HY9 := Lib.hid (HY8.out.kp hk9 (by omega))
                have HB9 := Lib.hid (HB8.out.trans (hk9.below hz1 HB8.out.size))
                clear hd9 hk9
                go_wp2_with fail
                refine (Hex_any w9 D HDL.out).mono ?_
                rintro e w10 ⟨rfl, hb10⟩
                have HY10 := Lib.hid (HY9.out.below hb10)
                have HB10 := Lib.hid (HB9.out.trans (hb10.mono HB9.out.size))
                clear hb10
                go_wp2_with fail
                refine (Sum_again w10 R2 b HY10.out).mono ?_
                rw [HD.out]
                rintro e w11 ⟨rfl, hd11, hk11⟩
                have HB11 := Lib.hid (HB10.out.trans (hk11.below (by omega) HB10.out.size))
                clear hd11 hk11
                go_wp2_with fail
                refine (Hex_any w11 D HDL.out).mono ?_
                rintro e w12 ⟨rfl, hb12⟩
                have HB12 := Lib.hid (HB11.out.trans (hb12.mono HB11.out.size))
                clear hb12
                go_wp2
                go_ret
                exact ⟨by simp, HB12.out⟩
end Go.Proofs.YtjopfhmloklhdabDoor
