/-
  Package slices, of numbers: the heap sort as a whole; a range turned round.
-/
import Derived.Test.YtfdafoibclfpgaaSortH
namespace Go.Proofs.Ytfdafoibclfpgaa
open Go.ChangeShapes Go.WideShapes Go.ChangeAt Go.RowKit Go.Deep
set_option linter.unusedVariables false
set_option linter.unusedSimpArgs false
set_option maxRecDepth 100000 in
set_option maxHeartbeats 32000000 in
theorem Heap_any (g n cap a b : Nat) (d : Array Nat) (w : World) (hA : Arr w g d) (hn : d.size = n) (hnc : n ≤ cap) (hcap : (cap : Int) ≤ 9223372036854775807) (hn40 : (n : Int) ≤ 1099511627776) (hb : b ≤ n) (hab : a < b) :
    Calls Try.prog 35 #[.slice (some ⟨g, 0, none⟩) n cap, .int .i64 (a : Int), .int .i64 (b : Int)] w fun e w' => Sorts g n w (Sort.heapSort ltB d a b) e w' := by
  have HA := Lib.hid hA
  have HN := Lib.hid hn
  obtain ⟨h, hh⟩ : ∃ h, b - a = h := ⟨_, rfl⟩
  obtain ⟨k0, hk0⟩ : ∃ k, (h - 1) / 2 = k := ⟨_, rfl⟩
  have haI : (a : Int) ≤ 1099511627776 := by omega
  have hbI : (b : Int) ≤ 1099511627776 := by omega
  have habI : (a : Int) ≤ (b : Int) := by omega
  have hh1 : (1 : Int) ≤ (h : Int) := by omega
  have hh2 : (h : Int) ≤ 1099511627776 := by omega
  have hk02 : k0 < h := by omega
  have hah : a + h ≤ n := by omega
  have HH := Lib.hid hh
  have HK0 := Lib.hid hk0
  have hdef : Sort.heapSort ltB d a b = Sort.heapPop ltB a h (Sort.heapBuild ltB h a (k0 + 1) d) := by
    unfold Sort.heapSort
    rw [hh, hk0]
  have HDF := Lib.hid hdef
  clear hA hn hh hk0 hdef
  go_enter Try.func35, Try.ntmps35
  go_upto_region 2 with fail
  go_cut [8] (fun v wz => v = .int .i64 (h : Int) ∧ w = wz)
  case first =>
    go_wp2
    go_meet
    exact ⟨int_eq (by have := HH.out; omega), rfl⟩
  case rest =>
    obtain ⟨rfl, rfl⟩ := hcut
    go_upto_region 3 with fail
    go_cut [9] (fun v wz => v = .int .i64 (k0 : Int) ∧ w = wz)
    case first =>
      go_wp2
      go_meet
      exact ⟨int_eq (by have := HK0.out; omega), rfl⟩
    case rest =>
      obtain ⟨rfl, rfl⟩ := hcut
      go_wp2_with fail
      go_loopw [9] (fun v9 wr => ∃ (k : Nat) (dk : Array Nat), (k = 0 ∧ v9 = .int .i64 (-1) ∨ ∃ m, k = m + 1 ∧ v9 = .int .i64 (m : Int)) ∧ k ≤ k0 + 1 ∧ dk.size = n ∧ Arr wr g dk ∧ Kq g w wr ∧ Hid (Sort.heapBuild ltB h a k dk = Sort.heapBuild ltB h a (k0 + 1) d)) (fun v9 _ => (intOf v9 + 1).toNat)
      case atStart => exact ⟨k0 + 1, d, .inr ⟨k0, rfl, rfl⟩, Nat.le_refl _, HN.out, HA.out, Kq.refl _ _, Lib.hid rfl⟩
      case round =>
        obtain ⟨k, dk, hv, hkk, hs, h0, hk0, HO⟩ := hrel
        obtain ⟨W0, rfl⟩ : ∃ W0, W0 = wr := ⟨wr, rfl⟩
        have H0 := Lib.hid h0
        have HKP := Lib.hid hk0
        have HS := Lib.hid hs
        clear h0 hk0 hs
        rcases hv with ⟨rfl, rfl⟩ | ⟨m, rfl, rfl⟩
        · have hfin := HO.out
          have hfin2 : Sort.heapBuild ltB h a (k0 + 1) d = dk := hfin.symm
          rw [hfin2] at HDF
          clear hfin hfin2 HO
          go_upto_region 7 with fail
          go_cut [10] (fun v wz => (∃ m, h = m + 1 ∧ v = .int .i64 (m : Int)) ∧ W0 = wz)
          case first =>
            go_wp2
            go_meet
            exact ⟨⟨h - 1, by omega, int_eq (by omega)⟩, rfl⟩
          case rest =>
            obtain ⟨⟨m0, hm0, rfl⟩, rfl⟩ := hcut
            have HM0 := Lib.hid hm0
            clear hm0
            go_wp2_with fail
            go_loopw [10] (fun v10 wr => ∃ (k : Nat) (dj : Array Nat), (k = 0 ∧ v10 = .int .i64 (-1) ∨ ∃ m, k = m + 1 ∧ v10 = .int .i64 (m : Int)) ∧ k ≤ h ∧ dj.size = n ∧ Arr wr g dj ∧ Kq g w wr ∧ Hid (Sort.heapPop ltB a k dj = Sort.heapPop ltB a h dk)) (fun v10 _ => (intOf v10 + 1).toNat)
            case atStart => exact ⟨h, dk, .inr ⟨m0, HM0.out, rfl⟩, Nat.le_refl _, HS.out, H0.out, HKP.out, Lib.hid rfl⟩
            case round =>
              obtain ⟨k, dj, hv, hkk, hs, h1, hk1, HP⟩ := hrel
              obtain ⟨W1, rfl⟩ : ∃ W1, W1 = wr := ⟨wr, rfl⟩
              have H1 := Lib.hid h1
              have HK1 := Lib.hid hk1
              have HS1 := Lib.hid hs
              clear h1 hk1 hs
              rcases hv with ⟨rfl, rfl⟩ | ⟨m, rfl, rfl⟩
              · have hfin : dj = Sort.heapSort ltB d a b := by rw [HDF.out, ← HP.out]; rfl
                have HF := Lib.hid hfin
                clear hfin
                go_wp2
                first | go_end0 | (refine bodyPost_end (results_none rfl _ _ _) rfl ?_) | (refine bodyPost_ret (results_none rfl _ _ _) rfl ?_)
                exact ⟨rfl, by rw [← HF.out]; exact H1.out, HK1.out, by rw [← HF.out]; exact HS1.out⟩
              · obtain ⟨am, ham⟩ : ∃ x, a + m = x := ⟨_, rfl⟩
                have ha1 : a < dj.size := by rw [HS1.out]; omega
                have ham1 : am < dj.size := by rw [HS1.out]; omega
                have cy := H1.out.cell a ha1
                have cx := H1.out.cell am ham1
                have HSW := Lib.hid (fun (W : World) (hW : Arr W g dj) (x y : Nat) (hx : dj[a]! = x) (hy : dj[am]! = y) => hW.swp (i := a) (j := am) (x := x) (y := y) ha1 ham1 hx hy)
                have HSC := Lib.hid (fun (W : World) (hW : Arr W g dj) (y : Nat) (hy : dj[am]! = y) => hW.second (i := a) (j := am) ha1 ham1 hy)
                obtain ⟨y, hy⟩ : ∃ y, dj[a]! = y := ⟨_, rfl⟩
                obtain ⟨x, hx⟩ : ∃ x, dj[am]! = x := ⟨_, rfl⟩
                rw [hy] at cy
                rw [hx] at cx
                have HX := Lib.hid hx
                have HY := Lib.hid hy
                have hz1 := H1.out.nf a
                have hz2 := H1.out.nf am
                have haN : (a : Int) < (n : Int) := by omega
                have hamN : (am : Int) < (n : Int) := by omega
                have ha0 : (0 : Int) ≤ (a : Int) := by omega
                have ham0 : (0 : Int) ≤ (am : Int) := by omega
                have hm00 : (0 : Int) ≤ (m : Int) := by omega
                have hmI : (m : Int) ≤ 1099511627776 := by omega
                have ham2 : a + m ≤ n := by omega
                have hw1 := wrap_sum ham (by omega)
                have HP2 := Lib.hid (show Sort.heapPop ltB a m (Sort.siftDown ltB m a 0 (Sort.swp dj a am)) = Sort.heapPop ltB a h dk by rw [← HP.out, ← ham]; rfl)
                clear hx hy ha1 ham1 ham HP
                go_upto_region 10 with fail
                have hs2 := HSC.out _ H1.out x HX.out
                go_region
                clear hw1 cy cx hz1 hz2 hs2
                have h2 := (HSW.out _ H1.out y x HY.out HX.out).drew
                have hk2 := (HK1.out.trans (swp_kp g a am W1 (.int .u64 (x : Int)) (.int .u64 (y : Int)))).trans (Kq.drewN g _ 1)
                have H2 := Lib.hid h2
                have HK2 := Lib.hid hk2
                clear h2 hk2
                go_wp2_with fail
                refine (Sift_any g n cap 0 m a _ _ H2.out (by rw [Sort.swp_size]; exact HS1.out) hnc hcap hn40 ham2 (by decide)).mono ?_
                rintro e w3 ⟨rfl, h3, hk3, hs3⟩
                have H3 := Lib.hid h3
                have HK3 := Lib.hid (HK2.out.trans hk3)
                have HS3 := Lib.hid hs3
                clear h3 hk3 hs3
                go_wp2
                go_roundw
                case rel => exact ⟨m, _, (Nat.eq_zero_or_pos m).elim (fun e => .inl ⟨e, by subst e; rfl⟩) (fun e => .inr ⟨m - 1, by omega, int_eq (by omega)⟩), by omega, HS3.out, H3.out, HK3.out, HP2⟩
                case measure => simp [intOf] <;> omega
        · have hm00 : (0 : Int) ≤ (m : Int) := by omega
          have hmI : (m : Int) ≤ 1099511627776 := by omega
          go_wp2_with fail
          refine (Sift_any g n cap m h a dk W0 H0.out HS.out hnc hcap hn40 hah hmI).mono ?_
          rintro e w3 ⟨rfl, h3, hk3, hs3⟩
          have H3 := Lib.hid h3
          have HK3 := Lib.hid (HKP.out.trans hk3)
          have HS3 := Lib.hid hs3
          clear h3 hk3 hs3
          go_wp2
          go_roundw
          case rel => exact ⟨m, _, (Nat.eq_zero_or_pos m).elim (fun e => .inl ⟨e, by subst e; rfl⟩) (fun e => .inr ⟨m - 1, by omega, int_eq (by omega)⟩), by omega, HS3.out, H3.out, HK3.out, Lib.hid (by rw [← HO.out]; rfl)⟩
          case measure => simp [intOf] <;> omega
end Go.Proofs.Ytfdafoibclfpgaa
