/-
  Package slices, of numbers: patterns broken: three numbers exchanged with others of the range.
-/
import Derived.Test.YtfdafoibclfpgaaSortB
namespace Go.Proofs.Ytfdafoibclfpgaa
open Go.ChangeShapes Go.WideShapes Go.ChangeAt Go.RowKit Go.Deep
set_option linter.unusedVariables false
set_option linter.unusedSimpArgs false
theorem and_nat (a b : Nat) (ha : a < 18446744073709551616) (hb : b < 18446744073709551616) : ∃ y : Nat, y ≤ b ∧ bits .and .u64 (a : Int) (b : Int) = (y : Int) :=
  ⟨a &&& b, Nat.and_le_right, u64_and_nat a b ha hb⟩
theorem rnd_new (w : World) (l : Nat) : (w.alloc (.cells #[.int .u64 (l : Int)] 77)).cell? ⟨w.heap.size, 0, none⟩ = some (.int .u64 (l : Int)) ∧ (w.alloc (.cells #[.int .u64 (l : Int)] 77)).frozen? ⟨w.heap.size, 0, none⟩ = false ∧ w.heap.size < (w.alloc (.cells #[.int .u64 (l : Int)] 77)).heap.size := by
  have e := heap_alloc_new w (.cells #[.int .u64 (l : Int)] 77)
  refine ⟨?_, ?_, ?_⟩
  · unfold World.cell?
    rw [e]
    rfl
  · unfold World.frozen?
    rw [e]
    rfl
  · unfold World.alloc
    rw [Array.size_push]
    exact Nat.lt_succ_self _
def Perms (g n a b : Nat) (d : Array Nat) (w : World) (e : Ending) (w' : World) : Prop := e = .returned (.tuple #[]) ∧ ∃ D, Arr w' g D ∧ Sort.PermIn a b d D ∧ D.size = n ∧ Kq g w w'
set_option maxRecDepth 100000 in
set_option maxHeartbeats 32000000 in
theorem Break_any (g n cap a b : Nat) (d : Array Nat) (w : World) (hA : Arr w g d) (hn : d.size = n) (hnc : n ≤ cap) (hcap : (cap : Int) ≤ 9223372036854775807) (hn16 : n < 65536) (hb : b ≤ n) (hab : a + 12 < b) :
    Calls Try.prog 36 #[.slice (some ⟨g, 0, none⟩) n cap, .int .i64 (a : Int), .int .i64 (b : Int)] w fun e w' => Perms g n a b d w e w' := by
  have HA := Lib.hid hA
  have HN := Lib.hid hn
  obtain ⟨l, hl⟩ : ∃ l, b - a = l := ⟨_, rfl⟩
  obtain ⟨q2, hq⟩ : ∃ x, l / 4 * 2 = x := ⟨_, rfl⟩
  have haI : (a : Int) ≤ 65536 := by omega
  have hbI : (b : Int) ≤ 65536 := by omega
  have hl8 : (8 : Int) ≤ (l : Int) := by omega
  have hln : l < 65536 := by omega
  have hlI : (l : Int) ≤ 65536 := by omega
  have hqI : (l : Int) / 4 * 2 = (q2 : Int) := by omega
  have hq2 : 6 ≤ q2 := by omega
  have hqb : a + q2 + 2 < b := by omega
  have HL := Lib.hid hl
  have HQ := Lib.hid hqI
  clear hA hn hl hq hqI
  go_enter Try.func36, Try.ntmps36
  go_upto_region 0 with fail
  go_cut [6] (fun v wz => v = .int .i64 (l : Int) ∧ w = wz)
  case first =>
    go_wp2
    go_meet
    exact ⟨int_eq (by have := HL.out; omega), rfl⟩
  case rest =>
    obtain ⟨rfl, rfl⟩ := hcut
    go_upto_region 3 with fail
    have hb1 := (Below.refl w.heap.size w).alloc (Nat.le_refl _) (.cells #[.int .u64 (l : Int)] 77)
    obtain ⟨hc1, hz1, hs1⟩ := rnd_new w l
    have hA1 := HA.out.below hb1
    have hgs : g ≠ w.heap.size := by have := HA.out.lt; omega
    generalize (w.alloc (.cells #[.int .u64 (l : Int)] 77)) = w1 at *
    obtain ⟨s, hs⟩ : ∃ s, w.heap.size = s := ⟨_, rfl⟩
    rw [hs] at hb1 hc1 hgs hz1 hs1 ⊢
    have HK1 := Lib.hid (Kq.of_below (R := g) (by rw [hs]; exact hb1))
    have HC1 := Lib.hid hc1
    have HZ1 := Lib.hid hz1
    have HA1 := Lib.hid hA1
    have HSS := Lib.hid hs
    clear hb1 hc1 hz1 hA1 hs
    go_wp2_with fail
    refine (NextPow_any l w1 (by omega) (by omega)).mono ?_
    rintro e w2 ⟨⟨m, rfl, hm1, hm2⟩, rfl⟩
    obtain ⟨m1, rfl⟩ : ∃ k, m = k + 1 := ⟨m - 1, by omega⟩
    have hmI : ((m1 + 1 : Nat) : Int) - 1 = (m1 : Int) := by omega
    have hmB : (m1 : Int) ≤ 131072 := by omega
    have hmB0 : (0 : Int) ≤ ((m1 + 1 : Nat) : Int) ∧ ((m1 + 1 : Nat) : Int) ≤ 131073 := by omega
    obtain ⟨M, hM⟩ : ∃ M : Int, ((m1 + 1 : Nat) : Int) = M := ⟨_, rfl⟩
    rw [hM] at hmI hmB0 ⊢
    clear hM
    go_upto_region 4 with fail
    go_cut [9] (fun v wz => v = .int .i64 ((a + q2 - 1 : Nat) : Int) ∧ w2 = wz)
    case first =>
      have hqI := HQ.out
      go_wp2
      go_meet
      exact ⟨int_eq (by omega), rfl⟩
    case rest =>
      obtain ⟨rfl, rfl⟩ := hcut
      go_wp2_with fail
      go_loopw [9] (fun v wr => ∃ (ix ry : Nat) (dk : Array Nat), v = .int .i64 (ix : Int) ∧ a ≤ ix ∧ ix ≤ a + q2 + 2 ∧ dk.size = n ∧ ry < 18446744073709551616 ∧ s < wr.heap.size ∧ Hid (Arr wr g dk ∧ Sort.PermIn a b d dk ∧ Kq g w wr ∧ wr.cell? ⟨s, 0, none⟩ = some (.int .u64 (ry : Int)) ∧ wr.frozen? ⟨s, 0, none⟩ = false)) (fun v _ => a + q2 + 3 - (intOf v).toNat)
      case atStart => exact ⟨a + q2 - 1, l, d, rfl, by omega, by omega, HN.out, by omega, hs1, Lib.hid ⟨HA1.out, Sort.permIn_refl d a b, HK1.out, HC1.out, HZ1.out⟩⟩
      case round =>
        obtain ⟨ix, ry, dk, rfl, hax, hxq, hsk, hy, hswr, HR⟩ := hrel
        obtain ⟨W0, rfl⟩ : ∃ W0, W0 = wr := ⟨wr, rfl⟩
        have HS := Lib.hid hsk
        clear hsk hs1
        go_upto_region 5 with fail
        rcases Nat.lt_or_ge (a + q2 + 1) ix with hend | hgo
        · go_cut [33] (fun v wz => v = .bool false ∧ W0 = wz)
          case first =>
            have hqI := HQ.out
            go_wp2
            go_meet
            exact ⟨congrArg Value.bool (decide_eq_false (by omega)), rfl⟩
          case rest =>
            obtain ⟨rfl, rfl⟩ := hcut
            go_wp2
            first | go_end0 | (refine bodyPost_end (results_none rfl _ _ _) rfl ?_) | (refine bodyPost_ret (results_none rfl _ _ _) rfl ?_)
            exact ⟨rfl, dk, HR.out.1, HR.out.2.1, HS.out, HR.out.2.2.1⟩
        · go_cut [33] (fun v wz => v = .bool true ∧ W0 = wz)
          case first =>
            have hqI := HQ.out
            go_wp2
            go_meet
            exact ⟨congrArg Value.bool (decide_eq_true (by omega)), rfl⟩
          case rest =>
            obtain ⟨rfl, rfl⟩ := hcut
            go_wp2_with fail
            refine (Next_any s ry W0 hy HR.out.2.2.2.1 HR.out.2.2.2.2).mono ?_
            rintro e W1 ⟨y1, rfl, hy1, hc1, hz1, hk1⟩
            have hA1 := HR.out.1.kp hk1 hgs
            have hP := HR.out.2.1
            have hK1 := HR.out.2.2.1.over hk1 (by rw [HSS.out]; exact Nat.le_refl _)
            have hs1 : s < W1.heap.size := Nat.lt_of_lt_of_le hswr hk1.size
            obtain ⟨r, hr, er⟩ := and_nat y1 m1 hy1 (by omega)
            have hrI : (r : Int) ≤ 131072 := by omega
            obtain ⟨z, hz⟩ : ∃ z, (if l ≤ r then r - l else r) = z := ⟨_, rfl⟩
            have hzl : z < l := by rw [← hz]; split <;> omega
            have HZ := Lib.hid hz
            have H1 := Lib.hid hA1
            have HP := Lib.hid hP
            have HK1 := Lib.hid hK1
            have HC1 := Lib.hid hc1
            have HZ1 := Lib.hid hz1
            clear hA1 hP hK1 hk1 hc1 hz1 hz hr HR
            go_upto_region 8 with fail

            rcases Nat.lt_or_ge r l with hrl | hrl
            · have hI : ¬ (l : Int) ≤ (r : Int) := by omega
              have hzr : z = r := by rw [← HZ.out, if_neg (by omega)]
              subst hzr
              obtain ⟨t, ht⟩ : ∃ t, a + z = t := ⟨_, rfl⟩
              have htI : (a : Int) + (z : Int) = (t : Int) := by omega
              have htb : a ≤ t ∧ t < b := by have := HL.out; omega
              have HTB := Lib.hid htb
              have htn : t < n := by omega
              have hxn : ix < n := by omega
              have hnI : (n : Int) ≤ 65536 := by omega
              have htI2 : (t : Int) ≤ 65536 := by omega
              clear ht htb
              have ha : ix < (dk).size := by rw [HS.out]; exact hxn
              have hb : t < (dk).size := by rw [HS.out]; exact htn
              have ci := H1.out.cell ix ha
              have cj := H1.out.cell t hb
              have HSW := Lib.hid (fun (x y : Nat) (hx : (dk)[ix]! = x) (hy : (dk)[t]! = y) => H1.out.swp (i := ix) (j := t) (x := x) (y := y) ha hb hx hy)
              have HSC := Lib.hid (fun (y : Nat) (hy : (dk)[t]! = y) => H1.out.second (i := ix) (j := t) ha hb hy)
              obtain ⟨x, hx⟩ : ∃ x, (dk)[ix]! = x := ⟨_, rfl⟩
              obtain ⟨y, hy⟩ : ∃ y, (dk)[t]! = y := ⟨_, rfl⟩
              rw [hx] at ci
              rw [hy] at cj
              have HX := Lib.hid hx
              have HY := Lib.hid hy
              have zi := H1.out.nf ix
              have zj := H1.out.nf t
              have hiN : (ix : Int) < (n : Int) := by omega
              have hjN : (t : Int) < (n : Int) := by omega
              have hi0 : (0 : Int) ≤ (ix : Int) := by omega
              have hj0 : (0 : Int) ≤ (t : Int) := by omega
              clear hx hy ha hb
              go_upto_region 10 with fail
              have hs := HSC.out y HY.out
              go_region
              clear ci cj zi zj hs
              have H2 := Lib.hid ((HSW.out x y HX.out HY.out).drew)
              have HK2 := Lib.hid ((HK1.out.trans (swp_kp g ix t W1 (.int .u64 (y : Int)) (.int .u64 (x : Int)))).trans (Kq.drew g _))
              clear HSW HSC HX HY
              have hkw := (swp_kp g ix t W1 (.int .u64 (y : Int)) (.int .u64 (x : Int))).trans (Kq.drew g _)
              obtain ⟨W2, hW2⟩ : ∃ W2, ((W1.setCell ⟨g, ix, none⟩ (.int .u64 (y : Int))).setCell ⟨g, t, none⟩ (.int .u64 (x : Int))).drew = W2 := ⟨_, rfl⟩
              rw [hW2] at H2 HK2 hkw ⊢
              have hbk := hkw.block s hs1 (fun h => hgs h.symm)
              have HB := Lib.hid hbk
              have hs2 : s < W2.heap.size := Nat.lt_of_lt_of_le hs1 hkw.size
              clear hW2 hkw hbk
              have hixI : (ix : Int) ≤ 65536 := by omega
              go_wp2
              go_roundw
              case rel =>
                refine ⟨ix + 1, y1, _, by go_num, by omega, by omega, by rw [Sort.swp_size]; exact HS.out, hy1, hs2, Lib.hid ⟨H2.out, Sort.permIn_trans d dk _ a b HP.out (Sort.swp_permIn dk a b ix t hax (by omega) HTB.out.1 HTB.out.2 (by rw [HS.out]; exact hb)), HK2.out, ?_, ?_⟩⟩
                · exact (World.cell?_of_block (a := ⟨s, 0, none⟩) HB.out).trans HC1.out
                · have h := HZ1.out
                  have hbk := HB.out
                  simp only [World.frozen?, hbk] at h ⊢
                  exact h
              case measure => simp [intOf] <;> omega

            · have hI : (l : Int) ≤ (r : Int) := by omega
              have hzr : z = r - l := by rw [← HZ.out, if_pos hrl]
              have hzrI : (r : Int) - (l : Int) = (z : Int) := by omega
              clear hzr
              obtain ⟨t, ht⟩ : ∃ t, a + z = t := ⟨_, rfl⟩
              have htI : (a : Int) + (z : Int) = (t : Int) := by omega
              have htb : a ≤ t ∧ t < b := by have := HL.out; omega
              have HTB := Lib.hid htb
              have htn : t < n := by omega
              have hxn : ix < n := by omega
              have hnI : (n : Int) ≤ 65536 := by omega
              have htI2 : (t : Int) ≤ 65536 := by omega
              clear ht htb
              have ha : ix < (dk).size := by rw [HS.out]; exact hxn
              have hb : t < (dk).size := by rw [HS.out]; exact htn
              have ci := H1.out.cell ix ha
              have cj := H1.out.cell t hb
              have HSW := Lib.hid (fun (x y : Nat) (hx : (dk)[ix]! = x) (hy : (dk)[t]! = y) => H1.out.swp (i := ix) (j := t) (x := x) (y := y) ha hb hx hy)
              have HSC := Lib.hid (fun (y : Nat) (hy : (dk)[t]! = y) => H1.out.second (i := ix) (j := t) ha hb hy)
              obtain ⟨x, hx⟩ : ∃ x, (dk)[ix]! = x := ⟨_, rfl⟩
              obtain ⟨y, hy⟩ : ∃ y, (dk)[t]! = y := ⟨_, rfl⟩
              rw [hx] at ci
              rw [hy] at cj
              have HX := Lib.hid hx
              have HY := Lib.hid hy
              have zi := H1.out.nf ix
              have zj := H1.out.nf t
              have hiN : (ix : Int) < (n : Int) := by omega
              have hjN : (t : Int) < (n : Int) := by omega
              have hi0 : (0 : Int) ≤ (ix : Int) := by omega
              have hj0 : (0 : Int) ≤ (t : Int) := by omega
              clear hx hy ha hb
              go_upto_region 10 with fail
              have hs := HSC.out y HY.out
              go_region
              clear ci cj zi zj hs
              have H2 := Lib.hid ((HSW.out x y HX.out HY.out).drew)
              have HK2 := Lib.hid ((HK1.out.trans (swp_kp g ix t W1 (.int .u64 (y : Int)) (.int .u64 (x : Int)))).trans (Kq.drew g _))
              clear HSW HSC HX HY
              have hkw := (swp_kp g ix t W1 (.int .u64 (y : Int)) (.int .u64 (x : Int))).trans (Kq.drew g _)
              obtain ⟨W2, hW2⟩ : ∃ W2, ((W1.setCell ⟨g, ix, none⟩ (.int .u64 (y : Int))).setCell ⟨g, t, none⟩ (.int .u64 (x : Int))).drew = W2 := ⟨_, rfl⟩
              rw [hW2] at H2 HK2 hkw ⊢
              have hbk := hkw.block s hs1 (fun h => hgs h.symm)
              have HB := Lib.hid hbk
              have hs2 : s < W2.heap.size := Nat.lt_of_lt_of_le hs1 hkw.size
              clear hW2 hkw hbk
              have hixI : (ix : Int) ≤ 65536 := by omega
              go_wp2
              go_roundw
              case rel =>
                refine ⟨ix + 1, y1, _, by go_num, by omega, by omega, by rw [Sort.swp_size]; exact HS.out, hy1, hs2, Lib.hid ⟨H2.out, Sort.permIn_trans d dk _ a b HP.out (Sort.swp_permIn dk a b ix t hax (by omega) HTB.out.1 HTB.out.2 (by rw [HS.out]; exact hb)), HK2.out, ?_, ?_⟩⟩
                · exact (World.cell?_of_block (a := ⟨s, 0, none⟩) HB.out).trans HC1.out
                · have h := HZ1.out
                  have hbk := HB.out
                  simp only [World.frozen?, hbk] at h ⊢
                  exact h
              case measure => simp [intOf] <;> omega
end Go.Proofs.Ytfdafoibclfpgaa
