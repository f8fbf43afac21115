/-
  Package slices, of numbers: the choice of a pivot: some place of the range.
-/
import Derived.Test.YtfdafoibclfpgaaSortR
namespace Go.Proofs.Ytfdafoibclfpgaa
open Go.ChangeShapes Go.WideShapes Go.ChangeAt Go.RowKit Go.Deep
set_option linter.unusedVariables false
set_option linter.unusedSimpArgs false
theorem Arr.kp {w w' : World} {g s : Nat} {d : Array Nat} (h : Arr w g d) (hk : Kq s w w') (hne : g ≠ s) : Arr w' g d := by
  have hb := hk.block g h.lt hne
  exact ⟨fun i hi => (World.cell?_of_block (a := ⟨g, i, none⟩) hb).trans (h.cell i hi), fun j => by have := h.nf j; simp only [World.frozen?, hb] at this ⊢; exact this, Nat.lt_of_lt_of_le h.lt hk.size⟩
/-- A count in a block of its own. -/
def Cnt (w : World) (s c : Nat) : Prop := w.heap[s]? = some (.cells #[.int .i64 (c : Int)] 3 (0, 0))
theorem Cnt.cell {w : World} {s c : Nat} (h : Cnt w s c) : w.cell? ⟨s, 0, none⟩ = some (.int .i64 (c : Int)) ∧ w.frozen? ⟨s, 0, none⟩ = false := by
  unfold Cnt at h
  exact ⟨by simp [World.cell?, h], by simp [World.frozen?, h]⟩
theorem Cnt.set {w : World} {s c : Nat} (h : Cnt w s c) (c' : Nat) : Cnt (w.setCell ⟨s, 0, none⟩ (.int .i64 (c' : Int))) s c' := by
  unfold Cnt at h ⊢
  rw [heap_setCell_same _ _ _ _ _ _ h]
  rfl
set_option maxRecDepth 100000 in
set_option maxHeartbeats 32000000 in
theorem Order2_any (g n cap a b s c : Nat) (d : Array Nat) (w : World) (hA : Arr w g d) (hn : d.size = n) (hnc : n ≤ cap) (hcap : (cap : Int) ≤ 9223372036854775807) (hn40 : (n : Int) ≤ 1099511627776) (ha : a < n) (hb : b < n) (hc : Cnt w s c) (hcc : c ≤ 100) :
    Calls Try.prog 52 #[.slice (some ⟨g, 0, none⟩) n cap, .int .i64 (a : Int), .int .i64 (b : Int), .pointer (some ⟨s, 0, none⟩)] w fun e w' => ∃ x y c', e = .returned (.tuple #[.int .i64 ((x : Nat) : Int), .int .i64 ((y : Nat) : Int)]) ∧ (x = a ∧ y = b ∨ x = b ∧ y = a) ∧ c' ≤ c + 1 ∧ Cnt w' s c' ∧ Kq s w w' := by
  have HA := Lib.hid hA
  have HS := Lib.hid hn
  have HC := Lib.hid hc
  obtain ⟨e0, z0⟩ := hc.cell
  have hcI : (c : Int) ≤ 100 := by omega
  clear hA hn hc
  go_enter Try.func52, Try.ntmps52
  have haA : b < (d).size := by rw [HS.out]; omega
  have hbA : a < (d).size := by rw [HS.out]; omega
  have ciA := HA.out.cell b haA
  have cjA := HA.out.cell a hbA
  obtain ⟨xA, hxA⟩ : ∃ x, (d)[b]! = x := ⟨_, rfl⟩
  obtain ⟨yA, hyA⟩ : ∃ y, (d)[a]! = y := ⟨_, rfl⟩
  rw [hxA] at ciA
  rw [hyA] at cjA
  obtain ⟨q, hqA⟩ : ∃ q, ltB xA yA = q := ⟨_, rfl⟩
  have HQA := Lib.hid hqA
  have HLA : Hid (ltB (d)[b]! (d)[a]! = q) := by rw [hxA, hyA]; exact HQA
  have hiNA : (b : Int) < (n : Int) := by omega
  have hjNA : (a : Int) < (n : Int) := by omega
  have hi0A : (0 : Int) ≤ (b : Int) := by omega
  have hj0A : (0 : Int) ≤ (a : Int) := by omega
  clear hxA hyA haA hbA hqA
  go_upto_region 1 with fail
  go_cut [18] (fun v wz => v = .bool q ∧ ∃ kq, wz = w.drewN kq)
  case first =>
    go_quiet ((go_at_call 40; exact Calls.quiet_of_same (less_q HQA.out _)))
    go_wp2
    go_meet
    exact ⟨rfl, _, rfl⟩
  case rest =>
    obtain ⟨rfl, kq, rfl⟩ := hcut
    cases q with
    | true =>
      have hst := Cnt.set (w := w.drewN kq) HC.out (c + 1)
      have HST := Lib.hid hst
      have hcI2 : ((c + 1 : Nat) : Int) = (c : Int) + 1 := by omega
      have HCI := Lib.hid hcI2
      clear hst ciA cjA hcI2
      go_wp2
      go_ret2
      exact ⟨b, a, c + 1, rfl, .inr ⟨rfl, rfl⟩, Nat.le_refl _, by have := HST.out; rw [HCI.out] at this; exact this, (Kq.drewN s w kq).trans (Kq.setCell s 0 _ _)⟩
    | false =>
      clear ciA cjA
      go_wp2
      go_ret2
      exact ⟨a, b, c, rfl, .inl ⟨rfl, rfl⟩, Nat.le_succ _, HC.out, Kq.drewN s w kq⟩
set_option maxRecDepth 100000 in
set_option maxHeartbeats 32000000 in
theorem Median_any (g n cap a b m s c : Nat) (d : Array Nat) (w : World) (hA : Arr w g d) (hn : d.size = n) (hnc : n ≤ cap) (hcap : (cap : Int) ≤ 9223372036854775807) (hn40 : (n : Int) ≤ 1099511627776) (ha : a < n) (hb : b < n) (hm : m < n) (hc : Cnt w s c) (hcc : c ≤ 90) (hsg : g ≠ s) :
    Calls Try.prog 50 #[.slice (some ⟨g, 0, none⟩) n cap, .int .i64 (a : Int), .int .i64 (b : Int), .int .i64 (m : Int), .pointer (some ⟨s, 0, none⟩)] w fun e w' => ∃ x c', e = .returned (.int .i64 ((x : Nat) : Int)) ∧ (x = a ∨ x = b ∨ x = m) ∧ c' ≤ c + 3 ∧ Cnt w' s c' ∧ Kq s w w' := by
  have HA := Lib.hid hA
  have HC := Lib.hid hc
  have HN := Lib.hid hn
  clear hA hc hn
  go_enter Try.func50, Try.ntmps50
  go_wp2_with fail
  refine (Order2_any g n cap a b s c d w HA.out HN.out hnc hcap hn40 ha hb HC.out (by omega)).mono ?_
  rintro e w1 ⟨x1, y1, c1, rfl, h1, hc1, hcn1, hk1⟩
  have HC1 := Lib.hid hcn1
  have HA1 := Lib.hid (HA.out.kp hk1 hsg)
  have HK1 := Lib.hid hk1
  have H1 := Lib.hid h1
  have hx1 : x1 < n := by omega
  have hy1 : y1 < n := by omega
  clear hcn1 hk1 h1
  go_wp2_with fail
  refine (Order2_any g n cap y1 m s c1 d w1 HA1.out HN.out hnc hcap hn40 hy1 hm HC1.out (by omega)).mono ?_
  rintro e w2 ⟨x2, y2, c2, rfl, h2, hc2, hcn2, hk2⟩
  have HC2 := Lib.hid hcn2
  have HA2 := Lib.hid (HA1.out.kp hk2 hsg)
  have HK2 := Lib.hid (HK1.out.trans hk2)
  have H2 := Lib.hid h2
  have hx2 : x2 < n := by omega
  clear hcn2 hk2 h2
  go_wp2_with fail
  refine (Order2_any g n cap x1 x2 s c2 d w2 HA2.out HN.out hnc hcap hn40 hx1 hx2 HC2.out (by omega)).mono ?_
  rintro e w3 ⟨x3, y3, c3, rfl, h3, hc3, hcn3, hk3⟩
  have HC3 := Lib.hid hcn3
  have HK3 := Lib.hid (HK2.out.trans hk3)
  have H3 := Lib.hid h3
  clear hcn3 hk3 h3
  go_wp2
  go_ret
  exact ⟨y3, c3, rfl, by have h1 := H1.out; have h2 := H2.out; have h3 := H3.out; omega, by omega, HC3.out, HK3.out⟩
set_option maxRecDepth 100000 in
set_option maxHeartbeats 32000000 in
theorem MedAdj_any (g n cap a s c : Nat) (d : Array Nat) (w : World) (hA : Arr w g d) (hn : d.size = n) (hnc : n ≤ cap) (hcap : (cap : Int) ≤ 9223372036854775807) (hn40 : (n : Int) ≤ 1099511627776) (ha : a + 1 < n) (ha1 : 1 ≤ a) (hc : Cnt w s c) (hcc : c ≤ 90) (hsg : g ≠ s) :
    Calls Try.prog 49 #[.slice (some ⟨g, 0, none⟩) n cap, .int .i64 (a : Int), .pointer (some ⟨s, 0, none⟩)] w fun e w' => ∃ x c', e = .returned (.int .i64 ((x : Nat) : Int)) ∧ a ≤ x + 1 ∧ x ≤ a + 1 ∧ c' ≤ c + 3 ∧ Cnt w' s c' ∧ Kq s w w' := by
  have HA := Lib.hid hA
  have HC := Lib.hid hc
  have HN := Lib.hid hn
  have haI : (a : Int) ≤ 1099511627776 := by omega
  obtain ⟨am, ham⟩ : ∃ x, a - 1 = x := ⟨_, rfl⟩
  have hamI : (a : Int) - 1 = (am : Int) := by omega
  have hamn : am < n := by omega
  have hamr : a = am + 1 := by omega
  have HAM := Lib.hid hamr
  have HAMI := Lib.hid hamI
  clear hA hc hn ham hamI hamr
  go_enter Try.func49, Try.ntmps49
  go_wp2_with fail
  have hcall := Median_any g n cap am a (a + 1) s c d w HA.out HN.out hnc hcap hn40 hamn (by omega) ha HC.out hcc hsg
  rw [show ((a + 1 : Nat) : Int) = (a : Int) + 1 by omega, ← HAMI.out] at hcall
  refine hcall.mono ?_
  rintro e w1 ⟨x1, c1, rfl, h1, hc1, hcn1, hk1⟩
  have HC1 := Lib.hid hcn1
  have HK1 := Lib.hid hk1
  have H1 := Lib.hid h1
  clear hcn1 hk1 h1 hcall
  go_wp2
  go_ret
  exact ⟨x1, c1, rfl, by have := HAM.out; have := H1.out; omega, by have := HAM.out; have := H1.out; omega, hc1, HC1.out, HK1.out⟩
set_option maxRecDepth 100000 in
set_option maxHeartbeats 32000000 in
theorem Pivot_any (g n cap a b : Nat) (d : Array Nat) (w : World) (hA : Arr w g d) (hn : d.size = n) (hnc : n ≤ cap) (hcap : (cap : Int) ≤ 9223372036854775807) (hn40 : (n : Int) ≤ 1099511627776) (hb : b ≤ n) (hab : a + 12 < b) :
    Calls Try.prog 37 #[.slice (some ⟨g, 0, none⟩) n cap, .int .i64 (a : Int), .int .i64 (b : Int)] w fun e w' => ∃ p h, e = .returned (.tuple #[.int .i64 ((p : Nat) : Int), .int .i64 ((h : Nat) : Int)]) ∧ a ≤ p ∧ p < b ∧ (h = 0 ∨ h = 1 ∨ h = 2) ∧ Below w.heap.size w w' := by
  have HA := Lib.hid hA
  have HN := Lib.hid hn
  obtain ⟨l, hl⟩ : ∃ l, b - a = l := ⟨_, rfl⟩
  obtain ⟨i, hi⟩ : ∃ x, a + l / 4 * 1 = x := ⟨_, rfl⟩
  obtain ⟨j, hj⟩ : ∃ x, a + l / 4 * 2 = x := ⟨_, rfl⟩
  obtain ⟨k, hk⟩ : ∃ x, a + l / 4 * 3 = x := ⟨_, rfl⟩
  have haI : (a : Int) ≤ 1099511627776 := by omega
  have hbI : (b : Int) ≤ 1099511627776 := by omega
  have hlI : (l : Int) ≤ 1099511627776 := by omega
  have hl0 : (0 : Int) ≤ (l : Int) := by omega
  have hl8 : (8 : Int) ≤ (l : Int) := by omega
  have hiB : a + 3 ≤ i ∧ i + 3 < b := by omega
  have hjB : a + 3 ≤ j ∧ j + 3 < b := by omega
  have hkB : a + 3 ≤ k ∧ k + 3 ≤ b := by omega
  have HL := Lib.hid hl
  have HI := Lib.hid hi
  have HJ := Lib.hid hj
  have HK := Lib.hid hk
  clear hA hn hl hi hj hk
  go_enter Try.func37, Try.ntmps37
  go_upto_region 1 with fail
  go_cut [8] (fun v wz => v = .int .i64 (l : Int) ∧ w = wz)
  case first =>
    go_wp2
    go_meet
    exact ⟨int_eq (by have := HL.out; omega), rfl⟩
  case rest =>
    obtain ⟨rfl, rfl⟩ := hcut
    go_upto_region 3 with fail
    have hb1 := (Below.refl w.heap.size w).alloc (Nat.le_refl _) (.cells #[.int .i64 0] 3)
    have hc1 : Cnt (w.alloc (.cells #[.int .i64 0] 3)) w.heap.size 0 := heap_alloc_new _ _
    have hA1 := HA.out.below hb1
    have hgs : g ≠ w.heap.size := by have := HA.out.lt; omega
    generalize (w.alloc (.cells #[.int .i64 0] 3)) = w1 at *
    obtain ⟨s, hs⟩ : ∃ s, w.heap.size = s := ⟨_, rfl⟩
    rw [hs] at hb1 hc1 hgs ⊢
    have HB1 := Lib.hid hb1
    have HC1 := Lib.hid hc1
    have HA1 := Lib.hid hA1
    have HSS := Lib.hid hs
    clear hb1 hc1 hA1 hs

    go_cut [10] (fun v wz => v = .int .i64 (i : Int) ∧ w1 = wz)
    case first =>
      go_wp2
      go_meet
      exact ⟨int_eq (by have := HI.out; omega), rfl⟩
    case rest =>
      obtain ⟨rfl, rfl⟩ := hcut
      go_upto_region 4 with fail
      go_cut [11] (fun v wz => v = .int .i64 (j : Int) ∧ w1 = wz)
      case first =>
        go_wp2
        go_meet
        exact ⟨int_eq (by have := HJ.out; omega), rfl⟩
      case rest =>
        obtain ⟨rfl, rfl⟩ := hcut
        go_upto_region 5 with fail
        go_cut [12] (fun v wz => v = .int .i64 (k : Int) ∧ w1 = wz)
        case first =>
          go_wp2
          go_meet
          exact ⟨int_eq (by have := HK.out; omega), rfl⟩
        case rest =>
          obtain ⟨rfl, rfl⟩ := hcut
          have HKR : Hid (Kq s w1 w1) := Lib.hid (Kq.refl _ _)
          rcases Nat.lt_or_ge l 50 with h50 | h50
          · have h50I : ¬ (50 : Int) ≤ (l : Int) := by omega
            go_wp2_with fail
            refine (Median_any g n cap i j k s 0 d w1 HA1.out HN.out hnc hcap hn40 (by omega) (by omega) (by omega) HC1.out (by omega) hgs).mono ?_
            rintro e w6 ⟨x6, c6, rfl, r1, r2, hcn6, hk6⟩
            obtain ⟨e6, z6⟩ := hcn6.cell
            have hfin : Below w.heap.size w w6 := by
              have h1 := HB1.out
              have h2 := (HKR.out.trans hk6).below (B := s) (Nat.le_refl _) (by have := HB1.out.size; have := HSS.out; omega)
              rw [HSS.out]
              exact h1.trans h2
            have HFN := Lib.hid hfin
            have hx6 : a ≤ x6 ∧ x6 < b := by omega
            obtain ⟨hx61, hx62⟩ := hx6
            clear hcn6 hk6 hfin r1
            rcases Nat.eq_zero_or_pos c6 with rfl | hc6
            · go_wp2
              go_ret2
              exact ⟨x6, 1, rfl, hx61, hx62, .inr (.inl rfl), HFN.out⟩
            · have hc60 : ((c6 : Int) == 0) = false := beq_eq_false_iff_ne.2 (by omega)
              rcases Decidable.em (c6 = 12) with rfl | hc12
              · go_wp2
                go_ret2
                exact ⟨x6, 2, rfl, hx61, hx62, .inr (.inr rfl), HFN.out⟩
              · have hc61 : ((c6 : Int) == 12) = false := beq_eq_false_iff_ne.2 (by omega)
                go_wp2
                go_ret2
                exact ⟨x6, 0, rfl, hx61, hx62, .inl rfl, HFN.out⟩
          · have h50I : (50 : Int) ≤ (l : Int) := by omega
            have hkB2 : k + 3 < b := by have := HK.out; have := HL.out; omega
            go_wp2_with fail
            refine (MedAdj_any g n cap i s 0 d w1 HA1.out HN.out hnc hcap hn40 (by omega) (by omega) HC1.out (by omega) hgs).mono ?_
            rintro e w2 ⟨x2, c2, rfl, p1, p2, p3, hcn2, hk2⟩
            have HC2 := Lib.hid hcn2
            have HA2 := Lib.hid (HA1.out.kp hk2 hgs)
            have HK2 := Lib.hid hk2
            clear hcn2 hk2
            go_wp2_with fail
            refine (MedAdj_any g n cap j s c2 d w2 HA2.out HN.out hnc hcap hn40 (by omega) (by omega) HC2.out (by omega) hgs).mono ?_
            rintro e w3 ⟨x3, c3, rfl, p4, p5, p6, hcn3, hk3⟩
            have HC3 := Lib.hid hcn3
            have HA3 := Lib.hid (HA2.out.kp hk3 hgs)
            have HK3 := Lib.hid (HK2.out.trans hk3)
            clear hcn3 hk3
            go_wp2_with fail
            refine (MedAdj_any g n cap k s c3 d w3 HA3.out HN.out hnc hcap hn40 (by omega) (by omega) HC3.out (by omega) hgs).mono ?_
            rintro e w4 ⟨x4, c4, rfl, p7, p8, p9, hcn4, hk4⟩
            have HC4 := Lib.hid hcn4
            have HA4 := Lib.hid (HA3.out.kp hk4 hgs)
            have HK4 := Lib.hid (HK3.out.trans hk4)
            clear hcn4 hk4
            go_wp2_with fail
            refine (Median_any g n cap x2 x3 x4 s c4 d w4 HA4.out HN.out hnc hcap hn40 (by omega) (by omega) (by omega) HC4.out (by omega) hgs).mono ?_
            rintro e w6 ⟨x6, c6, rfl, r1, r2, hcn6, hk6⟩
            obtain ⟨e6, z6⟩ := hcn6.cell
            have hfin : Below w.heap.size w w6 := by
              have h1 := HB1.out
              have h2 := (HK4.out.trans hk6).below (B := s) (Nat.le_refl _) (by have := HB1.out.size; have := HSS.out; omega)
              rw [HSS.out]
              exact h1.trans h2
            have HFN := Lib.hid hfin
            have hx6 : a ≤ x6 ∧ x6 < b := by omega
            obtain ⟨hx61, hx62⟩ := hx6
            clear hcn6 hk6 hfin r1
            rcases Nat.eq_zero_or_pos c6 with rfl | hc6
            · go_wp2
              go_ret2
              exact ⟨x6, 1, rfl, hx61, hx62, .inr (.inl rfl), HFN.out⟩
            · have hc60 : ((c6 : Int) == 0) = false := beq_eq_false_iff_ne.2 (by omega)
              rcases Decidable.em (c6 = 12) with rfl | hc12
              · go_wp2
                go_ret2
                exact ⟨x6, 2, rfl, hx61, hx62, .inr (.inr rfl), HFN.out⟩
              · have hc61 : ((c6 : Int) == 12) = false := beq_eq_false_iff_ne.2 (by omega)
                go_wp2
                go_ret2
                exact ⟨x6, 0, rfl, hx61, hx62, .inl rfl, HFN.out⟩
end Go.Proofs.Ytfdafoibclfpgaa
