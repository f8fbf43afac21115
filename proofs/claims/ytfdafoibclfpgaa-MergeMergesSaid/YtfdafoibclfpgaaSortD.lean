/-
  Package slices, of numbers: the whole of the sort, and its entry.
-/
import Derived.Test.YtfdafoibclfpgaaSortF
import Derived.Sort.LotD3
namespace Go.Proofs.Ytfdafoibclfpgaa
open Go.ChangeShapes Go.WideShapes Go.ChangeAt Go.RowKit Go.Deep
set_option linter.unusedVariables false
set_option linter.unusedSimpArgs false
/-- What is still to do, done, ends it. -/
def Rest (a b : Nat) (d : Array Nat) (a0 b0 : Nat) (d0 : Array Nat) : Prop := ∀ R, Sort.PermIn a b d R → Sort.SortedIn ltB a b R → Sort.PermIn a0 b0 d0 R ∧ Sort.SortedIn ltB a0 b0 R
theorem Rest.perm {a b a0 b0 : Nat} {d d1 d0 : Array Nat} (h : Rest a b d a0 b0 d0) (hp : Sort.PermIn a b d d1) : Rest a b d1 a0 b0 d0 := fun R r1 r2 => h R (Sort.permIn_trans d d1 R a b hp r1) r2
theorem pdq_eq {a b pv : Nat} {d3 : Array Nat} (ha0 : 0 < a) (hp1 : a ≤ pv) (hp2 : pv < b) (hb : b ≤ d3.size) (hB : Sort.Below ltB a b d3) (hnl : ltB d3[a - 1]! d3[pv]! = false) :
    a < (Sort.partitionEqual ltB d3 a b pv).1 ∧ (Sort.partitionEqual ltB d3 a b pv).1 ≤ b ∧ Sort.Below ltB (Sort.partitionEqual ltB d3 a b pv).1 b (Sort.partitionEqual ltB d3 a b pv).2 ∧ ∀ a0 b0 d0, Rest a b d3 a0 b0 d0 → Rest (Sort.partitionEqual ltB d3 a b pv).1 b (Sort.partitionEqual ltB d3 a b pv).2 a0 b0 d0 := by
  obtain ⟨h1, h2, h3, h4, h5⟩ := Sort.round_eq swo_ltB (Sort.partitionEqual_holds _) ha0 hp1 hp2 hb hB hnl (Prod.eta _).symm
  exact ⟨h1, h2, h4, fun a0 b0 d0 hR R r1 r2 => hR R (h5 R r1 r2).1 (h5 R r1 r2).2⟩
theorem pdq_part {a b pv mid : Nat} {ap : Bool} {d3 d4 : Array Nat} (hp1 : a ≤ pv) (hp2 : pv < b) (hb : b ≤ d3.size) (hB : Sort.Below ltB a b d3) (hx : Sort.partition ltB d3 a b pv = (mid, ap, d4)) :
    a ≤ mid ∧ mid < b ∧ Sort.Below ltB a mid d4 ∧ Sort.Below ltB (mid + 1) b d4 ∧
    (∀ L, Sort.PermIn a mid d4 L → Sort.SortedIn ltB a mid L → Sort.Below ltB (mid + 1) b L ∧ ∀ a0 b0 d0, Rest a b d3 a0 b0 d0 → Rest (mid + 1) b L a0 b0 d0) ∧
    (∀ L, Sort.PermIn (mid + 1) b d4 L → Sort.SortedIn ltB (mid + 1) b L → Sort.Below ltB a mid L ∧ ∀ a0 b0 d0, Rest a b d3 a0 b0 d0 → Rest a mid L a0 b0 d0) := by
  obtain ⟨h1, h2, h3, h4, h5, h6, h7⟩ := Sort.round_part swo_ltB (Sort.partition_holds _) hp1 hp2 hb hB hx
  exact ⟨h1, h2, h4, h5, fun L l1 l2 => ⟨(h6 L l1 l2).1, fun a0 b0 d0 hR R r1 r2 => hR R ((h6 L l1 l2).2 R r1 r2).1 ((h6 L l1 l2).2 R r1 r2).2⟩, fun L l1 l2 => ⟨(h7 L l1 l2).1, fun a0 b0 d0 hR R r1 r2 => hR R ((h7 L l1 l2).2 R r1 r2).1 ((h7 L l1 l2).2 R r1 r2).2⟩⟩
def Pdqs (g n a b : Nat) (d : Array Nat) (w : World) (e : Ending) (w' : World) : Prop := e = .returned (.tuple #[]) ∧ ∃ D, Arr w' g D ∧ Sort.PermIn a b d D ∧ Sort.SortedIn ltB a b D ∧ D.size = n ∧ Kq g w w'
theorem pdqs_end {g n a b a0 b0 : Nat} {dk d0 D : Array Nat} {w w' : World} (hR : Rest a b dk a0 b0 d0) (h1 : Sort.PermIn a b dk D) (h2 : Sort.SortedIn ltB a b D) (hA : Arr w' g D) (hs : D.size = n) (hk : Kq g w w') : Pdqs g n a0 b0 d0 w (.returned (.tuple #[])) w' :=
  ⟨rfl, D, hA, (hR D h1 h2).1, (hR D h1 h2).2, hs, hk⟩
set_option maxRecDepth 100000 in
set_option maxHeartbeats 64000000 in
theorem Pdq_any (g n cap : Nat) (hnc : n ≤ cap) (hcap : (cap : Int) ≤ 9223372036854775807) (hn16 : n < 65536) : ∀ (m a b limit : Nat) (d : Array Nat) (w : World), b - a < m → a ≤ b → b ≤ n → Arr w g d → d.size = n → limit ≤ 100 → Sort.Below ltB a b d →
    Calls Try.prog 30 #[.slice (some ⟨g, 0, none⟩) n cap, .int .i64 (a : Int), .int .i64 (b : Int), .int .i64 (limit : Int)] w fun e w' => Pdqs g n a b d w e w' := by
  intro m
  induction m with
  | zero => intro a b limit d w h; omega
  | succ m IH =>
    intro a b limit d w hbm hab hbn hA hs0 hlim hBel
    have HIH := Lib.hid IH
    have HA := Lib.hid hA
    have HN := Lib.hid hs0
    have HB0 := Lib.hid hBel
    have hn40 : (n : Int) ≤ 1099511627776 := by omega
    clear IH hA hs0 hBel
    go_enter Try.func30, Try.ntmps30
    go_wp2_with fail
    go_loopw [1, 2, 3, 8, 9] (fun v1 v2 v3 v8 v9 wr => ∃ (a1 b1 l : Nat) (wb wp : Bool) (dk : Array Nat), v1 = .int .i64 (a1 : Int) ∧ v2 = .int .i64 (b1 : Int) ∧ v3 = .int .i64 (l : Int) ∧ v8 = .bool wb ∧ v9 = .bool wp ∧ a ≤ a1 ∧ a1 ≤ b1 ∧ b1 ≤ b ∧ l ≤ 100 ∧ dk.size = n ∧ Arr wr g dk ∧ Kq g w wr ∧ Hid (Sort.Below ltB a1 b1 dk) ∧ Hid (Rest a1 b1 dk a b d)) (fun v1 v2 _ _ _ _ => (intOf v2).toNat - (intOf v1).toNat)
    case atStart => exact ⟨a, b, limit, true, true, d, rfl, rfl, rfl, rfl, rfl, Nat.le_refl _, hab, Nat.le_refl _, hlim, HN.out, HA.out, Kq.refl _ _, HB0, Lib.hid fun R r1 r2 => ⟨r1, r2⟩⟩
    case round =>
      obtain ⟨a1, b1, l, wb, wp, dk, rfl, rfl, rfl, rfl, rfl, haa, hab1, hbb, hl, hs_, h0, hk0, HBE, HRE⟩ := hrel
      obtain ⟨W0, rfl⟩ : ∃ W0, W0 = wr := ⟨wr, rfl⟩
      have H0 := Lib.hid h0
      have HK0 := Lib.hid hk0
      have HS := Lib.hid hs_
      clear h0 hk0 hs_
      have haI : (a1 : Int) ≤ 65536 := by omega
      have hbI : (b1 : Int) ≤ 65536 := by omega
      have hlI : (l : Int) ≤ 100 := by omega
      obtain ⟨len, hlen⟩ : ∃ x, b1 - a1 = x := ⟨_, rfl⟩
      have hlenI : (b1 : Int) - (a1 : Int) = (len : Int) := by omega
      have HLEN := Lib.hid hlen
      have hbs : Hid (b1 ≤ dk.size) := Lib.hid (by rw [HS.out]; omega)
      clear hlen
      rcases Nat.lt_or_ge 12 len with h12 | h12
      rotate_left
      · have h12I : (len : Int) ≤ 12 := by omega
        go_wp2_with fail
        refine (Insertion_any g n cap a1 b1 dk W0 H0.out HS.out hnc hcap (by omega) (by omega) hab1).mono ?_
        rintro e W1 ⟨rfl, r1, r2, r3⟩
        have HF := Lib.hid (pdqs_end HRE.out (Sort.insertionSort_holds swo_ltB dk a1 b1 hab1 hbs.out).1 (Sort.insertionSort_holds swo_ltB dk a1 b1 hab1 hbs.out).2 r1 r3 (HK0.out.trans r2))
        clear r1 r2 r3
        go_wp2
        first | go_end0 | (refine bodyPost_end (results_none rfl _ _ _) rfl ?_) | (refine bodyPost_ret (results_none rfl _ _ _) rfl ?_)
        exact HF.out
      have h12I : ¬ (len : Int) ≤ 12 := by omega
      rcases Nat.eq_zero_or_pos l with rfl | hl1
      · go_wp2_with fail
        refine (Heap_any g n cap a1 b1 dk W0 H0.out HS.out hnc hcap hn40 (by omega) (by have := HLEN.out; omega)).mono ?_
        rintro e W1 ⟨rfl, r1, r2, r3⟩
        have HF := Lib.hid (pdqs_end HRE.out (Sort.heapSort_holds swo_ltB dk a1 b1 hab1 hbs.out).1 (Sort.heapSort_holds swo_ltB dk a1 b1 hab1 hbs.out).2 r1 r3 (HK0.out.trans r2))
        clear r1 r2 r3
        go_wp2
        first | go_end0 | (refine bodyPost_end (results_none rfl _ _ _) rfl ?_) | (refine bodyPost_ret (results_none rfl _ _ _) rfl ?_)
        exact HF.out
      have hl1I : ((l : Int) == 0) = false := beq_eq_false_iff_ne.2 (by omega)
      go_upto_if 35 with fail
      go_cut [3] (fun v wz => ∃ (l2 : Nat) (d1 : Array Nat), v = .int .i64 (l2 : Int) ∧ l2 ≤ 100 ∧ d1.size = n ∧ Arr wz g d1 ∧ Kq g w wz ∧ Sort.PermIn a1 b1 dk d1)
      case first =>
        cases wb with
        | false =>
          go_wp2_with fail
          refine (Break_any g n cap a1 b1 dk W0 H0.out HS.out hnc hcap hn16 (by omega) (by have := HLEN.out; omega)).mono ?_
          rintro e W1 ⟨rfl, d1, r1, r2, r3, r4⟩
          have HR1 := Lib.hid r1
          have HR2 := Lib.hid r2
          have HR3 := Lib.hid r3
          have HR4 := Lib.hid (HK0.out.trans r4)
          clear r1 r2 r3 r4
          go_wp2
          go_meet
          exact ⟨l - 1, d1, int_eq (by omega), by omega, HR3.out, HR1.out, HR4.out, HR2.out⟩
        | true =>
          go_wp2
          go_meet
          exact ⟨l, dk, rfl, hl, HS.out, H0.out, HK0.out, Sort.permIn_refl dk a1 b1⟩
      case rest =>
        obtain ⟨l2, d1, rfl, hl2, hs1, r1, r2, r3⟩ := hcut
        obtain ⟨W1, rfl⟩ : ∃ W1, W1 = wc := ⟨wc, rfl⟩
        have H1 := Lib.hid r1
        have HK1 := Lib.hid r2
        have HP1 := Lib.hid r3
        have HS1 := Lib.hid hs1
        have hl2I : (l2 : Int) ≤ 100 := by omega
        clear r1 r2 r3 hs1 hl1I
        go_wp2_with fail
        refine (Pivot_any g n cap a1 b1 d1 W1 H1.out HS1.out hnc hcap hn40 (by omega) (by have := HLEN.out; omega)).mono ?_
        rintro e W2 ⟨p, h, rfl, hp1, hp2, hh, hbl⟩
        have H2 := Lib.hid (H1.out.below hbl)
        have HK2 := Lib.hid (HK1.out.trans (Kq.of_below hbl))
        have hpI : (p : Int) ≤ 65536 := by omega
        clear hbl
        go_upto_if 50 with fail
        go_cut [11, 12] (fun v11 v12 wz => ∃ (p2 h2 : Nat) (d2 : Array Nat), v11 = .int .i64 (p2 : Int) ∧ v12 = .int .i64 (h2 : Int) ∧ a1 ≤ p2 ∧ p2 < b1 ∧ (h2 = 0 ∨ h2 = 1) ∧ d2.size = n ∧ Arr wz g d2 ∧ Kq g w wz ∧ Sort.PermIn a1 b1 dk d2)
        case first =>
          rcases hh with rfl | rfl | rfl
          · go_wp2
            go_meet
            exact ⟨p, 0, d1, rfl, rfl, hp1, hp2, .inl rfl, HS1.out, H2.out, HK2.out, HP1.out⟩
          · go_wp2
            go_meet
            exact ⟨p, 1, d1, rfl, rfl, hp1, hp2, .inr rfl, HS1.out, H2.out, HK2.out, HP1.out⟩
          · go_wp2_with fail
            refine (Reverse_any g n cap a1 b1 d1 W2 H2.out HS1.out hnc hcap hn40 (by omega) (by omega)).mono ?_
            rintro e W3 ⟨rfl, r1, r2, r3⟩
            have HR1 := Lib.hid r1
            have HR2 := Lib.hid (HK2.out.trans r2)
            have HR3 := Lib.hid r3
            have HP := Lib.hid (Sort.permIn_trans dk d1 _ a1 b1 HP1.out (Sort.reverseRange_holds d1 a1 b1 hab1 (by rw [HS1.out]; omega)))
            clear r1 r2 r3
            go_wp2
            go_meet
            exact ⟨b1 - 1 - (p - a1), 1, _, int_eq (by omega), rfl, by omega, by omega, .inr rfl, HR3.out, HR1.out, HR2.out, HP.out⟩
        case rest =>
          obtain ⟨p2, h2, d2, rfl, rfl, hq1, hq2, hh2, hs2, r1, r2, r3⟩ := hcut
          obtain ⟨W3, rfl⟩ : ∃ W3, W3 = wc := ⟨wc, rfl⟩
          have H3 := Lib.hid r1
          have HK3 := Lib.hid r2
          have HP3 := Lib.hid r3
          have HS3 := Lib.hid hs2
          clear r1 r2 r3 hs2 hp1 hp2 hpI hh
          have hp2I : (p2 : Int) ≤ 65536 := by omega
          obtain ⟨c1, hc1⟩ : ∃ c, (wb && wp && decide (h2 = 1)) = c := ⟨_, rfl⟩
          go_upto_region 15 with fail
          go_cut [68] (fun v wz => v = .bool c1 ∧ W3 = wz)
          case first =>
            subst hc1
            cases wb <;> cases wp <;> rcases hh2 with rfl | rfl <;> go_wp2 <;> go_meet <;> exact ⟨rfl, rfl⟩
          case rest =>
            obtain ⟨rfl, rfl⟩ := hcut
            clear hc1
            have HBE2 : Hid (Sort.Below ltB a1 b1 d2) := Lib.hid (HBE.out.perm hbs.out HP3.out)
            have HRE2 : Hid (Rest a1 b1 d2 a b d) := Lib.hid (HRE.out.perm HP3.out)
            go_upto_if 68 with fail
            go_cut [69] (fun v wz => ∃ d3 : Array Nat, d3.size = n ∧ Arr wz g d3 ∧ Kq g w wz ∧ Sort.PermIn a1 b1 dk d3)
            case first =>
              cases c1 with
              | false =>
                go_wp2
                go_meet
                exact ⟨d2, HS3.out, H3.out, HK3.out, HP3.out⟩
              | true =>
                go_wp2_with fail
                refine (PartialIns_any g n cap a1 b1 d2 W3 H3.out HS3.out hnc hcap hn40 (by omega) (by omega)).mono ?_
                rintro e W4 ⟨D, r, hx, rfl, r1, r2, r3⟩
                obtain ⟨e1, e2⟩ := Sort.partialInsertionSort_holds swo_ltB d2 a1 b1 (by omega) (by rw [HS3.out]; omega) HBE2.out
                rw [hx] at e1 e2
                have HP4 := Lib.hid (Sort.permIn_trans dk d2 D a1 b1 HP3.out e1)
                have HE1 := Lib.hid e1
                have HE2 := Lib.hid e2
                have H4 := Lib.hid r1
                have HK4 := Lib.hid (HK3.out.trans r2)
                have HS4 := Lib.hid r3
                clear r1 r2 r3 e1 e2 hx
                cases r with
                | true =>
                  have HF := Lib.hid (pdqs_end HRE2.out HE1.out (HE2.out rfl) H4.out HS4.out HK4.out)
                  go_wp2
                  first | go_end0 | (refine bodyPost_end (results_none rfl _ _ _) rfl ?_) | (refine bodyPost_ret (results_none rfl _ _ _) rfl ?_)
                  exact HF.out
                | false =>
                  go_wp2
                  go_meet
                  exact ⟨D, HS4.out, H4.out, HK4.out, HP4.out⟩
            case rest =>
              obtain ⟨d3, hs3, r1, r2, r3⟩ := hcut
              obtain ⟨W4, rfl⟩ : ∃ W4, W4 = wc := ⟨wc, rfl⟩
              have H4 := Lib.hid r1
              have HK4 := Lib.hid r2
              have HS4 := Lib.hid hs3
              have HBE3 : Hid (Sort.Below ltB a1 b1 d3) := Lib.hid (HBE.out.perm hbs.out r3)
              have HRE3 : Hid (Rest a1 b1 d3 a b d) := Lib.hid (HRE.out.perm r3)
              clear r1 r2 r3 hs3 HBE HRE HBE2 HRE2 H3 HK3 HS3 HP3 H0 HK0
              obtain ⟨aq, haq⟩ : ∃ x, a1 - 1 = x := ⟨_, rfl⟩
              have HAQ := Lib.hid haq
              obtain ⟨cb, hcb⟩ : ∃ q, (decide (0 < a1) && !ltB d3[a1 - 1]! d3[p2]!) = q := ⟨_, rfl⟩
              have HCB := Lib.hid hcb
              clear hcb
              have haqn : aq < n := by omega
              have hpn : p2 < n := by omega
              clear haq
              go_upto_region 17 with fail
              go_cut [87] (fun x wz => x = .bool cb ∧ ∃ kq, wz = W4.drewN kq)
              case first =>
                by_cases hle : 0 < a1
                · have hleI : (0 : Int) < (a1 : Int) := by omega
                  have haqI : (a1 : Int) - 1 = (aq : Int) := by have := HAQ.out; omega
                  have haA : aq < (d3).size := by rw [HS4.out]; exact haqn
                  have hbA : p2 < (d3).size := by rw [HS4.out]; exact hpn
                  have ciA := H4.out.cell aq haA
                  have cjA := H4.out.cell p2 hbA
                  obtain ⟨xA, hxA⟩ : ∃ x, (d3)[aq]! = x := ⟨_, rfl⟩
                  obtain ⟨yA, hyA⟩ : ∃ y, (d3)[p2]! = y := ⟨_, rfl⟩
                  rw [hxA] at ciA
                  rw [hyA] at cjA
                  obtain ⟨q, hqA⟩ : ∃ q, ltB xA yA = q := ⟨_, rfl⟩
                  have HQA := Lib.hid hqA
                  have HLA : Hid (ltB (d3)[aq]! (d3)[p2]! = q) := by rw [hxA, hyA]; exact HQA
                  have hiNA : (aq : Int) < (n : Int) := by omega
                  have hjNA : (p2 : Int) < (n : Int) := by omega
                  have hi0A : (0 : Int) ≤ (aq : Int) := by omega
                  have hj0A : (0 : Int) ≤ (p2 : Int) := by omega
                  clear hxA hyA haA hbA hqA
                  have hce : cb = !q := by rw [← HCB.out, decide_eq_true hle, Bool.true_and, HAQ.out]; rw [HLA.out]
                  subst hce
                  go_quiet ((go_at_call 40; exact Calls.quiet_of_same (less_q HQA.out _)))
                  go_wp2
                  go_meet
                  exact ⟨rfl, _, rfl⟩
                · have hleI : ¬ (0 : Int) < (a1 : Int) := by omega
                  have hce : cb = false := by rw [← HCB.out, decide_eq_false hle, Bool.false_and]
                  subst hce
                  go_quiet (fail)
                  go_wp2
                  go_meet
                  exact ⟨rfl, _, rfl⟩
              case rest =>
                obtain ⟨rfl, kq, rfl⟩ := hcut
                have h1_ := H4.out.drewN kq
                have hk1_ := HK4.out.trans (Kq.drewN g W4 kq)
                obtain ⟨W5, hW_⟩ : ∃ W5, W4.drewN kq = W5 := ⟨_, rfl⟩
                rw [hW_] at h1_ hk1_ ⊢
                have H5 := Lib.hid h1_
                have HK5 := Lib.hid hk1_
                clear h1_ hk1_ hW_
                cases cb with
                | true =>
                  have hcc : 0 < a1 ∧ ltB d3[a1 - 1]! d3[p2]! = false := by
                    have := HCB.out
                    rw [Bool.and_eq_true, decide_eq_true_eq] at this
                    exact ⟨this.1, by have h := this.2; rw [Bool.not_eq_true'] at h; exact h⟩
                  obtain ⟨e1, e2, e3, e4⟩ := pdq_eq hcc.1 hq1 hq2 (by rw [HS4.out]; omega) HBE3.out hcc.2
                  have hcall := PartEq_any g n cap a1 b1 p2 d3 W5 H5.out HS4.out hnc hcap hn40 (by omega) hq1 hq2
                  obtain ⟨mid, hmid⟩ : ∃ x, (Sort.partitionEqual ltB d3 a1 b1 p2).1 = x := ⟨_, rfl⟩
                  obtain ⟨d4, hd4⟩ : ∃ x, (Sort.partitionEqual ltB d3 a1 b1 p2).2 = x := ⟨_, rfl⟩
                  rw [hmid] at e1 e2 e3 e4 hcall
                  rw [hd4] at e3 e4 hcall
                  have HG1 := Lib.hid e3
                  have HG2 := Lib.hid (e4 a b d HRE3.out)
                  clear e3 e4 hmid hd4 hcc
                  go_wp2_with fail
                  refine hcall.mono ?_
                  rintro e W6 ⟨rfl, r1, r2, r3⟩
                  have H6 := Lib.hid r1
                  have HK6 := Lib.hid (HK5.out.trans r2)
                  have HS6 := Lib.hid r3
                  clear r1 r2 r3 hcall
                  go_wp2
                  go_roundw
                  case rel => exact ⟨mid, b1, l2, wb, wp, d4, rfl, rfl, rfl, rfl, rfl, by omega, e2, hbb, hl2, HS6.out, H6.out, HK6.out, HG1, HG2⟩
                  case measure => simp [intOf] <;> omega
                | false =>
                  have hcall := Part_any g n cap a1 b1 p2 d3 W5 H5.out HS4.out hnc hcap hn40 (by omega) hq1 hq2
                  obtain ⟨pr, hpr⟩ : ∃ x, Sort.partition ltB d3 a1 b1 p2 = x := ⟨_, rfl⟩
                  obtain ⟨mid, ap, d4⟩ := pr
                  obtain ⟨f1, f2, f3, f4, f5, f6⟩ := pdq_part hq1 hq2 (by rw [HS4.out]; omega) HBE3.out hpr
                  rw [hpr] at hcall
                  have HBL := Lib.hid f3
                  have HBR := Lib.hid f4
                  have HL1 := Lib.hid f5
                  have HL2 := Lib.hid f6
                  have hmI : (mid : Int) ≤ 65536 := by omega
                  clear f3 f4 f5 f6 hpr
                  go_wp2_with fail
                  refine hcall.mono ?_
                  rintro e W6 ⟨rfl, r1, r2, r3⟩
                  have H6 := Lib.hid r1
                  have HK6 := Lib.hid (HK5.out.trans r2)
                  have HS6 := Lib.hid r3
                  clear r1 r2 r3 hcall
                  obtain ⟨L, hL⟩ : ∃ x, mid - a1 = x := ⟨_, rfl⟩
                  obtain ⟨Rr, hRr⟩ : ∃ x, b1 - mid = x := ⟨_, rfl⟩
                  have hLI : (mid : Int) - (a1 : Int) = (L : Int) := by omega
                  have hRI : (b1 : Int) - (mid : Int) = (Rr : Int) := by omega
                  have HLL := Lib.hid hL
                  have HRR := Lib.hid hRr
                  clear hL hRr
                  rcases Nat.lt_or_ge L Rr with hc | hc
                  · have hcI : (L : Int) < (Rr : Int) := by omega
                    go_wp2_with fail
                    have hcall := HIH.out a1 mid l2 d4 W6 (by omega) (by omega) (by omega) H6.out HS6.out hl2 HBL.out
                    clear hcI
                    refine hcall.mono ?_
                    rintro e W7 ⟨rfl, D, r1, r2, r3, r4, r5⟩
                    obtain ⟨g1, g2⟩ := HL1.out D r2 r3
                    have HG1 := Lib.hid g1
                    have HG2 := Lib.hid (g2 a b d HRE3.out)
                    have H7 := Lib.hid r1
                    have HK7 := Lib.hid (HK6.out.trans r5)
                    have HS7 := Lib.hid r4
                    clear r1 r2 r3 r4 r5 g1 g2 hcall
                    go_wp2
                    go_roundw
                    case rel => exact ⟨(mid + 1), b1, l2, _, ap, D, int_eq (by omega), rfl, rfl, rfl, rfl, by omega, by omega, by omega, hl2, HS7.out, H7.out, HK7.out, HG1, HG2⟩
                    case measure => simp [intOf] <;> omega
                  · have hcI : ¬ (L : Int) < (Rr : Int) := by omega
                    go_wp2_with fail
                    have hcall := HIH.out (mid + 1) b1 l2 d4 W6 (by omega) (by omega) (by omega) H6.out HS6.out hl2 HBR.out
                    rw [show ((mid + 1 : Nat) : Int) = (mid : Int) + 1 by omega] at hcall
                    refine hcall.mono ?_
                    rintro e W7 ⟨rfl, D, r1, r2, r3, r4, r5⟩
                    obtain ⟨g1, g2⟩ := HL2.out D r2 r3
                    have HG1 := Lib.hid g1
                    have HG2 := Lib.hid (g2 a b d HRE3.out)
                    have H7 := Lib.hid r1
                    have HK7 := Lib.hid (HK6.out.trans r5)
                    have HS7 := Lib.hid r4
                    clear r1 r2 r3 r4 r5 g1 g2 hcall
                    go_wp2
                    go_roundw
                    case rel => exact ⟨a1, mid, l2, _, ap, D, rfl, rfl, rfl, rfl, rfl, by omega, by omega, by omega, hl2, HS7.out, H7.out, HK7.out, HG1, HG2⟩
                    case measure => simp [intOf] <;> omega
end Go.Proofs.Ytfdafoibclfpgaa
