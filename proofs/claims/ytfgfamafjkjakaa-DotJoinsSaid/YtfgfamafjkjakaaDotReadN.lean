/-
  Package dot: a device's numbers read.
-/
import Derived.Test.YtfgfamafjkjakaaDotDecM
namespace Go.Proofs.Ytfgfamafjkjakaa
open Go.ChangeShapes Go.WideShapes Go.ChangeAt Go.RowKit Go.Deep
set_option linter.unusedVariables false
set_option linter.unusedSimpArgs false
theorem Kp.low {R K : Nat} {w a b : World} (h : Kp R w a) (hb : Below K a b) (hK : w.heap.size ≤ K) : Kp R w b :=
  ⟨hb.os.trans h.os, hb.tape.trans h.tape, hb.output.trans h.output, Nat.le_trans h.size hb.size, fun k hk hn => (hb.block k (by omega)).trans (h.block k hk hn)⟩
theorem Kp.only {R : Nat} {w a b : World} (h : Kp R w a) (ho : Only R a b) : Kp R w b :=
  ⟨ho.1.os.trans h.os, ho.1.tape.trans h.tape, ho.1.output.trans h.output, by rw [ho.2.1]; exact h.size, fun k hk hn => (ho.2.2 k hn).trans (h.block k hk hn)⟩
/-- What a reading holds: the reader, the pair of cells being filled, its row, the cell of the result. -/
structure Rn (w : World) (B R P C : Nat) (l : List UInt8) (u : Nat) (at_ : Nat) (f : Bool) (mv : Value) (acc : List Nat) (wr : World) : Prop where
  rd : Rd wr B R l at_ f
  cell : wr.heap[P]? = some (.cells #[.int .u64 (u : Int), mv] 55 (0, 0))
  own : OwnK wr (P + 1) 30 (encN .u64) mv acc
  res : wr.heap[C]? = some (.cells #[.int .u64 0, .slice none 0 0] 55 (0, 0))
  kp : Kp R w wr
  order : R < C ∧ C < P ∧ w.heap.size ≤ C
theorem Rn.moved {w : World} {B R P C : Nat} {l : List UInt8} {u at_ a1 : Nat} {f f1 : Bool} {mv : Value} {acc : List Nat} {wr w' : World} (h : Rn w B R P C l u at_ f mv acc wr) (hr : Rd w' B R l a1 f1) (ho : Only R wr w') : Rn w B R P C l u a1 f1 mv acc w' :=
  have hord := h.order
  ⟨hr, (ho.2.2 P (by omega)).trans h.cell, h.own.same (fun g hg => ho.2.2 g (by have := (h.own.lt g hg).1; omega)), (ho.2.2 C (by omega)).trans h.res, h.kp.only ho, h.order⟩
theorem Rn.below {w : World} {B R P C : Nat} {l : List UInt8} {u at_ : Nat} {f : Bool} {mv : Value} {acc : List Nat} {wr w' : World} (h : Rn w B R P C l u at_ f mv acc wr) (hb : Below wr.heap.size wr w') : Rn w B R P C l u at_ f mv acc w' :=
  ⟨h.rd.below hb, (hb.block P (lt_of_block h.cell)).trans h.cell, h.own.below hb, (hb.block C (lt_of_block h.res)).trans h.res, h.kp.low hb h.kp.size, h.order⟩
theorem Rn.drewN {w : World} {B R P C : Nat} {l : List UInt8} {u at_ : Nat} {f : Bool} {mv : Value} {acc : List Nat} {wr : World} (h : Rn w B R P C l u at_ f mv acc wr) (n : Nat) : Rn w B R P C l u at_ f mv acc (wr.drewN n) :=
  ⟨h.rd, h.cell, h.own, h.res, ⟨h.kp.os, h.kp.tape, h.kp.output, h.kp.size, h.kp.block⟩, h.order⟩
theorem Rn.pushed {w : World} {B R P C : Nat} {l : List UInt8} {u at_ : Nat} {f : Bool} {mv v' : Value} {acc acc' : List Nat} {wr w' : World} (h : Rn w B R P C l u at_ f mv acc wr) (hb : Below (P + 1) wr w') (ho : OwnK w' (P + 1) 30 (encN .u64) v' acc') : Rn w B R P C l u at_ f v' acc' (w'.setCell ⟨P, 1, none⟩ v') := by
  have hord := h.order
  have hcl := (hb.block P (by omega)).trans h.cell
  have hb2 : Below P w' (w'.setCell ⟨P, 1, none⟩ v') := (Below.refl _ _).setCell (p := ⟨P, 1, none⟩) (Nat.le_refl _) _
  refine ⟨(h.rd.under hb.size (fun k hk => hb.block k (by omega))).under hb2.size (fun k hk => hb2.block k (by omega)), ?_, ho.same (fun g hg => Below.heap_setCell _ _ _ _ (by have := (ho.lt g hg).1; show g ≠ P; omega)), (hb2.block C (by omega)).trans ((hb.block C (by omega)).trans h.res), (h.kp.low hb (by omega)).low hb2 (by omega), h.order⟩
  rw [heap_setCell_same _ _ _ _ _ _ hcl]
  rfl
theorem Rn.result {w : World} {B R P C : Nat} {l : List UInt8} {u at_ : Nat} {f : Bool} {mv : Value} {acc : List Nat} {wr : World} (h : Rn w B R P C l u at_ f mv acc wr) (x y : Value) : Rd ((wr.setCell ⟨C, 0, none⟩ x).setCell ⟨C, 1, none⟩ y) B R l at_ f ∧ Kp R w ((wr.setCell ⟨C, 0, none⟩ x).setCell ⟨C, 1, none⟩ y) := by
  have hord := h.order
  have hb2 : Below C wr ((wr.setCell ⟨C, 0, none⟩ x).setCell ⟨C, 1, none⟩ y) := ((Below.refl _ _).setCell (p := ⟨C, 0, none⟩) (Nat.le_refl _) _).setCell (p := ⟨C, 1, none⟩) (Nat.le_refl _) _
  exact ⟨h.rd.under hb2.size (fun k hk => hb2.block k (by omega)), h.kp.low hb2 (by omega)⟩
theorem size_nb2 {a b : Value} : (Try.prog.info? 55).map (·.size) = some (#[a, b] : Array Value).size := by
  show _ = some 2
  kernel_rfl
theorem TwoC.res {C : Nat} {x y : Value} {W : World} (h : TwoC ⟨C + 1, 0, none⟩ ⟨C + 1, 1, none⟩ x y W) (a b : Value) : TwoC ⟨C + 1, 0, none⟩ ⟨C + 1, 1, none⟩ x y ((W.setCell ⟨C, 0, none⟩ a).setCell ⟨C, 1, none⟩ b) :=
  have hn : C ≠ C + 1 := by omega
  ⟨(World.cell?_setCell_far _ _ _ _ hn).trans ((World.cell?_setCell_far _ _ _ _ hn).trans h.1), (World.cell?_setCell_far _ _ _ _ hn).trans ((World.cell?_setCell_far _ _ _ _ hn).trans h.2)⟩
set_option maxRecDepth 100000 in
set_option maxHeartbeats 16000000 in
theorem ReadNums_any (w : World) (B R : Nat) (l : List UInt8) (at_ : Nat) (f : Bool) (h : Rd w B R l at_ f) (q : Nm) (ok : Bool) (a9 : Nat) (f9 : Bool) (hq : rNum l at_ f = ((q, ok), a9, f9)) :
    Calls Try.prog 30 #[.pointer (some ⟨R, 0, none⟩)] w fun e w' => ∃ mv, e = .returned (.tuple #[.agg #[.int .u64 (q.upto : Int), mv], .bool ok]) ∧ HasU w' mv q.more ∧ Rd w' B R l a9 f9 ∧ Kp R w w' := by
  have hRw := h.lt
  have hb0 := (Below.refl w.heap.size w).alloc (Nat.le_refl _) (.cells #[.int .u64 0, .slice none 0 0] 55)
  have hn0 := heap_alloc_new w (.cells #[.int .u64 0, .slice none 0 0] 55)
  have hz0 : (w.alloc (.cells #[.int .u64 0, .slice none 0 0] 55)).heap.size = w.heap.size + 1 := World.size_alloc _ _
  have HR0 := Lib.hid (h.below hb0)
  have HB0 := Lib.hid hb0
  have HN0 := Lib.hid hn0
  have HZ0 := Lib.hid hz0
  have hum := rI_most l at_ f 1099511627776 (by decide)
  obtain ⟨⟨u, a2, f2⟩, hu⟩ : ∃ x, rI l at_ f 1099511627776 = x := ⟨_, rfl⟩
  have hnm := rI_most l a2 f2 4096 (by decide)
  obtain ⟨⟨n, a3, f3⟩, hn⟩ : ∃ x, rI l a2 f2 4096 = x := ⟨_, rfl⟩
  have hrn : rNum l at_ f = if (rStep l n a3 f3 u 2 []).1 then ((⟨u, (rStep l n a3 f3 u 2 []).2.1⟩, live ⟨u, (rStep l n a3 f3 u 2 []).2.1⟩ && !(rStep l n a3 f3 u 2 []).2.2.2), (rStep l n a3 f3 u 2 []).2.2.1, (rStep l n a3 f3 u 2 []).2.2.2) else ((Nm.zero, false), (rStep l n a3 f3 u 2 []).2.2.1, (rStep l n a3 f3 u 2 []).2.2.2) := by
    unfold rNum
    simp only [hu, hn]
  rw [hq] at hrn
  rw [hu] at hum
  rw [hn] at hnm
  simp only at hum hnm
  have HU := Lib.hid hu
  have HNN := Lib.hid hn
  have HRN := Lib.hid hrn
  clear hu hn hrn hq h hb0 hn0 hz0
  have hu0 : (0 : Int) ≤ (u : Int) := by omega
  go_enter Try.func30, Try.ntmps30
  go_wp2_with fail
  refine (Int_at _ B R l at_ f 1099511627776 (by decide) (by decide) HR0.out u a2 f2 HU.out).mono ?_
  rintro e w1 ⟨rfl, hr1, ho1⟩
  have hz1 : w1.heap.size = w.heap.size + 1 := by rw [ho1.2.1, HZ0.out]
  have hrn1 : Rd w1 B R l a2 f2 ∧ w1.heap[w.heap.size]? = some (.cells #[.int .u64 0, .slice none 0 0] 55 (0, 0)) ∧ Kp R w w1 := ⟨hr1, (ho1.2.2 _ (by omega)).trans HN0.out, (Kp.of_below HB0.out).only ho1⟩
  have HRN1 := Lib.hid hrn1
  clear hr1 ho1 hrn1
  go_wp2_with fail
  have hrn2 : Rn w B R (w.heap.size + 1) w.heap.size l u a2 f2 (.slice none 0 0) [] (w1.alloc (.cells #[.int .u64 (u : Int), .slice none 0 0] 55)) := by
    obtain ⟨k1, k2, k3⟩ := HRN1.out
    have hb := (Below.refl w1.heap.size w1).alloc (Nat.le_refl _) (.cells #[.int .u64 (u : Int), .slice none 0 0] 55)
    exact ⟨k1.below hb, by rw [← hz1]; exact heap_alloc_new _ _, OwnK.nil _ _ _ _, (hb.block _ (by omega)).trans k2, k3.low hb (by omega), hRw, Nat.lt_succ_self _, Nat.le_refl _⟩
  generalize w1.alloc (.cells #[.int .u64 (u : Int), .slice none 0 0] 55) = w2 at *
  obtain ⟨C, hC⟩ : ∃ C, w.heap.size = C := ⟨_, rfl⟩
  rw [hC] at hrn2 ⊢
  refine (Int_at w2 B R l a2 f2 4096 (by decide) (by decide) hrn2.rd n a3 f3 HNN.out).mono ?_
  rintro e w3 ⟨rfl, hr3, ho3⟩
  have HR3 := Lib.hid (hrn2.moved hr3 ho3)
  have HCC := Lib.hid hC
  have hn4 : (0 : Int) ≤ (n : Int) ∧ (n : Int) ≤ 4096 := by omega
  clear hr3 ho3 hrn2 hz1 hC hRw
  go_wp2_with fail
  go_loopw [5, 6, 17] (fun v5 v6 vi wr => ∃ (k last least : Nat) (acc : List Nat) (mv : Value) (at1 : Nat) (f1 : Bool), vi = .int .i64 (k : Int) ∧ v5 = .int .u64 (last : Int) ∧ v6 = .int .u64 (least : Int) ∧ k ≤ n ∧ last ≤ 1099511627776 ∧ least ≤ 2 ∧ acc.length = k ∧ Rn w B R (C + 1) C l u at1 f1 mv acc wr ∧ rStep l n a3 f3 u 2 [] = rStep l (n - k) at1 f1 last least acc) (fun _ _ vi _ => n - (intOf vi).toNat)
  case atStart => exact ⟨0, u, 2, [], _, a3, f3, rfl, rfl, rfl, Nat.zero_le _, by omega, Nat.le_refl _, rfl, HR3.out, rfl⟩
  case round =>
    obtain ⟨k, last, least, acc, mv, at1, f1, rfl, rfl, rfl, hk, hlast, hleast, hacc, hrn, hst⟩ := hrel
    have HST := Lib.hid hst
    have HRR := Lib.hid hrn
    have HAC := Lib.hid hacc
    obtain ⟨W0, rfl⟩ : ∃ W0, W0 = wr := ⟨wr, rfl⟩
    clear hst hacc
    rcases Nat.lt_or_ge k n with hlt | hge
    · have hkI : (k : Int) < (n : Int) := by omega
      obtain ⟨c, hc⟩ : ∃ c, n - k = c + 1 := ⟨n - k - 1, by omega⟩
      have hxm := rI_most l at1 f1 1099511627776 (by decide)
      obtain ⟨⟨x, a5, f5⟩, hx⟩ : ∃ x, rI l at1 f1 1099511627776 = x := ⟨_, rfl⟩
      rw [hx] at hxm
      simp only at hxm
      have hx0 : (0 : Int) ≤ (x : Int) := by omega
      have HX := Lib.hid hx
      have hbad := rStep_bad (c := c) (last := last) (least := least) (acc := acc) hx
      have hgood := rStep_good (c := c) (last := last) (least := least) (acc := acc) hx
      rw [← hc, ← HST.out] at hbad hgood
      have HBAD := Lib.hid hbad
      have HGOOD := Lib.hid hgood
      have hc1 : c = n - (k + 1) := by omega
      have HC1 := Lib.hid hc1
      clear hx hbad hgood hc hrn hc1
      go_wp2_with fail
      refine (Int_at W0 B R l at1 f1 1099511627776 (by decide) (by decide) HRR.out.rd x a5 f5 HX.out).mono ?_
      rintro e w5 ⟨rfl, hr5, ho5⟩
      have HR5 := Lib.hid (HRR.out.moved hr5 ho5)
      clear hr5 ho5
      obtain ⟨s, hs⟩ : ∃ s, last + x = s := ⟨_, rfl⟩
      have hsum : IntKind.u64.wrap ((last : Int) + (x : Int)) = (s : Int) := by rw [IntKind.wrap_u64]; omega
      rw [hs] at HBAD HGOOD
      have HS := Lib.hid hs
      have hres := HR5.out.res
      have e0 : w5.cell? ⟨C, 0, none⟩ = some (.int .u64 0) := by simp [World.cell?, hres]
      have e1 : w5.cell? ⟨C, 1, none⟩ = some (.slice none 0 0) := by simp [World.cell?, hres]
      have z0 : w5.frozen? ⟨C, 0, none⟩ = false := by simp [World.frozen?, hres]
      have z1 : w5.frozen? ⟨C, 1, none⟩ = false := by simp [World.frozen?, hres]
      have hcl := HR5.out.cell
      have c1 : w5.cell? ⟨C + 1, 1, none⟩ = some mv := by simp [World.cell?, hcl]
      have y1 : w5.frozen? ⟨C + 1, 1, none⟩ = false := by simp [World.frozen?, hcl]
      clear hres hcl
      rcases Nat.lt_or_ge x least with hxl | hxl
      · have hI : (x : Int) < (least : Int) := by omega
        have hb9 := HRN.out
        rw [HBAD.out (.inl hxl)] at hb9
        simp only [Bool.false_eq_true, if_false, Prod.mk.injEq] at hb9
        obtain ⟨⟨rfl, rfl⟩, rfl, rfl⟩ := hb9
        clear hxl
        go_wp2
        refine bodyPost_ret (v := .tuple #[.agg #[.int .u64 0, .slice none 0 0], .bool false]) (results_cell_row_tmp 2 3 rfl _ _ C 55 _ (0, 0) _ _ rfl rfl (two_set HR5.out.res) Try.underlying55 rfl size_nb2) rfl ⟨_, rfl, HasU.nil _, HR5.out.result _ _⟩
      rcases Nat.lt_or_ge 1099511627776 s with hxs | hxs
      · have hI : ¬ (x : Int) < (least : Int) := by omega
        have hI2 : (1099511627776 : Int) < (s : Int) := by omega
        have hb9 := HRN.out
        rw [HBAD.out (.inr hxs)] at hb9
        simp only [Bool.false_eq_true, if_false, Prod.mk.injEq] at hb9
        obtain ⟨⟨rfl, rfl⟩, rfl, rfl⟩ := hb9
        clear hxl hxs
        go_wp2
        refine bodyPost_ret (v := .tuple #[.agg #[.int .u64 0, .slice none 0 0], .bool false]) (results_cell_row_tmp 2 3 rfl _ _ C 55 _ (0, 0) _ _ rfl rfl (two_set HR5.out.res) Try.underlying55 rfl size_nb2) rfl ⟨_, rfl, HasU.nil _, HR5.out.result _ _⟩
      · have hI : ¬ (x : Int) < (least : Int) := by omega
        have hI2 : ¬ (1099511627776 : Int) < (s : Int) := by omega
        have HG9 := Lib.hid (HGOOD.out (by omega))
        have hb6 := (Below.refl w5.heap.size w5).alloc (Nat.le_refl _) (.cells #[.int .u64 (s : Int)] 30)
        have HR6 := Lib.hid (HR5.out.below hb6)
        have hy6 : HasK (w5.alloc (.cells #[.int .u64 (s : Int)] 30)) (encN .u64) (.slice (some ⟨w5.heap.size, 0, none⟩) 1 1) [s] := by
          have hn6 := heap_alloc_new w5 (.cells #[.int .u64 (s : Int)] 30)
          refine ⟨_, 1, w5.heap.size, 0, rfl, Nat.le_refl _, by unfold maxLen; omega, fun _ => ⟨rfl, lt_of_block hn6⟩, fun i hi j v hv => ?_⟩
          obtain rfl : i = 0 := by simp at hi; omega
          have hj : j < 1 := (List.getElem?_eq_some_iff.1 hv).1
          obtain rfl : j = 0 := by omega
          simp only [World.cell?, hn6]
          simpa [encN] using hv
        have HY6 := Lib.hid hy6
        have hz6 : C + 1 + 1 ≤ (w5.alloc (.cells #[.int .u64 (s : Int)] 30)).heap.size := by
          have := lt_of_block HR6.out.cell
          omega
        clear hxl hxs hb6 hy6 e0 e1 z0 z1 y1
        go_upto_region 9 with fail
        go_wp2_with (at_builtin; refine wpList_append_k rfl (.tmp 36) (.tmp 38) 51 rfl (C + 1 + 1) 30 (encN .u64) (.int .u64 0) 8 Try.underlying51 info_n64 rfl (by decide) _ acc rfl HR6.out.own _ [s] rfl HY6.out Nat.one_pos (by have z := HAC.out; show acc.length + 1 ≤ 1000000000; omega) hz6 _ (Below.refl _ _) (fun v7 w7 ho7 hb7 _ _ => ?_); obtain ⟨p7, c7, rfl, -, -⟩ := ho7.sl; have hcl7 := (hb7.block (C + 1) (Nat.lt_succ_self _)).trans HR6.out.cell; have k7 : w7.cell? ⟨C + 1, 1, none⟩ = some mv := (by simp [World.cell?, hcl7]); have y7 : w7.frozen? ⟨C + 1, 1, none⟩ = false := (by simp [World.frozen?, hcl7]); have HR7 := Lib.hid (HR6.out.pushed hb7 ho7); clear hcl7 hb7 ho7)
        go_roundw
        case rel =>
          exact ⟨k + 1, s, 1, acc ++ [s], _, a5, f5, by go_num, rfl, rfl, hlt, by omega, by omega, by rw [List.length_append, List.length_singleton, HAC.out], (by have z := HR7.out; rw [List.length_append, List.length_singleton] at z; exact z), by rw [HG9.out, HC1.out]⟩
        case measure => simp [intOf] <;> omega
    · obtain rfl : k = n := by omega
      have hkI : ¬ (k : Int) < (k : Int) := by omega
      have hfin := HRN.out
      rw [HST.out, Nat.sub_self] at hfin
      have hz9 : rStep l 0 at1 f1 last least acc = (true, acc, at1, f1) := rfl
      rw [hz9] at hfin
      simp only [if_true, Prod.mk.injEq] at hfin
      clear hz9
      obtain ⟨⟨rfl, hok⟩, rfl, rfl⟩ := hfin
      have HOKE := Lib.hid hok
      obtain ⟨p9, c9, rfl, -, -⟩ := hrn.own.sl
      have hcl := HRR.out.cell
      have c0 : W0.cell? ⟨C + 1, 0, none⟩ = some (.int .u64 (u : Int)) := by simp [World.cell?, hcl]
      have c1 : W0.cell? ⟨C + 1, 1, none⟩ = some (.slice p9 acc.length c9) := by simp [World.cell?, hcl]
      have hlv : live ⟨u, acc⟩ = (decide (0 < u) || decide (0 < acc.length)) := rfl
      have HLV := Lib.hid hlv
      obtain ⟨m, hm⟩ : ∃ m, acc.length = m := ⟨_, rfl⟩
      have HM := Lib.hid hm
      rw [hm] at c1 HRR HLV
      clear hok hcl hm hrn hlv
      obtain ⟨zu, hzu⟩ : ∃ z : Int, (u : Int) = z := ⟨_, rfl⟩
      rw [hzu] at c0 ⊢
      have HZU := Lib.hid hzu
      clear hzu
      rcases Nat.lt_or_ge 0 u with hu1 | hu1
      · have hI1 : (0 : Int) < zu := by have := HZU.out; omega
        have HLVV := Lib.hid (show live ⟨u, acc⟩ = true by rw [HLV.out, decide_eq_true hu1, Bool.true_or])
        clear hu1
        cases f9
        · have HOKK := Lib.hid (show ok = true by rw [HOKE.out, HLVV.out]; rfl)
          go_upto_region 12 with fail
          refine wp_region_held_drew (S := fun W => TwoC ⟨C + 1, 0, none⟩ ⟨C + 1, 1, none⟩ (.int .u64 zu) (.slice p9 m c9) W) (by kernel_rfl) ⟨c0, c1⟩ (fun hHeld => ?_)
          refine wpAnyH_take (i := 0) (oi := _) (v := .agg #[.int .u64 zu, .slice p9 m c9]) rfl (by kernel_rfl) (by kernel_rfl) (by kernel_rfl) (fun _ _ _ h => h) (Or.inl ⟨by kernel_rfl, ?hy1⟩) (by assumption) ?_
          case hy1 =>
            intro w9 hSw
            try dsimp only at hSw
            try simp only [List.getElem_toArray, List.getElem_cons_zero, List.getElem_cons_succ]
            go_simp
            obtain ⟨hx0, hx1⟩ := hSw
            try go_simp
            try with_reducible rfl
          try simp only [Act.put, List.setIfInBounds_toArray, List.set_cons_zero, List.set_cons_succ, List.getElem_toArray, List.getElem_cons_zero, List.getElem_cons_succ]
          refine wpAnyH_take (i := 1) (oi := _) (v := ?_) rfl (by kernel_rfl) (by kernel_rfl) (by kernel_rfl) (fun _ _ _ h => h) (Or.inl ⟨by kernel_rfl, ?hy2⟩) (by assumption) ?_
          case hy2 =>
            intro w9 hSw
            try dsimp only at hSw
            try simp only [List.getElem_toArray, List.getElem_cons_zero, List.getElem_cons_succ]
            go_simp
            try with_reducible rfl
          try simp only [Act.put, List.setIfInBounds_toArray, List.set_cons_zero, List.set_cons_succ, List.getElem_toArray, List.getElem_cons_zero, List.getElem_cons_succ]
          refine wpAnyH_take (i := 2) (oi := _) (v := ?_) rfl (by kernel_rfl) (by kernel_rfl) (by kernel_rfl) (fun _ _ _ h => h) (Or.inl ⟨by kernel_rfl, ?hy3⟩) (by assumption) ?_
          case hy3 =>
            intro w9 hSw
            try dsimp only at hSw
            try simp only [List.getElem_toArray, List.getElem_cons_zero, List.getElem_cons_succ]
            go_simp
            try with_reducible rfl
          try simp only [Act.put, List.setIfInBounds_toArray, List.set_cons_zero, List.set_cons_succ, List.getElem_toArray, List.getElem_cons_zero, List.getElem_cons_succ]
          refine wpAnyH_take (i := 3) (oi := _) (v := ?_) rfl (by kernel_rfl) (by kernel_rfl) (by kernel_rfl) (fun _ _ _ h => h) (Or.inl ⟨by kernel_rfl, ?hy4⟩) (by assumption) ?_
          case hy4 =>
            intro w9 hSw
            try dsimp only at hSw
            try simp only [List.getElem_toArray, List.getElem_cons_zero, List.getElem_cons_succ]
            go_simp
            try with_reducible rfl
          try simp only [Act.put, List.setIfInBounds_toArray, List.set_cons_zero, List.set_cons_succ, List.getElem_toArray, List.getElem_cons_zero, List.getElem_cons_succ]
          refine wpAnyH_ready (rs := [4]) (by kernel_rfl) (by simp) (AllReadyH.cons (o := _) rfl (fun K hK => ?_) AllReadyH.nil)
          try simp only [List.getElem_toArray, List.getElem_cons_zero, List.getElem_cons_succ]
          go_simp
          refine (Err_rd _ B R l a9 false ((HRR.out.drewN 1).rd)).mono ?_
          rintro e w9 ⟨rfl, rfl⟩
          refine hK.out _ _ (hHeld) (fun hHeld => ?_)
          clear hK K
          try simp only [Act.put, List.setIfInBounds_toArray, List.set_cons_zero, List.set_cons_succ, List.getElem_toArray, List.getElem_cons_zero, List.getElem_cons_succ]
          refine wpAnyH_take (i := 5) (oi := _) (v := ?_) rfl (by kernel_rfl) (by kernel_rfl) (by kernel_rfl) (fun _ _ _ h => h) (Or.inl ⟨by kernel_rfl, ?hy5⟩) (by assumption) ?_
          case hy5 =>
            intro w9 hSw
            try dsimp only at hSw
            try simp only [List.getElem_toArray, List.getElem_cons_zero, List.getElem_cons_succ]
            go_simp
            try with_reducible rfl
          try simp only [Act.put, List.setIfInBounds_toArray, List.set_cons_zero, List.set_cons_succ, List.getElem_toArray, List.getElem_cons_zero, List.getElem_cons_succ]
          refine wpAnyH_take (i := 6) (oi := _) (v := ?_) rfl (by kernel_rfl) (by kernel_rfl) (by kernel_rfl) (fun _ _ _ h => h) (Or.inl ⟨by kernel_rfl, ?hy6⟩) (by assumption) ?_
          case hy6 =>
            intro w9 hSw
            try dsimp only at hSw
            try simp only [List.getElem_toArray, List.getElem_cons_zero, List.getElem_cons_succ]
            go_simp
            try with_reducible rfl
          try simp only [Act.put, List.setIfInBounds_toArray, List.set_cons_zero, List.set_cons_succ, List.getElem_toArray, List.getElem_cons_zero, List.getElem_cons_succ]
          have hre := HRR.out.res
          have e0 : (W0.drewN 1).cell? ⟨C, 0, none⟩ = some (.int .u64 0) := by show W0.cell? _ = _; simp [World.cell?, hre]
          have e1 : (W0.drewN 1).cell? ⟨C, 1, none⟩ = some (.slice none 0 0) := by show W0.cell? _ = _; simp [World.cell?, hre]
          have z0 : (W0.drewN 1).frozen? ⟨C, 0, none⟩ = false := by show W0.frozen? _ = _; simp [World.frozen?, hre]
          have z1 : (W0.drewN 1).frozen? ⟨C, 1, none⟩ = false := by show W0.frozen? _ = _; simp [World.frozen?, hre]
          clear hre
          refine wpAnyH_ready (rs := [7]) (by kernel_rfl) (by simp) (AllReadyH.cons (o := _) rfl (fun K hK => ?_) AllReadyH.nil)
          try simp only [List.getElem_toArray, List.getElem_cons_zero, List.getElem_cons_succ]
          go_simp
          refine hK.out _ _ ((hHeld.res _ _)) (fun hHeld => ?_)
          clear hK K
          try simp only [Act.put, List.setIfInBounds_toArray, List.set_cons_zero, List.set_cons_succ, List.getElem_toArray, List.getElem_cons_zero, List.getElem_cons_succ]
          refine wpAnyH_take (i := 8) (oi := _) (v := ?_) rfl (by kernel_rfl) (by kernel_rfl) (by kernel_rfl) (fun _ _ _ h => h) (Or.inl ⟨by kernel_rfl, ?hy7⟩) (by assumption) ?_
          case hy7 =>
            intro w9 hSw
            try dsimp only at hSw
            try simp only [List.getElem_toArray, List.getElem_cons_zero, List.getElem_cons_succ]
            go_simp
            try with_reducible rfl
          try simp only [Act.put, List.setIfInBounds_toArray, List.set_cons_zero, List.set_cons_succ, List.getElem_toArray, List.getElem_cons_zero, List.getElem_cons_succ]
          refine wpAnyH_done (by kernel_rfl) ?_ _
          go_wp2
          refine bodyPost_ret (v := .tuple #[.agg #[.int .u64 zu, .slice p9 m c9], .bool true]) (results_cell_row_tmp 2 3 rfl _ _ C 55 _ (0, 0) _ _ rfl rfl (two_set (show (W0.drewN 1).heap[C]? = _ from HRR.out.res)) Try.underlying55 rfl size_nb2) rfl ⟨_, by rw [HOKK.out, HZU.out], by have z := (HasU.of_own HRR.out.own).two (x := .int .u64 zu) (y := .slice p9 m c9) HRR.out.res; exact z, (HRR.out.drewN 1).result _ _⟩
        · have HOKK := Lib.hid (show ok = false by rw [HOKE.out, HLVV.out]; rfl)
          go_upto_region 12 with fail
          refine wp_region_held_drew (S := fun W => TwoC ⟨C + 1, 0, none⟩ ⟨C + 1, 1, none⟩ (.int .u64 zu) (.slice p9 m c9) W) (by kernel_rfl) ⟨c0, c1⟩ (fun hHeld => ?_)
          refine wpAnyH_take (i := 0) (oi := _) (v := .agg #[.int .u64 zu, .slice p9 m c9]) rfl (by kernel_rfl) (by kernel_rfl) (by kernel_rfl) (fun _ _ _ h => h) (Or.inl ⟨by kernel_rfl, ?hy8⟩) (by assumption) ?_
          case hy8 =>
            intro w9 hSw
            try dsimp only at hSw
            try simp only [List.getElem_toArray, List.getElem_cons_zero, List.getElem_cons_succ]
            go_simp
            obtain ⟨hx0, hx1⟩ := hSw
            try go_simp
            try with_reducible rfl
          try simp only [Act.put, List.setIfInBounds_toArray, List.set_cons_zero, List.set_cons_succ, List.getElem_toArray, List.getElem_cons_zero, List.getElem_cons_succ]
          refine wpAnyH_take (i := 1) (oi := _) (v := ?_) rfl (by kernel_rfl) (by kernel_rfl) (by kernel_rfl) (fun _ _ _ h => h) (Or.inl ⟨by kernel_rfl, ?hy9⟩) (by assumption) ?_
          case hy9 =>
            intro w9 hSw
            try dsimp only at hSw
            try simp only [List.getElem_toArray, List.getElem_cons_zero, List.getElem_cons_succ]
            go_simp
            try with_reducible rfl
          try simp only [Act.put, List.setIfInBounds_toArray, List.set_cons_zero, List.set_cons_succ, List.getElem_toArray, List.getElem_cons_zero, List.getElem_cons_succ]
          refine wpAnyH_take (i := 2) (oi := _) (v := ?_) rfl (by kernel_rfl) (by kernel_rfl) (by kernel_rfl) (fun _ _ _ h => h) (Or.inl ⟨by kernel_rfl, ?hy10⟩) (by assumption) ?_
          case hy10 =>
            intro w9 hSw
            try dsimp only at hSw
            try simp only [List.getElem_toArray, List.getElem_cons_zero, List.getElem_cons_succ]
            go_simp
            try with_reducible rfl
          try simp only [Act.put, List.setIfInBounds_toArray, List.set_cons_zero, List.set_cons_succ, List.getElem_toArray, List.getElem_cons_zero, List.getElem_cons_succ]
          refine wpAnyH_take (i := 3) (oi := _) (v := ?_) rfl (by kernel_rfl) (by kernel_rfl) (by kernel_rfl) (fun _ _ _ h => h) (Or.inl ⟨by kernel_rfl, ?hy11⟩) (by assumption) ?_
          case hy11 =>
            intro w9 hSw
            try dsimp only at hSw
            try simp only [List.getElem_toArray, List.getElem_cons_zero, List.getElem_cons_succ]
            go_simp
            try with_reducible rfl
          try simp only [Act.put, List.setIfInBounds_toArray, List.set_cons_zero, List.set_cons_succ, List.getElem_toArray, List.getElem_cons_zero, List.getElem_cons_succ]
          refine wpAnyH_ready (rs := [4]) (by kernel_rfl) (by simp) (AllReadyH.cons (o := _) rfl (fun K hK => ?_) AllReadyH.nil)
          try simp only [List.getElem_toArray, List.getElem_cons_zero, List.getElem_cons_succ]
          go_simp
          refine (Err_rd _ B R l a9 true ((HRR.out.drewN 1).rd)).mono ?_
          rintro e w9 ⟨rfl, rfl⟩
          refine hK.out _ _ (hHeld) (fun hHeld => ?_)
          clear hK K
          try simp only [Act.put, List.setIfInBounds_toArray, List.set_cons_zero, List.set_cons_succ, List.getElem_toArray, List.getElem_cons_zero, List.getElem_cons_succ]
          refine wpAnyH_take (i := 5) (oi := _) (v := ?_) rfl (by kernel_rfl) (by kernel_rfl) (by kernel_rfl) (fun _ _ _ h => h) (Or.inl ⟨by kernel_rfl, ?hy12⟩) (by assumption) ?_
          case hy12 =>
            intro w9 hSw
            try dsimp only at hSw
            try simp only [List.getElem_toArray, List.getElem_cons_zero, List.getElem_cons_succ]
            go_simp
            try with_reducible rfl
          try simp only [Act.put, List.setIfInBounds_toArray, List.set_cons_zero, List.set_cons_succ, List.getElem_toArray, List.getElem_cons_zero, List.getElem_cons_succ]
          refine wpAnyH_take (i := 6) (oi := _) (v := ?_) rfl (by kernel_rfl) (by kernel_rfl) (by kernel_rfl) (fun _ _ _ h => h) (Or.inl ⟨by kernel_rfl, ?hy13⟩) (by assumption) ?_
          case hy13 =>
            intro w9 hSw
            try dsimp only at hSw
            try simp only [List.getElem_toArray, List.getElem_cons_zero, List.getElem_cons_succ]
            go_simp
            try with_reducible rfl
          try simp only [Act.put, List.setIfInBounds_toArray, List.set_cons_zero, List.set_cons_succ, List.getElem_toArray, List.getElem_cons_zero, List.getElem_cons_succ]
          have hre := HRR.out.res
          have e0 : (W0.drewN 1).cell? ⟨C, 0, none⟩ = some (.int .u64 0) := by show W0.cell? _ = _; simp [World.cell?, hre]
          have e1 : (W0.drewN 1).cell? ⟨C, 1, none⟩ = some (.slice none 0 0) := by show W0.cell? _ = _; simp [World.cell?, hre]
          have z0 : (W0.drewN 1).frozen? ⟨C, 0, none⟩ = false := by show W0.frozen? _ = _; simp [World.frozen?, hre]
          have z1 : (W0.drewN 1).frozen? ⟨C, 1, none⟩ = false := by show W0.frozen? _ = _; simp [World.frozen?, hre]
          clear hre
          refine wpAnyH_ready (rs := [7]) (by kernel_rfl) (by simp) (AllReadyH.cons (o := _) rfl (fun K hK => ?_) AllReadyH.nil)
          try simp only [List.getElem_toArray, List.getElem_cons_zero, List.getElem_cons_succ]
          go_simp
          refine hK.out _ _ ((hHeld.res _ _)) (fun hHeld => ?_)
          clear hK K
          try simp only [Act.put, List.setIfInBounds_toArray, List.set_cons_zero, List.set_cons_succ, List.getElem_toArray, List.getElem_cons_zero, List.getElem_cons_succ]
          refine wpAnyH_take (i := 8) (oi := _) (v := ?_) rfl (by kernel_rfl) (by kernel_rfl) (by kernel_rfl) (fun _ _ _ h => h) (Or.inl ⟨by kernel_rfl, ?hy14⟩) (by assumption) ?_
          case hy14 =>
            intro w9 hSw
            try dsimp only at hSw
            try simp only [List.getElem_toArray, List.getElem_cons_zero, List.getElem_cons_succ]
            go_simp
            try with_reducible rfl
          try simp only [Act.put, List.setIfInBounds_toArray, List.set_cons_zero, List.set_cons_succ, List.getElem_toArray, List.getElem_cons_zero, List.getElem_cons_succ]
          refine wpAnyH_done (by kernel_rfl) ?_ _
          go_wp2
          refine bodyPost_ret (v := .tuple #[.agg #[.int .u64 zu, .slice p9 m c9], .bool false]) (results_cell_row_tmp 2 3 rfl _ _ C 55 _ (0, 0) _ _ rfl rfl (two_set (show (W0.drewN 1).heap[C]? = _ from HRR.out.res)) Try.underlying55 rfl size_nb2) rfl ⟨_, by rw [HOKK.out, HZU.out], by have z := (HasU.of_own HRR.out.own).two (x := .int .u64 zu) (y := .slice p9 m c9) HRR.out.res; exact z, (HRR.out.drewN 1).result _ _⟩
      · have hI1 : ¬ (0 : Int) < zu := by have := HZU.out; omega
        rcases Nat.lt_or_ge 0 m with hm1 | hm1
        · have hI2 : (0 : Int) < (m : Int) := by omega
          have HLVV := Lib.hid (show live ⟨u, acc⟩ = true by rw [HLV.out, decide_eq_true hm1, Bool.or_true])
          clear hu1
          cases f9
          · have HOKK := Lib.hid (show ok = true by rw [HOKE.out, HLVV.out]; rfl)
            go_upto_region 12 with fail
            refine wp_region_held_drew (S := fun W => TwoC ⟨C + 1, 0, none⟩ ⟨C + 1, 1, none⟩ (.int .u64 zu) (.slice p9 m c9) W) (by kernel_rfl) ⟨c0, c1⟩ (fun hHeld => ?_)
            refine wpAnyH_take (i := 0) (oi := _) (v := .agg #[.int .u64 zu, .slice p9 m c9]) rfl (by kernel_rfl) (by kernel_rfl) (by kernel_rfl) (fun _ _ _ h => h) (Or.inl ⟨by kernel_rfl, ?hy15⟩) (by assumption) ?_
            case hy15 =>
              intro w9 hSw
              try dsimp only at hSw
              try simp only [List.getElem_toArray, List.getElem_cons_zero, List.getElem_cons_succ]
              go_simp
              obtain ⟨hx0, hx1⟩ := hSw
              try go_simp
              try with_reducible rfl
            try simp only [Act.put, List.setIfInBounds_toArray, List.set_cons_zero, List.set_cons_succ, List.getElem_toArray, List.getElem_cons_zero, List.getElem_cons_succ]
            refine wpAnyH_take (i := 1) (oi := _) (v := ?_) rfl (by kernel_rfl) (by kernel_rfl) (by kernel_rfl) (fun _ _ _ h => h) (Or.inl ⟨by kernel_rfl, ?hy16⟩) (by assumption) ?_
            case hy16 =>
              intro w9 hSw
              try dsimp only at hSw
              try simp only [List.getElem_toArray, List.getElem_cons_zero, List.getElem_cons_succ]
              go_simp
              try with_reducible rfl
            try simp only [Act.put, List.setIfInBounds_toArray, List.set_cons_zero, List.set_cons_succ, List.getElem_toArray, List.getElem_cons_zero, List.getElem_cons_succ]
            refine wpAnyH_take (i := 2) (oi := _) (v := ?_) rfl (by kernel_rfl) (by kernel_rfl) (by kernel_rfl) (fun _ _ _ h => h) (Or.inl ⟨by kernel_rfl, ?hy17⟩) (by assumption) ?_
            case hy17 =>
              intro w9 hSw
              try dsimp only at hSw
              try simp only [List.getElem_toArray, List.getElem_cons_zero, List.getElem_cons_succ]
              go_simp
              try with_reducible rfl
            try simp only [Act.put, List.setIfInBounds_toArray, List.set_cons_zero, List.set_cons_succ, List.getElem_toArray, List.getElem_cons_zero, List.getElem_cons_succ]
            refine wpAnyH_take (i := 3) (oi := _) (v := ?_) rfl (by kernel_rfl) (by kernel_rfl) (by kernel_rfl) (fun _ _ _ h => h) (Or.inl ⟨by kernel_rfl, ?hy18⟩) (by assumption) ?_
            case hy18 =>
              intro w9 hSw
              try dsimp only at hSw
              try simp only [List.getElem_toArray, List.getElem_cons_zero, List.getElem_cons_succ]
              go_simp
              try with_reducible rfl
            try simp only [Act.put, List.setIfInBounds_toArray, List.set_cons_zero, List.set_cons_succ, List.getElem_toArray, List.getElem_cons_zero, List.getElem_cons_succ]
            refine wpAnyH_ready (rs := [4]) (by kernel_rfl) (by simp) (AllReadyH.cons (o := _) rfl (fun K hK => ?_) AllReadyH.nil)
            try simp only [List.getElem_toArray, List.getElem_cons_zero, List.getElem_cons_succ]
            go_simp
            refine (Err_rd _ B R l a9 false ((HRR.out.drewN 1).rd)).mono ?_
            rintro e w9 ⟨rfl, rfl⟩
            refine hK.out _ _ (hHeld) (fun hHeld => ?_)
            clear hK K
            try simp only [Act.put, List.setIfInBounds_toArray, List.set_cons_zero, List.set_cons_succ, List.getElem_toArray, List.getElem_cons_zero, List.getElem_cons_succ]
            refine wpAnyH_take (i := 5) (oi := _) (v := ?_) rfl (by kernel_rfl) (by kernel_rfl) (by kernel_rfl) (fun _ _ _ h => h) (Or.inl ⟨by kernel_rfl, ?hy19⟩) (by assumption) ?_
            case hy19 =>
              intro w9 hSw
              try dsimp only at hSw
              try simp only [List.getElem_toArray, List.getElem_cons_zero, List.getElem_cons_succ]
              go_simp
              try with_reducible rfl
            try simp only [Act.put, List.setIfInBounds_toArray, List.set_cons_zero, List.set_cons_succ, List.getElem_toArray, List.getElem_cons_zero, List.getElem_cons_succ]
            refine wpAnyH_take (i := 6) (oi := _) (v := ?_) rfl (by kernel_rfl) (by kernel_rfl) (by kernel_rfl) (fun _ _ _ h => h) (Or.inl ⟨by kernel_rfl, ?hy20⟩) (by assumption) ?_
            case hy20 =>
              intro w9 hSw
              try dsimp only at hSw
              try simp only [List.getElem_toArray, List.getElem_cons_zero, List.getElem_cons_succ]
              go_simp
              try with_reducible rfl
            try simp only [Act.put, List.setIfInBounds_toArray, List.set_cons_zero, List.set_cons_succ, List.getElem_toArray, List.getElem_cons_zero, List.getElem_cons_succ]
            have hre := HRR.out.res
            have e0 : (W0.drewN 1).cell? ⟨C, 0, none⟩ = some (.int .u64 0) := by show W0.cell? _ = _; simp [World.cell?, hre]
            have e1 : (W0.drewN 1).cell? ⟨C, 1, none⟩ = some (.slice none 0 0) := by show W0.cell? _ = _; simp [World.cell?, hre]
            have z0 : (W0.drewN 1).frozen? ⟨C, 0, none⟩ = false := by show W0.frozen? _ = _; simp [World.frozen?, hre]
            have z1 : (W0.drewN 1).frozen? ⟨C, 1, none⟩ = false := by show W0.frozen? _ = _; simp [World.frozen?, hre]
            clear hre
            refine wpAnyH_ready (rs := [7]) (by kernel_rfl) (by simp) (AllReadyH.cons (o := _) rfl (fun K hK => ?_) AllReadyH.nil)
            try simp only [List.getElem_toArray, List.getElem_cons_zero, List.getElem_cons_succ]
            go_simp
            refine hK.out _ _ ((hHeld.res _ _)) (fun hHeld => ?_)
            clear hK K
            try simp only [Act.put, List.setIfInBounds_toArray, List.set_cons_zero, List.set_cons_succ, List.getElem_toArray, List.getElem_cons_zero, List.getElem_cons_succ]
            refine wpAnyH_take (i := 8) (oi := _) (v := ?_) rfl (by kernel_rfl) (by kernel_rfl) (by kernel_rfl) (fun _ _ _ h => h) (Or.inl ⟨by kernel_rfl, ?hy21⟩) (by assumption) ?_
            case hy21 =>
              intro w9 hSw
              try dsimp only at hSw
              try simp only [List.getElem_toArray, List.getElem_cons_zero, List.getElem_cons_succ]
              go_simp
              try with_reducible rfl
            try simp only [Act.put, List.setIfInBounds_toArray, List.set_cons_zero, List.set_cons_succ, List.getElem_toArray, List.getElem_cons_zero, List.getElem_cons_succ]
            refine wpAnyH_done (by kernel_rfl) ?_ _
            go_wp2
            refine bodyPost_ret (v := .tuple #[.agg #[.int .u64 zu, .slice p9 m c9], .bool true]) (results_cell_row_tmp 2 3 rfl _ _ C 55 _ (0, 0) _ _ rfl rfl (two_set (show (W0.drewN 1).heap[C]? = _ from HRR.out.res)) Try.underlying55 rfl size_nb2) rfl ⟨_, by rw [HOKK.out, HZU.out], by have z := (HasU.of_own HRR.out.own).two (x := .int .u64 zu) (y := .slice p9 m c9) HRR.out.res; exact z, (HRR.out.drewN 1).result _ _⟩
          · have HOKK := Lib.hid (show ok = false by rw [HOKE.out, HLVV.out]; rfl)
            go_upto_region 12 with fail
            refine wp_region_held_drew (S := fun W => TwoC ⟨C + 1, 0, none⟩ ⟨C + 1, 1, none⟩ (.int .u64 zu) (.slice p9 m c9) W) (by kernel_rfl) ⟨c0, c1⟩ (fun hHeld => ?_)
            refine wpAnyH_take (i := 0) (oi := _) (v := .agg #[.int .u64 zu, .slice p9 m c9]) rfl (by kernel_rfl) (by kernel_rfl) (by kernel_rfl) (fun _ _ _ h => h) (Or.inl ⟨by kernel_rfl, ?hy22⟩) (by assumption) ?_
            case hy22 =>
              intro w9 hSw
              try dsimp only at hSw
              try simp only [List.getElem_toArray, List.getElem_cons_zero, List.getElem_cons_succ]
              go_simp
              obtain ⟨hx0, hx1⟩ := hSw
              try go_simp
              try with_reducible rfl
            try simp only [Act.put, List.setIfInBounds_toArray, List.set_cons_zero, List.set_cons_succ, List.getElem_toArray, List.getElem_cons_zero, List.getElem_cons_succ]
            refine wpAnyH_take (i := 1) (oi := _) (v := ?_) rfl (by kernel_rfl) (by kernel_rfl) (by kernel_rfl) (fun _ _ _ h => h) (Or.inl ⟨by kernel_rfl, ?hy23⟩) (by assumption) ?_
            case hy23 =>
              intro w9 hSw
              try dsimp only at hSw
              try simp only [List.getElem_toArray, List.getElem_cons_zero, List.getElem_cons_succ]
              go_simp
              try with_reducible rfl
            try simp only [Act.put, List.setIfInBounds_toArray, List.set_cons_zero, List.set_cons_succ, List.getElem_toArray, List.getElem_cons_zero, List.getElem_cons_succ]
            refine wpAnyH_take (i := 2) (oi := _) (v := ?_) rfl (by kernel_rfl) (by kernel_rfl) (by kernel_rfl) (fun _ _ _ h => h) (Or.inl ⟨by kernel_rfl, ?hy24⟩) (by assumption) ?_
            case hy24 =>
              intro w9 hSw
              try dsimp only at hSw
              try simp only [List.getElem_toArray, List.getElem_cons_zero, List.getElem_cons_succ]
              go_simp
              try with_reducible rfl
            try simp only [Act.put, List.setIfInBounds_toArray, List.set_cons_zero, List.set_cons_succ, List.getElem_toArray, List.getElem_cons_zero, List.getElem_cons_succ]
            refine wpAnyH_take (i := 3) (oi := _) (v := ?_) rfl (by kernel_rfl) (by kernel_rfl) (by kernel_rfl) (fun _ _ _ h => h) (Or.inl ⟨by kernel_rfl, ?hy25⟩) (by assumption) ?_
            case hy25 =>
              intro w9 hSw
              try dsimp only at hSw
              try simp only [List.getElem_toArray, List.getElem_cons_zero, List.getElem_cons_succ]
              go_simp
              try with_reducible rfl
            try simp only [Act.put, List.setIfInBounds_toArray, List.set_cons_zero, List.set_cons_succ, List.getElem_toArray, List.getElem_cons_zero, List.getElem_cons_succ]
            refine wpAnyH_ready (rs := [4]) (by kernel_rfl) (by simp) (AllReadyH.cons (o := _) rfl (fun K hK => ?_) AllReadyH.nil)
            try simp only [List.getElem_toArray, List.getElem_cons_zero, List.getElem_cons_succ]
            go_simp
            refine (Err_rd _ B R l a9 true ((HRR.out.drewN 1).rd)).mono ?_
            rintro e w9 ⟨rfl, rfl⟩
            refine hK.out _ _ (hHeld) (fun hHeld => ?_)
            clear hK K
            try simp only [Act.put, List.setIfInBounds_toArray, List.set_cons_zero, List.set_cons_succ, List.getElem_toArray, List.getElem_cons_zero, List.getElem_cons_succ]
            refine wpAnyH_take (i := 5) (oi := _) (v := ?_) rfl (by kernel_rfl) (by kernel_rfl) (by kernel_rfl) (fun _ _ _ h => h) (Or.inl ⟨by kernel_rfl, ?hy26⟩) (by assumption) ?_
            case hy26 =>
              intro w9 hSw
              try dsimp only at hSw
              try simp only [List.getElem_toArray, List.getElem_cons_zero, List.getElem_cons_succ]
              go_simp
              try with_reducible rfl
            try simp only [Act.put, List.setIfInBounds_toArray, List.set_cons_zero, List.set_cons_succ, List.getElem_toArray, List.getElem_cons_zero, List.getElem_cons_succ]
            refine wpAnyH_take (i := 6) (oi := _) (v := ?_) rfl (by kernel_rfl) (by kernel_rfl) (by kernel_rfl) (fun _ _ _ h => h) (Or.inl ⟨by kernel_rfl, ?hy27⟩) (by assumption) ?_
            case hy27 =>
              intro w9 hSw
              try dsimp only at hSw
              try simp only [List.getElem_toArray, List.getElem_cons_zero, List.getElem_cons_succ]
              go_simp
              try with_reducible rfl
            try simp only [Act.put, List.setIfInBounds_toArray, List.set_cons_zero, List.set_cons_succ, List.getElem_toArray, List.getElem_cons_zero, List.getElem_cons_succ]
            have hre := HRR.out.res
            have e0 : (W0.drewN 1).cell? ⟨C, 0, none⟩ = some (.int .u64 0) := by show W0.cell? _ = _; simp [World.cell?, hre]
            have e1 : (W0.drewN 1).cell? ⟨C, 1, none⟩ = some (.slice none 0 0) := by show W0.cell? _ = _; simp [World.cell?, hre]
            have z0 : (W0.drewN 1).frozen? ⟨C, 0, none⟩ = false := by show W0.frozen? _ = _; simp [World.frozen?, hre]
            have z1 : (W0.drewN 1).frozen? ⟨C, 1, none⟩ = false := by show W0.frozen? _ = _; simp [World.frozen?, hre]
            clear hre
            refine wpAnyH_ready (rs := [7]) (by kernel_rfl) (by simp) (AllReadyH.cons (o := _) rfl (fun K hK => ?_) AllReadyH.nil)
            try simp only [List.getElem_toArray, List.getElem_cons_zero, List.getElem_cons_succ]
            go_simp
            refine hK.out _ _ ((hHeld.res _ _)) (fun hHeld => ?_)
            clear hK K
            try simp only [Act.put, List.setIfInBounds_toArray, List.set_cons_zero, List.set_cons_succ, List.getElem_toArray, List.getElem_cons_zero, List.getElem_cons_succ]
            refine wpAnyH_take (i := 8) (oi := _) (v := ?_) rfl (by kernel_rfl) (by kernel_rfl) (by kernel_rfl) (fun _ _ _ h => h) (Or.inl ⟨by kernel_rfl, ?hy28⟩) (by assumption) ?_
            case hy28 =>
              intro w9 hSw
              try dsimp only at hSw
              try simp only [List.getElem_toArray, List.getElem_cons_zero, List.getElem_cons_succ]
              go_simp
              try with_reducible rfl
            try simp only [Act.put, List.setIfInBounds_toArray, List.set_cons_zero, List.set_cons_succ, List.getElem_toArray, List.getElem_cons_zero, List.getElem_cons_succ]
            refine wpAnyH_done (by kernel_rfl) ?_ _
            go_wp2
            refine bodyPost_ret (v := .tuple #[.agg #[.int .u64 zu, .slice p9 m c9], .bool false]) (results_cell_row_tmp 2 3 rfl _ _ C 55 _ (0, 0) _ _ rfl rfl (two_set (show (W0.drewN 1).heap[C]? = _ from HRR.out.res)) Try.underlying55 rfl size_nb2) rfl ⟨_, by rw [HOKK.out, HZU.out], by have z := (HasU.of_own HRR.out.own).two (x := .int .u64 zu) (y := .slice p9 m c9) HRR.out.res; exact z, (HRR.out.drewN 1).result _ _⟩
        · obtain rfl : m = 0 := by omega
          have HLVV := Lib.hid (show live ⟨u, acc⟩ = false by rw [HLV.out, decide_eq_false (by omega), decide_eq_false (by omega)]; rfl)
          clear hu1 hm1
          cases f9
          · have HOKK := Lib.hid (show ok = false by rw [HOKE.out, HLVV.out]; rfl)
            go_upto_region 12 with fail
            refine wp_region_held_drew (S := fun W => TwoC ⟨C + 1, 0, none⟩ ⟨C + 1, 1, none⟩ (.int .u64 zu) (.slice p9 0 c9) W) (by kernel_rfl) ⟨c0, c1⟩ (fun hHeld => ?_)
            refine wpAnyH_take (i := 0) (oi := _) (v := .agg #[.int .u64 zu, .slice p9 0 c9]) rfl (by kernel_rfl) (by kernel_rfl) (by kernel_rfl) (fun _ _ _ h => h) (Or.inl ⟨by kernel_rfl, ?hy29⟩) (by assumption) ?_
            case hy29 =>
              intro w9 hSw
              try dsimp only at hSw
              try simp only [List.getElem_toArray, List.getElem_cons_zero, List.getElem_cons_succ]
              go_simp
              obtain ⟨hx0, hx1⟩ := hSw
              try go_simp
              try with_reducible rfl
            try simp only [Act.put, List.setIfInBounds_toArray, List.set_cons_zero, List.set_cons_succ, List.getElem_toArray, List.getElem_cons_zero, List.getElem_cons_succ]
            refine wpAnyH_take (i := 1) (oi := _) (v := ?_) rfl (by kernel_rfl) (by kernel_rfl) (by kernel_rfl) (fun _ _ _ h => h) (Or.inl ⟨by kernel_rfl, ?hy30⟩) (by assumption) ?_
            case hy30 =>
              intro w9 hSw
              try dsimp only at hSw
              try simp only [List.getElem_toArray, List.getElem_cons_zero, List.getElem_cons_succ]
              go_simp
              try with_reducible rfl
            try simp only [Act.put, List.setIfInBounds_toArray, List.set_cons_zero, List.set_cons_succ, List.getElem_toArray, List.getElem_cons_zero, List.getElem_cons_succ]
            refine wpAnyH_take (i := 2) (oi := _) (v := ?_) rfl (by kernel_rfl) (by kernel_rfl) (by kernel_rfl) (fun _ _ _ h => h) (Or.inl ⟨by kernel_rfl, ?hy31⟩) (by assumption) ?_
            case hy31 =>
              intro w9 hSw
              try dsimp only at hSw
              try simp only [List.getElem_toArray, List.getElem_cons_zero, List.getElem_cons_succ]
              go_simp
              try with_reducible rfl
            try simp only [Act.put, List.setIfInBounds_toArray, List.set_cons_zero, List.set_cons_succ, List.getElem_toArray, List.getElem_cons_zero, List.getElem_cons_succ]
            refine wpAnyH_take (i := 3) (oi := _) (v := undef) rfl (by kernel_rfl) (by kernel_rfl) (by kernel_rfl) (fun _ _ _ h => h) (Or.inr ⟨by rfl, rfl⟩) (by assumption) ?_
            try simp only [Act.put, List.setIfInBounds_toArray, List.set_cons_zero, List.set_cons_succ, List.getElem_toArray, List.getElem_cons_zero, List.getElem_cons_succ]
            refine wpAnyH_take (i := 4) (oi := _) (v := undef) rfl (by kernel_rfl) (by kernel_rfl) (by kernel_rfl) (fun _ _ _ h => h) (Or.inr ⟨by rfl, rfl⟩) (by assumption) ?_
            try simp only [Act.put, List.setIfInBounds_toArray, List.set_cons_zero, List.set_cons_succ, List.getElem_toArray, List.getElem_cons_zero, List.getElem_cons_succ]
            refine wpAnyH_take (i := 5) (oi := _) (v := undef) rfl (by kernel_rfl) (by kernel_rfl) (by kernel_rfl) (fun _ _ _ h => h) (Or.inr ⟨by rfl, rfl⟩) (by assumption) ?_
            try simp only [Act.put, List.setIfInBounds_toArray, List.set_cons_zero, List.set_cons_succ, List.getElem_toArray, List.getElem_cons_zero, List.getElem_cons_succ]
            refine wpAnyH_take (i := 6) (oi := _) (v := ?_) rfl (by kernel_rfl) (by kernel_rfl) (by kernel_rfl) (fun _ _ _ h => h) (Or.inl ⟨by kernel_rfl, ?hy32⟩) (by assumption) ?_
            case hy32 =>
              intro w9 hSw
              try dsimp only at hSw
              try simp only [List.getElem_toArray, List.getElem_cons_zero, List.getElem_cons_succ]
              go_simp
              try with_reducible rfl
            try simp only [Act.put, List.setIfInBounds_toArray, List.set_cons_zero, List.set_cons_succ, List.getElem_toArray, List.getElem_cons_zero, List.getElem_cons_succ]
            have hre := HRR.out.res
            have e0 : W0.cell? ⟨C, 0, none⟩ = some (.int .u64 0) := by show W0.cell? _ = _; simp [World.cell?, hre]
            have e1 : W0.cell? ⟨C, 1, none⟩ = some (.slice none 0 0) := by show W0.cell? _ = _; simp [World.cell?, hre]
            have z0 : W0.frozen? ⟨C, 0, none⟩ = false := by show W0.frozen? _ = _; simp [World.frozen?, hre]
            have z1 : W0.frozen? ⟨C, 1, none⟩ = false := by show W0.frozen? _ = _; simp [World.frozen?, hre]
            clear hre
            refine wpAnyH_ready (rs := [7]) (by kernel_rfl) (by simp) (AllReadyH.cons (o := _) rfl (fun K hK => ?_) AllReadyH.nil)
            try simp only [List.getElem_toArray, List.getElem_cons_zero, List.getElem_cons_succ]
            go_simp
            refine hK.out _ _ ((hHeld.res _ _)) (fun hHeld => ?_)
            clear hK K
            try simp only [Act.put, List.setIfInBounds_toArray, List.set_cons_zero, List.set_cons_succ, List.getElem_toArray, List.getElem_cons_zero, List.getElem_cons_succ]
            refine wpAnyH_take (i := 8) (oi := _) (v := ?_) rfl (by kernel_rfl) (by kernel_rfl) (by kernel_rfl) (fun _ _ _ h => h) (Or.inl ⟨by kernel_rfl, ?hy33⟩) (by assumption) ?_
            case hy33 =>
              intro w9 hSw
              try dsimp only at hSw
              try simp only [List.getElem_toArray, List.getElem_cons_zero, List.getElem_cons_succ]
              go_simp
              try with_reducible rfl
            try simp only [Act.put, List.setIfInBounds_toArray, List.set_cons_zero, List.set_cons_succ, List.getElem_toArray, List.getElem_cons_zero, List.getElem_cons_succ]
            refine wpAnyH_done (by kernel_rfl) ?_ _
            go_wp2
            refine bodyPost_ret (v := .tuple #[.agg #[.int .u64 zu, .slice p9 0 c9], .bool false]) (results_cell_row_tmp 2 3 rfl _ _ C 55 _ (0, 0) _ _ rfl rfl (two_set (show (W0.drewN 1).heap[C]? = _ from HRR.out.res)) Try.underlying55 rfl size_nb2) rfl ⟨_, by rw [HOKK.out, HZU.out], by have z := (HasU.of_own HRR.out.own).two (x := .int .u64 zu) (y := .slice p9 0 c9) HRR.out.res; exact z, (HRR.out.drewN 1).result _ _⟩
          · have HOKK := Lib.hid (show ok = false by rw [HOKE.out, HLVV.out]; rfl)
            go_upto_region 12 with fail
            refine wp_region_held_drew (S := fun W => TwoC ⟨C + 1, 0, none⟩ ⟨C + 1, 1, none⟩ (.int .u64 zu) (.slice p9 0 c9) W) (by kernel_rfl) ⟨c0, c1⟩ (fun hHeld => ?_)
            refine wpAnyH_take (i := 0) (oi := _) (v := .agg #[.int .u64 zu, .slice p9 0 c9]) rfl (by kernel_rfl) (by kernel_rfl) (by kernel_rfl) (fun _ _ _ h => h) (Or.inl ⟨by kernel_rfl, ?hy34⟩) (by assumption) ?_
            case hy34 =>
              intro w9 hSw
              try dsimp only at hSw
              try simp only [List.getElem_toArray, List.getElem_cons_zero, List.getElem_cons_succ]
              go_simp
              obtain ⟨hx0, hx1⟩ := hSw
              try go_simp
              try with_reducible rfl
            try simp only [Act.put, List.setIfInBounds_toArray, List.set_cons_zero, List.set_cons_succ, List.getElem_toArray, List.getElem_cons_zero, List.getElem_cons_succ]
            refine wpAnyH_take (i := 1) (oi := _) (v := ?_) rfl (by kernel_rfl) (by kernel_rfl) (by kernel_rfl) (fun _ _ _ h => h) (Or.inl ⟨by kernel_rfl, ?hy35⟩) (by assumption) ?_
            case hy35 =>
              intro w9 hSw
              try dsimp only at hSw
              try simp only [List.getElem_toArray, List.getElem_cons_zero, List.getElem_cons_succ]
              go_simp
              try with_reducible rfl
            try simp only [Act.put, List.setIfInBounds_toArray, List.set_cons_zero, List.set_cons_succ, List.getElem_toArray, List.getElem_cons_zero, List.getElem_cons_succ]
            refine wpAnyH_take (i := 2) (oi := _) (v := ?_) rfl (by kernel_rfl) (by kernel_rfl) (by kernel_rfl) (fun _ _ _ h => h) (Or.inl ⟨by kernel_rfl, ?hy36⟩) (by assumption) ?_
            case hy36 =>
              intro w9 hSw
              try dsimp only at hSw
              try simp only [List.getElem_toArray, List.getElem_cons_zero, List.getElem_cons_succ]
              go_simp
              try with_reducible rfl
            try simp only [Act.put, List.setIfInBounds_toArray, List.set_cons_zero, List.set_cons_succ, List.getElem_toArray, List.getElem_cons_zero, List.getElem_cons_succ]
            refine wpAnyH_take (i := 3) (oi := _) (v := undef) rfl (by kernel_rfl) (by kernel_rfl) (by kernel_rfl) (fun _ _ _ h => h) (Or.inr ⟨by rfl, rfl⟩) (by assumption) ?_
            try simp only [Act.put, List.setIfInBounds_toArray, List.set_cons_zero, List.set_cons_succ, List.getElem_toArray, List.getElem_cons_zero, List.getElem_cons_succ]
            refine wpAnyH_take (i := 4) (oi := _) (v := undef) rfl (by kernel_rfl) (by kernel_rfl) (by kernel_rfl) (fun _ _ _ h => h) (Or.inr ⟨by rfl, rfl⟩) (by assumption) ?_
            try simp only [Act.put, List.setIfInBounds_toArray, List.set_cons_zero, List.set_cons_succ, List.getElem_toArray, List.getElem_cons_zero, List.getElem_cons_succ]
            refine wpAnyH_take (i := 5) (oi := _) (v := undef) rfl (by kernel_rfl) (by kernel_rfl) (by kernel_rfl) (fun _ _ _ h => h) (Or.inr ⟨by rfl, rfl⟩) (by assumption) ?_
            try simp only [Act.put, List.setIfInBounds_toArray, List.set_cons_zero, List.set_cons_succ, List.getElem_toArray, List.getElem_cons_zero, List.getElem_cons_succ]
            refine wpAnyH_take (i := 6) (oi := _) (v := ?_) rfl (by kernel_rfl) (by kernel_rfl) (by kernel_rfl) (fun _ _ _ h => h) (Or.inl ⟨by kernel_rfl, ?hy37⟩) (by assumption) ?_
            case hy37 =>
              intro w9 hSw
              try dsimp only at hSw
              try simp only [List.getElem_toArray, List.getElem_cons_zero, List.getElem_cons_succ]
              go_simp
              try with_reducible rfl
            try simp only [Act.put, List.setIfInBounds_toArray, List.set_cons_zero, List.set_cons_succ, List.getElem_toArray, List.getElem_cons_zero, List.getElem_cons_succ]
            have hre := HRR.out.res
            have e0 : W0.cell? ⟨C, 0, none⟩ = some (.int .u64 0) := by show W0.cell? _ = _; simp [World.cell?, hre]
            have e1 : W0.cell? ⟨C, 1, none⟩ = some (.slice none 0 0) := by show W0.cell? _ = _; simp [World.cell?, hre]
            have z0 : W0.frozen? ⟨C, 0, none⟩ = false := by show W0.frozen? _ = _; simp [World.frozen?, hre]
            have z1 : W0.frozen? ⟨C, 1, none⟩ = false := by show W0.frozen? _ = _; simp [World.frozen?, hre]
            clear hre
            refine wpAnyH_ready (rs := [7]) (by kernel_rfl) (by simp) (AllReadyH.cons (o := _) rfl (fun K hK => ?_) AllReadyH.nil)
            try simp only [List.getElem_toArray, List.getElem_cons_zero, List.getElem_cons_succ]
            go_simp
            refine hK.out _ _ ((hHeld.res _ _)) (fun hHeld => ?_)
            clear hK K
            try simp only [Act.put, List.setIfInBounds_toArray, List.set_cons_zero, List.set_cons_succ, List.getElem_toArray, List.getElem_cons_zero, List.getElem_cons_succ]
            refine wpAnyH_take (i := 8) (oi := _) (v := ?_) rfl (by kernel_rfl) (by kernel_rfl) (by kernel_rfl) (fun _ _ _ h => h) (Or.inl ⟨by kernel_rfl, ?hy38⟩) (by assumption) ?_
            case hy38 =>
              intro w9 hSw
              try dsimp only at hSw
              try simp only [List.getElem_toArray, List.getElem_cons_zero, List.getElem_cons_succ]
              go_simp
              try with_reducible rfl
            try simp only [Act.put, List.setIfInBounds_toArray, List.set_cons_zero, List.set_cons_succ, List.getElem_toArray, List.getElem_cons_zero, List.getElem_cons_succ]
            refine wpAnyH_done (by kernel_rfl) ?_ _
            go_wp2
            refine bodyPost_ret (v := .tuple #[.agg #[.int .u64 zu, .slice p9 0 c9], .bool false]) (results_cell_row_tmp 2 3 rfl _ _ C 55 _ (0, 0) _ _ rfl rfl (two_set (show (W0.drewN 1).heap[C]? = _ from HRR.out.res)) Try.underlying55 rfl size_nb2) rfl ⟨_, by rw [HOKK.out, HZU.out], by have z := (HasU.of_own HRR.out.own).two (x := .int .u64 zu) (y := .slice p9 0 c9) HRR.out.res; exact z, (HRR.out.drewN 1).result _ _⟩
end Go.Proofs.Ytfgfamafjkjakaa
