/-
  Package dot: a dot put into a set (Add).
-/
import Derived.Test.YtfgfamafjkjakaaDotSet
namespace Go.Proofs.Ytfgfamafjkjakaa
open Go.ChangeShapes Go.WideShapes Go.ChangeAt Go.RowKit Go.Deep
set_option linter.unusedVariables false
set_option linter.unusedSimpArgs false
set_option maxRecDepth 100000 in
set_option maxHeartbeats 8000000 in
theorem Add_any (R : Nat) (f : List Nm) (d : Int) (n : Nat) (w : World) (hS : SetIs w R f) :
    Calls Try.prog 12 #[.pointer (some ⟨R, 0, none⟩), .agg #[.int .i64 d, .int .u64 (n : Int)]] w fun e w' => e = .returned (.int .i64 (addS f d n).2) ∧ SetIs w' R (addS f d n).1 ∧ Kp R w w' := by
  have hb1 := (Below.refl w.heap.size w).alloc (Nat.le_refl _) (.cells #[.int .i64 d, .int .u64 (n : Int)] 32)
  have hbox : (w.alloc (.cells #[.int .i64 d, .int .u64 (n : Int)] 32)).heap[w.heap.size]? = some (.cells #[.int .i64 d, .int .u64 (n : Int)] 32 (0, 0)) := heap_alloc_new _ _
  have hz1 : (w.alloc (.cells #[.int .i64 d, .int .u64 (n : Int)] 32)).heap.size = w.heap.size + 1 := World.size_alloc _ _
  have HB1 := Lib.hid hb1
  have HBOX := Lib.hid hbox
  have HZ1 := Lib.hid hz1
  have HS := Lib.hid hS
  have hadd : addS f d n = if goodB d n then (if (f.getD d.toNat Nm.zero).has n then (f, 0) else if 4096 < ((f.getD d.toNat Nm.zero).with n).more.length then (f, 2) else (f.set d.toNat ((f.getD d.toNat Nm.zero).with n), 0)) else (f, 1) := rfl
  have HADD := Lib.hid hadd
  clear hb1 hbox hz1 hS hadd
  go_enter Try.func12, Try.ntmps12
  go_wp2_with fail
  refine (Good_any d n _).mono ?_
  rintro e w2 ⟨rfl, hb2⟩
  have hz1 := HZ1.out
  have hzz := hb2.size
  have hb02 := HB1.out.trans (hb2.mono (by omega))
  have hbox2 := (hb2.block w.heap.size (by omega)).trans HBOX.out
  have HB2 := Lib.hid hb02
  have HBOX2 := Lib.hid hbox2
  have HS2 := Lib.hid (HS.out.below hb02)
  have hz2 : w.heap.size + 1 ≤ w2.heap.size := by omega
  clear hz1 hzz hb2 hb02 hbox2
  obtain ⟨gb, hgb⟩ : ∃ gb, goodB d n = gb := ⟨_, rfl⟩
  rw [hgb]
  have HGB := Lib.hid hgb
  clear hgb
  cases gb with
  | false =>
    have ha := HADD.out
    rw [HGB.out, if_neg Bool.false_ne_true] at ha
    have HA := Lib.hid ha
    clear ha
    go_wp2
    go_ret
    exact ⟨by rw [HA.out]; rfl, by rw [HA.out]; exact HS2.out, Kp.of_below HB2.out⟩
  | true =>
    have ha := HADD.out
    have hg := HGB.out
    unfold goodB at hg
    rw [decide_eq_true_eq] at hg
    obtain ⟨g1, g2, g3, g4⟩ := hg
    rw [HGB.out, if_pos rfl] at ha
    obtain ⟨D, rfl⟩ : ∃ D : Nat, d = (D : Int) := ⟨d.toNat, by omega⟩
    rw [Int.toNat_natCast] at ha
    have hD : D < 16 := by omega
    obtain ⟨mv, q0, q1, hu, hok, hlen, z0, z1⟩ := HS2.out.at_ D hD
    obtain ⟨q, hq⟩ : ∃ q, f.getD D Nm.zero = q := ⟨_, rfl⟩
    rw [hq] at q0 hu hok hlen ha
    have HA := Lib.hid ha
    have HU := Lib.hid hu
    have HOK := Lib.hid hok
    have HLE := Lib.hid hlen
    have hbx := HBOX2.out
    have b0 : w2.cell? ⟨w.heap.size, 0, none⟩ = some (.int .i64 (D : Int)) := by simp [World.cell?, hbx]
    have b1 : w2.cell? ⟨w.heap.size, 1, none⟩ = some (.int .u64 (n : Int)) := by simp [World.cell?, hbx]
    have B0 := Lib.hid b0
    have B1 := Lib.hid b1
    obtain ⟨pm, cm, rfl, -, -⟩ := hu.form
    have Q0 := Lib.hid q0
    have Q1 := Lib.hid q1
    have hDI : (0 : Int) ≤ (D : Int) ∧ (D : Int) < 16 := by omega
    clear ha hq hu hok hlen hbx b0 b1 q0 q1 z0 z1
    go_upto_region 3 with fail
    refine AnyL.begin (S := fun W => W.cell? ⟨w.heap.size, 0, none⟩ = some (.int .i64 (D : Int)) ∧ W.cell? ⟨R, D * 2, none⟩ = some (.int .u64 (q.upto : Int)) ∧ W.cell? ⟨R, D * 2 + 1, none⟩ = some (.slice pm q.more.length cm)) 8 (by kernel_rfl) ⟨B0.out, Q0.out, Q1.out⟩ (fun hHeld => ?_)
    refine AnyL.take (i := 0) (oi := _) (v := ?_) 30 rfl (by kernel_rfl) (by kernel_rfl) (by kernel_rfl) (by kernel_rfl) (by kernel_rfl) (fun _ _ _ h => h) (Or.inl ⟨by rfl, ?hy1⟩) (by assumption) ?_
    case hy1 =>
      intro w9 hSw
      try dsimp only at hSw
      try simp only [List.getElem_toArray, List.getElem_cons_zero, List.getElem_cons_succ]
      go_simp
      try with_reducible rfl
    try simp only [Act.put, List.setIfInBounds_toArray, List.set_cons_zero, List.set_cons_succ, List.getElem_toArray, List.getElem_cons_zero, List.getElem_cons_succ]
    refine AnyL.take (i := 1) (oi := _) (v := ?_) 30 rfl (by kernel_rfl) (by kernel_rfl) (by kernel_rfl) (by kernel_rfl) (by kernel_rfl) (fun _ _ _ h => h) (Or.inl ⟨by rfl, ?hy2⟩) (by assumption) ?_
    case hy2 =>
      intro w9 hSw
      try dsimp only at hSw
      try simp only [List.getElem_toArray, List.getElem_cons_zero, List.getElem_cons_succ]
      go_simp
      try with_reducible rfl
    try simp only [Act.put, List.setIfInBounds_toArray, List.set_cons_zero, List.set_cons_succ, List.getElem_toArray, List.getElem_cons_zero, List.getElem_cons_succ]
    refine AnyL.take (i := 2) (oi := _) (v := ?_) 30 rfl (by kernel_rfl) (by kernel_rfl) (by kernel_rfl) (by kernel_rfl) (by kernel_rfl) (fun _ _ _ h => h) (Or.inl ⟨by rfl, ?hy3⟩) (by assumption) ?_
    case hy3 =>
      intro w9 hSw
      try dsimp only at hSw
      try simp only [List.getElem_toArray, List.getElem_cons_zero, List.getElem_cons_succ]
      go_simp
      try with_reducible rfl
    try simp only [Act.put, List.setIfInBounds_toArray, List.set_cons_zero, List.set_cons_succ, List.getElem_toArray, List.getElem_cons_zero, List.getElem_cons_succ]
    refine AnyL.take (i := 3) (oi := _) (v := ?_) 30 rfl (by kernel_rfl) (by kernel_rfl) (by kernel_rfl) (by kernel_rfl) (by kernel_rfl) (fun _ _ _ h => h) (Or.inl ⟨by rfl, ?hy4⟩) (by assumption) ?_
    case hy4 =>
      intro w9 hSw
      try dsimp only at hSw
      try simp only [List.getElem_toArray, List.getElem_cons_zero, List.getElem_cons_succ]
      go_simp
      try with_reducible rfl
    try simp only [Act.put, List.setIfInBounds_toArray, List.set_cons_zero, List.set_cons_succ, List.getElem_toArray, List.getElem_cons_zero, List.getElem_cons_succ]
    refine AnyL.take (i := 4) (oi := _) (v := ?_) 30 rfl (by kernel_rfl) (by kernel_rfl) (by kernel_rfl) (by kernel_rfl) (by kernel_rfl) (fun _ _ _ h => h) (Or.inl ⟨by rfl, ?hy5⟩) (by assumption) ?_
    case hy5 =>
      intro w9 hSw
      try dsimp only at hSw
      try simp only [List.getElem_toArray, List.getElem_cons_zero, List.getElem_cons_succ]
      go_simp
      try with_reducible rfl
    try simp only [Act.put, List.setIfInBounds_toArray, List.set_cons_zero, List.set_cons_succ, List.getElem_toArray, List.getElem_cons_zero, List.getElem_cons_succ]
    refine AnyL.take (i := 5) (oi := _) (v := ?_) 30 rfl (by kernel_rfl) (by kernel_rfl) (by kernel_rfl) (by kernel_rfl) (by kernel_rfl) (fun _ _ _ h => h) (Or.inl ⟨by rfl, ?hy6⟩) (by assumption) ?_
    case hy6 =>
      intro w9 hSw
      try dsimp only at hSw
      try simp only [List.getElem_toArray, List.getElem_cons_zero, List.getElem_cons_succ]
      go_simp
      try with_reducible rfl
    try simp only [Act.put, List.setIfInBounds_toArray, List.set_cons_zero, List.set_cons_succ, List.getElem_toArray, List.getElem_cons_zero, List.getElem_cons_succ]
    refine AnyL.take (i := 6) (oi := _) (v := ?_) 30 rfl (by kernel_rfl) (by kernel_rfl) (by kernel_rfl) (by kernel_rfl) (by kernel_rfl) (fun _ _ _ h => h) (Or.inl ⟨by rfl, ?hy7⟩) (by assumption) ?_
    case hy7 =>
      intro w9 hSw
      try dsimp only at hSw
      try simp only [List.getElem_toArray, List.getElem_cons_zero, List.getElem_cons_succ]
      go_simp
      try with_reducible rfl
    try simp only [Act.put, List.setIfInBounds_toArray, List.set_cons_zero, List.set_cons_succ, List.getElem_toArray, List.getElem_cons_zero, List.getElem_cons_succ]
    refine AnyL.one (i := 7) (o := _) (by kernel_rfl) rfl (fun K hK => ?_)
    try simp only [List.getElem_toArray, List.getElem_cons_zero, List.getElem_cons_succ]
    go_simp
    refine hK.out _ _ (fun _ => ⟨(World.cell?_alloc_some w2 _ _ (by rw [B0.out]; rfl)).trans B0.out, (World.cell?_alloc_some w2 _ _ (by rw [Q0.out]; rfl)).trans Q0.out, (World.cell?_alloc_some w2 _ _ (by rw [Q1.out]; rfl)).trans Q1.out⟩) (fun hHeld => ?_)
    replace hHeld := hHeld (by decide)
    clear hK K
    try simp only [Act.put, List.setIfInBounds_toArray, List.set_cons_zero, List.set_cons_succ, List.getElem_toArray, List.getElem_cons_zero, List.getElem_cons_succ]
    refine AnyL.one (i := 8) (o := _) (by kernel_rfl) rfl (fun K hK => ?_)
    try simp only [List.getElem_toArray, List.getElem_cons_zero, List.getElem_cons_succ]
    go_simp
    refine hK.out _ _ (fun h => absurd rfl h) (fun _ => ?_)
    clear hK K
    try simp only [Act.put, List.setIfInBounds_toArray, List.set_cons_zero, List.set_cons_succ, List.getElem_toArray, List.getElem_cons_zero, List.getElem_cons_succ]
    refine AnyL.done (by kernel_rfl) ?_ _
    have hb3 : Below w2.heap.size w2 (w2.alloc (.cells #[.int .u64 (q.upto : Int), .slice pm q.more.length cm] 55)).drew := ((Below.refl _ _).alloc (Nat.le_refl _) _).drew
    have hp3 : (w2.alloc (.cells #[.int .u64 (q.upto : Int), .slice pm q.more.length cm] 55)).drew.heap[w2.heap.size]? = some (.cells #[.int .u64 (q.upto : Int), .slice pm q.more.length cm] 55 (0, 0)) := heap_alloc_new w2 _
    have hz3 : (w2.alloc (.cells #[.int .u64 (q.upto : Int), .slice pm q.more.length cm] 55)).drew.heap.size = w2.heap.size + 1 := World.size_alloc w2 _
    generalize (w2.alloc (.cells #[.int .u64 (q.upto : Int), .slice pm q.more.length cm] 55)).drew = w3 at *
    obtain ⟨P, hP⟩ : ∃ P, w2.heap.size = P := ⟨_, rfl⟩
    rw [hP] at hp3 hz3 hz2 ⊢
    have HPP := Lib.hid hP
    have hb03 := HB2.out.trans (hb3.mono (by omega))
    have c0 : w3.cell? ⟨P, 0, none⟩ = some (.int .u64 (q.upto : Int)) := by simp [World.cell?, hp3]
    have c1 : w3.cell? ⟨P, 1, none⟩ = some (.slice pm q.more.length cm) := by simp [World.cell?, hp3]
    have b0 := (hb3.cell (p := ⟨w.heap.size, 0, none⟩) (by show w.heap.size < w2.heap.size; omega)).trans B0.out
    have b1 := (hb3.cell (p := ⟨w.heap.size, 1, none⟩) (by show w.heap.size < w2.heap.size; omega)).trans B1.out
    have HB3 := Lib.hid hb03
    have HP3 := Lib.hid hp3
    have HS3 := Lib.hid (HS2.out.below hb3)
    have HU3 := Lib.hid (HU.out.below hb3)
    have HZ3 := Lib.hid hz3
    clear hb3 hp3 hz3 hP hb03
    go_wp2_with fail
    refine (has_any q _ n w3 HU3.out HOK.out.rise (by have := HLE.out; omega)).mono ?_
    rintro e w4 ⟨rfl, hb4⟩
    have hz3 := HZ3.out
    have hz4 := hb4.size
    have hp4 := (hb4.block P (by omega)).trans HP3.out
    have c0' : w4.cell? ⟨P, 0, none⟩ = some (.int .u64 (q.upto : Int)) := by simp [World.cell?, hp4]
    have c1' : w4.cell? ⟨P, 1, none⟩ = some (.slice pm q.more.length cm) := by simp [World.cell?, hp4]
    have b0' := (hb4.cell (p := ⟨w.heap.size, 0, none⟩) (by show w.heap.size < w3.heap.size; omega)).trans b0
    have b1' := (hb4.cell (p := ⟨w.heap.size, 1, none⟩) (by show w.heap.size < w3.heap.size; omega)).trans b1
    have HB4 := Lib.hid (HB3.out.trans (hb4.mono (by omega)))
    have HP4 := Lib.hid hp4
    have HS4 := Lib.hid (HS3.out.below hb4)
    have HU4 := Lib.hid (HU3.out.below hb4)
    obtain ⟨hv, hhv⟩ : ∃ hv, q.has n = hv := ⟨_, rfl⟩
    rw [hhv]
    have HHV := Lib.hid hhv
    clear hhv hb4 hp4 c0 c1 b0 b1
    cases hv with
    | true =>
      have ha := HA.out
      rw [HHV.out, if_pos rfl] at ha
      have HA2 := Lib.hid ha
      clear ha
      go_wp2
      go_ret
      exact ⟨by rw [HA2.out]; rfl, by rw [HA2.out]; exact HS4.out, Kp.of_below HB4.out⟩
    | false =>
      have ha := HA.out
      rw [HHV.out, if_neg Bool.false_ne_true] at ha
      have HA2 := Lib.hid ha
      clear ha
      go_wp2_with fail
      refine (with_any q _ n w4 HU4.out HOK.out (by have := HLE.out; omega) g4 HHV.out).mono ?_
      rintro e w5 ⟨mv5, rfl, hu5, hb5⟩
      have hz5 := hb5.size
      have hok5 := Nm.with_ok HOK.out n g4 HHV.out
      obtain ⟨q5, hq5⟩ : ∃ q5, q.with n = q5 := ⟨_, rfl⟩
      have ha := HA2.out
      rw [hq5] at hu5 hok5 ha ⊢
      have hp5 := (hb5.block P (by omega)).trans HP4.out
      have c0 : w5.cell? ⟨P, 0, none⟩ = some (.int .u64 (q.upto : Int)) := by simp [World.cell?, hp5]
      have c1 : w5.cell? ⟨P, 1, none⟩ = some (.slice pm q.more.length cm) := by simp [World.cell?, hp5]
      have f0 : w5.frozen? ⟨P, 0, none⟩ = false := by simp [World.frozen?, hp5]
      have f1 : w5.frozen? ⟨P, 1, none⟩ = false := by simp [World.frozen?, hp5]
      have b0 := (hb5.cell (p := ⟨w.heap.size, 0, none⟩) (by show w.heap.size < w4.heap.size; omega)).trans b0'
      obtain ⟨p5, c5, rfl, h51, h52⟩ := hu5.form
      have hc5 : (c5 : Int) ≤ 9223372036854775807 := by unfold maxLen at h52; omega
      obtain ⟨m5, hm5⟩ : ∃ m5, q5.more.length = m5 := ⟨_, rfl⟩
      have HU5 := Lib.hid (hu5.two (x := .int .u64 (q5.upto : Int)) (y := .slice p5 q5.more.length c5) hp5)
      have hs6 : SetIs ((w5.setCell ⟨P, 0, none⟩ (.int .u64 (q5.upto : Int))).setCell ⟨P, 1, none⟩ (.slice p5 q5.more.length c5)) R f := by
        have hs5 := HS4.out.below hb5
        have hPR : R ≠ P := by have := HS2.out.lt; have := HPP.out; omega
        have hl := hs5.lt
        obtain ⟨ps, k1, k2, k3, k4⟩ := hs5
        exact ⟨ps, k1, k2, (Below.heap_setCell _ _ _ _ hPR).trans ((Below.heap_setCell _ _ _ _ hPR).trans k3), fun p hp => ⟨(k4 p hp).1.two hp5, (k4 p hp).2⟩⟩
      have hb6 := ((HB4.out.trans (hb5.mono (by omega))).setCell (p := ⟨P, 0, none⟩) (by show w.heap.size ≤ P; omega) (.int .u64 (q5.upto : Int))).setCell (p := ⟨P, 1, none⟩) (by show w.heap.size ≤ P; omega) (.slice p5 q5.more.length c5)
      rw [hm5] at HU5 hs6 hb6 h51 ha ⊢
      have HA5 := Lib.hid ha
      have HOK5 := Lib.hid hok5
      have HM5 := Lib.hid hm5
      have HS6 := Lib.hid hs6
      have HB6 := Lib.hid hb6
      have HQ5 := Lib.hid hq5
      have HP5 := Lib.hid (two_set (x := .int .u64 (q5.upto : Int)) (y := .slice p5 m5 c5) hp5)
      clear ha hq5 hu5 hok5 hp5 h52 hm5 hs6 hb6 hb5 c0' c1' b0' b1'
      rcases Nat.lt_or_ge 4096 m5 with hgt | hle
      · have hgtI : (4096 : Int) < (m5 : Int) := by omega
        have ha := HA5.out
        rw [if_pos hgt] at ha
        have HA6 := Lib.hid ha
        clear ha
        go_wp2
        go_ret
        exact ⟨by rw [HA6.out]; rfl, by rw [HA6.out]; exact HS6.out, Kp.of_below HB6.out⟩
      · have hgtI : ¬ (4096 : Int) < (m5 : Int) := by omega
        have ha := HA5.out
        rw [if_neg (by omega)] at ha
        have HA6 := Lib.hid ha
        clear ha
        obtain ⟨mvR, r0, r1, -, -, -, z0, z1⟩ := HS6.out.at_ D hD
        have hp6 := HP5.out
        have e0 : ((w5.setCell ⟨P, 0, none⟩ (.int .u64 (q5.upto : Int))).setCell ⟨P, 1, none⟩ (.slice p5 m5 c5)).cell? ⟨P, 0, none⟩ = some (.int .u64 (q5.upto : Int)) := by simp only [World.cell?, hp6]; rfl
        have e1 : ((w5.setCell ⟨P, 0, none⟩ (.int .u64 (q5.upto : Int))).setCell ⟨P, 1, none⟩ (.slice p5 m5 c5)).cell? ⟨P, 1, none⟩ = some (.slice p5 m5 c5) := by simp only [World.cell?, hp6]; rfl
        have hPw : P ≠ w.heap.size := by omega
        have e2 : ((w5.setCell ⟨P, 0, none⟩ (.int .u64 (q5.upto : Int))).setCell ⟨P, 1, none⟩ (.slice p5 m5 c5)).cell? ⟨w.heap.size, 0, none⟩ = some (.int .i64 (D : Int)) :=
          (World.cell?_setCell_far _ _ _ _ hPw).trans ((World.cell?_setCell_far _ _ _ _ hPw).trans b0)
        go_upto_region 9 with fail
        generalize (w5.setCell ⟨P, 0, none⟩ (.int .u64 (q5.upto : Int))).setCell ⟨P, 1, none⟩ (.slice p5 m5 c5) = w6 at *
        clear c0 c1 f0 f1 hp6 b0
        refine AnyL.begin (S := fun W => W.cell? ⟨w.heap.size, 0, none⟩ = some (.int .i64 (D : Int)) ∧ W.cell? ⟨P, 0, none⟩ = some (.int .u64 (q5.upto : Int)) ∧ W.cell? ⟨P, 1, none⟩ = some (.slice p5 m5 c5)) 7 (by kernel_rfl) ⟨e2, e0, e1⟩ (fun hHeld => ?_)
        refine AnyL.take (i := 0) (oi := _) (v := ?_) 30 rfl (by kernel_rfl) (by kernel_rfl) (by kernel_rfl) (by kernel_rfl) (by kernel_rfl) (fun _ _ _ h => h) (Or.inl ⟨by rfl, ?hy8⟩) (by assumption) ?_
        case hy8 =>
          intro w9 hSw
          try dsimp only at hSw
          try simp only [List.getElem_toArray, List.getElem_cons_zero, List.getElem_cons_succ]
          go_simp
          try with_reducible rfl
        try simp only [Act.put, List.setIfInBounds_toArray, List.set_cons_zero, List.set_cons_succ, List.getElem_toArray, List.getElem_cons_zero, List.getElem_cons_succ]
        refine AnyL.take (i := 1) (oi := _) (v := ?_) 30 rfl (by kernel_rfl) (by kernel_rfl) (by kernel_rfl) (by kernel_rfl) (by kernel_rfl) (fun _ _ _ h => h) (Or.inl ⟨by rfl, ?hy9⟩) (by assumption) ?_
        case hy9 =>
          intro w9 hSw
          try dsimp only at hSw
          try simp only [List.getElem_toArray, List.getElem_cons_zero, List.getElem_cons_succ]
          go_simp
          try with_reducible rfl
        try simp only [Act.put, List.setIfInBounds_toArray, List.set_cons_zero, List.set_cons_succ, List.getElem_toArray, List.getElem_cons_zero, List.getElem_cons_succ]
        refine AnyL.take (i := 2) (oi := _) (v := ?_) 30 rfl (by kernel_rfl) (by kernel_rfl) (by kernel_rfl) (by kernel_rfl) (by kernel_rfl) (fun _ _ _ h => h) (Or.inl ⟨by rfl, ?hy10⟩) (by assumption) ?_
        case hy10 =>
          intro w9 hSw
          try dsimp only at hSw
          try simp only [List.getElem_toArray, List.getElem_cons_zero, List.getElem_cons_succ]
          go_simp
          try with_reducible rfl
        try simp only [Act.put, List.setIfInBounds_toArray, List.set_cons_zero, List.set_cons_succ, List.getElem_toArray, List.getElem_cons_zero, List.getElem_cons_succ]
        refine AnyL.take (i := 3) (oi := _) (v := ?_) 30 rfl (by kernel_rfl) (by kernel_rfl) (by kernel_rfl) (by kernel_rfl) (by kernel_rfl) (fun _ _ _ h => h) (Or.inl ⟨by rfl, ?hy11⟩) (by assumption) ?_
        case hy11 =>
          intro w9 hSw
          try dsimp only at hSw
          try simp only [List.getElem_toArray, List.getElem_cons_zero, List.getElem_cons_succ]
          go_simp
          try with_reducible rfl
        try simp only [Act.put, List.setIfInBounds_toArray, List.set_cons_zero, List.set_cons_succ, List.getElem_toArray, List.getElem_cons_zero, List.getElem_cons_succ]
        refine AnyL.take (i := 4) (oi := _) (v := ?_) 30 rfl (by kernel_rfl) (by kernel_rfl) (by kernel_rfl) (by kernel_rfl) (by kernel_rfl) (fun _ _ _ h => h) (Or.inl ⟨by rfl, ?hy12⟩) (by assumption) ?_
        case hy12 =>
          intro w9 hSw
          try dsimp only at hSw
          try simp only [List.getElem_toArray, List.getElem_cons_zero, List.getElem_cons_succ]
          go_simp
          try with_reducible rfl
        try simp only [Act.put, List.setIfInBounds_toArray, List.set_cons_zero, List.set_cons_succ, List.getElem_toArray, List.getElem_cons_zero, List.getElem_cons_succ]
        refine AnyL.take (i := 5) (oi := _) (v := ?_) 30 rfl (by kernel_rfl) (by kernel_rfl) (by kernel_rfl) (by kernel_rfl) (by kernel_rfl) (fun _ _ _ h => h) (Or.inl ⟨by rfl, ?hy13⟩) (by assumption) ?_
        case hy13 =>
          intro w9 hSw
          try dsimp only at hSw
          try simp only [List.getElem_toArray, List.getElem_cons_zero, List.getElem_cons_succ]
          go_simp
          try with_reducible rfl
        try simp only [Act.put, List.setIfInBounds_toArray, List.set_cons_zero, List.set_cons_succ, List.getElem_toArray, List.getElem_cons_zero, List.getElem_cons_succ]
        refine AnyL.take (i := 6) (oi := _) (v := ?_) 30 rfl (by kernel_rfl) (by kernel_rfl) (by kernel_rfl) (by kernel_rfl) (by kernel_rfl) (fun _ _ _ h => h) (Or.inl ⟨by rfl, ?hy14⟩) (by assumption) ?_
        case hy14 =>
          intro w9 hSw
          try dsimp only at hSw
          try simp only [List.getElem_toArray, List.getElem_cons_zero, List.getElem_cons_succ]
          go_simp
          try with_reducible rfl
        try simp only [Act.put, List.setIfInBounds_toArray, List.set_cons_zero, List.set_cons_succ, List.getElem_toArray, List.getElem_cons_zero, List.getElem_cons_succ]
        refine AnyL.one (i := 7) (o := _) (by kernel_rfl) rfl (fun K hK => ?_)
        try simp only [List.getElem_toArray, List.getElem_cons_zero, List.getElem_cons_succ]
        go_simp
        refine hK.out _ _ (fun h => absurd rfl h) (fun _ => ?_)
        clear hK K
        try simp only [Act.put, List.setIfInBounds_toArray, List.set_cons_zero, List.set_cons_succ, List.getElem_toArray, List.getElem_cons_zero, List.getElem_cons_succ]
        refine AnyL.done (by kernel_rfl) ?_ _
        have hu6 := HU5.out
        rw [← HM5.out] at hu6
        have hs7 := HS6.out.set D q5 _ hu6 HOK5.out (by rw [HM5.out]; exact hle)
        rw [HM5.out] at hs7
        have HS7 := Lib.hid hs7
        clear hu6 hs7
        go_wp2
        go_ret
        exact ⟨by rw [HA6.out]; rfl, by rw [HA6.out]; exact HS7.out, (Kp.of_below HB6.out).trans (((Kp.setCell R _ _ _).trans (Kp.setCell R _ _ _)).trans (Kp.drewN R _ 1))⟩
end Go.Proofs.Ytfgfamafjkjakaa
