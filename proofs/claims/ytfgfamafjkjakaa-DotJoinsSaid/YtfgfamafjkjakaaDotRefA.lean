/-
  The document's own lists of dots: Add.
-/
import Derived.Test.YtfgfamafjkjakaaDotRefP
namespace Go.Proofs.Ytfgfamafjkjakaa
open Go.ChangeShapes Go.WideShapes Go.ChangeAt Go.RowKit Go.Deep
set_option linter.unusedVariables false
set_option linter.unusedSimpArgs false
set_option maxRecDepth 100000 in
set_option maxHeartbeats 16000000 in
theorem RefAdd_any (v : Value) (l : List (Int × Nat)) (d : Int) (n : Nat) (w : World) (hv : HasK w encD v l) (hl : l.length ≤ 100000) :
    Calls Try.prog 16 #[v, .agg #[.int .i64 d, .int .u64 (n : Int)]] w fun e w' => ∃ v', e = .returned v' ∧ HasK w' encD v' (addL l (d, n)) ∧ Below w.heap.size w w' := by
  obtain ⟨p, cap, rfl, h1, h2⟩ := hv.form
  obtain ⟨m, hm⟩ : ∃ m, l.length = m := ⟨_, rfl⟩
  have HM := Lib.hid hm
  have hb0 := (Below.refl w.heap.size w).alloc (Nat.le_refl _) (.cells #[.int .i64 d, .int .u64 (n : Int)] 32)
  have hn0 := heap_alloc_new w (.cells #[.int .i64 d, .int .u64 (n : Int)] 32)
  have hbx : TwoC ⟨w.heap.size, 0, none⟩ ⟨w.heap.size, 1, none⟩ (.int .i64 d) (.int .u64 (n : Int)) (w.alloc (.cells #[.int .i64 d, .int .u64 (n : Int)] 32)) := ⟨by simp only [World.cell?, hn0]; rfl, by simp only [World.cell?, hn0]; rfl⟩
  have HV := Lib.hid (hv.below hb0)
  have HB0 := Lib.hid hb0
  have HBX := Lib.hid hbx
  have hadd : addL l (d, n) = if (d, n) ∈ l then l else l.take (posD (d, n) l) ++ [(d, n)] ++ l.drop (posD (d, n) l) := rfl
  have HADD := Lib.hid hadd
  have HLL := Lib.hid hl
  have hcI : (cap : Int) ≤ 9223372036854775807 := by unfold maxLen at h2; omega
  rw [hm] at hl h1 HV ⊢
  clear hv hb0 hn0 hbx hm h2 hadd
  go_enter Try.func16, Try.ntmps16
  obtain ⟨b0, b1⟩ := HBX.out
  go_wp2_with fail
  clear b0 b1
  generalize (w.alloc (.cells #[.int .i64 d, .int .u64 (n : Int)] 32)) = w1 at *
  obtain ⟨G, hG⟩ : ∃ G, w.heap.size = G := ⟨_, rfl⟩
  rw [hG] at HBX HB0 ⊢
  have HGG := Lib.hid hG
  clear hG
  refine (RefHas_any _ l d n w1 HV.out (by have := HLL.out; omega)).mono ?_
  obtain ⟨ih, hih⟩ : ∃ x, decide ((d, n) ∈ l) = x := ⟨_, rfl⟩
  rw [hih]
  have HIH := Lib.hid hih
  clear hih
  rintro e w2 ⟨rfl, hb2⟩
  have HV2 := Lib.hid (HV.out.below hb2)
  have HBX2 := Lib.hid (HBX.out.below hb2)
  have HB2 := Lib.hid (HB0.out.trans (hb2.mono (by have := HB0.out.size; rw [HGG.out] at this; exact this)))
  clear hb2
  cases ih with
  | true =>
    have ha := HADD.out
    rw [if_pos (of_decide_eq_true HIH.out)] at ha
    have HA := Lib.hid ha
    clear ha
    go_wp2
    go_ret
    rw [HGG.out]
    exact ⟨_, rfl, by rw [HA.out]; exact HV2.out, HB2.out⟩
  | false =>
    have ha := HADD.out
    rw [if_neg (of_decide_eq_false HIH.out)] at ha
    have hple := posD_le (d, n) l
    obtain ⟨q, hq⟩ : ∃ q, posD (d, n) l = q := ⟨_, rfl⟩
    rw [hq] at ha hple
    rw [HM.out] at hple
    have HQ := Lib.hid hq
    have HA := Lib.hid ha
    clear ha hq
    go_wp2_with fail
    go_loopw [5] (fun vi wr => ∃ i : Nat, vi = .int .i64 (i : Int) ∧ i ≤ q ∧ Below w2.heap.size w2 wr) (fun vi _ => m - (intOf vi).toNat)
    case atStart => exact ⟨0, rfl, Nat.zero_le _, Below.refl _ _⟩
    case round =>
      obtain ⟨i, rfl, hi, hb⟩ := hrel
      obtain ⟨W0, rfl⟩ : ∃ W0, W0 = wr := ⟨wr, rfl⟩
      have HB := Lib.hid hb
      have HV3 := Lib.hid (HV2.out.below hb)
      have HBX3 := Lib.hid (HBX2.out.below hb)
      have HBF := Lib.hid (HB2.out.trans (hb.mono (by have := HB2.out.size; rw [HGG.out] at this; exact this)))
      clear hb
      rcases Nat.lt_or_ge i m with hlt | hge
      · skip
        have hI : (i : Int) < (m : Int) := by omega
        have hi0 : (0 : Int) ≤ (i : Int) := by omega
        have hil : i < l.length := by rw [HM.out]; exact hlt
        obtain ⟨b, o, cap2, p2, hpe, -, -, HPP, HC⟩ := HV3.out.open
        simp only [Value.slice.injEq] at hpe
        obtain ⟨rfl, -, rfl⟩ := hpe
        obtain ⟨rfl, hbl⟩ := HPP.out (by rw [HM.out]; omega)
        have hdt := HasK.dotAt HC.out i hil
        have hgo := posD_go (x := (d, n)) hil
        have hsp := posD_stop (x := (d, n)) hil
        rw [HQ.out] at hgo hsp
        obtain ⟨⟨x, y⟩, hxy⟩ : ∃ z, l[i] = z := ⟨_, rfl⟩
        rw [hxy] at hdt hgo hsp
        obtain ⟨ah, hah⟩ : ∃ a, aheadB x y d n = a := ⟨_, rfl⟩
        replace hgo := fun h : ah = true => hgo hi (hah.trans h)
        replace hsp := fun h : ah = false => hsp hi (hah.trans h)
        have HGO := Lib.hid hgo
        have HSP := Lib.hid hsp
        have HAH := Lib.hid hah
        have HDT := Lib.hid hdt
        clear hxy hdt hgo hsp hah HC HPP
        go_upto_region 4 with fail
        refine AnyL.begin (S := fun W => TwoC ⟨b, o + i * 2, none⟩ ⟨b, o + i * 2 + 1, none⟩ (.int .i64 x) (.int .u64 (y : Int)) W ∧ TwoC ⟨G, 0, none⟩ ⟨G, 1, none⟩ (.int .i64 d) (.int .u64 (n : Int)) W) 11 (by kernel_rfl) ⟨HDT.out, HBX3.out⟩ (fun hHeld => ?_)
        refine AnyL.take (i := 0) (oi := _) (v := ?_) 30 rfl (by kernel_rfl) (by kernel_rfl) (by kernel_rfl) (by kernel_rfl) (by kernel_rfl) (fun _ _ _ h => h) (Or.inl ⟨by kernel_rfl, ?hy1⟩) (by assumption) ?_
        case hy1 =>
          intro w9 hSw
          try dsimp only at hSw
          try simp only [List.getElem_toArray, List.getElem_cons_zero, List.getElem_cons_succ]
          go_simp
          try with_reducible rfl
        try simp only [Act.put, List.setIfInBounds_toArray, List.set_cons_zero, List.set_cons_succ, List.getElem_toArray, List.getElem_cons_zero, List.getElem_cons_succ]
        refine AnyL.take (i := 1) (oi := _) (v := ?_) 30 rfl (by kernel_rfl) (by kernel_rfl) (by kernel_rfl) (by kernel_rfl) (by kernel_rfl) (fun _ _ _ h => h) (Or.inl ⟨by kernel_rfl, ?hy2⟩) (by assumption) ?_
        case hy2 =>
          intro w9 hSw
          try dsimp only at hSw
          try simp only [List.getElem_toArray, List.getElem_cons_zero, List.getElem_cons_succ]
          go_simp
          try with_reducible rfl
        try simp only [Act.put, List.setIfInBounds_toArray, List.set_cons_zero, List.set_cons_succ, List.getElem_toArray, List.getElem_cons_zero, List.getElem_cons_succ]
        refine AnyL.take (i := 2) (oi := _) (v := ?_) 30 rfl (by kernel_rfl) (by kernel_rfl) (by kernel_rfl) (by kernel_rfl) (by kernel_rfl) (fun _ _ _ h => h) (Or.inl ⟨by kernel_rfl, ?hy3⟩) (by assumption) ?_
        case hy3 =>
          intro w9 hSw
          try dsimp only at hSw
          try simp only [List.getElem_toArray, List.getElem_cons_zero, List.getElem_cons_succ]
          go_simp
          try with_reducible rfl
        try simp only [Act.put, List.setIfInBounds_toArray, List.set_cons_zero, List.set_cons_succ, List.getElem_toArray, List.getElem_cons_zero, List.getElem_cons_succ]
        refine AnyL.take (i := 3) (oi := _) (v := ?_) 30 rfl (by kernel_rfl) (by kernel_rfl) (by kernel_rfl) (by kernel_rfl) (by kernel_rfl) (fun _ _ _ h => h) (Or.inl ⟨by kernel_rfl, ?hy4⟩) (by assumption) ?_
        case hy4 =>
          intro w9 hSw
          try dsimp only at hSw
          try simp only [List.getElem_toArray, List.getElem_cons_zero, List.getElem_cons_succ]
          go_simp
          try with_reducible rfl
        try simp only [Act.put, List.setIfInBounds_toArray, List.set_cons_zero, List.set_cons_succ, List.getElem_toArray, List.getElem_cons_zero, List.getElem_cons_succ]
        refine AnyL.take (i := 4) (oi := _) (v := ?_) 30 rfl (by kernel_rfl) (by kernel_rfl) (by kernel_rfl) (by kernel_rfl) (by kernel_rfl) (fun _ _ _ h => h) (Or.inl ⟨by kernel_rfl, ?hy5⟩) (by assumption) ?_
        case hy5 =>
          intro w9 hSw
          try dsimp only at hSw
          try simp only [List.getElem_toArray, List.getElem_cons_zero, List.getElem_cons_succ]
          go_simp
          try with_reducible rfl
        try simp only [Act.put, List.setIfInBounds_toArray, List.set_cons_zero, List.set_cons_succ, List.getElem_toArray, List.getElem_cons_zero, List.getElem_cons_succ]
        refine AnyL.take (i := 5) (oi := _) (v := ?_) 30 rfl (by kernel_rfl) (by kernel_rfl) (by kernel_rfl) (by kernel_rfl) (by kernel_rfl) (fun _ _ _ h => h) (Or.inl ⟨by kernel_rfl, ?hy6⟩) (by assumption) ?_
        case hy6 =>
          intro w9 hSw
          try dsimp only at hSw
          try simp only [List.getElem_toArray, List.getElem_cons_zero, List.getElem_cons_succ]
          go_simp
          try with_reducible rfl
        try simp only [Act.put, List.setIfInBounds_toArray, List.set_cons_zero, List.set_cons_succ, List.getElem_toArray, List.getElem_cons_zero, List.getElem_cons_succ]
        refine AnyL.take (i := 6) (oi := _) (v := ?_) 30 rfl (by kernel_rfl) (by kernel_rfl) (by kernel_rfl) (by kernel_rfl) (by kernel_rfl) (fun _ _ _ h => h) (Or.inl ⟨by kernel_rfl, ?hy7⟩) (by assumption) ?_
        case hy7 =>
          intro w9 hSw
          try dsimp only at hSw
          try simp only [List.getElem_toArray, List.getElem_cons_zero, List.getElem_cons_succ]
          go_simp
          try with_reducible rfl
        try simp only [Act.put, List.setIfInBounds_toArray, List.set_cons_zero, List.set_cons_succ, List.getElem_toArray, List.getElem_cons_zero, List.getElem_cons_succ]
        refine AnyL.take (i := 7) (oi := _) (v := ?_) 30 rfl (by kernel_rfl) (by kernel_rfl) (by kernel_rfl) (by kernel_rfl) (by kernel_rfl) (fun _ _ _ h => h) (Or.inl ⟨by kernel_rfl, ?hy8⟩) (by assumption) ?_
        case hy8 =>
          intro w9 hSw
          try dsimp only at hSw
          try simp only [List.getElem_toArray, List.getElem_cons_zero, List.getElem_cons_succ]
          go_simp
          try with_reducible rfl
        try simp only [Act.put, List.setIfInBounds_toArray, List.set_cons_zero, List.set_cons_succ, List.getElem_toArray, List.getElem_cons_zero, List.getElem_cons_succ]
        refine AnyL.take (i := 8) (oi := _) (v := .agg #[.int .i64 x, .int .u64 (y : Int)]) 30 rfl (by kernel_rfl) (by kernel_rfl) (by kernel_rfl) (by kernel_rfl) (by kernel_rfl) (fun _ _ _ h => h) (Or.inl ⟨by kernel_rfl, ?hy9⟩) (by assumption) ?_
        case hy9 =>
          intro w9 hSw
          try dsimp only at hSw
          try simp only [List.getElem_toArray, List.getElem_cons_zero, List.getElem_cons_succ]
          go_simp
          obtain ⟨⟨hx0, hx1⟩, ⟨hx2, hx3⟩⟩ := hSw
          try go_simp
          try with_reducible rfl
        try simp only [Act.put, List.setIfInBounds_toArray, List.set_cons_zero, List.set_cons_succ, List.getElem_toArray, List.getElem_cons_zero, List.getElem_cons_succ]
        refine AnyL.take (i := 9) (oi := _) (v := .agg #[.int .i64 d, .int .u64 (n : Int)]) 30 rfl (by kernel_rfl) (by kernel_rfl) (by kernel_rfl) (by kernel_rfl) (by kernel_rfl) (fun _ _ _ h => h) (Or.inl ⟨by kernel_rfl, ?hy10⟩) (by assumption) ?_
        case hy10 =>
          intro w9 hSw
          try dsimp only at hSw
          try simp only [List.getElem_toArray, List.getElem_cons_zero, List.getElem_cons_succ]
          go_simp
          obtain ⟨⟨hx0, hx1⟩, ⟨hx2, hx3⟩⟩ := hSw
          try go_simp
          try with_reducible rfl
        try simp only [Act.put, List.setIfInBounds_toArray, List.set_cons_zero, List.set_cons_succ, List.getElem_toArray, List.getElem_cons_zero, List.getElem_cons_succ]
        refine AnyL.one (i := 10) (o := _) (by kernel_rfl) rfl (fun K hK => ?_)
        try simp only [List.getElem_toArray, List.getElem_cons_zero, List.getElem_cons_succ]
        go_simp
        refine (RefAhead_any x y d n _).mono ?_
        rw [HAH.out]
        rintro e w9 ⟨rfl, hb9⟩
        refine hK.out _ _ (fun _ => ⟨hHeld.1.below hb9, hHeld.2.below hb9⟩) (fun hHeld => ?_)
        replace hHeld := hHeld (by decide)
        clear hK K
        try simp only [Act.put, List.setIfInBounds_toArray, List.set_cons_zero, List.set_cons_succ, List.getElem_toArray, List.getElem_cons_zero, List.getElem_cons_succ]
        have HV9 := Lib.hid ((HV3.out.below ((Below.refl _ _).drew)).below hb9)
        have HB9 := Lib.hid (HB.out.trans (((Below.refl W0.heap.size W0).drew.trans hb9).mono HB.out.size))
        have HBX9 := Lib.hid hHeld.2
        have HBF9 := Lib.hid (HBF.out.trans (((Below.refl W0.heap.size W0).drew.trans hb9).mono (by have := HBF.out.size; rw [HGG.out] at this; exact this)))
        clear hb9
        refine AnyL.one (i := 11) (o := _) (by kernel_rfl) rfl (fun K hK => ?_)
        try simp only [List.getElem_toArray, List.getElem_cons_zero, List.getElem_cons_succ]
        go_simp
        refine hK.out _ _ (fun h => absurd rfl h) (fun _ => ?_)
        clear hK K
        try simp only [Act.put, List.setIfInBounds_toArray, List.set_cons_zero, List.set_cons_succ, List.getElem_toArray, List.getElem_cons_zero, List.getElem_cons_succ]
        refine AnyL.done (by kernel_rfl) ?_ _
        cases ah with
        | true =>
          have hq1 := HGO.out rfl
          go_wp2
          go_roundw
          case rel => exact ⟨i + 1, by go_num, hq1, HB9.out⟩
          case measure => simp [intOf] <;> omega
        | false =>
          have hq1 := HSP.out rfl
          subst hq1
          go_upto_region 6 with fail
          obtain ⟨pt, ct, st, ht⟩ := dot_tail HV9.out i (by rw [HM.out]; exact hple)
          obtain ⟨ph, ch, sh, hh⟩ := dot_head HV9.out i (by rw [HM.out]; exact hple)
          rw [HM.out] at st ht
          have HT := Lib.hid (ht w9 HV9.out)
          have HH := Lib.hid (hh w9 HV9.out)
          have HBW := Lib.hid HBF9.out
          have hGB : G < w9.heap.size := cell_lt HBX9.out.1
          have hq0 : (0 : Int) ≤ (i : Int) := by omega
          clear ht hh
          refine wp_region_held_drew (S := fun W' => Below w9.heap.size w9 W' ∧ TwoC ⟨G, 0, none⟩ ⟨G, 1, none⟩ (.int .i64 d) (.int .u64 (n : Int)) W') (by kernel_rfl) ⟨(Below.refl _ _).drew, HBX9.out⟩ (fun hHeld => ?_)
          refine wpAnyH_take (i := 1) (oi := _) (v := ?_) rfl (by kernel_rfl) (by kernel_rfl) (by kernel_rfl) (fun _ _ _ h => h) (Or.inl ⟨by kernel_rfl, ?hy11⟩) (by assumption) ?_
          case hy11 =>
            intro w9 hSw
            try dsimp only at hSw
            try simp only [List.getElem_toArray, List.getElem_cons_zero, List.getElem_cons_succ]
            go_simp
            try with_reducible rfl
          try simp only [Act.put, List.setIfInBounds_toArray, List.set_cons_zero, List.set_cons_succ, List.getElem_toArray, List.getElem_cons_zero, List.getElem_cons_succ]
          refine wpAnyH_take (i := 2) (oi := _) (v := ?_) rfl (by kernel_rfl) (by kernel_rfl) (by kernel_rfl) (fun _ _ _ h => h) (Or.inl ⟨by kernel_rfl, ?hy12⟩) (by assumption) ?_
          case hy12 =>
            intro w9 hSw
            try dsimp only at hSw
            try simp only [List.getElem_toArray, List.getElem_cons_zero, List.getElem_cons_succ]
            go_simp
            try with_reducible rfl
          try simp only [Act.put, List.setIfInBounds_toArray, List.set_cons_zero, List.set_cons_succ, List.getElem_toArray, List.getElem_cons_zero, List.getElem_cons_succ]
          refine wpAnyH_take (i := 3) (oi := _) (v := ?_) rfl (by kernel_rfl) (by kernel_rfl) (by kernel_rfl) (fun _ _ _ h => h) (Or.inl ⟨by kernel_rfl, ?hy13⟩) (by assumption) ?_
          case hy13 =>
            intro w9 hSw
            try dsimp only at hSw
            try simp only [List.getElem_toArray, List.getElem_cons_zero, List.getElem_cons_succ]
            go_simp
            try with_reducible rfl
          try simp only [Act.put, List.setIfInBounds_toArray, List.set_cons_zero, List.set_cons_succ, List.getElem_toArray, List.getElem_cons_zero, List.getElem_cons_succ]
          refine wpAnyH_take (i := 5) (oi := _) (v := .agg #[.int .i64 d, .int .u64 (n : Int)]) rfl (by kernel_rfl) (by kernel_rfl) (by kernel_rfl) (fun _ _ _ h => h) (Or.inl ⟨by kernel_rfl, ?hy14⟩) (by assumption) ?_
          case hy14 =>
            intro w9 hSw
            try dsimp only at hSw
            try simp only [List.getElem_toArray, List.getElem_cons_zero, List.getElem_cons_succ]
            go_simp
            try obtain ⟨-, hx0, hx1⟩ := hSw
            try go_simp
            try with_reducible rfl
          try simp only [Act.put, List.setIfInBounds_toArray, List.set_cons_zero, List.set_cons_succ, List.getElem_toArray, List.getElem_cons_zero, List.getElem_cons_succ]
          refine wpAnyH_take (i := 8) (oi := _) (v := ?_) rfl (by kernel_rfl) (by kernel_rfl) (by kernel_rfl) (fun _ _ _ h => h) (Or.inl ⟨by kernel_rfl, ?hy15⟩) (by assumption) ?_
          case hy15 =>
            intro w9 hSw
            try dsimp only at hSw
            try simp only [List.getElem_toArray, List.getElem_cons_zero, List.getElem_cons_succ]
            go_simp
            try with_reducible rfl
          try simp only [Act.put, List.setIfInBounds_toArray, List.set_cons_zero, List.set_cons_succ, List.getElem_toArray, List.getElem_cons_zero, List.getElem_cons_succ]
          refine wpAnyH_take (i := 9) (oi := _) (v := ?_) rfl (by kernel_rfl) (by kernel_rfl) (by kernel_rfl) (fun _ _ _ h => h) (Or.inl ⟨by kernel_rfl, ?hy16⟩) (by assumption) ?_
          case hy16 =>
            intro w9 hSw
            try dsimp only at hSw
            try simp only [List.getElem_toArray, List.getElem_cons_zero, List.getElem_cons_succ]
            go_simp
            try with_reducible rfl
          try simp only [Act.put, List.setIfInBounds_toArray, List.set_cons_zero, List.set_cons_succ, List.getElem_toArray, List.getElem_cons_zero, List.getElem_cons_succ]
          refine wpAnyH_take (i := 10) (oi := _) (v := ?_) rfl (by kernel_rfl) (by kernel_rfl) (by kernel_rfl) (fun _ _ _ h => h) (Or.inl ⟨by kernel_rfl, ?hy17⟩) (by assumption) ?_
          case hy17 =>
            intro w9 hSw
            try dsimp only at hSw
            try simp only [List.getElem_toArray, List.getElem_cons_zero, List.getElem_cons_succ]
            go_simp
            try with_reducible rfl
          try simp only [Act.put, List.setIfInBounds_toArray, List.set_cons_zero, List.set_cons_succ, List.getElem_toArray, List.getElem_cons_zero, List.getElem_cons_succ]
          clear st sh
          obtain ⟨U0, hU0⟩ : ∃ U, w9.drew = U := ⟨_, rfl⟩
          rw [hU0] at hHeld ⊢
          clear hU0
          refine wpAnyH_ready (rs := [0, 6]) (by kernel_rfl) (by simp) (AllReadyH.cons (o := _) rfl (fun K hK => ?_) (AllReadyH.cons (o := _) rfl (fun K hK => ?_) AllReadyH.nil))
          · skip
            try simp only [List.getElem_toArray, List.getElem_cons_zero, List.getElem_cons_succ]
            go_simp
            have hbz0 := (Below.refl U0.heap.size U0).alloc (Nat.le_refl _) (.cells #[] 32)
            have hoz0 := OwnK.empty (E := encD) U0 w9.heap.size 32 hHeld.1.size
            have hgz0 : w9.heap.size ≤ U0.heap.size := hHeld.1.size
            have hgs0 : (U0.alloc (.cells #[] 32)).heap.size = U0.heap.size + 1 := World.size_alloc _ _
            refine hK.out _ _ (⟨hHeld.1.trans (hbz0.mono hHeld.1.size), hHeld.2.below hbz0⟩) (fun hHeld => ?_)
            clear hK K
            generalize (U0.alloc (.cells #[] 32)) = u10 at *
            obtain ⟨g0, hg0⟩ : ∃ g, U0.heap.size = g := ⟨_, rfl⟩
            rw [hg0] at hoz0 hgz0 hgs0 ⊢
            have HOWN := Lib.hid hoz0
            have HGS0 := Lib.hid hgs0
            have HG0 := Lib.hid hg0
            clear hgs0 hg0
            clear hbz0 hoz0
            try simp only [Act.put, List.setIfInBounds_toArray, List.set_cons_zero, List.set_cons_succ, List.getElem_toArray, List.getElem_cons_zero, List.getElem_cons_succ]
            refine wpAnyH_ready (rs := [4, 6]) (by kernel_rfl) (by simp) (AllReadyH.cons (o := _) rfl (fun K hK => ?_) (AllReadyH.cons (o := _) rfl (fun K hK => ?_) AllReadyH.nil))
            · skip
              refine step_append_ka rfl (.tmp 24) (.tmp 27) 36 rfl w9.heap.size 32 encD _ 16 Try.underlying36 info_dot rfl (by decide) (.slice (some ⟨g0, 0, none⟩) 0 0) [] rfl HOWN.out _ (l.take i) rfl (HH.out.below hHeld.1) (by have z := HLL.out; show 0 + (l.take i).length ≤ 1000000000; rw [List.length_take]; omega) hHeld.1.size w9 hHeld.1 (fun v4 u24 ho4 hb4 hg4 => ?_)
              rw [List.nil_append] at ho4
              have hS4 := hHeld.2.grown hg4 (fun e => by have e' : g0 = G := Option.some.inj e; omega) (fun e => by have e' : g0 = G := Option.some.inj e; omega)
              refine hK.out _ _ (⟨hb4, hS4⟩) (fun hHeld => ?_)
              clear hK K
              have HO4 := Lib.hid ho4
              clear ho4 hb4 hg4 hS4
              try simp only [Act.put, List.setIfInBounds_toArray, List.set_cons_zero, List.set_cons_succ, List.getElem_toArray, List.getElem_cons_zero, List.getElem_cons_succ]
              refine wpAnyH_ready (rs := [6]) (by kernel_rfl) (by simp) (AllReadyH.cons (o := _) rfl (fun K hK => ?_) AllReadyH.nil)
              try simp only [List.getElem_toArray, List.getElem_cons_zero, List.getElem_cons_succ]
              go_simp
              have hbz6 := (Below.refl u24.heap.size u24).alloc (Nat.le_refl _) (.cells #[.int .i64 d, .int .u64 (n : Int)] 32)
              have hoz6 := one_dot d n (heap_alloc_new u24 (.cells #[.int .i64 d, .int .u64 (n : Int)] 32))
              have hgs6 : (u24.alloc (.cells #[.int .i64 d, .int .u64 (n : Int)] 32)).heap.size = u24.heap.size + 1 := World.size_alloc _ _
              refine hK.out _ _ (⟨hHeld.1.trans (hbz6.mono hHeld.1.size), hHeld.2.below hbz6⟩) (fun hHeld => ?_)
              clear hK K
              generalize (u24.alloc (.cells #[.int .i64 d, .int .u64 (n : Int)] 32)) = u36 at *
              obtain ⟨g6, hg6⟩ : ∃ g, u24.heap.size = g := ⟨_, rfl⟩
              rw [hg6] at hoz6 hgs6 ⊢
              have HONE := Lib.hid hoz6
              have HGS6 := Lib.hid hgs6
              have HL6 := Lib.hid (show g6 < u36.heap.size by omega)
              have HG6 := Lib.hid hg6
              clear hgs6 hg6
              have HO4 := Lib.hid (HO4.out.below hbz6)
              clear hbz6 hoz6
              try simp only [Act.put, List.setIfInBounds_toArray, List.set_cons_zero, List.set_cons_succ, List.getElem_toArray, List.getElem_cons_zero, List.getElem_cons_succ]
              refine wpAnyH_ready (rs := [7]) (by kernel_rfl) (by simp) (AllReadyH.cons (o := _) rfl (fun K hK => ?_) AllReadyH.nil)
              refine step_append_k rfl (.tmp 28) (.tmp 30) 36 rfl w9.heap.size 32 encD _ 16 Try.underlying36 info_dot rfl (by decide) v4 (l.take i) rfl HO4.out _ [(d, n)] rfl HONE.out Nat.one_pos (by have z := HLL.out; show (l.take i).length + 1 ≤ 1000000000; rw [List.length_take]; omega) hHeld.1.size w9 hHeld.1 (fun v7 u7 ho7 hb7 hg7 => ?_)
              have hS7 := hHeld.2.grown hg7 (fun e => by have e' := (World.ownsRow.lt HO4.out _ e).1; have e'' : w9.heap.size ≤ G := e'; omega) (fun e => by have e' := (World.ownsRow.lt HO4.out _ e).1; have e'' : w9.heap.size ≤ G := e'; omega)
              refine hK.out _ _ (⟨hb7, hS7⟩) (fun hHeld => ?_)
              clear hK K
              try simp only [Act.put, List.setIfInBounds_toArray, List.set_cons_zero, List.set_cons_succ, List.getElem_toArray, List.getElem_cons_zero, List.getElem_cons_succ]
              refine wpAnyH_ready (rs := [11]) (by kernel_rfl) (by simp) (AllReadyH.cons (o := _) rfl (fun K hK => ?_) AllReadyH.nil)
              refine step_append_ka rfl (.tmp 31) (.tmp 34) 36 rfl w9.heap.size 32 encD _ 16 Try.underlying36 info_dot rfl (by decide) v7 (l.take i ++ [(d, n)]) rfl ho7 _ (l.drop i) rfl (HT.out.below hHeld.1) (by have z := HLL.out; rw [List.length_append, List.length_take, List.length_drop]; show _ + 1 + _ ≤ 1000000000; omega) hHeld.1.size w9 hHeld.1 (fun v11 u11 ho11 hb11 hg11 => ?_)
              have hS11 := hHeld.2.grown hg11 (fun e => by have e' := (World.ownsRow.lt ho7 _ e).1; have e'' : w9.heap.size ≤ G := e'; omega) (fun e => by have e' := (World.ownsRow.lt ho7 _ e).1; have e'' : w9.heap.size ≤ G := e'; omega)
              refine hK.out _ _ (⟨hb11, hS11⟩) (fun hHeld => ?_)
              clear hK K
              try simp only [Act.put, List.setIfInBounds_toArray, List.set_cons_zero, List.set_cons_succ, List.getElem_toArray, List.getElem_cons_zero, List.getElem_cons_succ]
              refine wpAnyH_take (i := 12) (oi := _) (v := ?_) rfl (by kernel_rfl) (by kernel_rfl) (by kernel_rfl) (fun _ _ _ h => h) (Or.inl ⟨by kernel_rfl, ?hy18⟩) (by assumption) ?_
              case hy18 =>
                intro w9 hSw
                try dsimp only at hSw
                try simp only [List.getElem_toArray, List.getElem_cons_zero, List.getElem_cons_succ]
                go_simp
                try with_reducible rfl
              try simp only [Act.put, List.setIfInBounds_toArray, List.set_cons_zero, List.set_cons_succ, List.getElem_toArray, List.getElem_cons_zero, List.getElem_cons_succ]
              refine wpAnyH_done (by kernel_rfl) ?_ _
              go_wp2
              go_ret
              rw [HGG.out]
              exact ⟨_, rfl, by rw [HA.out]; exact ho11.has, HBW.out.trans (hb11.mono (by have := HBW.out.size; rw [HGG.out] at this; exact this))⟩

            · skip
              try simp only [List.getElem_toArray, List.getElem_cons_zero, List.getElem_cons_succ]
              go_simp
              have hbz6 := (Below.refl u10.heap.size u10).alloc (Nat.le_refl _) (.cells #[.int .i64 d, .int .u64 (n : Int)] 32)
              have hoz6 := one_dot d n (heap_alloc_new u10 (.cells #[.int .i64 d, .int .u64 (n : Int)] 32))
              have hgs6 : (u10.alloc (.cells #[.int .i64 d, .int .u64 (n : Int)] 32)).heap.size = u10.heap.size + 1 := World.size_alloc _ _
              refine hK.out _ _ (⟨hHeld.1.trans (hbz6.mono hHeld.1.size), hHeld.2.below hbz6⟩) (fun hHeld => ?_)
              clear hK K
              generalize (u10.alloc (.cells #[.int .i64 d, .int .u64 (n : Int)] 32)) = u26 at *
              obtain ⟨g6, hg6⟩ : ∃ g, u10.heap.size = g := ⟨_, rfl⟩
              rw [hg6] at hoz6 hgs6 ⊢
              have HONE := Lib.hid hoz6
              have HGS6 := Lib.hid hgs6
              have HL6 := Lib.hid (show g6 < u26.heap.size by omega)
              have HG6 := Lib.hid hg6
              clear hgs6 hg6
              have hne : g0 ≠ g6 := by
                have e1 := HG6.out
                have e2 := HGS0.out
                omega
              have HOWN := Lib.hid (HOWN.out.below hbz6)
              clear hbz6 hoz6
              try simp only [Act.put, List.setIfInBounds_toArray, List.set_cons_zero, List.set_cons_succ, List.getElem_toArray, List.getElem_cons_zero, List.getElem_cons_succ]
              refine wpAnyH_ready (rs := [4]) (by kernel_rfl) (by simp) (AllReadyH.cons (o := _) rfl (fun K hK => ?_) AllReadyH.nil)
              refine step_append_ka rfl (.tmp 24) (.tmp 27) 36 rfl w9.heap.size 32 encD _ 16 Try.underlying36 info_dot rfl (by decide) (.slice (some ⟨g0, 0, none⟩) 0 0) [] rfl HOWN.out _ (l.take i) rfl (HH.out.below hHeld.1) (by have z := HLL.out; show 0 + (l.take i).length ≤ 1000000000; rw [List.length_take]; omega) hHeld.1.size w9 hHeld.1 (fun v4 u34 ho4 hb4 hg4 => ?_)
              rw [List.nil_append] at ho4
              have hS4 := hHeld.2.grown hg4 (fun e => by have e' : g0 = G := Option.some.inj e; omega) (fun e => by have e' : g0 = G := Option.some.inj e; omega)
              refine hK.out _ _ (⟨hb4, hS4⟩) (fun hHeld => ?_)
              clear hK K
              have HO4 := Lib.hid ho4
              have HONE := Lib.hid (HONE.out.same hg4.size (fun b h0 hb => by
                have e' : g6 = b := Option.some.inj hb
                subst e'
                exact hg4.block g6 HL6.out (fun e => hne (Option.some.inj e).symm)))
              clear ho4 hb4 hg4 hS4
              try simp only [Act.put, List.setIfInBounds_toArray, List.set_cons_zero, List.set_cons_succ, List.getElem_toArray, List.getElem_cons_zero, List.getElem_cons_succ]
              refine wpAnyH_ready (rs := [7]) (by kernel_rfl) (by simp) (AllReadyH.cons (o := _) rfl (fun K hK => ?_) AllReadyH.nil)
              refine step_append_k rfl (.tmp 28) (.tmp 30) 36 rfl w9.heap.size 32 encD _ 16 Try.underlying36 info_dot rfl (by decide) v4 (l.take i) rfl HO4.out _ [(d, n)] rfl HONE.out Nat.one_pos (by have z := HLL.out; show (l.take i).length + 1 ≤ 1000000000; rw [List.length_take]; omega) hHeld.1.size w9 hHeld.1 (fun v7 u7 ho7 hb7 hg7 => ?_)
              have hS7 := hHeld.2.grown hg7 (fun e => by have e' := (World.ownsRow.lt HO4.out _ e).1; have e'' : w9.heap.size ≤ G := e'; omega) (fun e => by have e' := (World.ownsRow.lt HO4.out _ e).1; have e'' : w9.heap.size ≤ G := e'; omega)
              refine hK.out _ _ (⟨hb7, hS7⟩) (fun hHeld => ?_)
              clear hK K
              try simp only [Act.put, List.setIfInBounds_toArray, List.set_cons_zero, List.set_cons_succ, List.getElem_toArray, List.getElem_cons_zero, List.getElem_cons_succ]
              refine wpAnyH_ready (rs := [11]) (by kernel_rfl) (by simp) (AllReadyH.cons (o := _) rfl (fun K hK => ?_) AllReadyH.nil)
              refine step_append_ka rfl (.tmp 31) (.tmp 34) 36 rfl w9.heap.size 32 encD _ 16 Try.underlying36 info_dot rfl (by decide) v7 (l.take i ++ [(d, n)]) rfl ho7 _ (l.drop i) rfl (HT.out.below hHeld.1) (by have z := HLL.out; rw [List.length_append, List.length_take, List.length_drop]; show _ + 1 + _ ≤ 1000000000; omega) hHeld.1.size w9 hHeld.1 (fun v11 u11 ho11 hb11 hg11 => ?_)
              have hS11 := hHeld.2.grown hg11 (fun e => by have e' := (World.ownsRow.lt ho7 _ e).1; have e'' : w9.heap.size ≤ G := e'; omega) (fun e => by have e' := (World.ownsRow.lt ho7 _ e).1; have e'' : w9.heap.size ≤ G := e'; omega)
              refine hK.out _ _ (⟨hb11, hS11⟩) (fun hHeld => ?_)
              clear hK K
              try simp only [Act.put, List.setIfInBounds_toArray, List.set_cons_zero, List.set_cons_succ, List.getElem_toArray, List.getElem_cons_zero, List.getElem_cons_succ]
              refine wpAnyH_take (i := 12) (oi := _) (v := ?_) rfl (by kernel_rfl) (by kernel_rfl) (by kernel_rfl) (fun _ _ _ h => h) (Or.inl ⟨by kernel_rfl, ?hy19⟩) (by assumption) ?_
              case hy19 =>
                intro w9 hSw
                try dsimp only at hSw
                try simp only [List.getElem_toArray, List.getElem_cons_zero, List.getElem_cons_succ]
                go_simp
                try with_reducible rfl
              try simp only [Act.put, List.setIfInBounds_toArray, List.set_cons_zero, List.set_cons_succ, List.getElem_toArray, List.getElem_cons_zero, List.getElem_cons_succ]
              refine wpAnyH_done (by kernel_rfl) ?_ _
              go_wp2
              go_ret
              rw [HGG.out]
              exact ⟨_, rfl, by rw [HA.out]; exact ho11.has, HBW.out.trans (hb11.mono (by have := HBW.out.size; rw [HGG.out] at this; exact this))⟩


          · skip
            try simp only [List.getElem_toArray, List.getElem_cons_zero, List.getElem_cons_succ]
            go_simp
            have hbz6 := (Below.refl U0.heap.size U0).alloc (Nat.le_refl _) (.cells #[.int .i64 d, .int .u64 (n : Int)] 32)
            have hoz6 := one_dot d n (heap_alloc_new U0 (.cells #[.int .i64 d, .int .u64 (n : Int)] 32))
            have hgs6 : (U0.alloc (.cells #[.int .i64 d, .int .u64 (n : Int)] 32)).heap.size = U0.heap.size + 1 := World.size_alloc _ _
            refine hK.out _ _ (⟨hHeld.1.trans (hbz6.mono hHeld.1.size), hHeld.2.below hbz6⟩) (fun hHeld => ?_)
            clear hK K
            generalize (U0.alloc (.cells #[.int .i64 d, .int .u64 (n : Int)] 32)) = u16 at *
            obtain ⟨g6, hg6⟩ : ∃ g, U0.heap.size = g := ⟨_, rfl⟩
            rw [hg6] at hoz6 hgs6 ⊢
            have HONE := Lib.hid hoz6
            have HGS6 := Lib.hid hgs6
            have HL6 := Lib.hid (show g6 < u16.heap.size by omega)
            have HG6 := Lib.hid hg6
            clear hgs6 hg6
            clear hbz6 hoz6
            try simp only [Act.put, List.setIfInBounds_toArray, List.set_cons_zero, List.set_cons_succ, List.getElem_toArray, List.getElem_cons_zero, List.getElem_cons_succ]
            refine wpAnyH_ready (rs := [0]) (by kernel_rfl) (by simp) (AllReadyH.cons (o := _) rfl (fun K hK => ?_) AllReadyH.nil)
            try simp only [List.getElem_toArray, List.getElem_cons_zero, List.getElem_cons_succ]
            go_simp
            have hbz0 := (Below.refl u16.heap.size u16).alloc (Nat.le_refl _) (.cells #[] 32)
            have hoz0 := OwnK.empty (E := encD) u16 w9.heap.size 32 hHeld.1.size
            have hgz0 : w9.heap.size ≤ u16.heap.size := hHeld.1.size
            have hgs0 : (u16.alloc (.cells #[] 32)).heap.size = u16.heap.size + 1 := World.size_alloc _ _
            refine hK.out _ _ (⟨hHeld.1.trans (hbz0.mono hHeld.1.size), hHeld.2.below hbz0⟩) (fun hHeld => ?_)
            clear hK K
            generalize (u16.alloc (.cells #[] 32)) = u20 at *
            obtain ⟨g0, hg0⟩ : ∃ g, u16.heap.size = g := ⟨_, rfl⟩
            rw [hg0] at hoz0 hgz0 hgs0 ⊢
            have HOWN := Lib.hid hoz0
            have HGS0 := Lib.hid hgs0
            have HG0 := Lib.hid hg0
            clear hgs0 hg0
            have hne : g0 ≠ g6 := by
              have e1 := HG0.out
              have e2 := HGS6.out
              omega
            have HONE := Lib.hid (HONE.out.below hbz0)
            have HL6 := Lib.hid (Nat.lt_of_lt_of_le HL6.out hbz0.size)
            clear hbz0 hoz0
            try simp only [Act.put, List.setIfInBounds_toArray, List.set_cons_zero, List.set_cons_succ, List.getElem_toArray, List.getElem_cons_zero, List.getElem_cons_succ]
            refine wpAnyH_ready (rs := [4]) (by kernel_rfl) (by simp) (AllReadyH.cons (o := _) rfl (fun K hK => ?_) AllReadyH.nil)
            refine step_append_ka rfl (.tmp 24) (.tmp 27) 36 rfl w9.heap.size 32 encD _ 16 Try.underlying36 info_dot rfl (by decide) (.slice (some ⟨g0, 0, none⟩) 0 0) [] rfl HOWN.out _ (l.take i) rfl (HH.out.below hHeld.1) (by have z := HLL.out; show 0 + (l.take i).length ≤ 1000000000; rw [List.length_take]; omega) hHeld.1.size w9 hHeld.1 (fun v4 u34 ho4 hb4 hg4 => ?_)
            rw [List.nil_append] at ho4
            have hS4 := hHeld.2.grown hg4 (fun e => by have e' : g0 = G := Option.some.inj e; omega) (fun e => by have e' : g0 = G := Option.some.inj e; omega)
            refine hK.out _ _ (⟨hb4, hS4⟩) (fun hHeld => ?_)
            clear hK K
            have HO4 := Lib.hid ho4
            have HONE := Lib.hid (HONE.out.same hg4.size (fun b h0 hb => by
              have e' : g6 = b := Option.some.inj hb
              subst e'
              exact hg4.block g6 HL6.out (fun e => hne (Option.some.inj e).symm)))
            clear ho4 hb4 hg4 hS4
            try simp only [Act.put, List.setIfInBounds_toArray, List.set_cons_zero, List.set_cons_succ, List.getElem_toArray, List.getElem_cons_zero, List.getElem_cons_succ]
            refine wpAnyH_ready (rs := [7]) (by kernel_rfl) (by simp) (AllReadyH.cons (o := _) rfl (fun K hK => ?_) AllReadyH.nil)
            refine step_append_k rfl (.tmp 28) (.tmp 30) 36 rfl w9.heap.size 32 encD _ 16 Try.underlying36 info_dot rfl (by decide) v4 (l.take i) rfl HO4.out _ [(d, n)] rfl HONE.out Nat.one_pos (by have z := HLL.out; show (l.take i).length + 1 ≤ 1000000000; rw [List.length_take]; omega) hHeld.1.size w9 hHeld.1 (fun v7 u7 ho7 hb7 hg7 => ?_)
            have hS7 := hHeld.2.grown hg7 (fun e => by have e' := (World.ownsRow.lt HO4.out _ e).1; have e'' : w9.heap.size ≤ G := e'; omega) (fun e => by have e' := (World.ownsRow.lt HO4.out _ e).1; have e'' : w9.heap.size ≤ G := e'; omega)
            refine hK.out _ _ (⟨hb7, hS7⟩) (fun hHeld => ?_)
            clear hK K
            try simp only [Act.put, List.setIfInBounds_toArray, List.set_cons_zero, List.set_cons_succ, List.getElem_toArray, List.getElem_cons_zero, List.getElem_cons_succ]
            refine wpAnyH_ready (rs := [11]) (by kernel_rfl) (by simp) (AllReadyH.cons (o := _) rfl (fun K hK => ?_) AllReadyH.nil)
            refine step_append_ka rfl (.tmp 31) (.tmp 34) 36 rfl w9.heap.size 32 encD _ 16 Try.underlying36 info_dot rfl (by decide) v7 (l.take i ++ [(d, n)]) rfl ho7 _ (l.drop i) rfl (HT.out.below hHeld.1) (by have z := HLL.out; rw [List.length_append, List.length_take, List.length_drop]; show _ + 1 + _ ≤ 1000000000; omega) hHeld.1.size w9 hHeld.1 (fun v11 u11 ho11 hb11 hg11 => ?_)
            have hS11 := hHeld.2.grown hg11 (fun e => by have e' := (World.ownsRow.lt ho7 _ e).1; have e'' : w9.heap.size ≤ G := e'; omega) (fun e => by have e' := (World.ownsRow.lt ho7 _ e).1; have e'' : w9.heap.size ≤ G := e'; omega)
            refine hK.out _ _ (⟨hb11, hS11⟩) (fun hHeld => ?_)
            clear hK K
            try simp only [Act.put, List.setIfInBounds_toArray, List.set_cons_zero, List.set_cons_succ, List.getElem_toArray, List.getElem_cons_zero, List.getElem_cons_succ]
            refine wpAnyH_take (i := 12) (oi := _) (v := ?_) rfl (by kernel_rfl) (by kernel_rfl) (by kernel_rfl) (fun _ _ _ h => h) (Or.inl ⟨by kernel_rfl, ?hy20⟩) (by assumption) ?_
            case hy20 =>
              intro w9 hSw
              try dsimp only at hSw
              try simp only [List.getElem_toArray, List.getElem_cons_zero, List.getElem_cons_succ]
              go_simp
              try with_reducible rfl
            try simp only [Act.put, List.setIfInBounds_toArray, List.set_cons_zero, List.set_cons_succ, List.getElem_toArray, List.getElem_cons_zero, List.getElem_cons_succ]
            refine wpAnyH_done (by kernel_rfl) ?_ _
            go_wp2
            go_ret
            rw [HGG.out]
            exact ⟨_, rfl, by rw [HA.out]; exact ho11.has, HBW.out.trans (hb11.mono (by have := HBW.out.size; rw [HGG.out] at this; exact this))⟩


      · obtain rfl : i = q := by omega
        have hI : ¬ (i : Int) < (m : Int) := by omega
        go_upto_region 4 with fail
        have hbd := (Below.refl W0.heap.size W0).drew
        have HV5 := Lib.hid (HV3.out.below hbd)
        have HBX5 := Lib.hid (HBX3.out.below hbd)
        have HBF5 := Lib.hid (HBF.out.trans (hbd.mono (by have := HBF.out.size; rw [HGG.out] at this; exact this)))
        clear hbd
        refine AnyL.begin (S := fun W => TwoC ⟨G, 0, none⟩ ⟨G, 1, none⟩ (.int .i64 d) (.int .u64 (n : Int)) W) 11 (by kernel_rfl) HBX5.out (fun hHeld => ?_)
        refine AnyL.take (i := 0) (oi := _) (v := ?_) 30 rfl (by kernel_rfl) (by kernel_rfl) (by kernel_rfl) (by kernel_rfl) (by kernel_rfl) (fun _ _ _ h => h) (Or.inl ⟨by kernel_rfl, ?hy21⟩) (by assumption) ?_
        case hy21 =>
          intro w9 hSw
          try dsimp only at hSw
          try simp only [List.getElem_toArray, List.getElem_cons_zero, List.getElem_cons_succ]
          go_simp
          try with_reducible rfl
        try simp only [Act.put, List.setIfInBounds_toArray, List.set_cons_zero, List.set_cons_succ, List.getElem_toArray, List.getElem_cons_zero, List.getElem_cons_succ]
        refine AnyL.take (i := 1) (oi := _) (v := ?_) 30 rfl (by kernel_rfl) (by kernel_rfl) (by kernel_rfl) (by kernel_rfl) (by kernel_rfl) (fun _ _ _ h => h) (Or.inl ⟨by kernel_rfl, ?hy22⟩) (by assumption) ?_
        case hy22 =>
          intro w9 hSw
          try dsimp only at hSw
          try simp only [List.getElem_toArray, List.getElem_cons_zero, List.getElem_cons_succ]
          go_simp
          try with_reducible rfl
        try simp only [Act.put, List.setIfInBounds_toArray, List.set_cons_zero, List.set_cons_succ, List.getElem_toArray, List.getElem_cons_zero, List.getElem_cons_succ]
        refine AnyL.take (i := 2) (oi := _) (v := ?_) 30 rfl (by kernel_rfl) (by kernel_rfl) (by kernel_rfl) (by kernel_rfl) (by kernel_rfl) (fun _ _ _ h => h) (Or.inl ⟨by kernel_rfl, ?hy23⟩) (by assumption) ?_
        case hy23 =>
          intro w9 hSw
          try dsimp only at hSw
          try simp only [List.getElem_toArray, List.getElem_cons_zero, List.getElem_cons_succ]
          go_simp
          try with_reducible rfl
        try simp only [Act.put, List.setIfInBounds_toArray, List.set_cons_zero, List.set_cons_succ, List.getElem_toArray, List.getElem_cons_zero, List.getElem_cons_succ]
        refine AnyL.take (i := 3) (oi := _) (v := ?_) 30 rfl (by kernel_rfl) (by kernel_rfl) (by kernel_rfl) (by kernel_rfl) (by kernel_rfl) (fun _ _ _ h => h) (Or.inl ⟨by kernel_rfl, ?hy24⟩) (by assumption) ?_
        case hy24 =>
          intro w9 hSw
          try dsimp only at hSw
          try simp only [List.getElem_toArray, List.getElem_cons_zero, List.getElem_cons_succ]
          go_simp
          try with_reducible rfl
        try simp only [Act.put, List.setIfInBounds_toArray, List.set_cons_zero, List.set_cons_succ, List.getElem_toArray, List.getElem_cons_zero, List.getElem_cons_succ]
        refine AnyL.take (i := 4) (oi := _) (v := ?_) 30 rfl (by kernel_rfl) (by kernel_rfl) (by kernel_rfl) (by kernel_rfl) (by kernel_rfl) (fun _ _ _ h => h) (Or.inl ⟨by kernel_rfl, ?hy25⟩) (by assumption) ?_
        case hy25 =>
          intro w9 hSw
          try dsimp only at hSw
          try simp only [List.getElem_toArray, List.getElem_cons_zero, List.getElem_cons_succ]
          go_simp
          try with_reducible rfl
        try simp only [Act.put, List.setIfInBounds_toArray, List.set_cons_zero, List.set_cons_succ, List.getElem_toArray, List.getElem_cons_zero, List.getElem_cons_succ]
        refine AnyL.take (i := 5) (oi := _) (v := undef) 30 rfl (by kernel_rfl) (by kernel_rfl) (by kernel_rfl) (by kernel_rfl) (by kernel_rfl) (fun _ _ _ h => h) (Or.inr ⟨by rfl, rfl⟩) (by assumption) ?_
        try simp only [Act.put, List.setIfInBounds_toArray, List.set_cons_zero, List.set_cons_succ, List.getElem_toArray, List.getElem_cons_zero, List.getElem_cons_succ]
        refine AnyL.take (i := 6) (oi := _) (v := undef) 30 rfl (by kernel_rfl) (by kernel_rfl) (by kernel_rfl) (by kernel_rfl) (by kernel_rfl) (fun _ _ _ h => h) (Or.inr ⟨by rfl, rfl⟩) (by assumption) ?_
        try simp only [Act.put, List.setIfInBounds_toArray, List.set_cons_zero, List.set_cons_succ, List.getElem_toArray, List.getElem_cons_zero, List.getElem_cons_succ]
        refine AnyL.take (i := 7) (oi := _) (v := undef) 30 rfl (by kernel_rfl) (by kernel_rfl) (by kernel_rfl) (by kernel_rfl) (by kernel_rfl) (fun _ _ _ h => h) (Or.inr ⟨by rfl, rfl⟩) (by assumption) ?_
        try simp only [Act.put, List.setIfInBounds_toArray, List.set_cons_zero, List.set_cons_succ, List.getElem_toArray, List.getElem_cons_zero, List.getElem_cons_succ]
        refine AnyL.take (i := 8) (oi := _) (v := undef) 30 rfl (by kernel_rfl) (by kernel_rfl) (by kernel_rfl) (by kernel_rfl) (by kernel_rfl) (fun _ _ _ h => h) (Or.inr ⟨by rfl, rfl⟩) (by assumption) ?_
        try simp only [Act.put, List.setIfInBounds_toArray, List.set_cons_zero, List.set_cons_succ, List.getElem_toArray, List.getElem_cons_zero, List.getElem_cons_succ]
        refine AnyL.take (i := 9) (oi := _) (v := undef) 30 rfl (by kernel_rfl) (by kernel_rfl) (by kernel_rfl) (by kernel_rfl) (by kernel_rfl) (fun _ _ _ h => h) (Or.inr ⟨by rfl, rfl⟩) (by assumption) ?_
        try simp only [Act.put, List.setIfInBounds_toArray, List.set_cons_zero, List.set_cons_succ, List.getElem_toArray, List.getElem_cons_zero, List.getElem_cons_succ]
        refine AnyL.take (i := 10) (oi := _) (v := undef) 30 rfl (by kernel_rfl) (by kernel_rfl) (by kernel_rfl) (by kernel_rfl) (by kernel_rfl) (fun _ _ _ h => h) (Or.inr ⟨by rfl, rfl⟩) (by assumption) ?_
        try simp only [Act.put, List.setIfInBounds_toArray, List.set_cons_zero, List.set_cons_succ, List.getElem_toArray, List.getElem_cons_zero, List.getElem_cons_succ]
        refine AnyL.one (i := 11) (o := _) (by kernel_rfl) rfl (fun K hK => ?_)
        try simp only [List.getElem_toArray, List.getElem_cons_zero, List.getElem_cons_succ]
        go_simp
        refine hK.out _ _ (fun h => absurd rfl h) (fun _ => ?_)
        clear hK K
        try simp only [Act.put, List.setIfInBounds_toArray, List.set_cons_zero, List.set_cons_succ, List.getElem_toArray, List.getElem_cons_zero, List.getElem_cons_succ]
        refine AnyL.done (by kernel_rfl) ?_ _
        clear hHeld
        generalize W0.drew = W5 at *
        go_upto_region 6 with fail
        obtain ⟨pt, ct, st, ht⟩ := dot_tail HV5.out i (by rw [HM.out]; exact hple)
        obtain ⟨ph, ch, sh, hh⟩ := dot_head HV5.out i (by rw [HM.out]; exact hple)
        rw [HM.out] at st ht
        rw [show m - i = 0 by omega] at st ht
        have HT := Lib.hid (ht W5 HV5.out)
        have HH := Lib.hid (hh W5 HV5.out)
        have HBW := Lib.hid HBF5.out
        have hGB : G < W5.heap.size := cell_lt HBX5.out.1
        have hq0 : (0 : Int) ≤ (i : Int) := by omega
        clear ht hh
        refine wp_region_held_drew (S := fun W' => Below W5.heap.size W5 W' ∧ TwoC ⟨G, 0, none⟩ ⟨G, 1, none⟩ (.int .i64 d) (.int .u64 (n : Int)) W') (by kernel_rfl) ⟨(Below.refl _ _).drew, HBX5.out⟩ (fun hHeld => ?_)
        refine wpAnyH_take (i := 1) (oi := _) (v := ?_) rfl (by kernel_rfl) (by kernel_rfl) (by kernel_rfl) (fun _ _ _ h => h) (Or.inl ⟨by kernel_rfl, ?hy26⟩) (by assumption) ?_
        case hy26 =>
          intro w9 hSw
          try dsimp only at hSw
          try simp only [List.getElem_toArray, List.getElem_cons_zero, List.getElem_cons_succ]
          go_simp
          try with_reducible rfl
        try simp only [Act.put, List.setIfInBounds_toArray, List.set_cons_zero, List.set_cons_succ, List.getElem_toArray, List.getElem_cons_zero, List.getElem_cons_succ]
        refine wpAnyH_take (i := 2) (oi := _) (v := ?_) rfl (by kernel_rfl) (by kernel_rfl) (by kernel_rfl) (fun _ _ _ h => h) (Or.inl ⟨by kernel_rfl, ?hy27⟩) (by assumption) ?_
        case hy27 =>
          intro w9 hSw
          try dsimp only at hSw
          try simp only [List.getElem_toArray, List.getElem_cons_zero, List.getElem_cons_succ]
          go_simp
          try with_reducible rfl
        try simp only [Act.put, List.setIfInBounds_toArray, List.set_cons_zero, List.set_cons_succ, List.getElem_toArray, List.getElem_cons_zero, List.getElem_cons_succ]
        refine wpAnyH_take (i := 3) (oi := _) (v := ?_) rfl (by kernel_rfl) (by kernel_rfl) (by kernel_rfl) (fun _ _ _ h => h) (Or.inl ⟨by kernel_rfl, ?hy28⟩) (by assumption) ?_
        case hy28 =>
          intro w9 hSw
          try dsimp only at hSw
          try simp only [List.getElem_toArray, List.getElem_cons_zero, List.getElem_cons_succ]
          go_simp
          try with_reducible rfl
        try simp only [Act.put, List.setIfInBounds_toArray, List.set_cons_zero, List.set_cons_succ, List.getElem_toArray, List.getElem_cons_zero, List.getElem_cons_succ]
        refine wpAnyH_take (i := 5) (oi := _) (v := .agg #[.int .i64 d, .int .u64 (n : Int)]) rfl (by kernel_rfl) (by kernel_rfl) (by kernel_rfl) (fun _ _ _ h => h) (Or.inl ⟨by kernel_rfl, ?hy29⟩) (by assumption) ?_
        case hy29 =>
          intro w9 hSw
          try dsimp only at hSw
          try simp only [List.getElem_toArray, List.getElem_cons_zero, List.getElem_cons_succ]
          go_simp
          try obtain ⟨-, hx0, hx1⟩ := hSw
          try go_simp
          try with_reducible rfl
        try simp only [Act.put, List.setIfInBounds_toArray, List.set_cons_zero, List.set_cons_succ, List.getElem_toArray, List.getElem_cons_zero, List.getElem_cons_succ]
        refine wpAnyH_take (i := 8) (oi := _) (v := ?_) rfl (by kernel_rfl) (by kernel_rfl) (by kernel_rfl) (fun _ _ _ h => h) (Or.inl ⟨by kernel_rfl, ?hy30⟩) (by assumption) ?_
        case hy30 =>
          intro w9 hSw
          try dsimp only at hSw
          try simp only [List.getElem_toArray, List.getElem_cons_zero, List.getElem_cons_succ]
          go_simp
          try with_reducible rfl
        try simp only [Act.put, List.setIfInBounds_toArray, List.set_cons_zero, List.set_cons_succ, List.getElem_toArray, List.getElem_cons_zero, List.getElem_cons_succ]
        refine wpAnyH_take (i := 9) (oi := _) (v := ?_) rfl (by kernel_rfl) (by kernel_rfl) (by kernel_rfl) (fun _ _ _ h => h) (Or.inl ⟨by kernel_rfl, ?hy31⟩) (by assumption) ?_
        case hy31 =>
          intro w9 hSw
          try dsimp only at hSw
          try simp only [List.getElem_toArray, List.getElem_cons_zero, List.getElem_cons_succ]
          go_simp
          try with_reducible rfl
        try simp only [Act.put, List.setIfInBounds_toArray, List.set_cons_zero, List.set_cons_succ, List.getElem_toArray, List.getElem_cons_zero, List.getElem_cons_succ]
        refine wpAnyH_take (i := 10) (oi := _) (v := ?_) rfl (by kernel_rfl) (by kernel_rfl) (by kernel_rfl) (fun _ _ _ h => h) (Or.inl ⟨by kernel_rfl, ?hy32⟩) (by assumption) ?_
        case hy32 =>
          intro w9 hSw
          try dsimp only at hSw
          try simp only [List.getElem_toArray, List.getElem_cons_zero, List.getElem_cons_succ]
          go_simp
          try with_reducible rfl
        try simp only [Act.put, List.setIfInBounds_toArray, List.set_cons_zero, List.set_cons_succ, List.getElem_toArray, List.getElem_cons_zero, List.getElem_cons_succ]
        clear st sh
        obtain ⟨U0, hU0⟩ : ∃ U, W5.drew = U := ⟨_, rfl⟩
        rw [hU0] at hHeld ⊢
        clear hU0
        refine wpAnyH_ready (rs := [0, 6]) (by kernel_rfl) (by simp) (AllReadyH.cons (o := _) rfl (fun K hK => ?_) (AllReadyH.cons (o := _) rfl (fun K hK => ?_) AllReadyH.nil))
        · skip
          try simp only [List.getElem_toArray, List.getElem_cons_zero, List.getElem_cons_succ]
          go_simp
          have hbz0 := (Below.refl U0.heap.size U0).alloc (Nat.le_refl _) (.cells #[] 32)
          have hoz0 := OwnK.empty (E := encD) U0 W5.heap.size 32 hHeld.1.size
          have hgz0 : W5.heap.size ≤ U0.heap.size := hHeld.1.size
          have hgs0 : (U0.alloc (.cells #[] 32)).heap.size = U0.heap.size + 1 := World.size_alloc _ _
          refine hK.out _ _ (⟨hHeld.1.trans (hbz0.mono hHeld.1.size), hHeld.2.below hbz0⟩) (fun hHeld => ?_)
          clear hK K
          generalize (U0.alloc (.cells #[] 32)) = u10 at *
          obtain ⟨g0, hg0⟩ : ∃ g, U0.heap.size = g := ⟨_, rfl⟩
          rw [hg0] at hoz0 hgz0 hgs0 ⊢
          have HOWN := Lib.hid hoz0
          have HGS0 := Lib.hid hgs0
          have HG0 := Lib.hid hg0
          clear hgs0 hg0
          clear hbz0 hoz0
          try simp only [Act.put, List.setIfInBounds_toArray, List.set_cons_zero, List.set_cons_succ, List.getElem_toArray, List.getElem_cons_zero, List.getElem_cons_succ]
          refine wpAnyH_ready (rs := [4, 6]) (by kernel_rfl) (by simp) (AllReadyH.cons (o := _) rfl (fun K hK => ?_) (AllReadyH.cons (o := _) rfl (fun K hK => ?_) AllReadyH.nil))
          · skip
            refine step_append_ka rfl (.tmp 24) (.tmp 27) 36 rfl W5.heap.size 32 encD _ 16 Try.underlying36 info_dot rfl (by decide) (.slice (some ⟨g0, 0, none⟩) 0 0) [] rfl HOWN.out _ (l.take i) rfl (HH.out.below hHeld.1) (by have z := HLL.out; show 0 + (l.take i).length ≤ 1000000000; rw [List.length_take]; omega) hHeld.1.size W5 hHeld.1 (fun v4 u24 ho4 hb4 hg4 => ?_)
            rw [List.nil_append] at ho4
            have hS4 := hHeld.2.grown hg4 (fun e => by have e' : g0 = G := Option.some.inj e; omega) (fun e => by have e' : g0 = G := Option.some.inj e; omega)
            refine hK.out _ _ (⟨hb4, hS4⟩) (fun hHeld => ?_)
            clear hK K
            have HO4 := Lib.hid ho4
            clear ho4 hb4 hg4 hS4
            try simp only [Act.put, List.setIfInBounds_toArray, List.set_cons_zero, List.set_cons_succ, List.getElem_toArray, List.getElem_cons_zero, List.getElem_cons_succ]
            refine wpAnyH_ready (rs := [6]) (by kernel_rfl) (by simp) (AllReadyH.cons (o := _) rfl (fun K hK => ?_) AllReadyH.nil)
            try simp only [List.getElem_toArray, List.getElem_cons_zero, List.getElem_cons_succ]
            go_simp
            have hbz6 := (Below.refl u24.heap.size u24).alloc (Nat.le_refl _) (.cells #[.int .i64 d, .int .u64 (n : Int)] 32)
            have hoz6 := one_dot d n (heap_alloc_new u24 (.cells #[.int .i64 d, .int .u64 (n : Int)] 32))
            have hgs6 : (u24.alloc (.cells #[.int .i64 d, .int .u64 (n : Int)] 32)).heap.size = u24.heap.size + 1 := World.size_alloc _ _
            refine hK.out _ _ (⟨hHeld.1.trans (hbz6.mono hHeld.1.size), hHeld.2.below hbz6⟩) (fun hHeld => ?_)
            clear hK K
            generalize (u24.alloc (.cells #[.int .i64 d, .int .u64 (n : Int)] 32)) = u36 at *
            obtain ⟨g6, hg6⟩ : ∃ g, u24.heap.size = g := ⟨_, rfl⟩
            rw [hg6] at hoz6 hgs6 ⊢
            have HONE := Lib.hid hoz6
            have HGS6 := Lib.hid hgs6
            have HL6 := Lib.hid (show g6 < u36.heap.size by omega)
            have HG6 := Lib.hid hg6
            clear hgs6 hg6
            have HO4 := Lib.hid (HO4.out.below hbz6)
            clear hbz6 hoz6
            try simp only [Act.put, List.setIfInBounds_toArray, List.set_cons_zero, List.set_cons_succ, List.getElem_toArray, List.getElem_cons_zero, List.getElem_cons_succ]
            refine wpAnyH_ready (rs := [7]) (by kernel_rfl) (by simp) (AllReadyH.cons (o := _) rfl (fun K hK => ?_) AllReadyH.nil)
            refine step_append_k rfl (.tmp 28) (.tmp 30) 36 rfl W5.heap.size 32 encD _ 16 Try.underlying36 info_dot rfl (by decide) v4 (l.take i) rfl HO4.out _ [(d, n)] rfl HONE.out Nat.one_pos (by have z := HLL.out; show (l.take i).length + 1 ≤ 1000000000; rw [List.length_take]; omega) hHeld.1.size W5 hHeld.1 (fun v7 u7 ho7 hb7 hg7 => ?_)
            have hS7 := hHeld.2.grown hg7 (fun e => by have e' := (World.ownsRow.lt HO4.out _ e).1; have e'' : W5.heap.size ≤ G := e'; omega) (fun e => by have e' := (World.ownsRow.lt HO4.out _ e).1; have e'' : W5.heap.size ≤ G := e'; omega)
            refine hK.out _ _ (⟨hb7, hS7⟩) (fun hHeld => ?_)
            clear hK K
            try simp only [Act.put, List.setIfInBounds_toArray, List.set_cons_zero, List.set_cons_succ, List.getElem_toArray, List.getElem_cons_zero, List.getElem_cons_succ]
            refine wpAnyH_ready (rs := [11]) (by kernel_rfl) (by simp) (AllReadyH.cons (o := _) rfl (fun K hK => ?_) AllReadyH.nil)
            refine step_append_ka rfl (.tmp 31) (.tmp 34) 36 rfl W5.heap.size 32 encD _ 16 Try.underlying36 info_dot rfl (by decide) v7 (l.take i ++ [(d, n)]) rfl ho7 _ (l.drop i) rfl (HT.out.below hHeld.1) (by have z := HLL.out; rw [List.length_append, List.length_take, List.length_drop]; show _ + 1 + _ ≤ 1000000000; omega) hHeld.1.size W5 hHeld.1 (fun v11 u11 ho11 hb11 hg11 => ?_)
            have hS11 := hHeld.2.grown hg11 (fun e => by have e' := (World.ownsRow.lt ho7 _ e).1; have e'' : W5.heap.size ≤ G := e'; omega) (fun e => by have e' := (World.ownsRow.lt ho7 _ e).1; have e'' : W5.heap.size ≤ G := e'; omega)
            refine hK.out _ _ (⟨hb11, hS11⟩) (fun hHeld => ?_)
            clear hK K
            try simp only [Act.put, List.setIfInBounds_toArray, List.set_cons_zero, List.set_cons_succ, List.getElem_toArray, List.getElem_cons_zero, List.getElem_cons_succ]
            refine wpAnyH_take (i := 12) (oi := _) (v := ?_) rfl (by kernel_rfl) (by kernel_rfl) (by kernel_rfl) (fun _ _ _ h => h) (Or.inl ⟨by kernel_rfl, ?hy33⟩) (by assumption) ?_
            case hy33 =>
              intro w9 hSw
              try dsimp only at hSw
              try simp only [List.getElem_toArray, List.getElem_cons_zero, List.getElem_cons_succ]
              go_simp
              try with_reducible rfl
            try simp only [Act.put, List.setIfInBounds_toArray, List.set_cons_zero, List.set_cons_succ, List.getElem_toArray, List.getElem_cons_zero, List.getElem_cons_succ]
            refine wpAnyH_done (by kernel_rfl) ?_ _
            go_wp2
            go_ret
            rw [HGG.out]
            exact ⟨_, rfl, by rw [HA.out]; exact ho11.has, HBW.out.trans (hb11.mono (by have := HBW.out.size; rw [HGG.out] at this; exact this))⟩

          · skip
            try simp only [List.getElem_toArray, List.getElem_cons_zero, List.getElem_cons_succ]
            go_simp
            have hbz6 := (Below.refl u10.heap.size u10).alloc (Nat.le_refl _) (.cells #[.int .i64 d, .int .u64 (n : Int)] 32)
            have hoz6 := one_dot d n (heap_alloc_new u10 (.cells #[.int .i64 d, .int .u64 (n : Int)] 32))
            have hgs6 : (u10.alloc (.cells #[.int .i64 d, .int .u64 (n : Int)] 32)).heap.size = u10.heap.size + 1 := World.size_alloc _ _
            refine hK.out _ _ (⟨hHeld.1.trans (hbz6.mono hHeld.1.size), hHeld.2.below hbz6⟩) (fun hHeld => ?_)
            clear hK K
            generalize (u10.alloc (.cells #[.int .i64 d, .int .u64 (n : Int)] 32)) = u26 at *
            obtain ⟨g6, hg6⟩ : ∃ g, u10.heap.size = g := ⟨_, rfl⟩
            rw [hg6] at hoz6 hgs6 ⊢
            have HONE := Lib.hid hoz6
            have HGS6 := Lib.hid hgs6
            have HL6 := Lib.hid (show g6 < u26.heap.size by omega)
            have HG6 := Lib.hid hg6
            clear hgs6 hg6
            have hne : g0 ≠ g6 := by
              have e1 := HG6.out
              have e2 := HGS0.out
              omega
            have HOWN := Lib.hid (HOWN.out.below hbz6)
            clear hbz6 hoz6
            try simp only [Act.put, List.setIfInBounds_toArray, List.set_cons_zero, List.set_cons_succ, List.getElem_toArray, List.getElem_cons_zero, List.getElem_cons_succ]
            refine wpAnyH_ready (rs := [4]) (by kernel_rfl) (by simp) (AllReadyH.cons (o := _) rfl (fun K hK => ?_) AllReadyH.nil)
            refine step_append_ka rfl (.tmp 24) (.tmp 27) 36 rfl W5.heap.size 32 encD _ 16 Try.underlying36 info_dot rfl (by decide) (.slice (some ⟨g0, 0, none⟩) 0 0) [] rfl HOWN.out _ (l.take i) rfl (HH.out.below hHeld.1) (by have z := HLL.out; show 0 + (l.take i).length ≤ 1000000000; rw [List.length_take]; omega) hHeld.1.size W5 hHeld.1 (fun v4 u34 ho4 hb4 hg4 => ?_)
            rw [List.nil_append] at ho4
            have hS4 := hHeld.2.grown hg4 (fun e => by have e' : g0 = G := Option.some.inj e; omega) (fun e => by have e' : g0 = G := Option.some.inj e; omega)
            refine hK.out _ _ (⟨hb4, hS4⟩) (fun hHeld => ?_)
            clear hK K
            have HO4 := Lib.hid ho4
            have HONE := Lib.hid (HONE.out.same hg4.size (fun b h0 hb => by
              have e' : g6 = b := Option.some.inj hb
              subst e'
              exact hg4.block g6 HL6.out (fun e => hne (Option.some.inj e).symm)))
            clear ho4 hb4 hg4 hS4
            try simp only [Act.put, List.setIfInBounds_toArray, List.set_cons_zero, List.set_cons_succ, List.getElem_toArray, List.getElem_cons_zero, List.getElem_cons_succ]
            refine wpAnyH_ready (rs := [7]) (by kernel_rfl) (by simp) (AllReadyH.cons (o := _) rfl (fun K hK => ?_) AllReadyH.nil)
            refine step_append_k rfl (.tmp 28) (.tmp 30) 36 rfl W5.heap.size 32 encD _ 16 Try.underlying36 info_dot rfl (by decide) v4 (l.take i) rfl HO4.out _ [(d, n)] rfl HONE.out Nat.one_pos (by have z := HLL.out; show (l.take i).length + 1 ≤ 1000000000; rw [List.length_take]; omega) hHeld.1.size W5 hHeld.1 (fun v7 u7 ho7 hb7 hg7 => ?_)
            have hS7 := hHeld.2.grown hg7 (fun e => by have e' := (World.ownsRow.lt HO4.out _ e).1; have e'' : W5.heap.size ≤ G := e'; omega) (fun e => by have e' := (World.ownsRow.lt HO4.out _ e).1; have e'' : W5.heap.size ≤ G := e'; omega)
            refine hK.out _ _ (⟨hb7, hS7⟩) (fun hHeld => ?_)
            clear hK K
            try simp only [Act.put, List.setIfInBounds_toArray, List.set_cons_zero, List.set_cons_succ, List.getElem_toArray, List.getElem_cons_zero, List.getElem_cons_succ]
            refine wpAnyH_ready (rs := [11]) (by kernel_rfl) (by simp) (AllReadyH.cons (o := _) rfl (fun K hK => ?_) AllReadyH.nil)
            refine step_append_ka rfl (.tmp 31) (.tmp 34) 36 rfl W5.heap.size 32 encD _ 16 Try.underlying36 info_dot rfl (by decide) v7 (l.take i ++ [(d, n)]) rfl ho7 _ (l.drop i) rfl (HT.out.below hHeld.1) (by have z := HLL.out; rw [List.length_append, List.length_take, List.length_drop]; show _ + 1 + _ ≤ 1000000000; omega) hHeld.1.size W5 hHeld.1 (fun v11 u11 ho11 hb11 hg11 => ?_)
            have hS11 := hHeld.2.grown hg11 (fun e => by have e' := (World.ownsRow.lt ho7 _ e).1; have e'' : W5.heap.size ≤ G := e'; omega) (fun e => by have e' := (World.ownsRow.lt ho7 _ e).1; have e'' : W5.heap.size ≤ G := e'; omega)
            refine hK.out _ _ (⟨hb11, hS11⟩) (fun hHeld => ?_)
            clear hK K
            try simp only [Act.put, List.setIfInBounds_toArray, List.set_cons_zero, List.set_cons_succ, List.getElem_toArray, List.getElem_cons_zero, List.getElem_cons_succ]
            refine wpAnyH_take (i := 12) (oi := _) (v := ?_) rfl (by kernel_rfl) (by kernel_rfl) (by kernel_rfl) (fun _ _ _ h => h) (Or.inl ⟨by kernel_rfl, ?hy34⟩) (by assumption) ?_
            case hy34 =>
              intro w9 hSw
              try dsimp only at hSw
              try simp only [List.getElem_toArray, List.getElem_cons_zero, List.getElem_cons_succ]
              go_simp
              try with_reducible rfl
            try simp only [Act.put, List.setIfInBounds_toArray, List.set_cons_zero, List.set_cons_succ, List.getElem_toArray, List.getElem_cons_zero, List.getElem_cons_succ]
            refine wpAnyH_done (by kernel_rfl) ?_ _
            go_wp2
            go_ret
            rw [HGG.out]
            exact ⟨_, rfl, by rw [HA.out]; exact ho11.has, HBW.out.trans (hb11.mono (by have := HBW.out.size; rw [HGG.out] at this; exact this))⟩


        · skip
          try simp only [List.getElem_toArray, List.getElem_cons_zero, List.getElem_cons_succ]
          go_simp
          have hbz6 := (Below.refl U0.heap.size U0).alloc (Nat.le_refl _) (.cells #[.int .i64 d, .int .u64 (n : Int)] 32)
          have hoz6 := one_dot d n (heap_alloc_new U0 (.cells #[.int .i64 d, .int .u64 (n : Int)] 32))
          have hgs6 : (U0.alloc (.cells #[.int .i64 d, .int .u64 (n : Int)] 32)).heap.size = U0.heap.size + 1 := World.size_alloc _ _
          refine hK.out _ _ (⟨hHeld.1.trans (hbz6.mono hHeld.1.size), hHeld.2.below hbz6⟩) (fun hHeld => ?_)
          clear hK K
          generalize (U0.alloc (.cells #[.int .i64 d, .int .u64 (n : Int)] 32)) = u16 at *
          obtain ⟨g6, hg6⟩ : ∃ g, U0.heap.size = g := ⟨_, rfl⟩
          rw [hg6] at hoz6 hgs6 ⊢
          have HONE := Lib.hid hoz6
          have HGS6 := Lib.hid hgs6
          have HL6 := Lib.hid (show g6 < u16.heap.size by omega)
          have HG6 := Lib.hid hg6
          clear hgs6 hg6
          clear hbz6 hoz6
          try simp only [Act.put, List.setIfInBounds_toArray, List.set_cons_zero, List.set_cons_succ, List.getElem_toArray, List.getElem_cons_zero, List.getElem_cons_succ]
          refine wpAnyH_ready (rs := [0]) (by kernel_rfl) (by simp) (AllReadyH.cons (o := _) rfl (fun K hK => ?_) AllReadyH.nil)
          try simp only [List.getElem_toArray, List.getElem_cons_zero, List.getElem_cons_succ]
          go_simp
          have hbz0 := (Below.refl u16.heap.size u16).alloc (Nat.le_refl _) (.cells #[] 32)
          have hoz0 := OwnK.empty (E := encD) u16 W5.heap.size 32 hHeld.1.size
          have hgz0 : W5.heap.size ≤ u16.heap.size := hHeld.1.size
          have hgs0 : (u16.alloc (.cells #[] 32)).heap.size = u16.heap.size + 1 := World.size_alloc _ _
          refine hK.out _ _ (⟨hHeld.1.trans (hbz0.mono hHeld.1.size), hHeld.2.below hbz0⟩) (fun hHeld => ?_)
          clear hK K
          generalize (u16.alloc (.cells #[] 32)) = u20 at *
          obtain ⟨g0, hg0⟩ : ∃ g, u16.heap.size = g := ⟨_, rfl⟩
          rw [hg0] at hoz0 hgz0 hgs0 ⊢
          have HOWN := Lib.hid hoz0
          have HGS0 := Lib.hid hgs0
          have HG0 := Lib.hid hg0
          clear hgs0 hg0
          have hne : g0 ≠ g6 := by
            have e1 := HG0.out
            have e2 := HGS6.out
            omega
          have HONE := Lib.hid (HONE.out.below hbz0)
          have HL6 := Lib.hid (Nat.lt_of_lt_of_le HL6.out hbz0.size)
          clear hbz0 hoz0
          try simp only [Act.put, List.setIfInBounds_toArray, List.set_cons_zero, List.set_cons_succ, List.getElem_toArray, List.getElem_cons_zero, List.getElem_cons_succ]
          refine wpAnyH_ready (rs := [4]) (by kernel_rfl) (by simp) (AllReadyH.cons (o := _) rfl (fun K hK => ?_) AllReadyH.nil)
          refine step_append_ka rfl (.tmp 24) (.tmp 27) 36 rfl W5.heap.size 32 encD _ 16 Try.underlying36 info_dot rfl (by decide) (.slice (some ⟨g0, 0, none⟩) 0 0) [] rfl HOWN.out _ (l.take i) rfl (HH.out.below hHeld.1) (by have z := HLL.out; show 0 + (l.take i).length ≤ 1000000000; rw [List.length_take]; omega) hHeld.1.size W5 hHeld.1 (fun v4 u34 ho4 hb4 hg4 => ?_)
          rw [List.nil_append] at ho4
          have hS4 := hHeld.2.grown hg4 (fun e => by have e' : g0 = G := Option.some.inj e; omega) (fun e => by have e' : g0 = G := Option.some.inj e; omega)
          refine hK.out _ _ (⟨hb4, hS4⟩) (fun hHeld => ?_)
          clear hK K
          have HO4 := Lib.hid ho4
          have HONE := Lib.hid (HONE.out.same hg4.size (fun b h0 hb => by
            have e' : g6 = b := Option.some.inj hb
            subst e'
            exact hg4.block g6 HL6.out (fun e => hne (Option.some.inj e).symm)))
          clear ho4 hb4 hg4 hS4
          try simp only [Act.put, List.setIfInBounds_toArray, List.set_cons_zero, List.set_cons_succ, List.getElem_toArray, List.getElem_cons_zero, List.getElem_cons_succ]
          refine wpAnyH_ready (rs := [7]) (by kernel_rfl) (by simp) (AllReadyH.cons (o := _) rfl (fun K hK => ?_) AllReadyH.nil)
          refine step_append_k rfl (.tmp 28) (.tmp 30) 36 rfl W5.heap.size 32 encD _ 16 Try.underlying36 info_dot rfl (by decide) v4 (l.take i) rfl HO4.out _ [(d, n)] rfl HONE.out Nat.one_pos (by have z := HLL.out; show (l.take i).length + 1 ≤ 1000000000; rw [List.length_take]; omega) hHeld.1.size W5 hHeld.1 (fun v7 u7 ho7 hb7 hg7 => ?_)
          have hS7 := hHeld.2.grown hg7 (fun e => by have e' := (World.ownsRow.lt HO4.out _ e).1; have e'' : W5.heap.size ≤ G := e'; omega) (fun e => by have e' := (World.ownsRow.lt HO4.out _ e).1; have e'' : W5.heap.size ≤ G := e'; omega)
          refine hK.out _ _ (⟨hb7, hS7⟩) (fun hHeld => ?_)
          clear hK K
          try simp only [Act.put, List.setIfInBounds_toArray, List.set_cons_zero, List.set_cons_succ, List.getElem_toArray, List.getElem_cons_zero, List.getElem_cons_succ]
          refine wpAnyH_ready (rs := [11]) (by kernel_rfl) (by simp) (AllReadyH.cons (o := _) rfl (fun K hK => ?_) AllReadyH.nil)
          refine step_append_ka rfl (.tmp 31) (.tmp 34) 36 rfl W5.heap.size 32 encD _ 16 Try.underlying36 info_dot rfl (by decide) v7 (l.take i ++ [(d, n)]) rfl ho7 _ (l.drop i) rfl (HT.out.below hHeld.1) (by have z := HLL.out; rw [List.length_append, List.length_take, List.length_drop]; show _ + 1 + _ ≤ 1000000000; omega) hHeld.1.size W5 hHeld.1 (fun v11 u11 ho11 hb11 hg11 => ?_)
          have hS11 := hHeld.2.grown hg11 (fun e => by have e' := (World.ownsRow.lt ho7 _ e).1; have e'' : W5.heap.size ≤ G := e'; omega) (fun e => by have e' := (World.ownsRow.lt ho7 _ e).1; have e'' : W5.heap.size ≤ G := e'; omega)
          refine hK.out _ _ (⟨hb11, hS11⟩) (fun hHeld => ?_)
          clear hK K
          try simp only [Act.put, List.setIfInBounds_toArray, List.set_cons_zero, List.set_cons_succ, List.getElem_toArray, List.getElem_cons_zero, List.getElem_cons_succ]
          refine wpAnyH_take (i := 12) (oi := _) (v := ?_) rfl (by kernel_rfl) (by kernel_rfl) (by kernel_rfl) (fun _ _ _ h => h) (Or.inl ⟨by kernel_rfl, ?hy35⟩) (by assumption) ?_
          case hy35 =>
            intro w9 hSw
            try dsimp only at hSw
            try simp only [List.getElem_toArray, List.getElem_cons_zero, List.getElem_cons_succ]
            go_simp
            try with_reducible rfl
          try simp only [Act.put, List.setIfInBounds_toArray, List.set_cons_zero, List.set_cons_succ, List.getElem_toArray, List.getElem_cons_zero, List.getElem_cons_succ]
          refine wpAnyH_done (by kernel_rfl) ?_ _
          go_wp2
          go_ret
          rw [HGG.out]
          exact ⟨_, rfl, by rw [HA.out]; exact ho11.has, HBW.out.trans (hb11.mono (by have := HBW.out.size; rw [HGG.out] at this; exact this))⟩

end Go.Proofs.Ytfgfamafjkjakaa
