/-
  Package dot: a set's form.
-/
import Derived.Test.YtfgfamafjkjakaaDotRow
namespace Go.Proofs.Ytfgfamafjkjakaa
open Go.ChangeShapes Go.WideShapes Go.ChangeAt Go.RowKit Go.Deep
set_option linter.unusedVariables false
set_option linter.unusedSimpArgs false
set_option maxRecDepth 100000 in
set_option maxHeartbeats 8000000 in
theorem Parts_any (R : Nat) (f : List Nm) (w : World) (hS : SetIs w R f) :
    Calls Try.prog 13 #[.pointer (some ⟨R, 0, none⟩)] w fun e w' => ∃ v M, e = .returned v ∧ OwnP w' w.heap.size v M ∧ M.map Pt.pair = partsS f ∧ Below w.heap.size w w' := by
  obtain ⟨ps, hps, hpl, hph, hp4⟩ := hS
  have HPS := Lib.hid hps
  have HPL := Lib.hid hpl
  have HPH := Lib.hid hph
  have HP4 := Lib.hid hp4
  have hr1 : w.rangeAt R 0 (setRow16 ps) := setRow_range hph
  clear hps hpl hph hp4
  go_enter Try.func13, Try.ntmps13
  go_wp2_with (refine wpList_load_mid rfl 56 (.tmp 8) rfl R 0 rfl (setRow16 ps) _ hr1 Try.underlying56 rfl (info_row HPL.out) ?_)
  clear hr1
  go_loopw [3, 10] (fun v3 vi wr => ∃ (k : Nat) (M : List Pt), vi = .int .i64 (k : Int) ∧ k ≤ 16 ∧ OwnP wr w.heap.size v3 M ∧ M.map Pt.pair = partsUpto f k ∧ Below w.heap.size w wr) (fun _ vi _ => 16 - (intOf vi).toNat)
  case atStart => exact ⟨0, [], rfl, by omega, OwnP.nil _ _, rfl, Below.refl _ _⟩
  case round =>
    obtain ⟨k, M, rfl, hk, hM, hMp, hb⟩ := hrel
    have hMl : M.length ≤ k := by have := partsUpto_len f k; rw [← hMp, List.length_map] at this; exact this
    have HMP := Lib.hid hMp
    clear hMp
    rcases Nat.lt_or_ge k 16 with hlt | hge
    · have hkI : (k : Int) < 16 := by omega
      have hkp : k < ps.length := by rw [HPL.out]; exact hlt
      have hk0 : (0 : Int) ≤ (k : Int) := by omega
      have hix := index_nm ps HPL.out k hkp
      have h4 := HP4.out _ (List.getElem_mem hkp)
      have hfk : f.getD k Nm.zero = ps[k].1 := by rw [← HPS.out, List.getD_eq_getElem?_getD, List.getElem?_map, List.getElem?_eq_getElem hkp]; rfl
      obtain ⟨⟨q, mv⟩, hq⟩ : ∃ q, ps[k] = q := ⟨_, rfl⟩
      rw [hq] at hix h4 hfk
      simp only at hix h4 hfk
      obtain ⟨hu, hok, hle⟩ := h4
      have hu2 := hu.below hb
      obtain ⟨pm, cm, rfl, -, -⟩ := hu.form
      have HU := Lib.hid hu2
      have HFK := Lib.hid hfk
      have HOW := Lib.hid hM
      have HB := Lib.hid hb
      have HIX := Lib.hid hix
      have hlv : live q = (decide (0 < q.upto) || decide (0 < q.more.length)) := rfl
      have HLV := Lib.hid hlv
      have HLE := Lib.hid hle
      obtain ⟨B, hB⟩ : ∃ B, w.heap.size = B := ⟨_, rfl⟩
      rw [hB] at HB HOW
      have HBB := Lib.hid hB
      clear hu hu2 hok hfk hb hix hq hM hlv hle hB
      obtain ⟨W0, rfl⟩ : ∃ W0, W0 = wr := ⟨wr, rfl⟩
      obtain ⟨m, hm⟩ : ∃ m, q.more.length = m := ⟨_, rfl⟩
      have HM := Lib.hid hm
      rw [hm] at HIX HU HLV HLE
      clear hm
      go_upto_region 5 with (refine wpList_index_at rfl 56 (.tmp 9) (.tmp 10) rfl _ HIX.out ?_)
      have hb1 := (Below.refl W0.heap.size W0).alloc (Nat.le_refl _) (.cells #[.int .u64 (q.upto : Int), .slice pm m cm] 55)
      have hn1 := heap_alloc_new W0 (.cells #[.int .u64 (q.upto : Int), .slice pm m cm] 55)
      generalize (W0.alloc (.cells #[.int .u64 (q.upto : Int), .slice pm m cm] 55)) = w2 at *
      have HOW2 := Lib.hid (HOW.out.below hb1)
      have HU2 := Lib.hid (HU.out.below hb1)
      have HB2 := Lib.hid (HB.out.trans (hb1.mono (by have := HB.out.size; rw [HBB.out] at this; exact this)))
      have h2 := Two.mk' hn1
      have HTWO := Lib.hid h2
      obtain ⟨c0, c1, -⟩ := h2
      clear hb1 hn1
      have hdead : live q = false → partsUpto f (k + 1) = partsUpto f k := fun h => partsUpto_not (by rw [HFK.out]; exact h)
      have hlive : live q = true → partsUpto f (k + 1) = partsUpto f k ++ [(k, q)] := fun h => by
        have := partsUpto_live (f := f) (k := k) (by rw [HFK.out]; exact h)
        rw [HFK.out] at this
        exact this
      have HDE := Lib.hid hdead
      have HLI := Lib.hid hlive
      clear hdead hlive
      rcases Nat.lt_or_ge 0 q.upto with ha | ha
      · have hI1 : (0 : Int) < (q.upto : Int) := by omega
        have hl1 := HLI.out (by rw [HLV.out, decide_eq_true ha, Bool.true_or])
        have HL1 := Lib.hid hl1
        clear hl1 ha
        · go_upto_region 6 with fail
          clear c0 c1
          refine AnyL.begin (S := fun W => TwoC ⟨W0.heap.size, 0, none⟩ ⟨W0.heap.size, 1, none⟩ (.int .u64 (q.upto : Int)) (.slice pm m cm) W) 10 (by kernel_rfl) ⟨HTWO.out.1, HTWO.out.2.1⟩ (fun hHeld => ?_)
          refine AnyL.take (i := 0) (oi := _) (v := ?_) 30 rfl (by kernel_rfl) (by kernel_rfl) (by kernel_rfl) (by kernel_rfl) (by kernel_rfl) (fun _ _ _ h => h) (Or.inl ⟨by kernel_rfl, ?hy1⟩) (by assumption) ?_
          case hy1 =>
            intro w9 hSw
            try dsimp only at hSw
            try simp only [List.getElem_toArray, List.getElem_cons_zero, List.getElem_cons_succ]
            go_simp
            try with_reducible rfl
          try simp only [Act.put, List.setIfInBounds_toArray, List.set_cons_zero, List.set_cons_succ, List.getElem_toArray, List.getElem_cons_zero, List.getElem_cons_succ]
          refine AnyL.take (i := 1) (oi := _) (v := ?_) 30 rfl (by kernel_rfl) (by kernel_rfl) (by kernel_rfl) (by kernel_rfl) (by kernel_rfl) (fun _ _ _ h => h) (Or.inl ⟨by kernel_rfl, ?hy2⟩) (by assumption) ?_
          case hy2 =>
            intro w9 hSw
            try dsimp only at hSw
            try simp only [List.getElem_toArray, List.getElem_cons_zero, List.getElem_cons_succ]
            go_simp
            try with_reducible rfl
          try simp only [Act.put, List.setIfInBounds_toArray, List.set_cons_zero, List.set_cons_succ, List.getElem_toArray, List.getElem_cons_zero, List.getElem_cons_succ]
          refine AnyL.take (i := 2) (oi := _) (v := ?_) 30 rfl (by kernel_rfl) (by kernel_rfl) (by kernel_rfl) (by kernel_rfl) (by kernel_rfl) (fun _ _ _ h => h) (Or.inl ⟨by kernel_rfl, ?hy3⟩) (by assumption) ?_
          case hy3 =>
            intro w9 hSw
            try dsimp only at hSw
            try simp only [List.getElem_toArray, List.getElem_cons_zero, List.getElem_cons_succ]
            go_simp
            try with_reducible rfl
          try simp only [Act.put, List.setIfInBounds_toArray, List.set_cons_zero, List.set_cons_succ, List.getElem_toArray, List.getElem_cons_zero, List.getElem_cons_succ]
          refine AnyL.take (i := 3) (oi := _) (v := .int .u64 (q.upto : Int)) 30 rfl (by kernel_rfl) (by kernel_rfl) (by kernel_rfl) (by kernel_rfl) (by kernel_rfl) (fun _ _ _ h => h) (Or.inl ⟨by kernel_rfl, ?hy4⟩) (by assumption) ?_
          case hy4 =>
            intro w9 hSw
            try dsimp only at hSw
            try simp only [List.getElem_toArray, List.getElem_cons_zero, List.getElem_cons_succ]
            go_simp
            obtain ⟨hx0, hx1⟩ := hSw
            try go_simp
            try with_reducible rfl
          try simp only [Act.put, List.setIfInBounds_toArray, List.set_cons_zero, List.set_cons_succ, List.getElem_toArray, List.getElem_cons_zero, List.getElem_cons_succ]
          refine AnyL.take (i := 4) (oi := _) (v := ?_) 30 rfl (by kernel_rfl) (by kernel_rfl) (by kernel_rfl) (by kernel_rfl) (by kernel_rfl) (fun _ _ _ h => h) (Or.inl ⟨by kernel_rfl, ?hy5⟩) (by assumption) ?_
          case hy5 =>
            intro w9 hSw
            try dsimp only at hSw
            try simp only [List.getElem_toArray, List.getElem_cons_zero, List.getElem_cons_succ]
            go_simp
            try with_reducible rfl
          try simp only [Act.put, List.setIfInBounds_toArray, List.set_cons_zero, List.set_cons_succ, List.getElem_toArray, List.getElem_cons_zero, List.getElem_cons_succ]
          refine AnyL.take (i := 5) (oi := _) (v := .slice pm m cm) 30 rfl (by kernel_rfl) (by kernel_rfl) (by kernel_rfl) (by kernel_rfl) (by kernel_rfl) (fun _ _ _ h => h) (Or.inl ⟨by kernel_rfl, ?hy6⟩) (by assumption) ?_
          case hy6 =>
            intro w9 hSw
            try dsimp only at hSw
            try simp only [List.getElem_toArray, List.getElem_cons_zero, List.getElem_cons_succ]
            go_simp
            obtain ⟨hx0, hx1⟩ := hSw
            try go_simp
            try with_reducible rfl
          try simp only [Act.put, List.setIfInBounds_toArray, List.set_cons_zero, List.set_cons_succ, List.getElem_toArray, List.getElem_cons_zero, List.getElem_cons_succ]
          refine AnyL.one (i := 6) (o := _) (by kernel_rfl) rfl (fun K hK => ?_)
          try simp only [List.getElem_toArray, List.getElem_cons_zero, List.getElem_cons_succ]
          go_simp
          have hd4 : Below w2.heap.size w2 w2.drew := (Below.refl _ _).drew
          refine (Clone_any _ q.more _ (HU2.out.below hd4).has (by have := HLE.out; rw [HM.out]; omega)).mono ?_
          rintro e w4 ⟨mv4, rfl, hu4, hb4⟩
          obtain ⟨p4, c4, rfl, -, -⟩ := hu4.sl
          refine hK.out _ _ (fun _ => (hHeld.below hb4)) (fun hHeld => ?_)
          replace hHeld := hHeld (by decide)
          clear hK K
          try simp only [Act.put, List.setIfInBounds_toArray, List.set_cons_zero, List.set_cons_succ, List.getElem_toArray, List.getElem_cons_zero, List.getElem_cons_succ]
          have hb24 := hd4.trans (hb4.mono hd4.size)
          have hBw2 : B ≤ w2.heap.size := by have := HB2.out.size; rw [HBB.out] at this; exact this
          have HOW4 := Lib.hid (HOW2.out.below hb24)
          have HB4 := Lib.hid (HB2.out.trans (hb24.mono hBw2))
          have HU4 := Lib.hid (show OwnK w4 w2.heap.size 30 (encN .u64) _ q.more from hu4)
          have HZ4 := Lib.hid (Nat.le_trans hBw2 hb24.size)
          rw [HM.out] at HU4 ⊢
          clear hb24 hu4 hd4 hb4
          refine AnyL.take (i := 7) (oi := _) (v := ?_) 30 rfl (by kernel_rfl) (by kernel_rfl) (by kernel_rfl) (by kernel_rfl) (by kernel_rfl) (fun _ _ _ h => h) (Or.inl ⟨by kernel_rfl, ?hy7⟩) (by assumption) ?_
          case hy7 =>
            intro w9 hSw
            try dsimp only at hSw
            try simp only [List.getElem_toArray, List.getElem_cons_zero, List.getElem_cons_succ]
            go_simp
            try with_reducible rfl
          try simp only [Act.put, List.setIfInBounds_toArray, List.set_cons_zero, List.set_cons_succ, List.getElem_toArray, List.getElem_cons_zero, List.getElem_cons_succ]
          refine AnyL.one (i := 8) (o := _) (by kernel_rfl) rfl (fun K hK => ?_)
          try simp only [List.getElem_toArray, List.getElem_cons_zero, List.getElem_cons_succ]
          go_simp
          refine hK.out _ _ (fun _ => (hHeld.below ((Below.refl _ _).alloc (Nat.le_refl _) _))) (fun hHeld => ?_)
          replace hHeld := hHeld (by decide)
          clear hK K
          try simp only [Act.put, List.setIfInBounds_toArray, List.set_cons_zero, List.set_cons_succ, List.getElem_toArray, List.getElem_cons_zero, List.getElem_cons_succ]
          have hn8 := heap_alloc_new w4 (.cells #[.int .i64 (k : Int), .int .u64 (q.upto : Int), .slice p4 m c4] 53)
          have hb8 := (Below.refl w4.heap.size w4).alloc (Nat.le_refl _) (.cells #[.int .i64 (k : Int), .int .u64 (q.upto : Int), .slice p4 m c4] 53)
          generalize (w4.alloc (.cells #[.int .i64 (k : Int), .int .u64 (q.upto : Int), .slice p4 m c4] 53)) = w8 at *
          have HOW8 := Lib.hid (HOW4.out.below hb8)
          have HU8 := Lib.hid (HU4.out.below hb8)
          have HB8 := Lib.hid (HB4.out.trans (hb8.mono HZ4.out))
          have hy8 : HasK w8 encP (.slice (some ⟨w4.heap.size, 0, none⟩) 1 1) [⟨k, q, p4, c4⟩] := one_part (T := 53) _ (by have z := hn8; rw [← HM.out] at z; exact z)
          have HY8 := Lib.hid hy8
          have hz8 : B ≤ w8.heap.size := Nat.le_trans HZ4.out hb8.size
          clear hn8 hb8 hy8
          refine AnyL.one (i := 9) (o := _) (by kernel_rfl) rfl (fun K hK => ?_)
          have hne9 : u3.ownBlock ≠ some W0.heap.size := fun e => by
            have h9 := (World.ownsRow.lt HOW.out.row _ e).2
            exact Nat.lt_irrefl _ h9
          refine step_append_k rfl (.tmp 23) (.tmp 31) 33 rfl B 53 encP _ 40 Try.underlying33 info_part rfl (by decide) u3 M rfl HOW8.out.row _ [⟨k, q, p4, c4⟩] rfl HY8.out Nat.one_pos (by show M.length + 1 ≤ _; omega) hz8 w HB8.out (fun v9 w9 ho9 hb9 hg9 => ?_)
          refine hK.out _ _ (fun _ => (hHeld.grown hg9 (fun e => hne9 e) (fun e => hne9 e))) (fun hHeld => ?_)
          replace hHeld := hHeld (by decide)
          clear hK K
          try simp only [Act.put, List.setIfInBounds_toArray, List.set_cons_zero, List.set_cons_succ, List.getElem_toArray, List.getElem_cons_zero, List.getElem_cons_succ]
          have hpush := HOW8.out.push (x := ⟨k, q, p4, c4⟩) (by show OwnK w8 B _ _ (.slice p4 q.more.length c4) q.more; rw [HM.out]; exact HU8.out.mono hBw2) (fun y hy hyn e => by obtain ⟨g, hg⟩ := Option.ne_none_iff_exists'.1 hyn; have h1 := (OwnK.lt (HOW2.out.each y hy) g hg).2; have h2 := (OwnK.lt HU8.out g ((own_len p4 m q.more.length c4).trans (e.symm.trans hg))).1; omega) ho9 hg9
          have HPU := Lib.hid hpush
          have HB9 := Lib.hid hb9
          clear hpush ho9 hg9 hb9
          refine AnyL.one (i := 10) (o := _) (by kernel_rfl) rfl (fun K hK => ?_)
          try simp only [List.getElem_toArray, List.getElem_cons_zero, List.getElem_cons_succ]
          go_simp
          refine hK.out _ _ (fun h => absurd rfl h) (fun _ => ?_)
          clear hK K
          try simp only [Act.put, List.setIfInBounds_toArray, List.set_cons_zero, List.set_cons_succ, List.getElem_toArray, List.getElem_cons_zero, List.getElem_cons_succ]
          refine AnyL.done (by kernel_rfl) ?_ _
          go_wp2
          go_roundw
          case rel => exact ⟨k + 1, M ++ [⟨k, q, p4, c4⟩], by go_num, hlt, by rw [HBB.out]; exact HPU.out, by rw [HL1.out, List.map_append, HMP.out]; rfl, by rw [HBB.out]; exact HB9.out⟩
          case measure => simp [intOf] <;> omega
      · have hI1 : ¬ (0 : Int) < (q.upto : Int) := by omega
        have HQ0 := Lib.hid (show ((q.upto : Nat) : Int) = 0 by omega)
        rcases Nat.lt_or_ge 0 m with hc | hc
        · have hI2 : (0 : Int) < (m : Int) := by omega
          have hl1 := HLI.out (by rw [HLV.out, decide_eq_true hc, Bool.or_true])
          have HL1 := Lib.hid hl1
          clear hl1 ha hc
          go_upto_region 6 with fail
          clear c0 c1 hI1
          refine AnyL.begin (S := fun W => TwoC ⟨W0.heap.size, 0, none⟩ ⟨W0.heap.size, 1, none⟩ (.int .u64 (q.upto : Int)) (.slice pm m cm) W) 10 (by kernel_rfl) ⟨HTWO.out.1, HTWO.out.2.1⟩ (fun hHeld => ?_)
          refine AnyL.take (i := 0) (oi := _) (v := ?_) 30 rfl (by kernel_rfl) (by kernel_rfl) (by kernel_rfl) (by kernel_rfl) (by kernel_rfl) (fun _ _ _ h => h) (Or.inl ⟨by kernel_rfl, ?hy8⟩) (by assumption) ?_
          case hy8 =>
            intro w9 hSw
            try dsimp only at hSw
            try simp only [List.getElem_toArray, List.getElem_cons_zero, List.getElem_cons_succ]
            go_simp
            try with_reducible rfl
          try simp only [Act.put, List.setIfInBounds_toArray, List.set_cons_zero, List.set_cons_succ, List.getElem_toArray, List.getElem_cons_zero, List.getElem_cons_succ]
          refine AnyL.take (i := 1) (oi := _) (v := ?_) 30 rfl (by kernel_rfl) (by kernel_rfl) (by kernel_rfl) (by kernel_rfl) (by kernel_rfl) (fun _ _ _ h => h) (Or.inl ⟨by kernel_rfl, ?hy9⟩) (by assumption) ?_
          case hy9 =>
            intro w9 hSw
            try dsimp only at hSw
            try simp only [List.getElem_toArray, List.getElem_cons_zero, List.getElem_cons_succ]
            go_simp
            try with_reducible rfl
          try simp only [Act.put, List.setIfInBounds_toArray, List.set_cons_zero, List.set_cons_succ, List.getElem_toArray, List.getElem_cons_zero, List.getElem_cons_succ]
          refine AnyL.take (i := 2) (oi := _) (v := ?_) 30 rfl (by kernel_rfl) (by kernel_rfl) (by kernel_rfl) (by kernel_rfl) (by kernel_rfl) (fun _ _ _ h => h) (Or.inl ⟨by kernel_rfl, ?hy10⟩) (by assumption) ?_
          case hy10 =>
            intro w9 hSw
            try dsimp only at hSw
            try simp only [List.getElem_toArray, List.getElem_cons_zero, List.getElem_cons_succ]
            go_simp
            try with_reducible rfl
          try simp only [Act.put, List.setIfInBounds_toArray, List.set_cons_zero, List.set_cons_succ, List.getElem_toArray, List.getElem_cons_zero, List.getElem_cons_succ]
          refine AnyL.take (i := 3) (oi := _) (v := .int .u64 (q.upto : Int)) 30 rfl (by kernel_rfl) (by kernel_rfl) (by kernel_rfl) (by kernel_rfl) (by kernel_rfl) (fun _ _ _ h => h) (Or.inl ⟨by kernel_rfl, ?hy11⟩) (by assumption) ?_
          case hy11 =>
            intro w9 hSw
            try dsimp only at hSw
            try simp only [List.getElem_toArray, List.getElem_cons_zero, List.getElem_cons_succ]
            go_simp
            obtain ⟨hx0, hx1⟩ := hSw
            try go_simp
            try with_reducible rfl
          try simp only [Act.put, List.setIfInBounds_toArray, List.set_cons_zero, List.set_cons_succ, List.getElem_toArray, List.getElem_cons_zero, List.getElem_cons_succ]
          refine AnyL.take (i := 4) (oi := _) (v := ?_) 30 rfl (by kernel_rfl) (by kernel_rfl) (by kernel_rfl) (by kernel_rfl) (by kernel_rfl) (fun _ _ _ h => h) (Or.inl ⟨by kernel_rfl, ?hy12⟩) (by assumption) ?_
          case hy12 =>
            intro w9 hSw
            try dsimp only at hSw
            try simp only [List.getElem_toArray, List.getElem_cons_zero, List.getElem_cons_succ]
            go_simp
            try with_reducible rfl
          try simp only [Act.put, List.setIfInBounds_toArray, List.set_cons_zero, List.set_cons_succ, List.getElem_toArray, List.getElem_cons_zero, List.getElem_cons_succ]
          refine AnyL.take (i := 5) (oi := _) (v := .slice pm m cm) 30 rfl (by kernel_rfl) (by kernel_rfl) (by kernel_rfl) (by kernel_rfl) (by kernel_rfl) (fun _ _ _ h => h) (Or.inl ⟨by kernel_rfl, ?hy13⟩) (by assumption) ?_
          case hy13 =>
            intro w9 hSw
            try dsimp only at hSw
            try simp only [List.getElem_toArray, List.getElem_cons_zero, List.getElem_cons_succ]
            go_simp
            obtain ⟨hx0, hx1⟩ := hSw
            try go_simp
            try with_reducible rfl
          try simp only [Act.put, List.setIfInBounds_toArray, List.set_cons_zero, List.set_cons_succ, List.getElem_toArray, List.getElem_cons_zero, List.getElem_cons_succ]
          refine AnyL.one (i := 6) (o := _) (by kernel_rfl) rfl (fun K hK => ?_)
          try simp only [List.getElem_toArray, List.getElem_cons_zero, List.getElem_cons_succ]
          go_simp
          have hd4 : Below w2.heap.size w2 w2.drew := (Below.refl _ _).drew
          refine (Clone_any _ q.more _ (HU2.out.below hd4).has (by have := HLE.out; rw [HM.out]; omega)).mono ?_
          rintro e w4 ⟨mv4, rfl, hu4, hb4⟩
          obtain ⟨p4, c4, rfl, -, -⟩ := hu4.sl
          refine hK.out _ _ (fun _ => (hHeld.below hb4)) (fun hHeld => ?_)
          replace hHeld := hHeld (by decide)
          clear hK K
          try simp only [Act.put, List.setIfInBounds_toArray, List.set_cons_zero, List.set_cons_succ, List.getElem_toArray, List.getElem_cons_zero, List.getElem_cons_succ]
          have hb24 := hd4.trans (hb4.mono hd4.size)
          have hBw2 : B ≤ w2.heap.size := by have := HB2.out.size; rw [HBB.out] at this; exact this
          have HOW4 := Lib.hid (HOW2.out.below hb24)
          have HB4 := Lib.hid (HB2.out.trans (hb24.mono hBw2))
          have HU4 := Lib.hid (show OwnK w4 w2.heap.size 30 (encN .u64) _ q.more from hu4)
          have HZ4 := Lib.hid (Nat.le_trans hBw2 hb24.size)
          rw [HM.out] at HU4 ⊢
          clear hb24 hu4 hd4 hb4
          refine AnyL.take (i := 7) (oi := _) (v := ?_) 30 rfl (by kernel_rfl) (by kernel_rfl) (by kernel_rfl) (by kernel_rfl) (by kernel_rfl) (fun _ _ _ h => h) (Or.inl ⟨by kernel_rfl, ?hy14⟩) (by assumption) ?_
          case hy14 =>
            intro w9 hSw
            try dsimp only at hSw
            try simp only [List.getElem_toArray, List.getElem_cons_zero, List.getElem_cons_succ]
            go_simp
            try with_reducible rfl
          try simp only [Act.put, List.setIfInBounds_toArray, List.set_cons_zero, List.set_cons_succ, List.getElem_toArray, List.getElem_cons_zero, List.getElem_cons_succ]
          refine AnyL.one (i := 8) (o := _) (by kernel_rfl) rfl (fun K hK => ?_)
          try simp only [List.getElem_toArray, List.getElem_cons_zero, List.getElem_cons_succ]
          go_simp
          refine hK.out _ _ (fun _ => (hHeld.below ((Below.refl _ _).alloc (Nat.le_refl _) _))) (fun hHeld => ?_)
          replace hHeld := hHeld (by decide)
          clear hK K
          try simp only [Act.put, List.setIfInBounds_toArray, List.set_cons_zero, List.set_cons_succ, List.getElem_toArray, List.getElem_cons_zero, List.getElem_cons_succ]
          have hn8 := heap_alloc_new w4 (.cells #[.int .i64 (k : Int), .int .u64 0, .slice p4 m c4] 53)
          have hb8 := (Below.refl w4.heap.size w4).alloc (Nat.le_refl _) (.cells #[.int .i64 (k : Int), .int .u64 0, .slice p4 m c4] 53)
          generalize (w4.alloc (.cells #[.int .i64 (k : Int), .int .u64 0, .slice p4 m c4] 53)) = w8 at *
          have HOW8 := Lib.hid (HOW4.out.below hb8)
          have HU8 := Lib.hid (HU4.out.below hb8)
          have HB8 := Lib.hid (HB4.out.trans (hb8.mono HZ4.out))
          have hy8 : HasK w8 encP (.slice (some ⟨w4.heap.size, 0, none⟩) 1 1) [⟨k, q, p4, c4⟩] := one_part (T := 53) _ (by have z := hn8; rw [← HM.out, ← HQ0.out] at z; exact z)
          have HY8 := Lib.hid hy8
          have hz8 : B ≤ w8.heap.size := Nat.le_trans HZ4.out hb8.size
          clear hn8 hb8 hy8
          refine AnyL.one (i := 9) (o := _) (by kernel_rfl) rfl (fun K hK => ?_)
          have hne9 : u3.ownBlock ≠ some W0.heap.size := fun e => by
            have h9 := (World.ownsRow.lt HOW.out.row _ e).2
            exact Nat.lt_irrefl _ h9
          refine step_append_k rfl (.tmp 23) (.tmp 31) 33 rfl B 53 encP _ 40 Try.underlying33 info_part rfl (by decide) u3 M rfl HOW8.out.row _ [⟨k, q, p4, c4⟩] rfl HY8.out Nat.one_pos (by show M.length + 1 ≤ _; omega) hz8 w HB8.out (fun v9 w9 ho9 hb9 hg9 => ?_)
          refine hK.out _ _ (fun _ => (hHeld.grown hg9 (fun e => hne9 e) (fun e => hne9 e))) (fun hHeld => ?_)
          replace hHeld := hHeld (by decide)
          clear hK K
          try simp only [Act.put, List.setIfInBounds_toArray, List.set_cons_zero, List.set_cons_succ, List.getElem_toArray, List.getElem_cons_zero, List.getElem_cons_succ]
          have hpush := HOW8.out.push (x := ⟨k, q, p4, c4⟩) (by show OwnK w8 B _ _ (.slice p4 q.more.length c4) q.more; rw [HM.out]; exact HU8.out.mono hBw2) (fun y hy hyn e => by obtain ⟨g, hg⟩ := Option.ne_none_iff_exists'.1 hyn; have h1 := (OwnK.lt (HOW2.out.each y hy) g hg).2; have h2 := (OwnK.lt HU8.out g ((own_len p4 m q.more.length c4).trans (e.symm.trans hg))).1; omega) ho9 hg9
          have HPU := Lib.hid hpush
          have HB9 := Lib.hid hb9
          clear hpush ho9 hg9 hb9
          refine AnyL.one (i := 10) (o := _) (by kernel_rfl) rfl (fun K hK => ?_)
          try simp only [List.getElem_toArray, List.getElem_cons_zero, List.getElem_cons_succ]
          go_simp
          refine hK.out _ _ (fun h => absurd rfl h) (fun _ => ?_)
          clear hK K
          try simp only [Act.put, List.setIfInBounds_toArray, List.set_cons_zero, List.set_cons_succ, List.getElem_toArray, List.getElem_cons_zero, List.getElem_cons_succ]
          refine AnyL.done (by kernel_rfl) ?_ _
          go_wp2
          go_roundw
          case rel => exact ⟨k + 1, M ++ [⟨k, q, p4, c4⟩], by go_num, hlt, by rw [HBB.out]; exact HPU.out, by rw [HL1.out, List.map_append, HMP.out]; rfl, by rw [HBB.out]; exact HB9.out⟩
          case measure => simp [intOf] <;> omega
        · have hI2 : ¬ (0 : Int) < (m : Int) := by omega
          have hl1 := HDE.out (by rw [HLV.out, decide_eq_false (by omega), decide_eq_false (by omega)]; rfl)
          have HL1 := Lib.hid hl1
          clear hl1 ha hc
          go_wp2
          go_roundw
          case rel => exact ⟨k + 1, M, by go_num, hlt, by rw [HBB.out]; exact HOW2.out, by rw [HL1.out]; exact HMP.out, by rw [HBB.out]; exact HB2.out⟩
          case measure => simp [intOf] <;> omega
    · obtain rfl : k = 16 := by omega
      have hkI : ¬ ((16 : Nat) : Int) < 16 := by omega
      have HOW := Lib.hid hM
      have HB := Lib.hid hb
      clear hb hM
      go_wp2
      go_ret
      exact ⟨_, rfl, M, HOW.out, HMP.out, HB.out⟩
end Go.Proofs.Ytfgfamafjkjakaa
