/-
  The statement MergeParts, walked: the walk itself.
-/
import Derived.Test.YtfdafoibclfpgaaMPartsW
namespace Go.Proofs.Ytfdafoibclfpgaa
open Go.ChangeShapes Go.WideShapes Go.ChangeAt Go.RowKit Go.Deep
set_option linter.unusedVariables false
set_option linter.unusedSimpArgs false
set_option maxRecDepth 100000 in
set_option maxHeartbeats 64000000 in
theorem Parts_any (v : Value) (l : List Itm) (p1 : Option Addr) (n1 cap1 b1 o1 : Nat) (Z : Nat → Int) (q : Nat) (w : World) (hv : HasK w encI v l) (hf : Fits l)
    (hl1 : n1 ≤ cap1) (hm1 : cap1 ≤ maxLen) (hp1 : 0 < n1 → p1 = some ⟨b1, o1, none⟩ ∧ b1 < w.heap.size) (hZ : ∀ i, i < n1 → w.cell? ⟨b1, o1 + i, none⟩ = some (.int .i64 (Z i))) :
    Calls Try.prog 7 #[v, .slice p1 n1 cap1, .int .u64 (q : Int)] w fun e w' => e = .returned (.bool true) ∧ Below w.heap.size w w' := by
  obtain ⟨p, cap, rfl, h1, h2⟩ := hv.form
  obtain ⟨n, hn⟩ : ∃ n, l.length = n := ⟨_, rfl⟩
  have HN := Lib.hid hn
  have HV := Lib.hid hv
  have HF := Lib.hid hf
  have HP1 := Lib.hid hp1
  have HZ := Lib.hid hZ
  rw [hn] at h1 HV ⊢
  obtain ⟨B, hB⟩ : ∃ B, w.heap.size = B := ⟨_, rfl⟩
  have HBB := Lib.hid hB
  rw [hB]
  have hcI : (cap : Int) ≤ 9223372036854775807 := by unfold maxLen at h2; omega
  have hcJ : (cap1 : Int) ≤ 9223372036854775807 := by unfold maxLen at hm1; omega
  clear hv hn h2 hm1 hB hf hp1 hZ
  go_enter Try.func7, Try.ntmps7
  go_wp2_with fail
  refine (Awake_any w).mono ?_
  rintro e w1 ⟨rfl, hb1⟩
  have HV1 := Lib.hid (HV.out.below hb1)
  have HB1 := Lib.hid (show Below B w w1 by rw [HBB.out] at hb1; exact hb1)
  clear hb1
  rcases Nat.lt_or_ge 80 n with hn8 | hn8
  · have hI : (80 : Int) < (n : Int) := by omega
    go_wp2
    go_ret
    exact ⟨rfl, HB1.out⟩
  have hI : ¬ (80 : Int) < (n : Int) := by omega
  have hIb : decide ((80 : Int) < (n : Int)) = false := decide_eq_false hI
  go_wp2_with fail
  refine (RefSorted_any _ l w1 HV1.out (by rw [HN.out]; omega)).mono ?_
  rcases hsb : sortedB l with _ | _
  · rintro e w2 ⟨rfl, hb2⟩
    have HB2 := Lib.hid (HB1.out.trans (hb2.mono (by have := HB1.out.size; rw [HBB.out] at this; exact this)))
    clear hb2
    go_wp2
    go_ret
    exact ⟨rfl, HB2.out⟩
  rintro e w2 ⟨rfl, hb2⟩
  have HB2 := Lib.hid (HB1.out.trans (hb2.mono (by have := HB1.out.size; rw [HBB.out] at this; exact this)))
  have HS2 := Lib.hid (show B ≤ w2.heap.size by have := HB2.out.size; rw [HBB.out] at this; exact this)
  have HSO := Lib.hid ((sortedB_iff l).1 hsb)
  obtain ⟨A, hA⟩ : ∃ A, w2.heap.size = A := ⟨_, rfl⟩
  have hba := (Below.refl w2.heap.size w2).alloc (Nat.le_refl _) (.cells #[.slice none 0 0, .slice none 0 0, .slice none 0 0, .slice none 0 0] 45)
  have hna := heap_alloc_new w2 (.cells #[.slice none 0 0, .slice none 0 0, .slice none 0 0, .slice none 0 0] 45)
  obtain ⟨w3, hw3⟩ : ∃ w3, w2.alloc (.cells #[.slice none 0 0, .slice none 0 0, .slice none 0 0, .slice none 0 0] 45) = w3 := ⟨_, rfl⟩
  rw [hw3] at hba hna
  rw [hA] at hba hna
  have HP3 := Lib.hid (show P4 w3 A (A + 1) (fun _ => .slice none 0 0) (fun _ => []) from ⟨hna, fun _ _ => OwnK.nil _ _ _ _, fun _ _ _ _ _ _ => rfl⟩)
  have HB3 := Lib.hid (HB2.out.trans (hba.mono (by rw [← hA]; exact HS2.out)))
  have HAA := Lib.hid hA
  have HW3 := Lib.hid hw3
  have HBA := Lib.hid (show B ≤ A by rw [← hA]; exact HS2.out)
  have HA3 := Lib.hid (lt_of_block hna)
  clear hb2 hsb hba hna hw3 hA
  go_upto_region 6 with fail
  rw [HW3.out, HAA.out]
  go_wp2_with fail
  go_loopw [8] (fun vi wr => ∃ (i : Nat) (vs : Nat → Value) (ps : Nat → List Itm), vi = .int .i64 (i : Int) ∧ i ≤ n ∧ P4 wr A (A + 1) vs ps ∧ Share l i ps ∧ Below A w3 wr) (fun vi _ => n - (intOf vi).toNat)
  case atStart => exact ⟨0, _, _, rfl, Nat.zero_le _, HP3.out, Share.start l, Below.refl _ _⟩
  case round =>
    obtain ⟨i, vs, ps, rfl, hi, hp4, hsh, hb⟩ := hrel
    obtain ⟨W0, rfl⟩ : ∃ W0, W0 = wr := ⟨wr, rfl⟩
    have HP := Lib.hid hp4
    have HSH := Lib.hid hsh
    have HB := Lib.hid hb
    have HBW := Lib.hid (HB3.out.trans (hb.mono HBA.out))
    have hww : Below w.heap.size w W0 := by have z := HBW.out; rw [← HBB.out] at z; exact z
    have HV0 := Lib.hid (HV.out.below hww)
    have HS0 := Lib.hid (show A + 1 ≤ W0.heap.size from lt_of_block hp4.blk)
    have HWW := Lib.hid hww
    clear hp4 hsh hb hww
    rcases Nat.lt_or_ge i n with hlt | hge
    · have hiI : (i : Int) < (n : Int) := by omega
      have hi0 : (0 : Int) ≤ (i : Int) := by omega
      have hil : i < l.length := by rw [HN.out]; exact hlt
      go_upto_if 33 with (fail)
      go_cut [9] (fun v9 wz => ∃ k : Nat, k < 4 ∧ v9 = .int .i64 (k : Int) ∧ W0 = wz)
      case first =>
        rcases Nat.lt_or_ge i n1 with hin | hin
        · have hinI : (i : Int) < (n1 : Int) := by omega
          obtain ⟨rfl, hbl⟩ := HP1.out (by omega)
          have hc := (HWW.out.cell (p := ⟨b1, o1 + i, none⟩) hbl).trans (HZ.out i hin)
          obtain ⟨k, hk, hbit⟩ := and3 (Z i)
          go_wp2
          go_meet
          exact ⟨k, hk, rfl, rfl⟩
        · have hinI : ¬ (i : Int) < (n1 : Int) := by omega
          go_wp2
          go_meet
          exact ⟨0, by decide, rfl, rfl⟩
      case rest =>
        obtain ⟨k, hk4, rfl, rfl⟩ := hcut
        have hkI : (k : Int) < 4 := by omega
        have hk0 : (0 : Int) ≤ (k : Int) := by omega
        obtain ⟨b, o, cap3, p3, hpe, -, -, HPP, HC⟩ := HV0.out.open
        simp only [Value.slice.injEq] at hpe
        obtain ⟨rfl, -, rfl⟩ := hpe
        obtain ⟨rfl, hbl⟩ := HPP.out (by rw [HN.out]; omega)
        have hbA : b < A + 1 := by
          obtain ⟨p9, cap9, b9, o9, h9, -, -, h93, -⟩ := HV.out
          simp only [Value.slice.injEq] at h9
          obtain ⟨h9, -, -⟩ := h9
          obtain ⟨h94, h95⟩ := h93 (by rw [HN.out]; omega)
          rw [← h9] at h94
          cases h94
          have := HBA.out
          rw [HBB.out] at h95
          omega
        have hxc := HasK.itAt HC.out i hil
        have hsp := HSH.out.put hil hk4 rfl
        obtain ⟨x, hx⟩ : ∃ x, l[i] = x := ⟨_, rfl⟩
        rw [hx] at hxc hsp
        have HX := Lib.hid hxc
        have HSP := Lib.hid hsp
        have hcA := HP.out.cell k hk4
        have hok := HP.out.own k hk4
        obtain ⟨pk, ck, hvk, -, -⟩ := hok.sl
        obtain ⟨nk, hnk⟩ : ∃ m, (ps k).length = m := ⟨_, rfl⟩
        rw [hnk] at hvk
        rw [hvk] at hcA hok
        have hkn : nk ≤ n := by
          have h := (HSH.out.sub k hk4).length_le
          rw [hnk, List.length_take, HN.out] at h
          omega
        have HCA := Lib.hid hcA
        have HOK := Lib.hid hok
        have HVK := Lib.hid hvk
        have HNK := Lib.hid hnk
        clear hxc hsp hx hcA hok hvk hnk HPP HC hil
        go_upto_region 12 with fail
        refine AnyL.begin (S := fun W => Below (A + 1) W0 W) 11 (by kernel_rfl) (Below.refl _ _).drew (fun hHeld => ?_)
        refine AnyL.take (i := 0) (oi := _) (v := ?_) 30 rfl (by kernel_rfl) (by kernel_rfl) (by kernel_rfl) (by kernel_rfl) (by kernel_rfl) (fun _ _ _ h => h) (Or.inl ⟨by kernel_rfl, ?hy1⟩) (by assumption) ?_
        case hy1 =>
          intro w9 hSw
          try dsimp only at hSw
          try simp only [List.getElem_toArray, List.getElem_cons_zero, List.getElem_cons_succ]
          go_simp
          try with_reducible rfl
        try simp only [Act.put, List.setIfInBounds_toArray, List.set_cons_zero, List.set_cons_succ, List.getElem_toArray, List.getElem_cons_zero, List.getElem_cons_succ]
        refine AnyL.take (i := 1) (oi := _) (v := ?_) 30 rfl (by kernel_rfl) (by kernel_rfl) (by kernel_rfl) (by kernel_rfl) (by kernel_rfl) (fun _ _ _ h => h) (Or.inl ⟨by kernel_rfl, ?hy2⟩) (by assumption) ?_
        case hy2 =>
          intro w9 hSw
          try dsimp only at hSw
          try simp only [List.getElem_toArray, List.getElem_cons_zero, List.getElem_cons_succ]
          go_simp
          try with_reducible rfl
        try simp only [Act.put, List.setIfInBounds_toArray, List.set_cons_zero, List.set_cons_succ, List.getElem_toArray, List.getElem_cons_zero, List.getElem_cons_succ]
        refine AnyL.take (i := 2) (oi := _) (v := ?_) 30 rfl (by kernel_rfl) (by kernel_rfl) (by kernel_rfl) (by kernel_rfl) (by kernel_rfl) (fun _ _ _ h => h) (Or.inl ⟨by kernel_rfl, ?hy3⟩) (by assumption) ?_
        case hy3 =>
          intro w9 hSw
          try dsimp only at hSw
          try simp only [List.getElem_toArray, List.getElem_cons_zero, List.getElem_cons_succ]
          go_simp
          try with_reducible rfl
        try simp only [Act.put, List.setIfInBounds_toArray, List.set_cons_zero, List.set_cons_succ, List.getElem_toArray, List.getElem_cons_zero, List.getElem_cons_succ]
        refine AnyL.take (i := 3) (oi := _) (v := .slice pk nk ck) 30 rfl (by kernel_rfl) (by kernel_rfl) (by kernel_rfl) (by kernel_rfl) (by kernel_rfl) (fun _ _ _ h => h) (Or.inl ⟨by kernel_rfl, ?hy4⟩) (by assumption) ?_
        case hy4 =>
          intro w9 hSw
          try dsimp only at hSw
          try simp only [List.getElem_toArray, List.getElem_cons_zero, List.getElem_cons_succ]
          go_simp
          have hx := (hSw.cell (p := ⟨A, k, none⟩) (Nat.lt_succ_self A)).trans HCA.out
          try go_simp
          try rfl
        try simp only [Act.put, List.setIfInBounds_toArray, List.set_cons_zero, List.set_cons_succ, List.getElem_toArray, List.getElem_cons_zero, List.getElem_cons_succ]
        refine AnyL.take (i := 4) (oi := _) (v := ?_) 30 rfl (by kernel_rfl) (by kernel_rfl) (by kernel_rfl) (by kernel_rfl) (by kernel_rfl) (fun _ _ _ h => h) (Or.inl ⟨by kernel_rfl, ?hy5⟩) (by assumption) ?_
        case hy5 =>
          intro w9 hSw
          try dsimp only at hSw
          try simp only [List.getElem_toArray, List.getElem_cons_zero, List.getElem_cons_succ]
          go_simp
          try with_reducible rfl
        try simp only [Act.put, List.setIfInBounds_toArray, List.set_cons_zero, List.set_cons_succ, List.getElem_toArray, List.getElem_cons_zero, List.getElem_cons_succ]
        refine AnyL.take (i := 5) (oi := _) (v := ?_) 30 rfl (by kernel_rfl) (by kernel_rfl) (by kernel_rfl) (by kernel_rfl) (by kernel_rfl) (fun _ _ _ h => h) (Or.inl ⟨by kernel_rfl, ?hy6⟩) (by assumption) ?_
        case hy6 =>
          intro w9 hSw
          try dsimp only at hSw
          try simp only [List.getElem_toArray, List.getElem_cons_zero, List.getElem_cons_succ]
          go_simp
          try with_reducible rfl
        try simp only [Act.put, List.setIfInBounds_toArray, List.set_cons_zero, List.set_cons_succ, List.getElem_toArray, List.getElem_cons_zero, List.getElem_cons_succ]
        refine AnyL.take (i := 6) (oi := _) (v := ?_) 30 rfl (by kernel_rfl) (by kernel_rfl) (by kernel_rfl) (by kernel_rfl) (by kernel_rfl) (fun _ _ _ h => h) (Or.inl ⟨by kernel_rfl, ?hy7⟩) (by assumption) ?_
        case hy7 =>
          intro w9 hSw
          try dsimp only at hSw
          try simp only [List.getElem_toArray, List.getElem_cons_zero, List.getElem_cons_succ]
          go_simp
          try with_reducible rfl
        try simp only [Act.put, List.setIfInBounds_toArray, List.set_cons_zero, List.set_cons_succ, List.getElem_toArray, List.getElem_cons_zero, List.getElem_cons_succ]
        refine AnyL.take (i := 7) (oi := _) (v := x.v) 30 rfl (by kernel_rfl) (by kernel_rfl) (by kernel_rfl) (by kernel_rfl) (by kernel_rfl) (fun _ _ _ h => h) (Or.inl ⟨by kernel_rfl, ?hy8⟩) (by assumption) ?_
        case hy8 =>
          intro w9 hSw
          try dsimp only at hSw
          try simp only [List.getElem_toArray, List.getElem_cons_zero, List.getElem_cons_succ]
          go_simp
          obtain ⟨a0, a1, a2, a3⟩ := HX.out
          have d0 := (hSw.cell (p := ⟨b, o + i * 4, none⟩) hbA).trans a0
          have d1 := (hSw.cell (p := ⟨b, o + i * 4 + 1, none⟩) hbA).trans a1
          have d2 := (hSw.cell (p := ⟨b, o + i * 4 + 2, none⟩) hbA).trans a2
          have d3 := (hSw.cell (p := ⟨b, o + i * 4 + 3, none⟩) hbA).trans a3
          try go_simp
          try rfl
        try simp only [Act.put, List.setIfInBounds_toArray, List.set_cons_zero, List.set_cons_succ, List.getElem_toArray, List.getElem_cons_zero, List.getElem_cons_succ]
        try unfold Itm.v
        refine AnyL.one (i := 8) (o := _) (by kernel_rfl) rfl (fun K hK => ?_)
        try simp only [List.getElem_toArray, List.getElem_cons_zero, List.getElem_cons_succ]
        go_simp
        have hba8 := (Below.refl W0.drew.heap.size W0.drew).alloc (Nat.le_refl _) (.cells #[.string x.key, .int .u64 (x.seq : Int), .bool x.gone, .string x.val] 29)
        have HYY8 := Lib.hid (one_item x (heap_alloc_new W0.drew (.cells #[.string x.key, .int .u64 (x.seq : Int), .bool x.gone, .string x.val] 29)))
        have hb08 : Below W0.heap.size W0 (W0.drew.alloc (.cells #[.string x.key, .int .u64 (x.seq : Int), .bool x.gone, .string x.val] 29)) := ((Below.refl _ _).drew).trans hba8
        have HOK8 := Lib.hid (HOK.out.below hb08)
        have HB08 := Lib.hid hb08
        clear hb08
        refine hK.out _ _ (fun _ => (hHeld.trans (hba8.mono (Nat.le_trans HS0.out hHeld.size)))) (fun hHeld => ?_)
        replace hHeld := hHeld (by decide)
        clear hK K
        try simp only [Act.put, List.setIfInBounds_toArray, List.set_cons_zero, List.set_cons_succ, List.getElem_toArray, List.getElem_cons_zero, List.getElem_cons_succ]
        refine AnyL.one (i := 9) (o := _) (by kernel_rfl) rfl (fun K hK => ?_)
        refine step_append_at rfl (.tmp 42) (.tmp 47) 23 rfl (A + 1) 29 encI _ 48 Try.underlying23 info_item rfl (by decide) _ (ps k) rfl HOK8.out _ [x] rfl HYY8.out Nat.one_pos (by rw [HNK.out]; simp only [List.length_cons, List.length_nil]; omega) (Nat.le_trans HS0.out HB08.out.size) _ (Below.refl _ _) (fun v9 w9 ho9 hb9 hg9 hat9 => ?_)
        have hpp := fun (e : vs k = .slice pk nk ck) => HP.out.put (Nat.lt_succ_self A) HB08.out hk4 ho9 (by rw [e]; exact hg9) (by rw [e]; exact hat9)
        have HP9 := Lib.hid (hpp HVK.out)
        obtain ⟨p9, c9, rfl, -, -⟩ := ho9.sl
        obtain ⟨m9, hm9⟩ : ∃ m, (ps k ++ [x]).length = m := ⟨_, rfl⟩
        rw [hm9] at HP9 ⊢
        have hAblk := lt_of_block HP.out.blk
        have hAne : (vs k).ownBlock ≠ some A := fun e => by have := ((HP.out.own k hk4).lt A e).1; omega
        have hblk9 := (hg9.block A (Nat.lt_of_lt_of_le hAblk HB08.out.size) (fun e => hAne (by rw [HVK.out]; exact e.symm))).trans ((HB08.out.block A hAblk).trans HP.out.blk)
        have cA9 : w9.cell? ⟨A, k, none⟩ = some (.slice pk nk ck) := (World.cell?_of_block (w := W0) (hblk9.trans HP.out.blk.symm)).trans HCA.out
        have fA9 : w9.frozen? ⟨A, k, none⟩ = false := by simp [World.frozen?, hblk9]
        have HB9 := Lib.hid (show Below A W0 (w9.setCell ⟨A, k, none⟩ (.slice p9 m9 c9)) from (((HB08.out.mono (Nat.le_of_lt hAblk)).trans (hb9.mono (Nat.le_succ A))).setCell (p := ⟨A, k, none⟩) (Nat.le_refl A) _))
        clear hpp ho9 hg9 hat9 hblk9 hAne
        refine hK.out _ _ (fun _ => (hHeld.trans hb9)) (fun hHeld => ?_)
        replace hHeld := hHeld (by decide)
        clear hK K
        try simp only [Act.put, List.setIfInBounds_toArray, List.set_cons_zero, List.set_cons_succ, List.getElem_toArray, List.getElem_cons_zero, List.getElem_cons_succ]
        refine AnyL.take (i := 10) (oi := _) (v := ?_) 30 rfl (by kernel_rfl) (by kernel_rfl) (by kernel_rfl) (by kernel_rfl) (by kernel_rfl) (fun _ _ _ h => h) (Or.inl ⟨by kernel_rfl, ?hy9⟩) (by assumption) ?_
        case hy9 =>
          intro w9 hSw
          try dsimp only at hSw
          try simp only [List.getElem_toArray, List.getElem_cons_zero, List.getElem_cons_succ]
          go_simp
          try with_reducible rfl
        try simp only [Act.put, List.setIfInBounds_toArray, List.set_cons_zero, List.set_cons_succ, List.getElem_toArray, List.getElem_cons_zero, List.getElem_cons_succ]
        refine AnyL.one (i := 11) (o := _) (by kernel_rfl) rfl (fun K hK => ?_)
        try simp only [List.getElem_toArray, List.getElem_cons_zero, List.getElem_cons_succ]
        go_simp
        refine hK.out _ _ (fun h => absurd rfl h) (fun _ => ?_)
        clear hK K
        try simp only [Act.put, List.setIfInBounds_toArray, List.set_cons_zero, List.set_cons_succ, List.getElem_toArray, List.getElem_cons_zero, List.getElem_cons_succ]
        refine AnyL.done (by kernel_rfl) ?_ _
        go_wp2
        go_roundw
        case rel => exact ⟨i + 1, _, _, by go_num, by omega, HP9.out, HSP.out, HB.out.trans HB9.out⟩
        case measure => simp [intOf] <;> omega
    · have hiI : ¬ (i : Int) < (n : Int) := by omega
      have hin : i = l.length := by rw [HN.out]; omega
      subst hin
      have hsl : ∀ k, k < 4 → (ps k).length ≤ n := fun k hk => by
        have h := (HSH.out.sub k hk).length_le
        rw [List.take_length, HN.out] at h
        exact h
      have HSL := Lib.hid hsl
      have hm1 := HSH.out.merged HSO.out (a := 0) (b := 1) (c := 2) (d := 3) (by decide) (by decide) (by decide) (by decide) (fun k hk => by omega)
      have hm2 := HSH.out.merged HSO.out (a := 3) (b := 1) (c := 0) (d := 2) (by decide) (by decide) (by decide) (by decide) (fun k hk => by omega)
      have HM1 := Lib.hid hm1
      have HM2 := Lib.hid hm2
      obtain ⟨q0, r0, e0, -, -⟩ := (HP.out.own 0 (by decide)).sl
      obtain ⟨q1, r1, e1, -, -⟩ := (HP.out.own 1 (by decide)).sl
      obtain ⟨q2, r2, e2, -, -⟩ := (HP.out.own 2 (by decide)).sl
      obtain ⟨q3, r3, e3, -, -⟩ := (HP.out.own 3 (by decide)).sl
      have c0 := HP.out.cell 0 (by decide)
      have c1 := HP.out.cell 1 (by decide)
      have c2 := HP.out.cell 2 (by decide)
      have c3 := HP.out.cell 3 (by decide)
      have k0 := (HP.out.own 0 (by decide)).has
      have k1 := (HP.out.own 1 (by decide)).has
      have k2 := (HP.out.own 2 (by decide)).has
      have k3 := (HP.out.own 3 (by decide)).has
      rw [e0] at c0 k0
      rw [e1] at c1 k1
      rw [e2] at c2 k2
      rw [e3] at c3 k3
      have HK0 := Lib.hid k0
      have HK1 := Lib.hid k1
      have HK2 := Lib.hid k2
      have HK3 := Lib.hid k3
      obtain ⟨n0, hn0⟩ : ∃ m, (ps 0).length = m := ⟨_, rfl⟩
      obtain ⟨n1', hn1⟩ : ∃ m, (ps 1).length = m := ⟨_, rfl⟩
      obtain ⟨n2, hn2⟩ : ∃ m, (ps 2).length = m := ⟨_, rfl⟩
      obtain ⟨n3, hn3⟩ : ∃ m, (ps 3).length = m := ⟨_, rfl⟩
      rw [hn0] at c0 HK0
      rw [hn1] at c1 HK1
      rw [hn2] at c2 HK2
      rw [hn3] at c3 HK3
      have hflat : ∀ a b c d, a < 4 → b < 4 → c < 4 → d < 4 → [ps a, ps b, ps c, ps d].flatten.length ≤ 1000000 := fun a b c d ha hb hc hd => by
        have := hsl a ha
        have := hsl b hb
        have := hsl c hc
        have := hsl d hd
        simp only [List.flatten_cons, List.flatten_nil, List.append_nil, List.length_append]
        omega
      have hba := (Below.refl W0.heap.size W0).alloc (Nat.le_refl _) (.cells #[.slice q0 n0 r0, .slice q1 n1' r1, .slice q2 n2 r2, .slice q3 n3 r3] 23)
      have HL4 := Lib.hid (four_lists (heap_alloc_new W0 (.cells #[.slice q0 n0 r0, .slice q1 n1' r1, .slice q2 n2 r2, .slice q3 n3 r3] 23)) (HK0.out.below hba) (HK1.out.below hba) (HK2.out.below hba) (HK3.out.below hba))
      have HBA4 := Lib.hid hba
      clear hba k0 k1 k2 k3 hsl hm1 hm2 hn0 hn1 hn2 hn3 e0 e1 e2 e3
      have HFL := Lib.hid hflat
      clear hflat
      go_wp2_with fail
      refine (Merge_any _ [ps 0, ps 1, ps 2, ps 3] _ HL4.out (HFL.out 0 1 2 3 (by decide) (by decide) (by decide) (by decide)) (by simp)).mono ?_
      rw [HM1.out.1]
      rintro e w5 ⟨v5, m5, rfl, ho5, hm5, hb5⟩
      rw [HM1.out.2 m5 hm5] at ho5
      have hb05 := HBA4.out.trans (hb5.mono HBA4.out.size)
      have HO5 := Lib.hid ho5.has
      have d0 := (hb05.cell (p := ⟨A, 0, none⟩) HS0.out).trans c0
      have d1 := (hb05.cell (p := ⟨A, 1, none⟩) HS0.out).trans c1
      have d2 := (hb05.cell (p := ⟨A, 2, none⟩) HS0.out).trans c2
      have d3 := (hb05.cell (p := ⟨A, 3, none⟩) HS0.out).trans c3
      have HB05 := Lib.hid hb05
      have hba := (Below.refl w5.heap.size w5).alloc (Nat.le_refl _) (.cells #[.slice q3 n3 r3, .slice q1 n1' r1, .slice q0 n0 r0, .slice q2 n2 r2] 23)
      have hb06 := hb05.trans (hba.mono hb05.size)
      have HL6 := Lib.hid (four_lists (heap_alloc_new w5 (.cells #[.slice q3 n3 r3, .slice q1 n1' r1, .slice q0 n0 r0, .slice q2 n2 r2] 23)) (HK3.out.below hb06) (HK1.out.below hb06) (HK0.out.below hb06) (HK2.out.below hb06))
      have HB06 := Lib.hid hb06
      have HO6 := Lib.hid (HO5.out.below hba)
      clear hm5 ho5 hb5 hb05 hba hb06 c0 c1 c2 c3
      go_wp2_with fail
      refine (Merge_any _ [ps 3, ps 1, ps 0, ps 2] _ HL6.out (HFL.out 3 1 0 2 (by decide) (by decide) (by decide) (by decide)) (by simp)).mono ?_
      rw [HM2.out.1]
      rintro e w7 ⟨v7, m7, rfl, ho7, hm7, hb7⟩
      rw [HM2.out.2 m7 hm7] at ho7
      have hb07 := HB06.out.trans (hb7.mono HB06.out.size)
      have HA7 := Lib.hid (HO6.out.below hb7)
      have HC7 := Lib.hid ho7.has
      have HV7 := Lib.hid (HV0.out.below hb07)
      have HB07 := Lib.hid hb07
      clear hm7 ho7 hb7 hb07 d0 d1 d2 d3
      go_wp2_with fail
      refine (Same_any _ _ _ _ w7 HA7.out HV7.out (by rw [HN.out]; omega)).mono ?_
      rw [sameB_refl]
      rintro e w8 ⟨rfl, hb8⟩
      have HA8 := Lib.hid (HA7.out.below hb8)
      have HC8 := Lib.hid (HC7.out.below hb8)
      have HV8 := Lib.hid (HV7.out.below hb8)
      have HB8 := Lib.hid (HB07.out.trans (hb8.mono HB07.out.size))
      clear hb8
      go_wp2_with fail
      refine (Same_any _ _ _ _ w8 HC8.out HV8.out (by rw [HN.out]; omega)).mono ?_
      rw [sameB_refl]
      rintro e w9 ⟨rfl, hb9⟩
      have HA9 := Lib.hid (HA8.out.below hb9)
      have HV9 := Lib.hid (HV8.out.below hb9)
      have HB9 := Lib.hid (HB8.out.trans (hb9.mono HB8.out.size))
      clear hb9
      go_wp2_with fail
      refine (Seen_any _ _ q w9 HA9.out (by rw [HN.out]; omega) HF.out.keys).mono ?_
      rintro e w10 ⟨v10, rfl, ho10, hb10⟩
      have HS10 := Lib.hid ho10.has
      have HV10 := Lib.hid (HV9.out.below hb10)
      have HB10 := Lib.hid (HB9.out.trans (hb10.mono HB9.out.size))
      clear ho10 hb10
      go_wp2_with fail
      refine (Seen_any _ _ q w10 HV10.out (by rw [HN.out]; omega) HF.out.keys).mono ?_
      rintro e w11 ⟨v11, rfl, ho11, hb11⟩
      have HS11 := Lib.hid ho11.has
      have HS1011 := Lib.hid (HS10.out.below hb11)
      have HB11 := Lib.hid (HB10.out.trans (hb11.mono HB10.out.size))
      clear ho11 hb11
      go_wp2_with fail
      refine (Same_any _ _ _ _ w11 HS1011.out HS11.out (by have := seenGo_len q l []; unfold seenL; rw [HN.out] at this; omega)).mono ?_
      rw [sameB_refl]
      rintro e w12 ⟨rfl, hb12⟩
      have HB12 := Lib.hid (HB11.out.trans (hb12.mono HB11.out.size))
      clear hb12
      go_wp2
      go_ret
      exact ⟨rfl, HBW.out.trans (HB12.out.mono (by have := HBW.out.size; rw [HBB.out] at this; exact this))⟩
end Go.Proofs.Ytfdafoibclfpgaa
