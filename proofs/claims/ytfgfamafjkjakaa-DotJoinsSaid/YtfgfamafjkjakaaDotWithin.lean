/-
  Package dot: whether a set is within another.
-/
import Derived.Test.YtfgfamafjkjakaaDotCells
namespace Go.Proofs.Ytfgfamafjkjakaa
open Go.ChangeShapes Go.WideShapes Go.ChangeAt Go.RowKit Go.Deep
set_option linter.unusedVariables false
set_option linter.unusedSimpArgs false
def withinN (p q : Nm) : Bool := decide (p.upto ≤ q.upto) && p.more.all (fun n => q.has n)
def withinS (f g : List Nm) : Bool := (List.range 16).all fun i => withinN (f.getD i Nm.zero) (g.getD i Nm.zero)
theorem within_no {f g : List Nm} {k : Nat} (hk : k < 16) (h : withinN (f.getD k Nm.zero) (g.getD k Nm.zero) = false) : withinS f g = false := by
  unfold withinS
  rw [Bool.eq_false_iff]
  intro e
  have := List.all_eq_true.1 e k (List.mem_range.2 hk)
  rw [h] at this
  exact Bool.false_ne_true this
theorem all_upto {f g : List Nm} {k : Nat} (hk : ∀ i, i < k → withinN (f.getD i Nm.zero) (g.getD i Nm.zero) = true) (h : withinN (f.getD k Nm.zero) (g.getD k Nm.zero) = true) : ∀ i, i < k + 1 → withinN (f.getD i Nm.zero) (g.getD i Nm.zero) = true := fun i hi => by
  rcases (by omega : i < k ∨ i = k) with h' | rfl
  · exact hk i h'
  · exact h
theorem within_yes {f g : List Nm} (h : ∀ i, i < 16 → withinN (f.getD i Nm.zero) (g.getD i Nm.zero) = true) : withinS f g = true := List.all_eq_true.2 fun i hi => h i (List.mem_range.1 hi)
theorem more_no {q : Nm} {l : List Nat} {j : Nat} (hj : j < l.length) (h : q.has (l.getD j 0) = false) : l.all (fun n => q.has n) = false := by
  rw [Bool.eq_false_iff]
  intro e
  have hm := List.all_eq_true.1 e _ (mem_getD l j hj)
  rw [h] at hm
  exact Bool.false_ne_true hm
theorem more_step {q : Nm} {l : List Nat} {j : Nat} (hj : j < l.length) (h0 : (l.take j).all (fun n => q.has n) = true) (h : q.has (l.getD j 0) = true) : (l.take (j + 1)).all (fun n => q.has n) = true := by
  have e : l.getD j 0 = l[j] := by rw [List.getD_eq_getElem?_getD, List.getElem?_eq_getElem hj]; rfl
  rw [e] at h
  rw [List.take_succ_eq_append_getElem hj, List.all_append, h0, Bool.true_and]
  simp [h]
set_option maxRecDepth 100000 in
set_option maxHeartbeats 8000000 in
theorem Within_any (R O : Nat) (f g : List Nm) (w : World) (hS : SetIs w R f) (hT : SetIs w O g) :
    Calls Try.prog 24 #[.pointer (some ⟨R, 0, none⟩), .pointer (some ⟨O, 0, none⟩)] w fun e w' => e = .returned (.bool (withinS f g)) ∧ Below w.heap.size w w' := by
  have HT := Lib.hid hT
  obtain ⟨ps, hps, hpl, hph, hp4⟩ := hS
  have HPS := Lib.hid hps
  have HPL := Lib.hid hpl
  have HPH := Lib.hid hph
  have HP4 := Lib.hid hp4
  have hr1 : w.rangeAt R 0 (setRow16 ps) := setRow_range hph
  clear hps hpl hph hp4 hT
  go_enter Try.func24, Try.ntmps24
  go_wp2_with (refine wpList_load_mid rfl 56 (.tmp 11) rfl R 0 rfl (setRow16 ps) _ hr1 Try.underlying56 rfl (info_row HPL.out) ?_)
  clear hr1
  go_loopw [13] (fun vi wr => ∃ (k : Nat), vi = .int .i64 (k : Int) ∧ k ≤ 16 ∧ (∀ i, i < k → withinN (f.getD i Nm.zero) (g.getD i Nm.zero) = true) ∧ Below w.heap.size w wr) (fun vi _ => 16 - (intOf vi).toNat)
  case atStart => exact ⟨0, rfl, by omega, fun i hi => absurd hi (Nat.not_lt_zero _), Below.refl _ _⟩
  case round =>
    obtain ⟨k, rfl, hk, hall, hb⟩ := hrel
    have HALL := Lib.hid hall
    clear hall
    rcases Nat.lt_or_ge k 16 with hlt | hge
    · have hkI : (k : Int) < 16 := by omega
      have hkp : k < ps.length := by rw [HPL.out]; exact hlt
      have hk0 : (0 : Int) ≤ (k : Int) := by omega
      have hix := index_nm ps HPL.out k hkp
      have h4 := HP4.out _ (List.getElem_mem hkp)
      have hfk : f.getD k Nm.zero = ps[k].1 := by rw [← HPS.out, List.getD_eq_getElem?_getD, List.getElem?_map, List.getElem?_eq_getElem hkp]; rfl
      obtain ⟨⟨q, mv⟩, hq⟩ : ∃ q, ps[k] = q := ⟨_, rfl⟩
      rw [hq] at hix h4 hfk
      simp only at hix h4 hfk
      obtain ⟨hu, hok, hle⟩ := h4
      have hu2 := hu.below hb
      obtain ⟨pm, cm, rfl, -, -⟩ := hu.form
      have HU := Lib.hid hu2
      have HOK := Lib.hid hok
      have HLE := Lib.hid hle
      have HFK := Lib.hid hfk
      have HT1 := Lib.hid (HT.out.below hb)
      have HB := Lib.hid hb
      have HIX := Lib.hid hix
      clear hu hu2 hok hle hfk hb hix hq
      obtain ⟨W0, rfl⟩ : ∃ W0, W0 = wr := ⟨wr, rfl⟩
      go_upto_region 4 with (refine wpList_index_at rfl 56 (.tmp 12) (.tmp 13) rfl _ HIX.out ?_)
      have hb1 := (Below.refl W0.heap.size W0).alloc (Nat.le_refl _) (.cells #[.int .u64 (q.upto : Int), .slice pm q.more.length cm] 55)
      have hn1 := heap_alloc_new W0 (.cells #[.int .u64 (q.upto : Int), .slice pm q.more.length cm] 55)
      generalize (W0.alloc (.cells #[.int .u64 (q.upto : Int), .slice pm q.more.length cm] 55)) = w2 at *
      have HT2 := Lib.hid (HT1.out.below hb1)
      have HU2 := Lib.hid (HU.out.below hb1)
      have HB2 := Lib.hid (HB.out.trans (hb1.mono HB.out.size))
      obtain ⟨mo, o0, o1, ou, ook, ole, -, -⟩ := HT2.out.at_ k hlt
      obtain ⟨t, ht⟩ : ∃ t, g.getD k Nm.zero = t := ⟨_, rfl⟩
      rw [ht] at o0 ou ook ole
      have HTK := Lib.hid ht
      have HOU := Lib.hid ou
      have HOOK := Lib.hid ook
      have HOLE := Lib.hid ole
      obtain ⟨po, co, rfl, -, -⟩ := ou.form
      have h4 : Four w2 ⟨W0.heap.size, 0, none⟩ ⟨W0.heap.size, 1, none⟩ ⟨O, k * 2, none⟩ ⟨O, k * 2 + 1, none⟩ (.int .u64 (q.upto : Int)) (.slice pm q.more.length cm) (.int .u64 (t.upto : Int)) (.slice po t.more.length co) w2 := ⟨by simp [World.cell?, hn1], by simp [World.cell?, hn1], o0, o1, Below.refl _ _⟩
      have H4 := Lib.hid h4
      clear hb1 hn1 ht ou ook ole h4 o0 o1
      refine AnyL.begin (S := fun W => Four w2 ⟨W0.heap.size, 0, none⟩ ⟨W0.heap.size, 1, none⟩ ⟨O, k * 2, none⟩ ⟨O, k * 2 + 1, none⟩ (.int .u64 (q.upto : Int)) (.slice pm q.more.length cm) (.int .u64 (t.upto : Int)) (.slice po t.more.length co) W) 9 (by kernel_rfl) H4.out.drew (fun hHeld => ?_)
      refine AnyL.take (i := 0) (oi := _) (v := ?_) 30 rfl (by kernel_rfl) (by kernel_rfl) (by kernel_rfl) (by kernel_rfl) (by kernel_rfl) (fun _ _ _ h => h) (Or.inl ⟨by kernel_rfl, ?hy1⟩) (by assumption) ?_
      case hy1 =>
        intro w9 hSw
        try dsimp only at hSw
        try simp only [List.getElem_toArray, List.getElem_cons_zero, List.getElem_cons_succ]
        go_simp
        try with_reducible rfl
      try simp only [Act.put, List.setIfInBounds_toArray, List.set_cons_zero, List.set_cons_succ, List.getElem_toArray, List.getElem_cons_zero, List.getElem_cons_succ]
      refine AnyL.take (i := 1) (oi := _) (v := .int .u64 (q.upto : Int)) 30 rfl (by kernel_rfl) (by kernel_rfl) (by kernel_rfl) (by kernel_rfl) (by kernel_rfl) (fun _ _ _ h => h) (Or.inl ⟨by kernel_rfl, ?hy2⟩) (by assumption) ?_
      case hy2 =>
        intro w9 hSw
        try dsimp only at hSw
        try simp only [List.getElem_toArray, List.getElem_cons_zero, List.getElem_cons_succ]
        go_simp
        obtain ⟨hx0, hx1, -⟩ := hSw
        try go_simp
        try with_reducible rfl
      try simp only [Act.put, List.setIfInBounds_toArray, List.set_cons_zero, List.set_cons_succ, List.getElem_toArray, List.getElem_cons_zero, List.getElem_cons_succ]
      refine AnyL.take (i := 2) (oi := _) (v := ?_) 30 rfl (by kernel_rfl) (by kernel_rfl) (by kernel_rfl) (by kernel_rfl) (by kernel_rfl) (fun _ _ _ h => h) (Or.inl ⟨by kernel_rfl, ?hy3⟩) (by assumption) ?_
      case hy3 =>
        intro w9 hSw
        try dsimp only at hSw
        try simp only [List.getElem_toArray, List.getElem_cons_zero, List.getElem_cons_succ]
        go_simp
        try with_reducible rfl
      try simp only [Act.put, List.setIfInBounds_toArray, List.set_cons_zero, List.set_cons_succ, List.getElem_toArray, List.getElem_cons_zero, List.getElem_cons_succ]
      refine AnyL.take (i := 3) (oi := _) (v := ?_) 30 rfl (by kernel_rfl) (by kernel_rfl) (by kernel_rfl) (by kernel_rfl) (by kernel_rfl) (fun _ _ _ h => h) (Or.inl ⟨by kernel_rfl, ?hy4⟩) (by assumption) ?_
      case hy4 =>
        intro w9 hSw
        try dsimp only at hSw
        try simp only [List.getElem_toArray, List.getElem_cons_zero, List.getElem_cons_succ]
        go_simp
        try with_reducible rfl
      try simp only [Act.put, List.setIfInBounds_toArray, List.set_cons_zero, List.set_cons_succ, List.getElem_toArray, List.getElem_cons_zero, List.getElem_cons_succ]
      refine AnyL.take (i := 4) (oi := _) (v := ?_) 30 rfl (by kernel_rfl) (by kernel_rfl) (by kernel_rfl) (by kernel_rfl) (by kernel_rfl) (fun _ _ _ h => h) (Or.inl ⟨by kernel_rfl, ?hy5⟩) (by assumption) ?_
      case hy5 =>
        intro w9 hSw
        try dsimp only at hSw
        try simp only [List.getElem_toArray, List.getElem_cons_zero, List.getElem_cons_succ]
        go_simp
        try with_reducible rfl
      try simp only [Act.put, List.setIfInBounds_toArray, List.set_cons_zero, List.set_cons_succ, List.getElem_toArray, List.getElem_cons_zero, List.getElem_cons_succ]
      refine AnyL.take (i := 5) (oi := _) (v := ?_) 30 rfl (by kernel_rfl) (by kernel_rfl) (by kernel_rfl) (by kernel_rfl) (by kernel_rfl) (fun _ _ _ h => h) (Or.inl ⟨by kernel_rfl, ?hy6⟩) (by assumption) ?_
      case hy6 =>
        intro w9 hSw
        try dsimp only at hSw
        try simp only [List.getElem_toArray, List.getElem_cons_zero, List.getElem_cons_succ]
        go_simp
        try with_reducible rfl
      try simp only [Act.put, List.setIfInBounds_toArray, List.set_cons_zero, List.set_cons_succ, List.getElem_toArray, List.getElem_cons_zero, List.getElem_cons_succ]
      refine AnyL.take (i := 6) (oi := _) (v := ?_) 30 rfl (by kernel_rfl) (by kernel_rfl) (by kernel_rfl) (by kernel_rfl) (by kernel_rfl) (fun _ _ _ h => h) (Or.inl ⟨by kernel_rfl, ?hy7⟩) (by assumption) ?_
      case hy7 =>
        intro w9 hSw
        try dsimp only at hSw
        try simp only [List.getElem_toArray, List.getElem_cons_zero, List.getElem_cons_succ]
        go_simp
        try with_reducible rfl
      try simp only [Act.put, List.setIfInBounds_toArray, List.set_cons_zero, List.set_cons_succ, List.getElem_toArray, List.getElem_cons_zero, List.getElem_cons_succ]
      refine AnyL.take (i := 7) (oi := _) (v := ?_) 30 rfl (by kernel_rfl) (by kernel_rfl) (by kernel_rfl) (by kernel_rfl) (by kernel_rfl) (fun _ _ _ h => h) (Or.inl ⟨by kernel_rfl, ?hy8⟩) (by assumption) ?_
      case hy8 =>
        intro w9 hSw
        try dsimp only at hSw
        try simp only [List.getElem_toArray, List.getElem_cons_zero, List.getElem_cons_succ]
        go_simp
        try with_reducible rfl
      try simp only [Act.put, List.setIfInBounds_toArray, List.set_cons_zero, List.set_cons_succ, List.getElem_toArray, List.getElem_cons_zero, List.getElem_cons_succ]
      refine AnyL.take (i := 8) (oi := _) (v := .int .u64 (t.upto : Int)) 30 rfl (by kernel_rfl) (by kernel_rfl) (by kernel_rfl) (by kernel_rfl) (by kernel_rfl) (fun _ _ _ h => h) (Or.inl ⟨by kernel_rfl, ?hy9⟩) (by assumption) ?_
      case hy9 =>
        intro w9 hSw
        try dsimp only at hSw
        try simp only [List.getElem_toArray, List.getElem_cons_zero, List.getElem_cons_succ]
        go_simp
        obtain ⟨hx0, hx1, hx2, -⟩ := hSw
        try go_simp
        try with_reducible rfl
      try simp only [Act.put, List.setIfInBounds_toArray, List.set_cons_zero, List.set_cons_succ, List.getElem_toArray, List.getElem_cons_zero, List.getElem_cons_succ]
      refine AnyL.one (i := 9) (o := _) (by kernel_rfl) rfl (fun K hK => ?_)
      try simp only [List.getElem_toArray, List.getElem_cons_zero, List.getElem_cons_succ]
      go_simp
      refine hK.out _ _ (fun h => absurd rfl h) (fun _ => ?_)
      clear hK K
      try simp only [Act.put, List.setIfInBounds_toArray, List.set_cons_zero, List.set_cons_succ, List.getElem_toArray, List.getElem_cons_zero, List.getElem_cons_succ]
      refine AnyL.done (by kernel_rfl) ?_ _
      have hd := hHeld
      generalize w2.drew = w3 at *
      clear hHeld
      have hw0 : withinN (f.getD k Nm.zero) (g.getD k Nm.zero) = (decide (q.upto ≤ t.upto) && q.more.all (fun n => t.has n)) := by rw [HFK.out, HTK.out]; rfl
      have HW0 := Lib.hid hw0
      have HD := Lib.hid hd
      clear hw0 hd
      rcases Nat.lt_or_ge t.upto q.upto with hgt | hle
      · have hgI : (t.upto : Int) < (q.upto : Int) := by omega
        have hn := within_no hlt (HW0.out.trans (by rw [decide_eq_false (by omega), Bool.false_and]))
        have HN := Lib.hid hn
        clear hn
        go_wp2
        go_ret
        rw [HN.out]
        exact ⟨rfl, HB2.out.trans (HD.out.2.2.2.2.mono HB2.out.size)⟩
      · have hgI : ¬ (t.upto : Int) < (q.upto : Int) := by omega
        have hw1 := HW0.out
        rw [decide_eq_true hle, Bool.true_and] at hw1
        have HW1 := Lib.hid hw1
        clear hw1
        obtain ⟨m, hm⟩ : ∃ m, q.more.length = m := ⟨_, rfl⟩
        have HM := Lib.hid hm
        have hm4 := HLE.out
        rw [hm] at hm4
        have HU3 := Lib.hid (HU2.out.below HD.out.2.2.2.2)
        rw [hm] at HU3 HD ⊢
        obtain ⟨c0, c1, -⟩ := HD.out
        clear hm
        go_wp2_with fail
        obtain ⟨W3, hW3⟩ : ∃ W3, W3 = w3 := ⟨_, rfl⟩
        have HW3 := Lib.hid hW3
        clear c0 c1 hW3
        go_loopw [30] (fun v30 wr => ∃ (j : Nat), v30 = .int .i64 (j : Int) ∧ j ≤ m ∧ (q.more.take j).all (fun n => t.has n) = true ∧ Below w3.heap.size w3 wr) (fun v30 _ => m - (intOf v30).toNat)
        case atStart => exact ⟨0, rfl, by omega, rfl, Below.refl _ _⟩
        case round =>
          obtain ⟨j, rfl, hj, hsofar, hbj⟩ := hrel
          have HSO := Lib.hid hsofar
          have hdj := hbj
          have c2 := (hbj.cell (cell_lt HD.out.2.2.1)).trans HD.out.2.2.1
          have c3 := (hbj.cell (cell_lt HD.out.2.2.2.1)).trans HD.out.2.2.2.1
          have HBJ := Lib.hid hbj
          clear hsofar hdj
          rcases Nat.lt_or_ge j m with hjl | hjg
          · have hjI : (j : Int) < (m : Int) := by omega
            have hj0 : (0 : Int) ≤ (j : Int) := by omega
            obtain ⟨b, o, cap2, p2, hpe, -, -, HPP, HC2⟩ := (HU3.out.below hbj).has.open
            simp only [Value.slice.injEq] at hpe
            obtain ⟨rfl, -, rfl⟩ := hpe
            have hjq : j < q.more.length := by rw [HM.out]; exact hjl
            obtain ⟨rfl, hbl⟩ := HPP.out (by omega)
            have hcy := HasK.numAt HC2.out j hjq
            have hno := more_no (q := t) hjq
            have hst := more_step (q := t) hjq HSO.out
            obtain ⟨y, hy⟩ : ∃ y, q.more.getD j 0 = y := ⟨_, rfl⟩
            rw [hy] at hcy hno hst
            have HNO := Lib.hid hno
            have HST := Lib.hid hst
            clear hy hno hst HC2 HPP hbj
            go_wp2_with fail
            have hut := HOU.out.below (HD.out.2.2.2.2.trans (HBJ.out.mono HD.out.2.2.2.2.size))
            refine (has_any t _ y _ hut HOOK.out.rise (by have := HOLE.out; omega)).mono ?_
            rintro e w5 ⟨rfl, hb5⟩
            obtain ⟨hv, hhv⟩ : ∃ hv, t.has y = hv := ⟨_, rfl⟩
            rw [hhv]
            have HHV := Lib.hid hhv
            have HB5 := Lib.hid hb5
            clear hhv hb5 hut c2 c3 hcy
            cases hv with
            | true =>
              go_wp2
              go_roundw
              case rel => exact ⟨j + 1, by go_num, hjl, HST.out HHV.out, HBJ.out.trans (HB5.out.mono HBJ.out.size)⟩
              case measure => simp [intOf] <;> omega
            | false =>
              have hn := within_no hlt (HW1.out.trans (HNO.out HHV.out))
              have HN := Lib.hid hn
              clear hn
              go_wp2
              go_ret
              rw [HN.out]
              exact ⟨rfl, (HB2.out.trans (HD.out.2.2.2.2.mono HB2.out.size)).trans ((HBJ.out.trans (HB5.out.mono HBJ.out.size)).mono (Nat.le_trans HB2.out.size HD.out.2.2.2.2.size))⟩
          · obtain rfl : j = m := by omega
            have hjI : ¬ (j : Int) < (j : Int) := by omega
            have hso := HSO.out
            rw [List.take_of_length_le (by rw [HM.out]; exact Nat.le_refl _)] at hso
            have HALL2 := Lib.hid (all_upto HALL.out (HW1.out.trans hso))
            clear hso c2 c3 hbj
            go_wp2
            go_roundw
            case rel => exact ⟨k + 1, by go_num, hlt, HALL2.out, (HB2.out.trans (HD.out.2.2.2.2.mono HB2.out.size)).trans (HBJ.out.mono (Nat.le_trans HB2.out.size HD.out.2.2.2.2.size))⟩
            case measure => simp [intOf] <;> omega
    · obtain rfl : k = 16 := by omega
      have hkI : ¬ ((16 : Nat) : Int) < 16 := by omega
      have HY := Lib.hid (within_yes HALL.out)
      have HB := Lib.hid hb
      clear hb
      go_wp2
      go_ret
      rw [HY.out]
      exact ⟨rfl, HB.out⟩
end Go.Proofs.Ytfgfamafjkjakaa
