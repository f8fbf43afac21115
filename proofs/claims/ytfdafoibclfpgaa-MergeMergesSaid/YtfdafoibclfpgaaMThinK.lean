/-
  Package merge: the items of one key, thinned out.
-/
import Derived.Test.YtfdafoibclfpgaaMSeen
import Derived.Test.YtfdafoibclfpgaaMSearch
namespace Go.Proofs.Ytfdafoibclfpgaa
open Go.ChangeShapes Go.WideShapes Go.ChangeAt Go.RowKit Go.Deep
set_option linter.unusedVariables false
set_option linter.unusedSimpArgs false
theorem posN_gt (x : Nat) : ∀ (l : List Nat) (i : Nat), i < l.length → x ≤ l.getD i 0 → posN x l ≤ i := fun l i hi h => by
  rcases Nat.lt_or_ge i (posN x l) with h' | h'
  · have := posN_lt x l i h'; omega
  · exact h'
theorem kept_search (ms : List Nat) (hu : upward ms) (x y : Nat) : (ms.any fun m => decide (x ≤ m) && decide (m < y)) = (decide (posN x ms < ms.length) && decide (ms.getD (posN x ms) 0 < y)) := by
  rw [Bool.eq_iff_iff, List.any_eq_true, Bool.and_eq_true, decide_eq_true_eq, decide_eq_true_eq]
  constructor
  · rintro ⟨m, hm, h⟩
    rw [Bool.and_eq_true, decide_eq_true_eq, decide_eq_true_eq] at h
    obtain ⟨j, hj, rfl⟩ := List.getElem_of_mem hm
    have hp := posN_gt x ms j hj (by rw [List.getD_eq_getElem?_getD, List.getElem?_eq_getElem hj]; exact h.1)
    refine ⟨by omega, ?_⟩
    rw [List.getD_eq_getElem?_getD, List.getElem?_eq_getElem (by omega : posN x ms < ms.length)]
    simp only [Option.getD_some]
    rcases Nat.lt_or_ge (posN x ms) j with h' | h'
    · have := List.pairwise_iff_getElem.1 hu (posN x ms) j (by omega) hj h'
      omega
    · have e : posN x ms = j := by omega
      simp only [e]
      exact h.2
  · rintro ⟨h1, h2⟩
    have hg := posN_up x ms hu _ (Nat.le_refl _) h1
    rw [List.getD_eq_getElem?_getD, List.getElem?_eq_getElem h1] at h2 hg
    exact ⟨_, List.getElem_mem h1, by rw [Bool.and_eq_true, decide_eq_true_eq, decide_eq_true_eq]; exact ⟨hg, h2⟩⟩
def prevO (l : List Itm) (i : Nat) : Option Itm := if i = 0 then none else l[i - 1]?
theorem prevO_succ {l : List Itm} {i : Nat} (h : i < l.length) : prevO l (i + 1) = some l[i] := by
  unfold prevO
  rw [if_neg (by omega), Nat.add_sub_cancel, List.getElem?_eq_getElem h]
theorem keptL_len (ms : List Nat) : ∀ (l : List Itm) (p : Option Itm), (keptL ms p l).length ≤ l.length
  | [], _ => Nat.le_refl _
  | x :: r, p => by
    unfold keptL
    have := keptL_len ms r (some x)
    split <;> simp only [List.length_cons] <;> omega
theorem cutGone_snoc (x : Itm) : ∀ a : List Itm, cutGone (a ++ [x]) = if x.gone then cutGone a else a ++ [x]
  | [] => by unfold cutGone; simp [cutGone]
  | y :: a => by
    rw [List.cons_append, cutGone, cutGone_snoc x a]
    by_cases h : x.gone = true
    · rw [if_pos h, if_pos h, cutGone]
    · rw [if_neg h, if_neg h]
      cases a <;> rfl
theorem cutGone_len : ∀ a : List Itm, (cutGone a).length ≤ a.length
  | [] => Nat.le_refl _
  | x :: r => by
    have := cutGone_len r
    unfold cutGone
    rcases hc : cutGone r with _ | ⟨y, t⟩
    · dsimp only; split <;> simp
    · rw [hc] at this; dsimp only; simp only [List.length_cons] at this ⊢; omega
theorem keptL_nil (ms : List Nat) (p : Option Itm) : keptL ms p [] = [] := by cases p <;> rfl
set_option maxRecDepth 100000 in
set_option maxHeartbeats 32000000 in
theorem ThinKey_any (v u : Value) (l : List Itm) (ms : List Nat) (bt : Bool) (w : World) (hv : HasK w encI v l) (hu : HasK w (encN .u64) u ms) (hup : upward ms) (hl : l.length ≤ 1000000) (hml : ms.length ≤ 1000000) :
    Calls Try.prog 23 #[v, u, .bool bt] w fun e w' => ∃ v', e = .returned v' ∧ HasK w' encI v' (thinKeyL ms bt l) ∧ Below w.heap.size w w' := by
  obtain ⟨p, cap, rfl, h1, h2⟩ := hv.form
  obtain ⟨p2, cap2, rfl, k1, k2⟩ := hu.form
  obtain ⟨n, hn⟩ : ∃ n, l.length = n := ⟨_, rfl⟩
  obtain ⟨r, hr⟩ : ∃ r, ms.length = r := ⟨_, rfl⟩
  have HN := Lib.hid hn
  have HR := Lib.hid hr
  have HV := Lib.hid hv
  have HU := Lib.hid hu
  have HUP := Lib.hid hup
  have HML := Lib.hid hml
  rw [hn] at hl h1 HV ⊢
  rw [hr] at k1 HU ⊢
  obtain ⟨B, hB⟩ : ∃ B, w.heap.size = B := ⟨_, rfl⟩
  have HBB := Lib.hid hB
  rw [hB]
  have hcI : (cap : Int) ≤ 9223372036854775807 := by unfold maxLen at h2; omega
  have hcJ : (cap2 : Int) ≤ 9223372036854775807 := by unfold maxLen at k2; omega
  clear hv hu hn hr h2 k2 hB hup
  go_enter Try.func23, Try.ntmps23
  go_wp2_with fail
  go_loopw [7, 14] (fun vo vi wr => ∃ (i : Nat) (lo : List Itm), vi = .int .i64 (i : Int) ∧ i ≤ n ∧ OwnK wr B 29 encI vo lo ∧ lo ++ keptL ms (prevO l i) (l.drop i) = keptL ms none l ∧ Below B w wr ∧ lo.length ≤ i) (fun _ vi _ => n - (intOf vi).toNat)
  case atStart => exact ⟨0, [], rfl, Nat.zero_le _, OwnK.nil _ _ _ _, rfl, Below.refl _ _, Nat.le_refl _⟩
  case round =>
    obtain ⟨i, lo, rfl, hi, ho, he, hb, hlo⟩ := hrel
    obtain ⟨W0, rfl⟩ : ∃ W0, W0 = wr := ⟨wr, rfl⟩
    have HO := Lib.hid ho
    have HE := Lib.hid he
    have HB := Lib.hid hb
    have HLO := Lib.hid hlo
    have HS := Lib.hid (show B ≤ W0.heap.size by have := hb.size; rw [HBB.out] at this; exact this)
    clear ho he hb hlo
    rcases Nat.lt_or_ge i n with hlt | hge
    · have hI : (i : Int) < (n : Int) := by omega
      have hi0 : (0 : Int) ≤ (i : Int) := by omega
      have hil : i < l.length := by rw [HN.out]; exact hlt
      have hWw : Below w.heap.size w W0 := HB.out.mono (by rw [HBB.out]; exact Nat.le_refl _)
      obtain ⟨b, o, cap3, p3, hpe, -, -, HPP, HC⟩ := (HV.out.below hWw).open
      simp only [Value.slice.injEq] at hpe
      obtain ⟨rfl, -, rfl⟩ := hpe
      obtain ⟨rfl, hbl⟩ := HPP.out (by rw [HN.out]; omega)
      have hx := HasK.itAt HC.out i hil
      have hdr : l.drop i = l[i] :: l.drop (i + 1) := List.drop_eq_getElem_cons hil
      have hps := prevO_succ hil
      obtain ⟨x, hxe⟩ : ∃ x, l[i] = x := ⟨_, rfl⟩
      rw [hxe] at hx hdr hps
      have hsg : keptL ms (prevO l i) (l.drop i) = if keptI ms (prevO l i) x then x :: keptL ms (prevO l (i + 1)) (l.drop (i + 1)) else keptL ms (prevO l (i + 1)) (l.drop (i + 1)) := by rw [hdr, hps]; rfl
      have HSG := Lib.hid hsg
      have hba := (Below.refl W0.heap.size W0).alloc (Nat.le_refl _) (.cells #[.string x.key, .int .u64 (x.seq : Int), .bool x.gone, .string x.val] 29)
      obtain ⟨W1, hW1⟩ : ∃ W1, W0.alloc (.cells #[.string x.key, .int .u64 (x.seq : Int), .bool x.gone, .string x.val] 29) = W1 := ⟨_, rfl⟩
      obtain ⟨G, hG⟩ : ∃ G, W0.heap.size = G := ⟨_, rfl⟩
      have hna := heap_alloc_new W0 (.cells #[.string x.key, .int .u64 (x.seq : Int), .bool x.gone, .string x.val] 29)
      rw [hW1] at hba hna
      rw [hG] at hna
      have HBA := Lib.hid (HB.out.trans (hba.mono HS.out))
      have HOA := Lib.hid (HO.out.below hba)
      have HNA := Lib.hid hna
      have HGG := Lib.hid hG
      have HW1 := Lib.hid hW1
      have HSA := Lib.hid (Nat.le_trans HS.out hba.size)
      have hW1w : Below w.heap.size w W1 := HBA.out.mono (by rw [HBB.out]; exact Nat.le_refl _)
      have HU1 := Lib.hid (HU.out.below hW1w)
      have hprev : 0 < i → ∃ y, prevO l i = some y ∧ W1.cell? ⟨b, o + (i - 1) * 4 + 1, none⟩ = some (.int .u64 (y.seq : Int)) := fun h0 => by
        refine ⟨l[i - 1], ?_, ((HasK.itAt HC.out (i - 1) (by omega)).below hba).2.1⟩
        unfold prevO
        rw [if_neg (by omega), List.getElem?_eq_getElem (by omega)]
      have HPREV := Lib.hid hprev
      obtain ⟨c0, c1, c2, c3⟩ := hx
      clear hba hna hG hW1 hW1w hprev hxe hsg hdr hps HC HPP hil hWw
      go_wp2_with fail
      rw [HW1.out, HGG.out]
      refine (SearchUp_any _ ms x.seq W1 HU1.out HUP.out (by have := HML.out; omega)).mono ?_
      have hks := kept_search ms HUP.out x.seq
      have hple := posN_le x.seq ms
      obtain ⟨f, hf⟩ : ∃ f, posN x.seq ms = f := ⟨_, rfl⟩
      rw [hf] at hks hple ⊢
      rw [HR.out] at hks hple
      have HKS := Lib.hid hks
      clear hks hf
      rintro e w9 ⟨⟨rb, rfl⟩, rfl⟩
      obtain ⟨kp, hkp⟩ : ∃ k, keptI ms (prevO l i) x = k := ⟨_, rfl⟩
      have HKP := Lib.hid hkp
      clear hkp c0 c1 c2 c3
      go_upto_region 6 with fail
      go_cut [46] (fun b wz => b = .bool kp ∧ ∃ k, wz = W1.drewN k)
      case first =>
        rcases Nat.eq_zero_or_pos i with rfl | hip
        · have hkt : kp = true := by rw [← HKP.out]; rfl
          subst hkt
          go_quiet (fail)
          go_wp2
          go_meet
          exact ⟨rfl, _, rfl⟩
        · obtain ⟨y, hy, hcy⟩ := HPREV.out hip
          have hkv : kp = (decide (f < r) && decide (ms.getD f 0 < y.seq)) := by rw [← HKP.out, hy]; exact HKS.out y.seq
          have hne : ¬ (i : Int) = 0 := by omega
          have hneb : ((i : Int) == 0) = false := by simp only [beq_eq_false_iff_ne, ne_eq]; exact hne
          rcases Nat.lt_or_ge f r with hfr | hfr
          · obtain ⟨bm, om, cap3, p3, hpe, -, -, HPM, HCM⟩ := HU1.out.open
            simp only [Value.slice.injEq] at hpe
            obtain ⟨rfl, -, rfl⟩ := hpe
            obtain ⟨rfl, hbm⟩ := HPM.out (by rw [HR.out]; omega)
            have hcm := HasK.numAt HCM.out f (by rw [HR.out]; omega)
            obtain ⟨m, hm⟩ : ∃ m, ms.getD f 0 = m := ⟨_, rfl⟩
            rw [hm] at hcm hkv
            obtain ⟨j, hj⟩ : ∃ j, i - 1 = j := ⟨_, rfl⟩
            rw [hj] at hcy
            have hjI : (i : Int) - 1 = (j : Int) := by omega
            have hj1 : IntKind.i64.wrap ((i : Int) - 1) = (j : Int) := by rw [IntKind.wrap_i64]; omega
            have hj0 : (0 : Int) ≤ (j : Int) := by omega
            have hjn : (j : Int) < (n : Int) := by omega
            have hfI : (f : Int) < (r : Int) := by omega
            have hf0 : (0 : Int) ≤ (f : Int) := by omega
            rcases Nat.lt_or_ge m y.seq with hmy | hmy
            · have hmI : (m : Int) < (y.seq : Int) := by omega
              have hkt : kp = true := by rw [hkv, decide_eq_true hfr, decide_eq_true hmy]; rfl
              subst hkt
              clear hkv hm hj HPM HCM hy
              go_quiet (fail)
              go_wp2
              go_meet
              exact ⟨rfl, _, rfl⟩
            · have hmI : ¬ (m : Int) < (y.seq : Int) := by omega
              have hmJ : decide ((m : Int) < (y.seq : Int)) = false := decide_eq_false hmI
              have hkt : kp = false := by rw [hkv, decide_eq_true hfr, decide_eq_false (by omega : ¬ m < y.seq)]; rfl
              subst hkt
              clear hkv hm hj HPM HCM hy
              go_quiet (fail)
              go_wp2
              go_meet
              exact ⟨rfl, _, rfl⟩
          · have hfI : ¬ (f : Int) < (r : Int) := by omega
            have hfJ : decide ((f : Int) < (r : Int)) = false := decide_eq_false hfI
            have hkt : kp = false := by rw [hkv, decide_eq_false (by omega : ¬ f < r)]; rfl
            subst hkt
            clear hkv hy hcy
            go_quiet (fail)
            go_wp2
            go_meet
            exact ⟨rfl, _, rfl⟩
      case rest =>
        obtain ⟨rfl, kq, rfl⟩ := hcut
        obtain ⟨W2, hW2⟩ : ∃ W2, W1.drewN kq = W2 := ⟨_, rfl⟩
        have HB2 := Lib.hid (show Below B w (W1.drewN kq) from below_drewN' HBA.out kq)
        have HO2 := Lib.hid (HOA.out.drewN kq)
        have hn2 : (W1.drewN kq).heap[G]? = some (.cells #[.string x.key, .int .u64 (x.seq : Int), .bool x.gone, .string x.val] 29 (0, 0)) := HNA.out
        rw [hW2] at HB2 HO2 hn2 ⊢
        have HS2 := Lib.hid (show B ≤ W2.heap.size by have := HB2.out.size; rw [HBB.out] at this; exact this)
        have k0 : W2.cell? ⟨G, 0, none⟩ = some (.string x.key) := by simp [World.cell?, hn2]
        have k1 : W2.cell? ⟨G, 1, none⟩ = some (.int .u64 (x.seq : Int)) := by simp [World.cell?, hn2]
        have k2 : W2.cell? ⟨G, 2, none⟩ = some (.bool x.gone) := by simp [World.cell?, hn2]
        have k3 : W2.cell? ⟨G, 3, none⟩ = some (.string x.val) := by simp [World.cell?, hn2]
        clear hW2 hn2
        cases kp with
        | false =>
          have HQ := Lib.hid (show keptL ms (prevO l i) (l.drop i) = keptL ms (prevO l (i + 1)) (l.drop (i + 1)) by rw [HSG.out, HKP.out, if_neg (by decide)])
          go_wp2
          go_roundw
          case rel => exact ⟨i + 1, lo, by go_num, by omega, HO2.out, by rw [← HQ.out]; exact HE.out, HB2.out, by have := HLO.out; omega⟩
          case measure => simp [intOf] <;> omega
        | true =>
          have HQ := Lib.hid (show keptL ms (prevO l i) (l.drop i) = x :: keptL ms (prevO l (i + 1)) (l.drop (i + 1)) by rw [HSG.out, HKP.out, if_pos rfl])
          have hbb := (Below.refl W2.heap.size W2).alloc (Nat.le_refl _) (.cells #[.string x.key, .int .u64 (x.seq : Int), .bool x.gone, .string x.val] 29)
          have HYY := Lib.hid (one_item x (heap_alloc_new W2 (.cells #[.string x.key, .int .u64 (x.seq : Int), .bool x.gone, .string x.val] 29)))
          have HOX := Lib.hid (HO2.out.below hbb)
          have HBX := Lib.hid (HB2.out.trans (hbb.mono HS2.out))
          have HSX := Lib.hid (Nat.le_trans HS2.out hbb.size)
          clear hbb
          go_wp2_with (at_builtin; refine wpList_append_k rfl (.tmp 47) (.tmp 49) 23 rfl B 29 encI _ 48 Try.underlying23 info_item rfl (by decide) _ lo rfl HOX.out _ [x] rfl HYY.out Nat.one_pos (by have := HLO.out; simp only [List.length_cons, List.length_nil]; omega) HSX.out w HBX.out (fun v7 w7 ho7 hb7 _ _ => ?_); have HO7 := Lib.hid ho7; have HB7 := Lib.hid hb7; clear ho7 hb7)
          go_roundw
          case rel => exact ⟨i + 1, lo ++ [x], by go_num, by omega, HO7.out, by rw [← HE.out, HQ.out, List.append_assoc]; rfl, HB7.out, by have := HLO.out; simp only [List.length_append, List.length_cons, List.length_nil]; omega⟩
          case measure => simp [intOf] <;> omega
    · have hI : ¬ (i : Int) < (n : Int) := by omega
      have HQ := Lib.hid (show lo = keptL ms none l by have z := HE.out; rw [List.drop_eq_nil_of_le (by rw [HN.out]; exact hge)] at z; rw [keptL_nil, List.append_nil] at z; exact z)
      go_wp2_with fail
      go_loopw [7] (fun vo wr => ∃ (lo2 : List Itm), HasK W0 encI vo lo2 ∧ thinKeyL ms bt l = (if bt then cutGone lo2 else lo2) ∧ W0 = wr ∧ lo2.length ≤ n) (fun vo _ => lenV vo)
      case atStart => exact ⟨lo, HO.out.has, by rw [HQ.out]; rfl, rfl, by have := HLO.out; omega⟩
      case round =>
        obtain ⟨lo2, ho2, he2, rfl, hl2⟩ := hrel
        obtain ⟨pa, ca, rfl, a1, a2⟩ := ho2.form
        have HO2 := Lib.hid ho2
        have HE2 := Lib.hid he2
        have hcK : (ca : Int) ≤ 9223372036854775807 := by unfold maxLen at a2; omega
        clear ho2 he2 a2
        rcases bt with _ | _
        · have HE3 := Lib.hid (show thinKeyL ms false l = lo2 from HE2.out)
          obtain ⟨z, hz0⟩ : ∃ z, lo2.length = z := ⟨_, rfl⟩
          rw [hz0] at HO2 ⊢
          clear hz0
          go_wp2
          go_ret
          exact ⟨_, rfl, by rw [HE3.out]; exact HO2.out, HB.out⟩
        · rcases List.eq_nil_or_concat lo2 with rfl | ⟨lo3, x, rfl⟩
          · have HE3 := Lib.hid (show thinKeyL ms true l = [] from HE2.out)
            have hz : ¬ (0 : Int) < ((([] : List Itm).length : Nat) : Int) := by simp
            obtain ⟨z, hz0⟩ : ∃ z, ([] : List Itm).length = z := ⟨_, rfl⟩
            rw [hz0] at hz HO2 ⊢
            clear hz0
            go_wp2
            go_ret
            exact ⟨_, rfl, by rw [HE3.out]; exact HO2.out, HB.out⟩
          · rw [List.concat_eq_append] at HO2 HE2 a1 hl2 ⊢
            have hlen : (lo3 ++ [x]).length = lo3.length + 1 := by simp
            obtain ⟨ph, ch, sh, hh⟩ := item_head HO2.out lo3.length (by omega)
            have hh2 := hh W0 HO2.out
            rw [List.take_left] at hh2
            have HH := Lib.hid hh2
            obtain ⟨b, o, cap3, p3, hpe, -, -, HPP, HC⟩ := HO2.out.open
            simp only [Value.slice.injEq] at hpe
            obtain ⟨rfl, -, rfl⟩ := hpe
            obtain ⟨rfl, hbl⟩ := HPP.out (by omega)
            have hxc := HasK.itAt HC.out lo3.length (by omega)
            have hgx : (lo3 ++ [x])[lo3.length]'(by simp) = x := by simp
            rw [hgx] at hxc
            obtain ⟨-, -, c2, -⟩ := hxc
            obtain ⟨k, hk⟩ : ∃ k, lo3.length = k := ⟨_, rfl⟩
            have HKL := Lib.hid hk
            rw [hlen] at HO2 a1 hl2 sh ⊢
            rw [hk] at HO2 a1 hl2 sh c2 HH ⊢
            obtain ⟨m, hm⟩ : ∃ m, k + 1 = m := ⟨_, rfl⟩
            have hmI : (0 : Int) < (m : Int) := by omega
            have hkI : (m : Int) - 1 = (k : Int) := by omega
            have hk1 : IntKind.i64.wrap ((m : Int) - 1) = (k : Int) := by rw [IntKind.wrap_i64]; omega
            have hk0 : (0 : Int) ≤ (k : Int) := by omega
            have hkm : (k : Int) < (m : Int) := by omega
            have HM := Lib.hid hm
            rw [hm] at HO2 a1 hl2 sh ⊢
            clear hm hk hlen hh hh2 HPP HC
            rcases hgn : x.gone with _ | _
            · have HE3 := Lib.hid (show thinKeyL ms true l = lo3 ++ [x] by have z := HE2.out; rw [if_pos rfl, cutGone_snoc, hgn, if_neg (by decide)] at z; exact z)
              rw [hgn] at c2
              go_wp2
              go_ret
              exact ⟨_, rfl, by rw [HE3.out]; exact HO2.out, HB.out⟩
            · have HE3 := Lib.hid (show thinKeyL ms true l = cutGone lo3 by have z := HE2.out; rw [if_pos rfl, cutGone_snoc, hgn, if_pos rfl] at z; exact z)
              rw [hgn] at c2
              go_wp2
              go_roundw
              case rel => exact ⟨lo3, HH.out, HE3.out, by first | rfl | trivial, by rw [HKL.out]; omega⟩
              case measure => have := HM.out; simp [lenV] <;> omega
end Go.Proofs.Ytfdafoibclfpgaa
