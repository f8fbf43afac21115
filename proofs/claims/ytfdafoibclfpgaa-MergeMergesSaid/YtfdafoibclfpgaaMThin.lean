/-
  Package merge: a sorted list, thinned out.
-/
import Derived.Test.YtfdafoibclfpgaaMThinK
namespace Go.Proofs.Ytfdafoibclfpgaa
open Go.ChangeShapes Go.WideShapes Go.ChangeAt Go.RowKit Go.Deep
set_option linter.unusedVariables false
set_option linter.unusedSimpArgs false
def alwaysN : Nat := 18446744073709551615
def thinC (keep : List Nat) (bt : Bool) (l : List Itm) : List Itm := if sortedB l then thinL (sortN (alwaysN :: keep)) bt l else []
theorem own_num {w : World} (B n : Nat) (hB : B ≤ w.heap.size) : OwnK (w.alloc (.cells #[.int .u64 (n : Int)] 27)) B 27 (encN .u64) (.slice (some ⟨w.heap.size, 0, none⟩) 1 1) [n] :=
  ⟨flatK_len _ _, .inr ⟨w.heap.size, 1, _, rfl, hB, heap_alloc_new _ _, Nat.le_refl _, by unfold maxLen; omega, rfl, rfl⟩⟩
theorem group_take (k : ByteArray) : ∀ r : List Itm, groupL k r = r.take (groupL k r).length
  | [] => rfl
  | x :: r => by
    unfold groupL
    split
    · rw [List.length_cons, List.take_succ_cons, ← group_take k r]
    · rfl
theorem group_lt (k : ByteArray) : ∀ (r : List Itm) (j : Nat) (hj : j < (groupL k r).length), kEq (r[j]'(Nat.lt_of_lt_of_le hj (groupL_le k r))).key k = true
  | [], j, hj => absurd hj (Nat.not_lt_zero _)
  | x :: r, j, hj => by
    by_cases h : kEq x.key k = true
    · cases j with
      | zero => exact h
      | succ j =>
        have hj' : j < (groupL k r).length := by
          unfold groupL at hj
          rw [if_pos h, List.length_cons] at hj
          omega
        exact group_lt k r j hj'
    · unfold groupL at hj
      rw [if_neg h] at hj
      exact absurd hj (Nat.not_lt_zero _)
theorem group_stop (k : ByteArray) : ∀ (r : List Itm) (h : (groupL k r).length < r.length), kEq (r[(groupL k r).length]'h).key k = false
  | [], h => absurd h (Nat.not_lt_zero _)
  | x :: r, h => by
    by_cases hx : kEq x.key k = true
    · have e : (groupL k (x :: r)).length = (groupL k r).length + 1 := by rw [groupL, if_pos hx, List.length_cons]
      have h' : (groupL k r).length < r.length := by rw [e, List.length_cons] at h; omega
      have := group_stop k r h'
      simp only [e, List.getElem_cons_succ]
      exact this
    · have e : (groupL k (x :: r)).length = 0 := by rw [groupL, if_neg hx]; rfl
      simp only [e, List.getElem_cons_zero]
      simpa using hx
theorem thinF_step (ms : List Nat) (bt : Bool) (f : Nat) (x : Itm) (r : List Itm) : thinF ms bt (f + 1) (x :: r) = thinKeyL ms bt (x :: groupL x.key r) ++ thinF ms bt f (r.drop (groupL x.key r).length) := rfl
theorem thinF_nil (ms : List Nat) (bt : Bool) (f : Nat) : thinF ms bt f [] = [] := by cases f <;> rfl
theorem thinKeyL_len (ms : List Nat) (bt : Bool) (l : List Itm) : (thinKeyL ms bt l).length ≤ l.length := by
  unfold thinKeyL
  have := keptL_len ms l none
  have := cutGone_len (keptL ms none l)
  split <;> omega
theorem take_drop_group {l : List Itm} {i : Nat} {x : Itm} (hd : l.drop i = x :: l.drop (i + 1)) (g : Nat) (hg : groupL x.key (l.drop (i + 1)) = (l.drop (i + 1)).take g) : (l.take (i + 1 + g)).drop i = x :: groupL x.key (l.drop (i + 1)) := by
  rw [hg, List.drop_take, hd, show i + 1 + g - i = g + 1 by omega, List.take_succ_cons]
set_option maxRecDepth 100000 in
set_option maxHeartbeats 32000000 in
theorem Thin_any (v u : Value) (l : List Itm) (keep : List Nat) (bt : Bool) (w : World) (hv : HasK w encI v l) (hu : HasK w (encN .u64) u keep) (hl : l.length ≤ 1000000) (hkl : keep.length ≤ 60000) :
    Calls Try.prog 13 #[v, u, .bool bt] w fun e w' => ∃ v', e = .returned v' ∧ OwnK w' w.heap.size 29 encI v' (thinC keep bt l) ∧ Below w.heap.size w w' := by
  obtain ⟨p, cap, rfl, h1, h2⟩ := hv.form
  obtain ⟨p2, cap2, rfl, k1, k2⟩ := hu.form
  obtain ⟨n, hn⟩ : ∃ n, l.length = n := ⟨_, rfl⟩
  obtain ⟨r, hr⟩ : ∃ r, keep.length = r := ⟨_, rfl⟩
  have HN := Lib.hid hn
  have HR := Lib.hid hr
  have HV := Lib.hid hv
  have HU := Lib.hid hu
  have HL := Lib.hid hl
  have HKL := Lib.hid hkl
  rw [hn] at hl h1 HV ⊢
  rw [hr] at k1 hkl HU ⊢
  obtain ⟨B, hB⟩ : ∃ B, w.heap.size = B := ⟨_, rfl⟩
  have HBB := Lib.hid hB
  rw [hB]
  have hcI : (cap : Int) ≤ 9223372036854775807 := by unfold maxLen at h2; omega
  have hcJ : (cap2 : Int) ≤ 9223372036854775807 := by unfold maxLen at k2; omega
  clear hv hu hn hr h2 k2 hB
  go_enter Try.func13, Try.ntmps13
  go_wp2_with fail
  refine (Sorted_any _ l w HV.out HL.out).mono ?_
  obtain ⟨sb, hsb⟩ : ∃ s, sortedB l = s := ⟨_, rfl⟩
  rw [hsb]
  have HSB := Lib.hid hsb
  clear hsb
  rintro e w9 ⟨rfl, hb9⟩
  have HB9 := Lib.hid hb9
  clear hb9
  cases sb with
  | false =>
    have HT := Lib.hid (show thinC keep bt l = [] by unfold thinC; rw [HSB.out]; rfl)
    have HB9' := Lib.hid (show Below B w w9 by have z := HB9.out; rw [HBB.out] at z; exact z)
    go_wp2
    go_ret
    exact ⟨_, rfl, by rw [HT.out]; exact OwnK.nil _ _ _ _, HB9'.out⟩
  | true =>
    have HT := Lib.hid (show thinC keep bt l = thinL (sortN (alwaysN :: keep)) bt l by unfold thinC; rw [HSB.out]; rfl)
    have hb9' : Below B w w9 := by have z := HB9.out; rw [HBB.out] at z; exact z
    have hs9 : B ≤ w9.heap.size := by have := hb9'.size; rw [HBB.out] at this; exact this
    have hba := (Below.refl w9.heap.size w9).alloc (Nat.le_refl _) (.cells #[.int .u64 18446744073709551615] 27)
    have HON := Lib.hid (own_num B 18446744073709551615 hs9)
    have HBA := Lib.hid (hb9'.trans (hba.mono hs9))
    have HUA := Lib.hid ((HU.out.below HB9.out).below hba)
    have HSA := Lib.hid (Nat.le_trans hs9 hba.size)
    have HB9' := Lib.hid hb9'
    clear hb9' hs9 hba
    go_wp2_with (at_builtin; refine wpList_append_ka rfl (.tmp 14) (.tmp 15) 41 rfl B 27 (encN .u64) (.int .u64 0) 8 Try.underlying41 info_n64 rfl (by decide) _ [18446744073709551615] rfl HON.out _ keep rfl HUA.out (by have := HKL.out; simp only [List.length_cons, List.length_nil]; omega) HSA.out w HBA.out (fun v7 w7 ho7 hb7 => ?_); have HO7 := Lib.hid ho7; have HB7 := Lib.hid hb7; have HS7 := Lib.hid (show B ≤ w7.heap.size by have := hb7.size; rw [HBB.out] at this; exact this); clear ho7 hb7)
    refine (Sort_own v7 (alwaysN :: keep) w7 B HS7.out HO7.out (by have := HKL.out; simp only [List.length_cons]; omega) (by simp)).mono ?_
    rintro e W5 ⟨rfl, ho5, hb5⟩
    have hup := sortN_up (alwaysN :: keep)
    have hlen := sortN_len (alwaysN :: keep)
    obtain ⟨ms, hms⟩ : ∃ ms, sortN (alwaysN :: keep) = ms := ⟨_, rfl⟩
    rw [hms] at ho5 hup hlen HT
    have hbw5 : Below B w W5 := HB7.out.trans hb5
    have HB5 := Lib.hid hbw5
    have hww5 : Below w.heap.size w W5 := hbw5.mono (by rw [HBB.out]; exact Nat.le_refl _)
    have HV5 := Lib.hid (HV.out.below hww5)
    have HM5 := Lib.hid ho5.has
    obtain ⟨p7, c7, rfl, -, -⟩ := ho5.sl
    obtain ⟨C, hC⟩ : ∃ C, W5.heap.size = C := ⟨_, rfl⟩
    have HCC := Lib.hid hC
    have HBC := Lib.hid (show B ≤ C by have := hbw5.size; rw [HBB.out, hC] at this; exact this)
    have HUP := Lib.hid hup
    have HLEN := Lib.hid (show ms.length ≤ 1000000 by rw [hlen, List.length_cons]; have := HKL.out; omega)
    clear ho5 hup hlen hms hbw5 hb5 hww5 hC
    go_wp2_with fail
    go_loopw [8, 9] (fun vo vi wr => ∃ (i f : Nat) (lo : List Itm), vi = .int .i64 (i : Int) ∧ i ≤ n ∧ OwnK wr C 29 encI vo lo ∧ n - i ≤ f ∧ lo ++ thinF ms bt f (l.drop i) = thinL ms bt l ∧ Below C W5 wr ∧ lo.length ≤ i) (fun _ vi _ => n - (intOf vi).toNat)
    case atStart => exact ⟨0, n, [], rfl, Nat.zero_le _, OwnK.nil _ _ _ _, by omega, by unfold thinL; rw [HN.out]; rfl, Below.refl _ _, Nat.le_refl _⟩
    case round =>
      obtain ⟨i, f, lo, rfl, hi, ho, hf, he, hb, hlo⟩ := hrel
      obtain ⟨W0, rfl⟩ : ∃ W0, W0 = wr := ⟨wr, rfl⟩
      have HO := Lib.hid ho
      have HE := Lib.hid he
      have HB := Lib.hid hb
      have HLO := Lib.hid hlo
      have HFF := Lib.hid hf
      have HS := Lib.hid (show C ≤ W0.heap.size by have := hb.size; rw [HCC.out] at this; exact this)
      clear ho he hb hlo hf
      rcases Nat.lt_or_ge i n with hlt | hge
      · have hI : (i : Int) < (n : Int) := by omega
        have hi0 : (0 : Int) ≤ (i : Int) := by omega
        have hil : i < l.length := by rw [HN.out]; exact hlt
        have hWw : Below W5.heap.size W5 W0 := HB.out.mono (by rw [HCC.out]; exact Nat.le_refl _)
        have HV0 := Lib.hid (HV5.out.below hWw)
        have HM0 := Lib.hid (HM5.out.below hWw)
        have hdr : l.drop i = l[i] :: l.drop (i + 1) := List.drop_eq_getElem_cons hil
        obtain ⟨x, hxe⟩ : ∃ x, l[i] = x := ⟨_, rfl⟩
        have HXE := Lib.hid (show ∀ h : i < l.length, l[i] = x from fun _ => hxe)
        rw [hxe] at hdr
        obtain ⟨g, hg⟩ : ∃ g, (groupL x.key (l.drop (i + 1))).length = g := ⟨_, rfl⟩
        have hgt := group_take x.key (l.drop (i + 1))
        rw [hg] at hgt
        have htd := take_drop_group hdr g hgt
        have hgl : i + 1 + g ≤ n := by
          have := groupL_le x.key (l.drop (i + 1))
          rw [hg, List.length_drop, HN.out] at this
          omega
        have hglt : ∀ j (hj : i + 1 + j < l.length), j < g → kEq l[i + 1 + j].key x.key = true := fun j hj hjg => by
          have := group_lt x.key (l.drop (i + 1)) j (by rw [hg]; exact hjg)
          rw [List.getElem_drop] at this
          exact this
        have hgst : ∀ (hj : i + 1 + g < l.length), kEq l[i + 1 + g].key x.key = false := fun hj => by
          have := group_stop x.key (l.drop (i + 1)) (by rw [hg, List.length_drop]; omega)
          simp only [hg, List.getElem_drop] at this
          exact this
        have hst : ∃ f', n - (i + 1 + g) ≤ f' ∧ thinF ms bt f (l.drop i) = thinKeyL ms bt (x :: groupL x.key (l.drop (i + 1))) ++ thinF ms bt f' (l.drop (i + 1 + g)) := by
          have := HFF.out
          obtain ⟨f', rfl⟩ : ∃ f', f = f' + 1 := ⟨f - 1, by omega⟩
          refine ⟨f', by omega, ?_⟩
          rw [hdr, thinF_step, hg, List.drop_drop]
        have HST := Lib.hid hst
        have HGL := Lib.hid hgl
        have HGLT := Lib.hid hglt
        have HGST := Lib.hid hgst
        have HTD := Lib.hid htd
        clear hst hgl hglt hgst htd hgt hg hdr hxe hil hWw
        go_wp2_with fail
        go_loopw [10] (fun ve wr => ∃ e : Nat, ve = .int .i64 (e : Int) ∧ i < e ∧ e ≤ i + 1 + g ∧ Below W0.heap.size W0 wr) (fun ve _ => n - (intOf ve).toNat)
        case atStart => exact ⟨i + 1, by go_num, by omega, by omega, Below.refl _ _⟩
        case round =>
          obtain ⟨e, rfl, hie, heg, hb1⟩ := hrel
          obtain ⟨W1, rfl⟩ : ∃ W1, W1 = wr := ⟨wr, rfl⟩
          have HB1 := Lib.hid hb1
          have HEG := Lib.hid heg
          clear hb1 heg
          have heI0 : (0 : Int) ≤ (e : Int) := by omega
          obtain ⟨hit, hhit⟩ : ∃ h : Bool, h = (decide (e < n) && decide (e < i + 1 + g)) := ⟨_, rfl⟩
          have HHIT := Lib.hid hhit
          clear hhit
          go_upto_region 9 with fail
          go_cut [41] (fun b wz => b = .bool hit ∧ ∃ k, wz = W1.drewN k)
          case first =>
            rcases Nat.lt_or_ge e n with hen | hen
            · have heI : (e : Int) < (n : Int) := by omega
              have hil : i < l.length := by rw [HN.out]; exact hlt
              have hel : e < l.length := by rw [HN.out]; exact hen
              obtain ⟨b, o, cap3, p3, hpe, -, -, HPP, HC⟩ := (HV0.out.below HB1.out).open
              simp only [Value.slice.injEq] at hpe
              obtain ⟨rfl, -, rfl⟩ := hpe
              obtain ⟨rfl, hbl⟩ := HPP.out (by rw [HN.out]; omega)
              have hx := HasK.itAt HC.out i hil
              have hy := HasK.itAt HC.out e hel
              rw [HXE.out hil] at hx
              obtain ⟨c0, -, -, -⟩ := hx
              have hkk : hit = kEq l[e].key x.key := by
                rw [HHIT.out, decide_eq_true hen, Bool.true_and]
                have := HEG.out
                rcases Nat.lt_or_ge e (i + 1 + g) with h' | h'
                · rw [decide_eq_true h']
                  have z := HGLT.out (e - (i + 1)) (by omega) (by omega)
                  simp only [show i + 1 + (e - (i + 1)) = e by omega] at z
                  exact z.symm
                · rw [decide_eq_false (by omega)]
                  have ee : i + 1 + g = e := by omega
                  have z := HGST.out (by omega)
                  simp only [ee] at z
                  exact z.symm
              obtain ⟨y, hye⟩ : ∃ y, l[e] = y := ⟨_, rfl⟩
              rw [hye] at hy hkk
              obtain ⟨d0, -, -, -⟩ := hy
              unfold kEq at hkk
              clear hye hil hel HC HPP
              rcases hq : (y.key.toList == x.key.toList) with _ | _
              · have hht : hit = false := by rw [hkk, hq]
                subst hht
                clear hkk
                go_quiet (fail)
                go_wp2
                go_meet
                exact ⟨rfl, _, rfl⟩
              · have hht : hit = true := by rw [hkk, hq]
                subst hht
                clear hkk
                go_quiet (fail)
                go_wp2
                go_meet
                exact ⟨rfl, _, rfl⟩
            · have heI : ¬ (e : Int) < (n : Int) := by omega
              have heJ : decide ((e : Int) < (n : Int)) = false := decide_eq_false heI
              have hht : hit = false := by rw [HHIT.out, decide_eq_false (by omega : ¬ e < n)]; rfl
              subst hht
              go_quiet (fail)
              go_wp2
              go_meet
              exact ⟨rfl, _, rfl⟩
          case rest =>
            obtain ⟨rfl, kq, rfl⟩ := hcut
            obtain ⟨W2, hW2⟩ : ∃ W2, W1.drewN kq = W2 := ⟨_, rfl⟩
            have HB2 := Lib.hid (show Below W0.heap.size W0 (W1.drewN kq) from below_drewN' HB1.out kq)
            rw [hW2] at HB2 ⊢
            clear hW2
            cases hit with
            | true =>
              have hh : e < n ∧ e < i + 1 + g := by
                have z := HHIT.out
                simp only [Bool.true_eq, Bool.and_eq_true, decide_eq_true_eq] at z
                exact z
              obtain ⟨hen, heg⟩ := hh
              go_wp2
              go_roundw
              case rel => exact ⟨e + 1, by go_num, by omega, by omega, HB2.out⟩
              case measure => simp [intOf] <;> omega
            | false =>
              have hee : e = i + 1 + g := by
                have z := HHIT.out
                have := HEG.out
                have h3 := HGL.out
                simp only [Bool.false_eq, Bool.and_eq_false_iff, decide_eq_false_iff_not] at z
                omega
              have HEE := Lib.hid hee
              have hen : e ≤ n := by have := HGL.out; omega
              clear hee
              obtain ⟨f', hf', hst⟩ := HST.out
              have HST2 := Lib.hid hst
              have HF2 := Lib.hid hf'
              have HV2 := Lib.hid (HV0.out.below HB2.out)
              obtain ⟨pm, cm, sm, hmm⟩ := item_mid HV2.out i e (by omega) (by rw [HN.out]; exact hen)
              have hmid := hmm W2 HV2.out
              have HTD2 := HTD.out
              rw [← HEE.out] at HTD2
              rw [HTD2] at hmid
              have HMID := Lib.hid hmid
              have HTD3 := Lib.hid HTD2
              have HM2 := Lib.hid (HM0.out.below HB2.out)
              have HO2 := Lib.hid (HO.out.below HB2.out)
              have hml : (x :: groupL x.key (l.drop (i + 1))).length = e - i := by
                rw [← HTD2, List.length_drop, List.length_take, HN.out]
                omega
              have HMLN := Lib.hid hml
              have heI0 : (i : Int) ≤ (e : Int) := by omega
              have hecI : (e : Int) ≤ (cap : Int) := by omega
              have HBC2 := Lib.hid (HB.out.trans (HB2.out.mono HS.out))
              have HSC2 := Lib.hid (Nat.le_trans HS.out HB2.out.size)
              clear hf' hst hmm hmid HTD2 hml
              go_wp2_with fail
              refine (ThinKey_any _ _ _ ms bt W2 HMID.out HM2.out HUP.out (by rw [HMLN.out]; omega) HLEN.out).mono ?_
              rintro e8 w8 ⟨v8, rfl, hk8, hb8⟩
              have HK8 := Lib.hid hk8
              have HO8 := Lib.hid (HO2.out.below hb8)
              have HB8 := Lib.hid (HBC2.out.trans (hb8.mono HSC2.out))
              have HS8 := Lib.hid (Nat.le_trans HSC2.out hb8.size)
              have HKN := Lib.hid (show (thinKeyL ms bt (x :: groupL x.key (l.drop (i + 1)))).length ≤ e - i by have := thinKeyL_len ms bt (x :: groupL x.key (l.drop (i + 1))); rw [HMLN.out] at this; exact this)
              clear hk8 hb8
              go_wp2_with (at_builtin; refine wpList_append_ka rfl (.tmp 44) (.tmp 51) 23 rfl C 29 encI _ 48 Try.underlying23 info_item rfl (by decide) _ lo rfl HO8.out _ _ rfl HK8.out (by have := HLO.out; have := HKN.out; omega) HS8.out W5 HB8.out (fun v9 w9 ho9 hb9 => ?_); have HO9 := Lib.hid ho9; have HB9 := Lib.hid hb9; clear ho9 hb9)
              go_roundw
              case rel => exact ⟨e, f', _, rfl, hen, HO9.out, by have := HF2.out; rw [HEE.out]; exact this, by rw [← HE.out, HST2.out, List.append_assoc, HEE.out], HB9.out, by have := HLO.out; have := HKN.out; rw [List.length_append]; omega⟩
              case measure => simp [intOf] <;> omega
      · have hI : ¬ (i : Int) < (n : Int) := by omega
        have HQ := Lib.hid (show lo = thinL ms bt l by have z := HE.out; rw [List.drop_eq_nil_of_le (by rw [HN.out]; exact hge), thinF_nil, List.append_nil] at z; exact z)
        go_wp2
        go_ret
        exact ⟨_, rfl, by rw [HT.out, ← HQ.out]; exact HO.out.mono HBC.out, HB5.out.trans (HB.out.mono HBC.out)⟩
end Go.Proofs.Ytfdafoibclfpgaa
