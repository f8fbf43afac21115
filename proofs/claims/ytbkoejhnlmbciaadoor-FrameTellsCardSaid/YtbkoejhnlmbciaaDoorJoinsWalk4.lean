/-
  The walk of the law FrameJoins.
-/
import Derived.Test.YtbkoejhnlmbciaaDoorAwake4
namespace Go.Proofs.YtbkoejhnlmbciaaDoor
open Go.ChangeShapes Go.WideShapes Go.ChangeAt Go.RowKit Go.Deep
set_option linter.unusedVariables false
set_option linter.unusedSimpArgs false

theorem HasA.shape {w : World} {v : Value} {l : List UInt8} (h : HasA w v l) : ∃ p n c, v = .slice p n c ∧ Hid (n = l.length) ∧ n ≤ c ∧ (c : Int) ≤ 9223372036854775807 := by
  obtain ⟨p, c, rfl, h1, h2⟩ := h.form
  exact ⟨p, _, c, rfl, Lib.hid rfl, h1, by unfold maxLen at h2; omega⟩
theorem frames_len_le {B : Nat} : ∀ {l : List (List UInt8)}, (∀ p ∈ l, p.length ≤ B) → (frames l).length ≤ l.length * (8 + B)
  | [], _ => by simp [frames]
  | p :: r, h => by
    have h1 := h p List.mem_cons_self
    have h2 := frames_len_le (l := r) (fun q hq => h q (List.mem_cons_of_mem _ hq))
    simp only [frames, List.length_append, frameOf_len, List.length_cons, Nat.add_mul, Nat.one_mul]
    omega
theorem fScan_le : ∀ (n : Nat) (b : List UInt8), b.length ≤ n → (fScan b).2.1 ≤ b.length ∧ (fScan b).1.length ≤ (fScan b).2.1 ∧ (fScan b).2.2 ≤ 2
  | 0, b, h => by rw [fScan_nil (by omega)]; simp
  | n + 1, b, h => by
    by_cases h0 : b.length = 0
    · rw [fScan_nil h0]; simp
    · by_cases hh : fHow b = 0
      · obtain ⟨h1, h2, h3, h4⟩ := fHow_zero hh
        have ih := fScan_le n (b.drop (8 + n4 b)) (by simp; omega)
        rw [List.length_drop] at ih
        rw [fScan_step (by omega) hh]
        simp only [List.length_cons]
        omega
      · rw [fScan_end (by omega) hh]
        have := fHow_le b
        simp; omega
theorem take_le {B : Nat} {l : List (List UInt8)} {k : Nat} (h : ∀ p ∈ l.take k, p.length ≤ B) (hk : k < l.length) (h1 : l[k].length ≤ B) : ∀ p ∈ l.take (k + 1), p.length ≤ B := by
  intro p hp
  rw [List.take_succ_eq_append_getElem hk] at hp
  rcases List.mem_append.1 hp with hp | hp
  · exact h p hp
  · simp only [List.mem_singleton] at hp
    rw [hp]; exact h1
set_option maxRecDepth 100000 in
set_option maxHeartbeats 4000000 in
theorem FrameJoins_any (v0 : Value) (ls : List (List UInt8)) (v1 : Value) (lb : List UInt8) (w : World) (h0 : HasL w v0 ls) (h1 : HasA w v1 lb) (hN : Nib w) :
    Calls Tryd.prog 7 #[v0, v1] w fun e w' => e = .returned (.bool true) ∧ Below w.heap.size w w' := by
  obtain ⟨bL, oL, capL, pL, rfl, hcl, hdl, HPL, HCL⟩ := h0.open
  obtain ⟨pB, capB, rfl, hcb, hdb⟩ := h1.form
  have hml : (capL : Int) ≤ 9223372036854775807 := by unfold maxLen at hdl; omega
  have hmb : (capB : Int) ≤ 9223372036854775807 := by unfold maxLen at hdb; omega
  have HDL := Lib.hid hdl
  have HDB := Lib.hid hdb
  have H0 := Lib.hid h0
  have H1 := Lib.hid h1
  have HN := Lib.hid hN
  clear h0 h1 hN hdl hdb
  go_enter Tryd.func7, Tryd.ntmps7
  go_wp2_with fail
  refine (awake_any w HN.out).mono ?_
  rintro e w1 ⟨rfl, hb1⟩
  have hz1 := hb1.size
  have HB1 := Lib.hid hb1
  clear hb1
  by_cases h20 : 20 < ls.length
  · have h20' : (20 : Int) < (ls.length : Int) := by omega
    go_wp2_with fail
    go_ret
    exact ⟨rfl, HB1.out⟩
  · have h20' : ¬ (20 : Int) < (ls.length : Int) := by omega
    by_cases h2k : 2000 < lb.length
    · have h2k' : (2000 : Int) < (lb.length : Int) := by omega
      go_wp2_with fail
      go_ret
      exact ⟨rfl, HB1.out⟩
    · have h2k' : ¬ (2000 : Int) < (lb.length : Int) := by omega
      go_wp2_with fail
      go_loopw [5, 6] (fun va vi wr => ∃ (k : Nat), k ≤ ls.length ∧ vi = .int .i64 k ∧ Hid (∀ p ∈ ls.take k, p.length ≤ 500) ∧ Own wr w.heap.size 5 va (frames (ls.take k)) ∧ Below w.heap.size w wr) (fun _ vi _ => ls.length - (intOf vi).toNat)
      case atStart => exact ⟨0, Nat.zero_le _, rfl, Lib.hid (fun p hp => by simp at hp), by rw [List.take_zero]; exact Own.nil _ _ _, HB1.out⟩
      case round =>
        obtain ⟨k, hk, rfl, HS, ho, hb⟩ := hrel
        obtain ⟨pa, ca, hva, hka, hma⟩ := ho.has.form
        obtain ⟨na, hna⟩ : ∃ na, (frames (ls.take k)).length = na := ⟨_, rfl⟩
        rw [hna] at hva hka
        subst hva
        have hnal : na ≤ 20 * 508 := by
          have := frames_len_le HS.out
          rw [hna, List.length_take] at this
          omega
        have hzr := hb.size
        have HO := Lib.hid ho
        have HB := Lib.hid hb
        have HNA := Lib.hid hna
        have hma' : (ca : Int) ≤ 9223372036854775807 := by unfold maxLen at hma; omega
        have HMA := Lib.hid hma
        clear ho hb hna hma
        rcases Nat.lt_or_ge k ls.length with hlt | hge
        · have hlt' : (k : Int) < (ls.length : Int) := by omega
          have hp := HPL.out (by omega)
          obtain ⟨hp1, hbl⟩ := hp
          subst hp1
          obtain ⟨x, hx, hxa⟩ := HCL.out k hlt
          have hxr : wr.cell? ⟨bL, oL + k, none⟩ = some x := (HB.out.cell (p := ⟨bL, oL + k, none⟩) hbl).trans hx
          have HXA := Lib.hid (hxa.below HB.out)
          obtain ⟨px, cx, rfl, hkx, hmx⟩ := hxa.form
          have hmx' : (cx : Int) ≤ 9223372036854775807 := by unfold maxLen at hmx; omega
          have HMX := Lib.hid hmx
          clear hx hxa hmx
          by_cases h5 : 500 < ls[k].length
          · have h5' : (500 : Int) < (ls[k].length : Int) := by omega
            go_wp2_with fail
            go_ret
            exact ⟨rfl, HB.out⟩
          · have h5' : ¬ (500 : Int) < (ls[k].length : Int) := by omega
            have HS2 := Lib.hid (take_le HS.out hlt (by omega))
            go_wp2_with fail
            refine (Append_any _ (frames (ls.take k)) _ ls[k] wr HO.out.has.wide HXA.out (HN.out.below HB.out) (by omega) (by rw [HNA.out]; omega)).mono ?_
            rintro e w3 ⟨v3, rfl, ho3, hb3⟩
            have HO3 : Hid (Own w3 w.heap.size 5 v3 (frames (ls.take (k + 1)))) := Lib.hid (by rw [frames_snoc _ _ hlt]; exact ho3.mono hzr)
            have HB3 := Lib.hid (HB.out.trans (hb3.mono hzr))
            obtain ⟨p3, n3, c3, rfl, _, _, _⟩ := ho3.has.wide.shape
            clear ho3 hb3
            go_wp2
            go_roundw
            case rel => exact ⟨k + 1, by omega, by go_num, HS2, HO3.out, HB3.out⟩
            case measure => simp [intOf]; omega
        · have hge' : ¬ (k : Int) < (ls.length : Int) := by omega
          have ht : ls.take k = ls := List.take_of_length_le hge
          rw [ht] at HS HO HNA
          have hsc := fScan_frames ls lb (fun p hp => Nat.le_trans (HS.out p hp) (by omega))
          have HSC := Lib.hid hsc
          have hzl : ∀ o, wr.heap.size ≤ (wr.alloc o).heap.size := fun o => ((Below.refl wr.heap.size wr).alloc (Nat.le_refl _) o).size
          clear ht hsc
          go_wp2_with (at_builtin; refine wpList_append_has rfl _ _ 23 rfl wr.heap.size 5 Tryd.underlying23 info_u8 _ [] rfl (own_empty wr _ _ (Nat.le_refl _)) _ (frames ls) _ rfl (HO.out.alloc _).has rfl (by rw [HNA.out]; simp; omega) (hzl _) wr ((Below.refl _ _).alloc (Nat.le_refl _) _) ?_)
          intro v3 w3 ho3 hb3
          have hz3 := hb3.size
          have HO3 := Lib.hid ho3
          have HB3 := Lib.hid hb3
          clear ho3 hb3
          go_wp2_with (at_builtin; refine wpList_append_hasA rfl _ _ 23 rfl wr.heap.size 5 Tryd.underlying23 info_u8 _ _ rfl HO3.out _ lb (frames ls ++ lb) rfl ((H1.out.below HB.out).below HB3.out) rfl (by rw [HNA.out]; omega) hz3 wr HB3.out ?_)
          intro v4 w4 ho4 hb4
          have hz4 := hb4.size
          have HO4 := Lib.hid ho4
          have HB4 := Lib.hid hb4
          have HB4w := Lib.hid (HB.out.trans (hb4.mono hzr))
          clear ho4 hb4
          have hzw4 := HB4w.out.size
          obtain ⟨p4, n4', c4, hv4, _, _, _⟩ := HO4.out.has.wide.shape
          subst hv4
          go_wp2_with fail
          refine (Scan_any _ (frames ls ++ lb) w4 HO4.out.has.wide (HN.out.below HB4w.out) (by rw [List.length_append, HNA.out]; omega)).mono ?_
          rintro e w5 ⟨v5, rfl, ho5, hb5⟩
          rw [HSC.out, HNA.out] at ho5 ⊢
          generalize hr : fScan lb = r at ho5 ⊢
          obtain ⟨q, m, j⟩ := r
          have HR := Lib.hid hr
          have hle := fScan_le lb.length lb (Nat.le_refl _)
          rw [hr] at hle
          simp only at ho5 hle ⊢
          obtain ⟨hle1, hle2, hle3⟩ := hle
          clear hr
          have HL5 := Lib.hid ho5.has
          have HB5 := Lib.hid hb5
          have hz5 := hb5.size
          have HB5w := Lib.hid (HB4w.out.trans (hb5.mono hzw4))
          obtain ⟨p5, c5, hv5, hk5, hm5⟩ := ho5.form
          have hlq : (ls ++ q).length = ls.length + q.length := List.length_append
          rw [hlq] at hv5 hk5
          subst hv5
          have hm5' : (c5 : Int) ≤ 9223372036854775807 := by unfold maxLen at hm5; omega
          have HM5 := Lib.hid hm5
          have HLQ := Lib.hid hlq
          clear ho5 hb5 hm5 hlq
          go_wp2_with fail
          refine (Scan_any _ lb w5 (H1.out.below HB5w.out) (HN.out.below HB5w.out) (by omega)).mono ?_
          rintro e w6 ⟨v6, rfl, ho6, hb6⟩
          rw [HR.out] at ho6 ⊢
          simp only at ho6 ⊢
          have HL6 := Lib.hid ho6.has
          have HB6 := Lib.hid hb6
          have HB6w := Lib.hid (HB5w.out.trans (hb6.mono (Nat.le_trans hzw4 hz5)))
          obtain ⟨p6, c6, rfl, hk6, hm6⟩ := ho6.form
          have hm6' : (c6 : Int) ≤ 9223372036854775807 := by unfold maxLen at hm6; omega
          have HM6 := Lib.hid hm6
          clear ho6 hb6 hm6
          obtain ⟨ph, ch, rh, gh⟩ := HL5.out.head ls.length (by rw [List.length_append]; omega)
          obtain ⟨pt, ct, rt, gt⟩ := HL5.out.tail ls.length (by rw [List.length_append]; omega)
          have e1 : (ls ++ q).take ls.length = ls := by simp
          have e2 : (ls ++ q).drop ls.length = q := by simp
          rw [e1] at gh
          rw [e2] at gt
          rw [HLQ.out] at rt gt
          have hnn : ls.length + q.length - ls.length = q.length := by omega
          rw [hnn] at rt gt
          have GH := Lib.hid (gh w6 (HL5.out.below HB6.out))
          have GT := Lib.hid (gt w6 (HL5.out.below HB6.out))
          have HL0 := Lib.hid (H0.out.below HB6w.out)
          clear gh gt e1 e2 hnn
          go_wp2_with fail
          refine (same_any _ ls _ ls w6 GH.out HL0.out).mono ?_
          rintro e w7 ⟨rfl, n7, hw7⟩
          rw [decide_eq_true rfl]
          have HB7 : Hid (Below w6.heap.size w6 w7) := Lib.hid (by rw [hw7]; exact below_drewN' (Below.refl _ _) n7)
          clear hw7
          have hz6 := HB6w.out.size
          go_wp2_with fail
          refine (same_any _ q _ q w7 (GT.out.below HB7.out) (HL6.out.below HB7.out)).mono ?_
          rintro e w8 ⟨rfl, n8, hw8⟩
          rw [decide_eq_true rfl]
          have HB8 : Hid (Below w.heap.size w w8) := Lib.hid (by rw [hw8]; exact below_drewN' (HB6w.out.trans (HB7.out.mono hz6)) n8)
          clear hw8
          go_wp2_with fail
          go_ret
          exact ⟨rfl, HB8.out⟩
end Go.Proofs.YtbkoejhnlmbciaaDoor
