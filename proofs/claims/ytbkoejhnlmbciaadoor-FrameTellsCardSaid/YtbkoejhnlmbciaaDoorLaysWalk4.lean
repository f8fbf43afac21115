/-
  The walk of the law FrameLays.
-/
import Derived.Test.YtbkoejhnlmbciaaDoorJoinsWalk4
namespace Go.Proofs.YtbkoejhnlmbciaaDoor
open Go.ChangeShapes Go.WideShapes Go.ChangeAt Go.RowKit Go.Deep
set_option linter.unusedVariables false
set_option linter.unusedSimpArgs false

/-- Bytes appended to a row of the call's own; what else is there stays. -/
theorem wpList_append_kept {P : Program} {w : World} {ops : Array Oper} {rest : List Oper} {o : Oper} {a : Act} {Q : Exit → Act → World → Prop} (hgd : o.guard = none) (s x : Operand) (t : TypeId)
    (ho : o.op = .call { callee := .builtin .append, args := #[s, x], argTypes := #[t, t] })
    (base : Nat) (e : TypeId) (ht : P.underlying t = some (.slice e)) (hinfo : (P.info? e).map (fun i => (i.zero, i.size, i.bytes)) = some (some (.int .u8 0), 1, 1))
    (v : Value) (xs : List UInt8) (hs : a.eval s = v) (hown : Own w base e v xs)
    (y : Value) (l zs : List UInt8) (hx : a.eval x = y) (hy : HasA w y l) (h0 : 0 < l.length) (hzs : zs = xs ++ l) (hlen : xs.length + l.length ≤ 140737488355328) (hbase : base ≤ w.heap.size) (w0 : World) (hb : Below base w0 w)
    (h : ∀ v' w', Own w' base e v' zs → Below base w0 w' → w.grownBy w' v.ownBlock → wpList P ops Q rest (a.put o.dst v') w') : wpList P ops Q (o :: rest) a w := by
  obtain ⟨i, hi, hz, hz1, hz2⟩ := info_parts hinfo
  subst hzs
  obtain ⟨p, cap, b, off, rfl, k1, k2, k3, hc⟩ := hy
  obtain ⟨rfl, hb'⟩ := k3 h0
  refine wpList_append_own w hgd s x t ho base e i (.int .u8 0) 1 1 ht hi hz hz1 hz2 rfl (by decide) v xs.length _ hs hown ⟨b, off, none⟩ l.length cap (Lib.byteCells l) hx (by rw [Lib.byteCells_length, Nat.mul_one]) (cells_at hc) (Lib.byteCells_one l)
    (by unfold maxLen; omega) (by omega) hbase fun v' w' h1 h2 _ => h v' w' ?_ (hb.grown h2 hbase (fun k hk => (hown.lt k hk).1)) h2
  unfold Own
  rw [List.length_append, Lib.byteCells_append]
  exact h1
theorem frames_le_take (l : List (List UInt8)) (k : Nat) : (frames (l.take k)).length ≤ (frames l).length := by
  have h : frames l = frames (l.take k) ++ frames (l.drop k) := by rw [← frames_append, List.take_append_drop]
  rw [h, List.length_append]
  omega
set_option maxRecDepth 100000 in
set_option maxHeartbeats 8000000 in
theorem FrameLays_any (v0 : Value) (ls : List (List UInt8)) (cut : Int) (w : World) (h0 : HasL w v0 ls) (hcut : (Lit.int .i64 cut).wf = true) (hN : Nib w) :
    Calls Tryd.prog 4 #[v0, .int .i64 cut] w fun e w' => e = .returned (.bool true) ∧ Below w.heap.size w w' := by
  have hcc : -9223372036854775808 ≤ cut ∧ cut ≤ 9223372036854775807 := by
    have e1 : IntKind.i64.min = -9223372036854775808 := by decide
    have h : IntKind.i64.min ≤ cut ∧ cut ≤ 9223372036854775807 := by simpa [Lit.wf] using hcut
    rw [e1] at h
    exact h
  obtain ⟨hc1, hc2⟩ := hcc
  obtain ⟨bL, oL, capL, pL, rfl, hcl, hdl, HPL, HCL⟩ := h0.open
  have hml : (capL : Int) ≤ 9223372036854775807 := by unfold maxLen at hdl; omega
  have HDL := Lib.hid hdl
  have H0 := Lib.hid h0
  have HN := Lib.hid hN
  clear h0 hN hdl hcut
  go_enter Tryd.func4, Tryd.ntmps4
  go_wp2_with fail
  refine (awake_any w HN.out).mono ?_
  rintro e w1 ⟨rfl, hb1⟩
  have hz1 := hb1.size
  have HB1 := Lib.hid hb1
  clear hb1
  by_cases h30 : 30 < ls.length
  · have h30' : (30 : Int) < (ls.length : Int) := by omega
    go_wp2_with fail
    go_ret
    exact ⟨rfl, HB1.out⟩
  · have h30' : ¬ (30 : Int) < (ls.length : Int) := by omega
    go_wp2_with fail
    go_loopw [5, 6, 7] (fun va vw vi wr => ∃ (k : Nat), k ≤ ls.length ∧ vi = .int .i64 k ∧ Hid (∀ p ∈ ls.take k, p.length ≤ 2000) ∧ Own wr w.heap.size 5 va (frames (ls.take k)) ∧ Own wr w.heap.size 5 vw (frames (ls.take k)) ∧ Below w.heap.size w wr) (fun _ _ vi _ => ls.length - (intOf vi).toNat)
    case atStart => exact ⟨0, Nat.zero_le _, rfl, Lib.hid (fun p hp => by simp at hp), by rw [List.take_zero]; exact Own.nil _ _ _, by rw [List.take_zero]; exact Own.nil _ _ _, HB1.out⟩
    case round =>
      obtain ⟨k, hk, rfl, HS, ho, how, hb⟩ := hrel
      obtain ⟨pa, na, ca, rfl, hna, hka, hma⟩ := ho.has.wide.shape
      obtain ⟨pw, nw, cw, rfl, hnw, hkw, hmw⟩ := how.has.wide.shape
      have hnal : (frames (ls.take k)).length ≤ 30 * 2008 := by
        have := frames_len_le HS.out
        rw [List.length_take] at this
        omega
      have hnal' : na ≤ 30 * 2008 := by rw [hna.out]; exact hnal
      have HNL := Lib.hid hnal
      have hzr := hb.size
      have HO := Lib.hid ho
      have HW := Lib.hid how
      have HB := Lib.hid hb
      clear ho how hb hnal
      rcases Nat.lt_or_ge k ls.length with hlt | hge
      · have hlt' : (k : Int) < (ls.length : Int) := by omega
        have hp := HPL.out (by omega)
        obtain ⟨hp1, hbl⟩ := hp
        subst hp1
        obtain ⟨x, hx, hxa⟩ := HCL.out k hlt
        have hxr : wr.cell? ⟨bL, oL + k, none⟩ = some x := (HB.out.cell (p := ⟨bL, oL + k, none⟩) hbl).trans hx
        have HX0 := Lib.hid hx
        have HXA := Lib.hid hxa
        obtain ⟨px, cx, rfl, hkx, hmx⟩ := hxa.form
        have hmx' : (cx : Int) ≤ 9223372036854775807 := by unfold maxLen at hmx; omega
        have HMX := Lib.hid hmx
        clear hx hxa hmx
        by_cases h5 : 2000 < ls[k].length
        · have h5' : (2000 : Int) < (ls[k].length : Int) := by omega
          go_wp2_with fail
          go_ret
          exact ⟨rfl, HB.out⟩
        · have h5' : ¬ (2000 : Int) < (ls[k].length : Int) := by omega
          have HS2 := Lib.hid (take_le HS.out hlt (by omega))
          go_wp2_with fail
          refine (Append_any _ (frames (ls.take k)) _ ls[k] wr HO.out.has.wide (HXA.out.below HB.out) (HN.out.below HB.out) (by omega) (by have := HNL.out; omega)).mono ?_
          rintro e w3 ⟨v3, rfl, ho3, hb3⟩
          rw [← frames_snoc _ _ hlt] at ho3
          obtain ⟨p3, n3, c3, rfl, hn3, hk3, hm3⟩ := ho3.has.wide.shape
          have hz3 := hb3.size
          have HO3 := Lib.hid ho3
          have HB3 := Lib.hid hb3
          have HB3w := Lib.hid (HB.out.trans (hb3.mono hzr))
          have hx3 : w3.cell? ⟨bL, oL + k, none⟩ = some (.slice px ls[k].length cx) := (HB3w.out.cell (p := ⟨bL, oL + k, none⟩) hbl).trans HX0.out
          clear ho3 hb3
          go_wp2_with fail
          refine (RFrame_any _ ls[k] w3 (HXA.out.below HB3w.out) (by omega)).mono ?_
          rintro e w4 ⟨v4, rfl, ho4, hb4⟩
          have hz4 := hb4.size
          have HO4 := Lib.hid ho4
          have HB4 := Lib.hid hb4
          have hw4 := hb4.mono (Nat.le_trans hzr hz3)
          have HB4w := Lib.hid (HB3w.out.trans hw4)
          have HX4 : Hid (Own w4 wr.heap.size 5 (.slice p3 n3 c3) (frames (ls.take (k + 1)))) := Lib.hid (HO3.out.below HB4.out)
          have HW4 : Hid (Own w4 w.heap.size 5 (.slice pw nw cw) (frames (ls.take k))) := Lib.hid ((HW.out.below HB3.out).below HB4.out)
          have hne : (Value.slice p3 n3 c3).ownBlock = none ∨ (Value.slice p3 n3 c3).ownBlock ≠ (Value.slice pw nw cw).ownBlock := by
            rcases h1 : (Value.slice p3 n3 c3).ownBlock with _ | g
            · exact .inl rfl
            · refine .inr fun h2 => ?_
              have l1 := (World.ownsRow.lt HX4.out g h1).1
              have l2 := (World.ownsRow.lt HW.out g h2.symm).2
              omega
          have HNE := Lib.hid hne
          clear ho4 hb4 hw4 hne
          go_wp2_with (at_builtin; refine wpList_append_kept rfl _ _ 23 rfl w.heap.size 5 Tryd.underlying23 info_u8 _ (frames (ls.take k)) rfl HW4.out _ (frameOf ls[k]) (frames (ls.take (k + 1))) rfl HO4.out.has.wide (by rw [frameOf_len]; omega) (frames_snoc _ _ hlt) (by have := HNL.out; rw [frameOf_len]; omega) (by omega) w HB4w.out ?_)
          intro v5 w5 ho5 hb5 hg5
          have HX5 : Hid (Own w5 wr.heap.size 5 (.slice p3 n3 c3) (frames (ls.take (k + 1)))) := Lib.hid (World.ownsRow.kept HX4.out hg5 HNE.out)
          have hself := (text_eq_iff ⟨(frames (ls.take (k + 1))).toArray⟩ ⟨(frames (ls.take (k + 1))).toArray⟩).2 rfl
          have hcx : (convert 23 9 (.slice p3 n3 c3)).run Tryd.prog w5 = .ok (.string ⟨(frames (ls.take (k + 1))).toArray⟩) w5 := HasA.string (w := w5) HX5.out.has.wide 0
          have hcw : (convert 23 9 v5).run Tryd.prog w5 = .ok (.string ⟨(frames (ls.take (k + 1))).toArray⟩) w5 := HasA.string (w := w5) ho5.has.wide 0
          generalize (⟨(frames (ls.take (k + 1))).toArray⟩ : ByteArray) = sA at hcx hcw hself
          have HO5 := Lib.hid ho5
          have HB5 := Lib.hid hb5
          clear ho5 hb5 hg5
          go_wp2_with fail
          exact ⟨⟨k + 1, by omega, by go_num, HS2, HX5.out.mono hzr, HO5.out, HB5.out⟩, by simp [intOf]; omega⟩
      · have hge' : ¬ (k : Int) < (ls.length : Int) := by omega
        have ht : ls.take k = ls := List.take_of_length_le hge
        rw [ht] at HS HO HW HNL hna
        have h64 : ∀ p ∈ ls, p.length ≤ 65536 := fun p hp => Nat.le_trans (HS.out p hp) (by omega)
        have HSC := Lib.hid (fScan_clean ls h64)
        have H64 := Lib.hid h64
        clear ht h64 HW
        go_wp2_with fail
        refine (Scan_any _ (frames ls) wr HO.out.has.wide (HN.out.below HB.out) (by have := HNL.out; omega)).mono ?_
        rintro e w3 ⟨v3, rfl, ho3, hb3⟩
        rw [HSC.out] at ho3 ⊢
        simp only at ho3 ⊢
        rw [← hna.out]
        obtain ⟨p3, c3, rfl, hk3, hm3⟩ := ho3.form
        have hm3' : (c3 : Int) ≤ 9223372036854775807 := by unfold maxLen at hm3; omega
        have HM3 := Lib.hid hm3
        have HL3 := Lib.hid ho3.has
        have HB3w := Lib.hid (HB.out.trans (hb3.mono hzr))
        have HO3 := Lib.hid (HO.out.below hb3)
        have hz3 := HB3w.out.size
        clear ho3 hb3 hm3
        go_wp2_with fail
        refine (same_any _ ls _ ls w3 HL3.out (H0.out.below HB3w.out)).mono ?_
        rintro e w4 ⟨rfl, n4, hw4⟩
        rw [decide_eq_true rfl]
        have HB4w : Hid (Below w.heap.size w w4) := Lib.hid (by rw [hw4]; exact below_drewN' HB3w.out n4)
        have HO4 : Hid (Own w4 w.heap.size 5 (.slice pa na ca) (frames ls)) := Lib.hid (by rw [hw4]; exact HO3.out.drewN n4)
        clear hw4
        by_cases hc : cut < 0
        · go_wp2_with fail
          go_ret
          exact ⟨rfl, HB4w.out⟩
        · by_cases hd : (na : Int) < cut
          · go_wp2_with fail
            go_ret
            exact ⟨rfl, HB4w.out⟩
          · obtain ⟨C, rfl⟩ : ∃ C : Nat, cut = (C : Int) := ⟨cut.toNat, by omega⟩
            go_wp2_with fail
            go_loopw [13, 14] (fun vi va ws => ∃ (q : Nat), q ≤ ls.length ∧ vi = .int .i64 q ∧ va = .int .i64 ((frames (ls.take q)).length : Nat) ∧ (frames (ls.take q)).length ≤ C ∧ Hid (ws = w4)) (fun vi _ _ => ls.length - (intOf vi).toNat)
            case atStart => exact ⟨0, Nat.zero_le _, rfl, rfl, Nat.zero_le _, Lib.hid rfl⟩
            case round =>
              obtain ⟨q, hq, rfl, rfl, hqc, HWS⟩ := hrel
              have hwr := HWS.out
              subst hwr
              obtain ⟨nt, hnt⟩ : ∃ nt, (frames (ls.take q)).length = nt := ⟨_, rfl⟩
              rw [hnt] at hqc ⊢
              have HNT := Lib.hid hnt
              have hnt2 : nt ≤ na := by rw [← hnt, hna.out]; exact frames_le_take ls q
              rcases Nat.lt_or_ge q ls.length with hql | hqg
              · have hql' : (q : Int) < (ls.length : Int) := by omega
                obtain ⟨hp1, hbl⟩ := HPL.out (by omega)
                subst hp1
                obtain ⟨y, hy, hya⟩ := HCL.out q hql
                have hys : wr.cell? ⟨bL, oL + q, none⟩ = some y := (HB4w.out.cell (p := ⟨bL, oL + q, none⟩) hbl).trans hy
                obtain ⟨py, ny, cy, rfl, hny, hky, hmy⟩ := hya.shape
                have hny2 : ny ≤ 2000 := by rw [hny.out]; exact HS.out _ (List.getElem_mem hql)
                have hsn := frames_snoc ls q hql
                clear hy hya hnt
                by_cases hle : nt + 8 + ny ≤ C
                · have hle' : (nt : Int) + 8 + (ny : Int) ≤ (C : Int) := by omega
                  have HN2 : Hid ((frames (ls.take (q + 1))).length = nt + 8 + ny) := Lib.hid (by rw [hsn, List.length_append, HNT.out, frameOf_len, hny.out]; omega)
                  clear hsn
                  go_wp2_with fail
                  exact ⟨⟨q + 1, by omega, by go_num, by rw [HN2.out]; go_num, by rw [HN2.out]; exact hle, by first | exact Lib.hid trivial | exact Lib.hid rfl⟩, by simp [intOf]; omega⟩
                · have hle' : ¬ (nt : Int) + 8 + (ny : Int) ≤ (C : Int) := by omega
                  clear hsn
                  have hcutq : fScan ((frames ls).take C) = (ls.take q, nt, if C = nt then 0 else 1) := by
                    have := fScan_cut ls H64.out q C hq (by rw [HNT.out]; exact hqc) (by intro e; omega) (by intro hk'; have := hny.out; rw [HNT.out]; omega)
                    rw [HNT.out] at this
                    exact this
                  have HCUT := Lib.hid hcutq
                  have hCna : C ≤ (frames ls).length := by rw [← hna.out]; omega
                  obtain ⟨pc, cc, rc, gc⟩ := HO4.out.has.wide.head C hCna
                  obtain ⟨ph, ch, rh, gh⟩ := (H0.out.below HB4w.out).head q hq
                  have HG := Lib.hid (gc wr HO4.out.has.wide)
                  have HH := Lib.hid gh
                  have hCl : ((frames ls).take C).length ≤ 1099511627776 := by rw [List.length_take]; have := HNL.out; omega
                  have HCL2 := Lib.hid hCl
                  clear gc gh hCna hCl hcutq
                  by_cases hC : C = nt
                  · have HC0 := Lib.hid (HCUT.out.trans (by rw [if_pos hC]))
                    have hCi : (nt : Int) = (C : Int) := by omega
                    have hCl : ¬ (nt : Int) < (C : Int) := by omega
                    clear hC
                    go_wp2_with fail
                    refine (Scan_any _ ((frames ls).take C) wr HG.out (HN.out.below HB4w.out) HCL2.out).mono ?_
                    rintro e w5 ⟨v5, rfl, ho5, hb5⟩
                    rw [HC0.out] at ho5 ⊢
                    simp only at ho5 ⊢
                    have HL5 := Lib.hid ho5.has
                    have HH5 := Lib.hid (HH.out w5 ((H0.out.below HB4w.out).below hb5))
                    have HB5w := Lib.hid (HB4w.out.trans (hb5.mono HB4w.out.size))
                    obtain ⟨p5, n5, c5, hv5⟩ : ∃ p n c, v5 = .slice p n c := by obtain ⟨p, c, h, _⟩ := ho5.form; exact ⟨p, _, c, h⟩
                    subst hv5
                    clear ho5 hb5
                    go_wp2_with fail
                    refine (same_any _ (ls.take q) _ (ls.take q) w5 HL5.out HH5.out).mono ?_
                    rintro e w6 ⟨rfl, n6, hw6⟩
                    rw [decide_eq_true rfl]
                    have HB6w : Hid (Below w.heap.size w w6) := Lib.hid (by rw [hw6]; exact below_drewN' HB5w.out n6)
                    clear hw6
                    go_wp2_with fail
                    go_ret
                    exact ⟨rfl, HB6w.out⟩
                  · have HC0 := Lib.hid (HCUT.out.trans (by rw [if_neg hC]))
                    have hCi : ¬ (nt : Int) = (C : Int) := by omega
                    have HCB : Hid (((nt : Int) == (C : Int)) = false) := Lib.hid (by simp; omega)
                    have hCl : (nt : Int) < (C : Int) := by omega
                    clear hC
                    go_wp2_with fail
                    refine (Scan_any _ ((frames ls).take C) wr HG.out (HN.out.below HB4w.out) HCL2.out).mono ?_
                    rintro e w5 ⟨v5, rfl, ho5, hb5⟩
                    rw [HC0.out] at ho5 ⊢
                    simp only at ho5 ⊢
                    have HL5 := Lib.hid ho5.has
                    have HH5 := Lib.hid (HH.out w5 ((H0.out.below HB4w.out).below hb5))
                    have HB5w := Lib.hid (HB4w.out.trans (hb5.mono HB4w.out.size))
                    obtain ⟨p5, n5, c5, hv5⟩ : ∃ p n c, v5 = .slice p n c := by obtain ⟨p, c, h, _⟩ := ho5.form; exact ⟨p, _, c, h⟩
                    subst hv5
                    clear ho5 hb5
                    go_wp2_with fail
                    refine (same_any _ (ls.take q) _ (ls.take q) w5 HL5.out HH5.out).mono ?_
                    rintro e w6 ⟨rfl, n6, hw6⟩
                    rw [decide_eq_true rfl]
                    have HB6w : Hid (Below w.heap.size w w6) := Lib.hid (by rw [hw6]; exact below_drewN' HB5w.out n6)
                    clear hw6
                    go_wp2_with fail
                    go_ret
                    exact ⟨by first | rfl | (show Ending.returned (Value.bool (!((nt : Int) == (C : Int)))) = _; rw [HCB.out]; rfl), HB6w.out⟩

              · have hqg' : ¬ (q : Int) < (ls.length : Int) := by omega
                have hcutq : fScan ((frames ls).take C) = (ls.take q, nt, if C = nt then 0 else 1) := by
                  have := fScan_cut ls H64.out q C hq (by rw [HNT.out]; exact hqc) (by intro e; have := HNT.out; rw [List.take_of_length_le (by omega)] at this; have := hna.out; omega) (by intro hk'; omega)
                  rw [HNT.out] at this
                  exact this
                have HCUT := Lib.hid hcutq
                have hCna : C ≤ (frames ls).length := by rw [← hna.out]; omega
                obtain ⟨pc, cc, rc, gc⟩ := HO4.out.has.wide.head C hCna
                obtain ⟨ph, ch, rh, gh⟩ := (H0.out.below HB4w.out).head q hq
                have HG := Lib.hid (gc wr HO4.out.has.wide)
                have HH := Lib.hid gh
                have hCl : ((frames ls).take C).length ≤ 1099511627776 := by rw [List.length_take]; have := HNL.out; omega
                have HCL2 := Lib.hid hCl
                clear gc gh hCna hCl hcutq
                by_cases hC : C = nt
                · have HC0 := Lib.hid (HCUT.out.trans (by rw [if_pos hC]))
                  have hCi : (nt : Int) = (C : Int) := by omega
                  have hCl : ¬ (nt : Int) < (C : Int) := by omega
                  clear hC
                  go_wp2_with fail
                  refine (Scan_any _ ((frames ls).take C) wr HG.out (HN.out.below HB4w.out) HCL2.out).mono ?_
                  rintro e w5 ⟨v5, rfl, ho5, hb5⟩
                  rw [HC0.out] at ho5 ⊢
                  simp only at ho5 ⊢
                  have HL5 := Lib.hid ho5.has
                  have HH5 := Lib.hid (HH.out w5 ((H0.out.below HB4w.out).below hb5))
                  have HB5w := Lib.hid (HB4w.out.trans (hb5.mono HB4w.out.size))
                  obtain ⟨p5, n5, c5, hv5⟩ : ∃ p n c, v5 = .slice p n c := by obtain ⟨p, c, h, _⟩ := ho5.form; exact ⟨p, _, c, h⟩
                  subst hv5
                  clear ho5 hb5
                  go_wp2_with fail
                  refine (same_any _ (ls.take q) _ (ls.take q) w5 HL5.out HH5.out).mono ?_
                  rintro e w6 ⟨rfl, n6, hw6⟩
                  rw [decide_eq_true rfl]
                  have HB6w : Hid (Below w.heap.size w w6) := Lib.hid (by rw [hw6]; exact below_drewN' HB5w.out n6)
                  clear hw6
                  go_wp2_with fail
                  go_ret
                  exact ⟨rfl, HB6w.out⟩
                · have HC0 := Lib.hid (HCUT.out.trans (by rw [if_neg hC]))
                  have hCi : ¬ (nt : Int) = (C : Int) := by omega
                  have HCB : Hid (((nt : Int) == (C : Int)) = false) := Lib.hid (by simp; omega)
                  have hCl : (nt : Int) < (C : Int) := by omega
                  clear hC
                  go_wp2_with fail
                  refine (Scan_any _ ((frames ls).take C) wr HG.out (HN.out.below HB4w.out) HCL2.out).mono ?_
                  rintro e w5 ⟨v5, rfl, ho5, hb5⟩
                  rw [HC0.out] at ho5 ⊢
                  simp only at ho5 ⊢
                  have HL5 := Lib.hid ho5.has
                  have HH5 := Lib.hid (HH.out w5 ((H0.out.below HB4w.out).below hb5))
                  have HB5w := Lib.hid (HB4w.out.trans (hb5.mono HB4w.out.size))
                  obtain ⟨p5, n5, c5, hv5⟩ : ∃ p n c, v5 = .slice p n c := by obtain ⟨p, c, h, _⟩ := ho5.form; exact ⟨p, _, c, h⟩
                  subst hv5
                  clear ho5 hb5
                  go_wp2_with fail
                  refine (same_any _ (ls.take q) _ (ls.take q) w5 HL5.out HH5.out).mono ?_
                  rintro e w6 ⟨rfl, n6, hw6⟩
                  rw [decide_eq_true rfl]
                  have HB6w : Hid (Below w.heap.size w w6) := Lib.hid (by rw [hw6]; exact below_drewN' HB5w.out n6)
                  clear hw6
                  go_wp2_with fail
                  go_ret
                  exact ⟨by first | rfl | (show Ending.returned (Value.bool (!((nt : Int) == (C : Int)))) = _; rw [HCB.out]; rfl), HB6w.out⟩

end Go.Proofs.YtbkoejhnlmbciaaDoor
