/-
  The document's own parts of a list of dots (rolodexref13.Parts).
-/
import Derived.Test.YtfgfamafjkjakaaDotTieO
import Derived.Deep.DeepCutAuto
import Derived.Deep.CutBlock
import Derived.Deep.QuietTactic
import Derived.BigQuiet
import Derived.IntWalk
namespace Go.Proofs.Ytfgfamafjkjakaa
open Go.ChangeShapes Go.WideShapes Go.ChangeAt Go.RowKit Go.Deep
set_option linter.unusedVariables false
set_option linter.unusedSimpArgs false
theorem info_rpart : (Try.prog.info? 72).map (fun i => (i.zero, i.size, i.bytes)) = some (some (.agg #[.int .i64 0, .int .u64 0, .slice none 0 0]), encP.k, 40) := by kernel_rfl
theorem info_u64 : (Try.prog.info? 30).map (fun i => (i.zero, i.size, i.bytes)) = some (some (.int .u64 0), (encN .u64).k, 8) := by kernel_rfl
/-- What a round leaves. -/
structure RP (w : World) (B i : Nat) (out : List (Nat × Nm)) (v : Value) (M : List Pt) (wz : World) : Prop where
  own : OwnT 72 wz B v M
  map : M.map Pt.pair = out
  len : M.length ≤ i
  each : ∀ x ∈ M, x.nm.more.length ≤ i ∧ x.nm.upto ≤ 1099511627776
  below : Below w.heap.size w wz
theorem RP.up {w : World} {B i : Nat} {out : List (Nat × Nm)} {v : Value} {M : List Pt} {wz wy : World} (h : RP w B i out v M wz) (hb : Below wz.heap.size wz wy) : RP w B i out v M wy :=
  ⟨h.own.below hb, h.map, h.len, h.each, h.below.trans (hb.mono h.below.size)⟩
/-- What a round's first half leaves. -/
def Half (w : World) (B i D nn : Nat) (out : List (Nat × Nm)) (v : Value) (wz : World) : Prop :=
  ∃ M y, OwnT 72 wz B v (M ++ [y]) ∧ y.dev = D ∧ M.map Pt.pair ++ [(D, foldStep y.nm nn)] = out ∧ M.length ≤ i ∧ (∀ x ∈ M ++ [y], x.nm.more.length ≤ i ∧ x.nm.upto ≤ 1099511627776) ∧ Below w.heap.size w wz
theorem OwnT.last {T : TypeId} {w : World} {B g n cap : Nat} {M : List Pt} {y : Pt} (h : OwnT T w B (.slice (some ⟨g, 0, none⟩) n cap) (M ++ [y])) :
    w.cell? ⟨g, M.length * 3 + 1, none⟩ = some (.int .u64 (y.nm.upto : Int)) ∧ w.cell? ⟨g, M.length * 3 + 2, none⟩ = some (.slice y.ptr y.nm.more.length y.cap) := by
  have hk : M.length < (M ++ [y]).length := by simp
  obtain ⟨_, h1, h2, _⟩ := h.part M.length hk
  rw [List.getElem_append_right (Nat.le_refl _)] at h1 h2
  simp only [Nat.sub_self, List.getElem_cons_zero] at h1 h2
  exact ⟨h1, h2⟩
theorem foldStep_up {u n : Nat} (h : n = u + 1) : foldStep ⟨u, []⟩ n = ⟨u + 1, []⟩ := if_pos ⟨rfl, h⟩
theorem foldStep_more {u n : Nat} {m : List Nat} (h : ¬ (m = [] ∧ n = u + 1)) : foldStep ⟨u, m⟩ n = ⟨u, m ++ [n]⟩ := if_neg h
theorem one_num {w : World} {g : Nat} {T : TypeId} (n : Nat) (h : w.heap[g]? = some (.cells #[.int .u64 (n : Int)] T (0, 0))) : HasK w (encN .u64) (.slice (some ⟨g, 0, none⟩) 1 1) [n] := by
  refine ⟨_, 1, g, 0, rfl, Nat.le_refl _, by unfold maxLen; omega, fun _ => ⟨rfl, lt_of_block h⟩, fun i hi j u hu => ?_⟩
  obtain rfl : i = 0 := by simp at hi; omega
  have hj : j < 1 := (List.getElem?_eq_some_iff.1 hu).1
  obtain rfl : j = 0 := by omega
  have hu : ([.int .u64 (n : Int)] : List Value)[0]? = some u := hu
  simp only [World.cell?, h]
  simpa using hu
theorem pushN_len (out : List (Nat × Nm)) (x : Int × Nat) : (pushN out x).length ≤ out.length + 1 := by
  unfold pushN
  split
  · simp
  · split
    · simp
    · simp
set_option maxRecDepth 100000 in
set_option maxHeartbeats 32000000 in
theorem RefParts_any (v : Value) (l : List (Int × Nat)) (w : World) (hv : HasK w encD v l) (hl : l.length ≤ 1000) (hgood : ∀ x ∈ l, goodB x.1 x.2 = true) :
    Calls Try.prog 37 #[v] w fun e w' => ∃ v' M, e = .returned v' ∧ OwnT 72 w' w.heap.size v' M ∧ M.map Pt.pair = partsL l ∧ Below w.heap.size w w' := by
  obtain ⟨b, o, cap, p, rfl, hc1, hc2, HP, HC⟩ := hv.open
  obtain ⟨n, hn⟩ : ∃ n, l.length = n := ⟨_, rfl⟩
  have hnI : (n : Int) ≤ 1000 := by omega
  rw [hn] at hc1 HP ⊢
  have HN := Lib.hid hn
  have HV := Lib.hid hv
  have HGD := Lib.hid hgood
  have hcI : (cap : Int) ≤ 9223372036854775807 := by unfold maxLen at hc2; omega
  obtain ⟨B, hB⟩ : ∃ B, w.heap.size = B := ⟨_, rfl⟩
  have HBB := Lib.hid hB
  clear hv hgood hn hc2 hB
  have hmk : ∀ w, (Instr.makeSlice 69 (.int .i64 0) (.int .i64 0)).run Try.prog w = .ok (.slice (some ⟨w.heap.size, 0, none⟩) 0 0) (w.alloc (.cells #[] 72)) := fun w => by kernel_rfl
  go_enter Try.func37, Try.ntmps37
  go_wp2
  clear hmk
  go_loopw [3, 4] (fun v3 vi wr => ∃ (i : Nat) (M : List Pt), vi = .int .i64 (i : Int) ∧ i ≤ n ∧ RP w B i (partsL (l.take i)) v3 M wr ∧ (0 < i → ∃ q, (partsL (l.take i)).getLast? = some ((l.getD (i - 1) (0, 0)).1.toNat, q))) (fun _ vi _ => n - (intOf vi).toNat)
  case atStart => exact ⟨0, [], rfl, Nat.zero_le _, ⟨OwnT.made (by rw [HBB.out]; exact Nat.le_refl _) (heap_alloc_new _ _), rfl, Nat.le_refl _, (fun x h => nomatch h), (Below.refl _ _).alloc (Nat.le_refl _) _⟩, fun h => absurd h (Nat.lt_irrefl _)⟩
  case round =>
    obtain ⟨i, M, rfl, hi, h0, hlast⟩ := hrel
    obtain ⟨W0, rfl⟩ : ∃ W0, W0 = wr := ⟨wr, rfl⟩
    have H0 := Lib.hid h0
    have HLAST := Lib.hid hlast
    clear h0 hlast
    rcases Nat.lt_or_ge i n with hlt | hge
    · have hI : (i : Int) < (n : Int) := by omega
      have hi0 : (0 : Int) ≤ (i : Int) := by omega
      have hil : i < l.length := by rw [HN.out]; exact hlt
      obtain ⟨rfl, hbl⟩ := HP.out (by omega)
      obtain ⟨D, hD, hD16, hn1, hn2⟩ := good_parts (HGD.out _ (List.getElem_mem hil))
      have hd := fun (W : World) (hb : Below w.heap.size w W) => (HasK.dotAt HC.out i hil).below hb
      have hsn : partsL (l.take (i + 1)) = pushN (partsL (l.take i)) ((D : Int), l[i].2) := by
        rw [List.take_succ_eq_append_getElem hil, partsL_snoc, ← hD]
      have hgd : (l.getD i (0, 0)).1.toNat = D := by
        rw [List.getD_eq_getElem?_getD, List.getElem?_eq_getElem hil]
        show l[i].1.toNat = D
        rw [hD, Int.toNat_natCast]
      rw [hD] at hd
      obtain ⟨nn, hnn⟩ : ∃ nn, l[i].2 = nn := ⟨_, rfl⟩
      rw [hnn] at hd hsn hn1 hn2
      have HD := Lib.hid hd
      have HSN := Lib.hid hsn
      have HGD2 := Lib.hid hgd
      have hnnI : (nn : Int) ≤ 1099511627776 := by omega
      clear hD hsn hgd hnn hd
      obtain ⟨c0, c1⟩ := HD.out W0 H0.out.below
      go_upto_region 5 with fail
      go_cut [28] (fun v wz => ∃ nb : Bool, v = .bool nb ∧ (nb = true → ∀ p, (partsL (l.take i)).getLast? = some p → p.1 ≠ D) ∧ (nb = false → ∃ q, (partsL (l.take i)).getLast? = some (D, q)) ∧ ∃ k, wz = W0.drewN k)
      case first =>
        rcases Nat.eq_zero_or_pos i with rfl | hip
        · go_quiet (fail)
          go_wp2
          go_meet
          exact ⟨true, rfl, fun _ p h => (by rw [List.take_zero] at h; cases h), (fun h => by cases h), _, rfl⟩
        · have hip1 : ¬ (i : Int) = 0 := by omega
          have hip2 : ((i : Int) == 0) = false := beq_eq_false_iff_ne.2 hip1
          obtain ⟨j, rfl⟩ : ∃ j, i = j + 1 := ⟨i - 1, by omega⟩
          have hjl : j < l.length := by omega
          obtain ⟨q0, hq0⟩ := HLAST.out (Nat.succ_pos _)
          rw [Nat.add_sub_cancel] at hq0
          obtain ⟨D', hD', _⟩ := good_parts (HGD.out _ (List.getElem_mem hjl))
          have hgp : (l.getD j (0, 0)).1 = (D' : Int) := by
            rw [List.getD_eq_getElem?_getD, List.getElem?_eq_getElem hjl]
            exact hD'
          rw [hgp, Int.toNat_natCast] at hq0
          obtain ⟨e0, -⟩ := (HasK.dotAt HC.out j hjl).below H0.out.below
          rw [hD'] at e0
          have HQ0 := Lib.hid hq0
          have hj1 : IntKind.i64.wrap (((j + 1 : Nat) : Int) - 1) = (j : Int) := by rw [IntWalk.i64_in _ (by omega)]; omega
          have hj2 : (j : Int) < (n : Int) := by omega
          have hj3 : (0 : Int) ≤ (j : Int) := by omega
          have hj4 : ((j : Int) + 1 == 0) = false := beq_eq_false_iff_ne.2 (by omega)
          clear hq0 hD' hgp
          by_cases hdd : D = D'
          · subst hdd
            have hdI : ((D : Int) != (D : Int)) = false := by simp
            go_quiet (fail)
            go_wp2
            go_meet
            exact ⟨false, rfl, (fun h => by cases h), fun _ => ⟨q0, HQ0.out⟩, _, rfl⟩
          · have hdI : ((D : Int) != (D' : Int)) = true := by simp; omega
            go_quiet (fail)
            go_wp2
            go_meet
            exact ⟨true, rfl, fun _ p h => (by rw [HQ0.out] at h; cases h; exact fun e => hdd e.symm), (fun h => by cases h), _, rfl⟩
      case rest =>
        obtain ⟨nb, rfl, hnb1, hnb2, kq, rfl⟩ := hcut
        have HNB1 := Lib.hid hnb1
        have HNB2 := Lib.hid hnb2
        have hb0 : Below W0.heap.size W0 (W0.drewN kq) := below_drewN' (Below.refl _ _) kq
        have H1 := Lib.hid (H0.out.up hb0)
        clear hnb1 hnb2 hb0
        obtain ⟨W1, hW1⟩ : ∃ W1, W0.drewN kq = W1 := ⟨_, rfl⟩
        rw [hW1] at H1 ⊢
        clear hW1 c0 c1 H0
        go_upto_if 28 with (fail)
        go_cut [3] (fun v3 wz => Half w B i D nn (partsL (l.take (i + 1))) v3 wz)
        case first =>
          cases nb with
          | true =>
            have hpn := push_new (n := nn) (HNB1.out rfl)
            rw [← HSN.out] at hpn
            have HPN := Lib.hid hpn
            obtain ⟨c0, c1⟩ := HD.out W1 H1.out.below
            have hyy : HasK (W1.alloc (.cells #[.int .i64 (D : Int), .int .u64 0, .slice none 0 0] 72)) encP (.slice (some ⟨W1.heap.size, 0, none⟩) 1 1) [⟨D, Nm.zero, none, 0⟩] := one_part (T := 72) ⟨D, Nm.zero, none, 0⟩ (heap_alloc_new _ _)
            have hba := (Below.refl W1.heap.size W1).alloc (Nat.le_refl _) (.cells #[.int .i64 (D : Int), .int .u64 0, .slice none 0 0] 72)
            have hsz : B ≤ (W1.alloc (.cells #[.int .i64 (D : Int), .int .u64 0, .slice none 0 0] 72)).heap.size := by have := H1.out.below.size; rw [HBB.out] at this; exact Nat.le_trans this hba.size
            have H2 := Lib.hid (H1.out.up hba)
            have HYY := Lib.hid hyy
            have HSZ := Lib.hid hsz
            clear hpn hyy hba hsz HNB1 HNB2
            go_wp2_with (at_builtin; refine wpList_append_k rfl (.tmp 29) (.tmp 36) 69 rfl B 72 encP _ 40 Try.underlying69 info_rpart rfl (by decide) u3 M rfl H2.out.own.row _ [⟨D, Nm.zero, none, 0⟩] rfl HYY.out Nat.one_pos (by show M.length + 1 ≤ _; have := H2.out.len; omega) HSZ.out w (by rw [← HBB.out]; exact H2.out.below) (fun v' w' ho hb hg hat => ?_))
            have hz := H2.out.own.zero (by decide) ho hg
            have HZ := Lib.hid hz
            have HB' := Lib.hid hb
            clear hz ho hb hg hat c0 c1
            go_wp2
            go_meet
            refine ⟨M, _, HZ.out, rfl, by rw [HPN.out, H2.out.map], H2.out.len, fun x hx => ?_, by rw [HBB.out]; exact HB'.out⟩
            rcases List.mem_append.1 hx with hx | hx
            · exact H2.out.each x hx
            · obtain rfl := List.mem_singleton.1 hx
              exact ⟨Nat.zero_le _, Nat.zero_le _⟩
          | false =>
            obtain ⟨q, hq⟩ := HNB2.out rfl
            obtain ⟨A, hA⟩ := List.getLast?_eq_some_iff.1 hq
            have hpo := push_old (A := A) (D := D) (n := nn) (q := q)
            rw [← hA, ← HSN.out] at hpo
            obtain ⟨M0, y, hMe, hy1, hy2, hy3⟩ := last_pair (H1.out.map.trans hA)
            subst hMe
            have hhalf : Half w B i D nn (partsL (l.take (i + 1))) u3 W1 := ⟨M0, y, H1.out.own, hy1, by rw [hpo, hy2, hy3], by have := H1.out.len; simp at this; omega, H1.out.each, H1.out.below⟩
            have HH := Lib.hid hhalf
            clear hhalf hq hA hpo hy1 hy2 hy3 HNB1 HNB2
            go_wp2
            go_meet
            exact HH.out
        case rest =>
          obtain ⟨M1, y, ho, hyd, hyo, hml, hme, hb⟩ := hcut
          obtain ⟨k, hk⟩ : ∃ k, M1.length = k := ⟨_, rfl⟩
          have hlen : (M1 ++ [y]).length = k + 1 := by simp [hk]
          obtain ⟨pp, cc, rfl, hcc1, hcc2⟩ := ho.row.sl
          rw [hlen] at hcc1 ho ⊢
          obtain ⟨G, rfl, hGB, hGl, hGf⟩ := ho.place (by omega)
          have hkI : (k : Int) ≤ 1000 := by omega
          have hccI : (cc : Int) ≤ 9223372036854775807 := by unfold maxLen at hcc2; omega
          obtain ⟨y1, y2⟩ := hme y (List.mem_append_right _ (List.mem_singleton.2 rfl))
          obtain ⟨yd, ⟨yu, ym⟩, yp, yc⟩ := y
          simp only at hyd hyo y1 y2
          subst hyd
          have HOT := Lib.hid ho
          have HYO := Lib.hid hyo
          have HME := Lib.hid hme
          have HK := Lib.hid hk
          have HB2 := Lib.hid hb
          have HGF := Lib.hid hGf
          have HLE := Lib.hid hlen
          clear ho hyo hme hk hb hGf hcc2 hlen
          obtain ⟨W2, rfl⟩ : ∃ W2, W2 = wc := ⟨wc, rfl⟩
          have hcl := HOT.out.last
          rw [HK.out] at hcl
          obtain ⟨e1, e2⟩ := hcl
          obtain ⟨c0, c1⟩ := HD.out W2 HB2.out
          simp only at e1 e2
          obtain ⟨m, hm⟩ : ∃ m, ym.length = m := ⟨_, rfl⟩
          rw [hm] at e2 y1
          have HM := Lib.hid hm
          have hmI : (m : Int) ≤ 1000 := by omega
          have hyI : (yu : Int) ≤ 1099511627776 := by omega
          have hyw : IntKind.u64.wrap ((yu : Int) + 1) = (yu : Int) + 1 := by rw [IntKind.wrap_u64]; omega
          have hk1 : IntKind.i64.wrap (((k + 1 : Nat) : Int) - 1) = (k : Int) := by rw [IntWalk.i64_in _ (by omega)]; omega
          have hk2 : (0 : Int) ≤ (k : Int) := by omega
          have hk3 : (k : Int) < ((k + 1 : Nat) : Int) := by omega
          clear hm H1
          go_upto_region 8 with fail
          go_cut [61] (fun v wz => v = .bool (decide (ym = [] ∧ nn = yu + 1)) ∧ ∃ kq, wz = W2.drewN kq)
          case first =>
            rcases Nat.eq_zero_or_pos m with rfl | hmp
            · have hym : ym = [] := List.eq_nil_of_length_eq_zero HM.out
              by_cases hnu : nn = yu + 1
              · have hb : ((nn : Int) == (yu : Int) + 1) = true := beq_iff_eq.2 (by omega)
                have HD1 := Lib.hid (decide_eq_true (p := ym = [] ∧ nn = yu + 1) ⟨hym, hnu⟩)
                clear hym hnu
                go_quiet (fail)
                go_wp2
                go_meet
                exact ⟨by rw [HD1.out], _, rfl⟩
              · have hb : ((nn : Int) == (yu : Int) + 1) = false := beq_eq_false_iff_ne.2 (by omega)
                have HD1 := Lib.hid (decide_eq_false (p := ym = [] ∧ nn = yu + 1) (fun h => hnu h.2))
                clear hym hnu
                go_quiet (fail)
                go_wp2
                go_meet
                exact ⟨by rw [HD1.out], _, rfl⟩
            · have hb : ((m : Int) == 0) = false := beq_eq_false_iff_ne.2 (by omega)
              have HD1 := Lib.hid (decide_eq_false (p := ym = [] ∧ nn = yu + 1) (fun h => by have := HM.out; rw [h.1] at this; simp at this; omega))
              go_quiet (fail)
              go_wp2
              go_meet
              exact ⟨by rw [HD1.out], _, rfl⟩
          case rest =>
            obtain ⟨rfl, kq, rfl⟩ := hcut
            have hb0 : Below W2.heap.size W2 (W2.drewN kq) := below_drewN' (Below.refl _ _) kq
            have HOT3 := Lib.hid (HOT.out.below hb0)
            have HB3 := Lib.hid (HB2.out.trans (hb0.mono HB2.out.size))
            have hGf3 : ∀ j, (W2.drewN kq).frozen? ⟨G, j, none⟩ = false := HGF.out
            clear hb0 c0 c1 e1 e2 HOT HB2 HGF
            obtain ⟨W3, hW3⟩ : ∃ W3, W2.drewN kq = W3 := ⟨_, rfl⟩
            rw [hW3] at HOT3 HB3 hGf3 ⊢
            clear hW3
            have hcl := HOT3.out.last
            rw [HK.out] at hcl
            obtain ⟨e1, e2⟩ := hcl
            obtain ⟨c0, c1⟩ := HD.out W3 HB3.out
            simp only at e1 e2
            rw [HM.out] at e2
            have hlast2 : ∃ q, (partsL (l.take (i + 1))).getLast? = some ((l.getD (i + 1 - 1) (0, 0)).1.toNat, q) := by
              obtain ⟨q, hq⟩ := pushN_last (partsL (l.take i)) ((yd : Int), nn)
              rw [HSN.out, hq, Nat.add_sub_cancel, HGD2.out]
              exact ⟨q, rfl⟩
            have HLA := Lib.hid hlast2
            clear hlast2
            by_cases hcnd : ym = [] ∧ nn = yu + 1
            · rw [decide_eq_true hcnd]
              obtain ⟨rfl, rfl⟩ := hcnd
              have hst := HOT3.out.upto (by decide) (yu + 1)
              rw [HK.out] at hst
              have HST := Lib.hid hst
              have hfz := hGf3 (k * 3 + 1)
              have HYO2 := Lib.hid (by have := HYO.out; rw [foldStep_up rfl] at this; exact this)
              clear hst hGf3 c0 c1 e2
              go_wp2
              go_roundw
              case rel =>
                refine ⟨i + 1, _, by go_num, hlt, ⟨HST.out, by rw [List.map_append]; exact HYO2.out, by simp; omega, fun x hx => ?_, HB3.out.setCell (p := ⟨G, k * 3 + 1, none⟩) (by rw [HBB.out]; exact hGB) _⟩, fun _ => HLA.out⟩
                rcases List.mem_append.1 hx with hx | hx
                · have := HME.out x (List.mem_append_left _ hx); exact ⟨by omega, this.2⟩
                · obtain rfl := List.mem_singleton.1 hx
                  exact ⟨Nat.zero_le _, hn2⟩
              case measure => simp [intOf] <;> omega
            · rw [decide_eq_false hcnd]
              have HYO2 := Lib.hid (by have := HYO.out; rw [foldStep_more hcnd] at this; exact this)
              have hBW : B ≤ W3.heap.size := by have := HB3.out.size; rw [HBB.out] at this; exact this
              clear hcnd hGf3 e1 HYO
              go_upto_region 10 with fail
              refine AnyL.begin (S := fun W => TwoC ⟨G, k * 3 + 2, none⟩ ⟨b, o + i * 2 + 1, none⟩ (.slice yp m yc) (.int .u64 (nn : Int)) W) 14 (by kernel_rfl) ⟨e2, c1⟩ (fun hHeld => ?_)
              refine AnyL.take (i := 0) (oi := _) (v := ?_) 30 rfl (by kernel_rfl) (by kernel_rfl) (by kernel_rfl) (by kernel_rfl) (by kernel_rfl) (fun _ _ _ h => h) (Or.inl ⟨by kernel_rfl, ?hy1⟩) (by assumption) ?_
              case hy1 =>
                intro w9 hSw
                try dsimp only at hSw
                try simp only [List.getElem_toArray, List.getElem_cons_zero, List.getElem_cons_succ]
                go_simp
                try with_reducible rfl
              try simp only [Act.put, List.setIfInBounds_toArray, List.set_cons_zero, List.set_cons_succ, List.getElem_toArray, List.getElem_cons_zero, List.getElem_cons_succ]
              refine AnyL.take (i := 1) (oi := _) (v := ?_) 30 rfl (by kernel_rfl) (by kernel_rfl) (by kernel_rfl) (by kernel_rfl) (by kernel_rfl) (fun _ _ _ h => h) (Or.inl ⟨by kernel_rfl, ?hy2⟩) (by assumption) ?_
              case hy2 =>
                intro w9 hSw
                try dsimp only at hSw
                try simp only [List.getElem_toArray, List.getElem_cons_zero, List.getElem_cons_succ]
                go_simp
                try with_reducible rfl
              try simp only [Act.put, List.setIfInBounds_toArray, List.set_cons_zero, List.set_cons_succ, List.getElem_toArray, List.getElem_cons_zero, List.getElem_cons_succ]
              refine AnyL.take (i := 2) (oi := _) (v := ?_) 30 rfl (by kernel_rfl) (by kernel_rfl) (by kernel_rfl) (by kernel_rfl) (by kernel_rfl) (fun _ _ _ h => h) (Or.inl ⟨by kernel_rfl, ?hy3⟩) (by assumption) ?_
              case hy3 =>
                intro w9 hSw
                try dsimp only at hSw
                try simp only [List.getElem_toArray, List.getElem_cons_zero, List.getElem_cons_succ]
                go_simp
                try with_reducible rfl
              try simp only [Act.put, List.setIfInBounds_toArray, List.set_cons_zero, List.set_cons_succ, List.getElem_toArray, List.getElem_cons_zero, List.getElem_cons_succ]
              refine AnyL.take (i := 3) (oi := _) (v := ?_) 30 rfl (by kernel_rfl) (by kernel_rfl) (by kernel_rfl) (by kernel_rfl) (by kernel_rfl) (fun _ _ _ h => h) (Or.inl ⟨by kernel_rfl, ?hy4⟩) (by assumption) ?_
              case hy4 =>
                intro w9 hSw
                try dsimp only at hSw
                try simp only [List.getElem_toArray, List.getElem_cons_zero, List.getElem_cons_succ]
                go_simp
                try with_reducible rfl
              try simp only [Act.put, List.setIfInBounds_toArray, List.set_cons_zero, List.set_cons_succ, List.getElem_toArray, List.getElem_cons_zero, List.getElem_cons_succ]
              refine AnyL.take (i := 4) (oi := _) (v := .slice yp m yc) 30 rfl (by kernel_rfl) (by kernel_rfl) (by kernel_rfl) (by kernel_rfl) (by kernel_rfl) (fun _ _ _ h => h) (Or.inl ⟨by kernel_rfl, ?hy5⟩) (by assumption) ?_
              case hy5 =>
                intro w9 hSw
                try dsimp only at hSw
                try simp only [List.getElem_toArray, List.getElem_cons_zero, List.getElem_cons_succ]
                go_simp
                obtain ⟨hx0, hx1⟩ := hSw
                try go_simp
                try with_reducible rfl
              try simp only [Act.put, List.setIfInBounds_toArray, List.set_cons_zero, List.set_cons_succ, List.getElem_toArray, List.getElem_cons_zero, List.getElem_cons_succ]
              refine AnyL.take (i := 5) (oi := _) (v := ?_) 30 rfl (by kernel_rfl) (by kernel_rfl) (by kernel_rfl) (by kernel_rfl) (by kernel_rfl) (fun _ _ _ h => h) (Or.inl ⟨by kernel_rfl, ?hy6⟩) (by assumption) ?_
              case hy6 =>
                intro w9 hSw
                try dsimp only at hSw
                try simp only [List.getElem_toArray, List.getElem_cons_zero, List.getElem_cons_succ]
                go_simp
                try with_reducible rfl
              try simp only [Act.put, List.setIfInBounds_toArray, List.set_cons_zero, List.set_cons_succ, List.getElem_toArray, List.getElem_cons_zero, List.getElem_cons_succ]
              refine AnyL.take (i := 6) (oi := _) (v := ?_) 30 rfl (by kernel_rfl) (by kernel_rfl) (by kernel_rfl) (by kernel_rfl) (by kernel_rfl) (fun _ _ _ h => h) (Or.inl ⟨by kernel_rfl, ?hy7⟩) (by assumption) ?_
              case hy7 =>
                intro w9 hSw
                try dsimp only at hSw
                try simp only [List.getElem_toArray, List.getElem_cons_zero, List.getElem_cons_succ]
                go_simp
                try with_reducible rfl
              try simp only [Act.put, List.setIfInBounds_toArray, List.set_cons_zero, List.set_cons_succ, List.getElem_toArray, List.getElem_cons_zero, List.getElem_cons_succ]
              refine AnyL.take (i := 7) (oi := _) (v := ?_) 30 rfl (by kernel_rfl) (by kernel_rfl) (by kernel_rfl) (by kernel_rfl) (by kernel_rfl) (fun _ _ _ h => h) (Or.inl ⟨by kernel_rfl, ?hy8⟩) (by assumption) ?_
              case hy8 =>
                intro w9 hSw
                try dsimp only at hSw
                try simp only [List.getElem_toArray, List.getElem_cons_zero, List.getElem_cons_succ]
                go_simp
                try with_reducible rfl
              try simp only [Act.put, List.setIfInBounds_toArray, List.set_cons_zero, List.set_cons_succ, List.getElem_toArray, List.getElem_cons_zero, List.getElem_cons_succ]
              refine AnyL.take (i := 8) (oi := _) (v := ?_) 30 rfl (by kernel_rfl) (by kernel_rfl) (by kernel_rfl) (by kernel_rfl) (by kernel_rfl) (fun _ _ _ h => h) (Or.inl ⟨by kernel_rfl, ?hy9⟩) (by assumption) ?_
              case hy9 =>
                intro w9 hSw
                try dsimp only at hSw
                try simp only [List.getElem_toArray, List.getElem_cons_zero, List.getElem_cons_succ]
                go_simp
                try with_reducible rfl
              try simp only [Act.put, List.setIfInBounds_toArray, List.set_cons_zero, List.set_cons_succ, List.getElem_toArray, List.getElem_cons_zero, List.getElem_cons_succ]
              refine AnyL.take (i := 9) (oi := _) (v := .int .u64 (nn : Int)) 30 rfl (by kernel_rfl) (by kernel_rfl) (by kernel_rfl) (by kernel_rfl) (by kernel_rfl) (fun _ _ _ h => h) (Or.inl ⟨by kernel_rfl, ?hy10⟩) (by assumption) ?_
              case hy10 =>
                intro w9 hSw
                try dsimp only at hSw
                try simp only [List.getElem_toArray, List.getElem_cons_zero, List.getElem_cons_succ]
                go_simp
                obtain ⟨hx0, hx1⟩ := hSw
                try go_simp
                try with_reducible rfl
              try simp only [Act.put, List.setIfInBounds_toArray, List.set_cons_zero, List.set_cons_succ, List.getElem_toArray, List.getElem_cons_zero, List.getElem_cons_succ]
              refine AnyL.one (i := 10) (o := _) (by kernel_rfl) rfl (fun K hK => ?_)
              try simp only [List.getElem_toArray, List.getElem_cons_zero, List.getElem_cons_succ]
              go_simp
              refine hK.out _ _ (fun _ => (hHeld.below ((Below.refl _ _).alloc (Nat.le_refl _) _))) (fun hHeld => ?_)
              replace hHeld := hHeld (by decide)
              clear hK K
              try simp only [Act.put, List.setIfInBounds_toArray, List.set_cons_zero, List.set_cons_succ, List.getElem_toArray, List.getElem_cons_zero, List.getElem_cons_succ]
              have hn8 : ((W3.alloc (.cells #[.int .u64 (nn : Int)] 30)).drew).heap[W3.heap.size]? = some (.cells #[.int .u64 (nn : Int)] 30 (0, 0)) := heap_alloc_new W3 _
              have hb8 : Below W3.heap.size W3 (W3.alloc (.cells #[.int .u64 (nn : Int)] 30)).drew := ((Below.refl _ _).alloc (Nat.le_refl _) _).drew
              generalize ((W3.alloc (.cells #[.int .u64 (nn : Int)] 30)).drew) = w8 at *
              have HOT8 := Lib.hid (HOT3.out.below hb8)
              have HB8 := Lib.hid (HB3.out.trans (hb8.mono (by rw [HBB.out]; exact hBW)))
              have HN8 := Lib.hid (one_num nn hn8)
              have HZ8 := Lib.hid (Nat.le_trans hBW hb8.size)
              have hy8 := HOT8.out.each _ (List.mem_append_right _ (List.mem_singleton.2 rfl))
              have hne1 : (Value.slice yp ym.length yc).ownBlock ≠ some G := fun e => by obtain ⟨_, h1⟩ := HOT8.out.row.type rfl; obtain ⟨_, h2⟩ := OwnK.type hy8 e; rw [h1] at h2; simp only [Option.some.injEq, Obj.cells.injEq] at h2; exact absurd h2.2.1 (by decide)
              have hne2 : (Value.slice yp ym.length yc).ownBlock ≠ some b := fun e => by have := (OwnK.lt hy8 b e).1; rw [← HBB.out] at this; omega
              have hy8' : OwnK w8 B 30 (encN .u64) (.slice yp m yc) ym := by rw [← HM.out]; exact hy8
              have HY8 := Lib.hid hy8'
              have HNE1 := Lib.hid hne1
              have HNE2 := Lib.hid hne2
              clear hn8 hb8 hy8 hy8' hne1 hne2 e2 c0 c1
              refine AnyL.one (i := 11) (o := _) (by kernel_rfl) rfl (fun K hK => ?_)
              refine step_append_kat rfl (.tmp 73) (.tmp 79) 51 rfl B 30 (encN .u64) _ 8 Try.underlying51 info_u64 rfl (by decide) (.slice yp m yc) ym rfl HY8.out _ [nn] rfl HN8.out Nat.one_pos (by show ym.length + 1 ≤ _; rw [HM.out]; omega) HZ8.out w (by rw [← HBB.out]; exact HB8.out) (fun v9 w9 ho9 hb9 hg9 hat9 => ?_)
              obtain ⟨p9, c9, rfl, -, -⟩ := ho9.sl
              refine hK.out _ _ (fun _ => (hHeld.grown hg9 (by rw [← HM.out]; exact HNE1.out) (by rw [← HM.out]; exact HNE2.out))) (fun hHeld => ?_)
              replace hHeld := hHeld (by decide)
              clear hK K
              try simp only [Act.put, List.setIfInBounds_toArray, List.set_cons_zero, List.set_cons_succ, List.getElem_toArray, List.getElem_cons_zero, List.getElem_cons_succ]
              have hg9' : w8.grownBy w9 (Value.slice yp ym.length yc).ownBlock := by rw [HM.out]; exact hg9
              have hat9' : (Value.slice p9 (ym ++ [nn]).length c9).ownBlock = (Value.slice yp ym.length yc).ownBlock ∨ (Value.slice p9 (ym ++ [nn]).length c9).ownBlock = some w8.heap.size := by rw [HM.out]; exact hat9
              have hT9 := OwnT.more (by decide) HOT8.out ho9 hg9' hat9'
              have hr9 := HOT8.out.row.beside (HOT8.out.each _ (List.mem_append_right _ (List.mem_singleton.2 rfl))) hg9' (by decide)
              have hf9 : w9.frozen? ⟨G, k * 3 + 2, none⟩ = false := by obtain ⟨g', _, e, _, _, _, _, _, h3⟩ := hr9.form (by simp); simp only [Value.slice.injEq, Option.some.injEq, Addr.mk.injEq, and_true] at e; obtain ⟨rfl, _⟩ := e; exact h3 _
              rw [HK.out] at hT9
              have hT9 : OwnT 72 (w9.setCell ⟨G, k * 3 + 2, none⟩ (.slice p9 (ym.length + 1) c9)) B (.slice (some ⟨G, 0, none⟩) (k + 1) cc) (M1 ++ [⟨yd, ⟨yu, ym ++ [nn]⟩, p9, c9⟩]) := by rw [List.length_append] at hT9; exact hT9
              have HT9 := Lib.hid hT9
              have HB9 := Lib.hid hb9
              have e9 := hHeld.1
              clear hT9 hr9 hg9 hat9 hg9' hat9' ho9 hb9
              refine AnyL.take (i := 12) (oi := _) (v := ?_) 30 rfl (by kernel_rfl) (by kernel_rfl) (by kernel_rfl) (by kernel_rfl) (by kernel_rfl) (fun _ _ _ h => h) (Or.inl ⟨by kernel_rfl, ?hy11⟩) (by assumption) ?_
              case hy11 =>
                intro w9 hSw
                try dsimp only at hSw
                try simp only [List.getElem_toArray, List.getElem_cons_zero, List.getElem_cons_succ]
                go_simp
                try with_reducible rfl
              try simp only [Act.put, List.setIfInBounds_toArray, List.set_cons_zero, List.set_cons_succ, List.getElem_toArray, List.getElem_cons_zero, List.getElem_cons_succ]
              refine AnyL.take (i := 13) (oi := _) (v := ?_) 30 rfl (by kernel_rfl) (by kernel_rfl) (by kernel_rfl) (by kernel_rfl) (by kernel_rfl) (fun _ _ _ h => h) (Or.inl ⟨by kernel_rfl, ?hy12⟩) (by assumption) ?_
              case hy12 =>
                intro w9 hSw
                try dsimp only at hSw
                try simp only [List.getElem_toArray, List.getElem_cons_zero, List.getElem_cons_succ]
                go_simp
                try with_reducible rfl
              try simp only [Act.put, List.setIfInBounds_toArray, List.set_cons_zero, List.set_cons_succ, List.getElem_toArray, List.getElem_cons_zero, List.getElem_cons_succ]
              refine AnyL.one (i := 14) (o := _) (by kernel_rfl) rfl (fun K hK => ?_)
              try simp only [List.getElem_toArray, List.getElem_cons_zero, List.getElem_cons_succ]
              go_simp
              refine hK.out _ _ (fun h => absurd rfl h) (fun _ => ?_)
              clear hK K
              try simp only [Act.put, List.setIfInBounds_toArray, List.set_cons_zero, List.set_cons_succ, List.getElem_toArray, List.getElem_cons_zero, List.getElem_cons_succ]
              refine AnyL.done (by kernel_rfl) ?_ _
              go_wp2
              go_roundw
              case rel =>
                refine ⟨i + 1, _, by go_num, hlt, ⟨HT9.out, by rw [List.map_append]; exact HYO2.out, by simp; omega, fun x hx => ?_, by have h := HB9.out; rw [← HBB.out] at h; exact h.setCell (p := ⟨G, k * 3 + 2, none⟩) (by rw [HBB.out]; exact hGB) _⟩, fun _ => HLA.out⟩
                rcases List.mem_append.1 hx with hx | hx
                · have := HME.out x (List.mem_append_left _ hx); exact ⟨by omega, this.2⟩
                · obtain rfl := List.mem_singleton.1 hx
                  exact ⟨by show (ym ++ [nn]).length ≤ _; rw [List.length_append, HM.out]; simp; omega, y2⟩
              case measure => simp [intOf] <;> omega
    · obtain rfl : i = n := by omega
      have hI : ¬ (i : Int) < (i : Int) := by omega
      have ht : l.take i = l := List.take_of_length_le (by rw [HN.out]; exact Nat.le_refl _)
      have hfin := H0.out
      rw [ht] at hfin
      have HFIN := Lib.hid hfin
      clear hfin ht HLAST H0
      go_wp2
      go_ret
      exact ⟨_, rfl, M, by rw [HBB.out]; exact HFIN.out.own, HFIN.out.map, HFIN.out.below⟩
end Go.Proofs.Ytfgfamafjkjakaa
