/-
  Layer 13's law: DotParts walked.
-/
import Derived.Test.YtfgfamafjkjakabDotPartM
import Derived.Test.YtfgfamafjkjakabDotOf
import Derived.Test.YtfgfamafjkjakabTextEq
import Derived.Deep.DeepCutAuto
import Derived.Deep.CutBlock
import Derived.Deep.QuietTactic
import Derived.BigQuiet
import Derived.IntWalk
namespace Go.Proofs.Ytfgfamafjkjakab
open Go.ChangeShapes Go.WideShapes Go.ChangeAt Go.RowKit Go.Deep
set_option linter.unusedVariables false
set_option linter.unusedSimpArgs false
theorem OwnP.part {w : World} {B g n cap : Nat} {M : List Pt} (h : OwnP w B (.slice (some ⟨g, 0, none⟩) n cap) M) (i : Nat) (hi : i < M.length) :
    w.cell? ⟨g, i * 3, none⟩ = some (.int .i64 (M[i].dev : Int)) ∧ w.cell? ⟨g, i * 3 + 1, none⟩ = some (.int .u64 (M[i].nm.upto : Int)) ∧ w.cell? ⟨g, i * 3 + 2, none⟩ = some (.slice M[i].ptr M[i].nm.more.length M[i].cap) ∧
    OwnK w B 30 (encN .u64) (.slice M[i].ptr M[i].nm.more.length M[i].cap) M[i].nm.more := by
  obtain ⟨g', cap', e, _, _, _, _, hc, _⟩ := h.row.form (by omega)
  simp only [Value.slice.injEq, Option.some.injEq, Addr.mk.injEq, and_true] at e
  obtain ⟨rfl, _, _⟩ := e
  exact ⟨hc i hi 0 _ rfl, hc i hi 1 _ rfl, hc i hi 2 _ rfl, h.each _ (List.getElem_mem hi)⟩
theorem OwnP.place {w : World} {B n cap : Nat} {p : Option Addr} {M : List Pt} (h : OwnP w B (.slice p n cap) M) (h0 : 0 < M.length) : ∃ g, p = some ⟨g, 0, none⟩ := by
  obtain ⟨g', cap', e, _⟩ := h.row.form h0
  simp only [Value.slice.injEq] at e
  exact ⟨g', e.1⟩
theorem OwnK.numAt {w : World} {B : Nat} {e : TypeId} {p : Option Addr} {n cap : Nat} {l : List Nat} (h : OwnK w B e (encN .u64) (.slice p n cap) l) (k : Nat) (hk : k < l.length) : ∃ g, p = some ⟨g, 0, none⟩ ∧ w.cell? ⟨g, k, none⟩ = some (.int .u64 ((l.getD k 0 : Nat) : Int)) := by
  obtain ⟨g, cap', e, _, _, _, _, hc, _⟩ := h.form (by omega)
  simp only [Value.slice.injEq] at e
  refine ⟨g, e.1, ?_⟩
  have := hc k hk 0 _ rfl
  rw [List.getD_eq_getElem?_getD, List.getElem?_eq_getElem hk]
  rw [show k * (encN .u64).k + 0 = k from Nat.mul_one k] at this
  exact this
theorem OwnK.caps {w : World} {B : Nat} {e : TypeId} {α : Type} {E : Enc α} {p : Option Addr} {n cap : Nat} {l : List α} (h : OwnK w B e E (.slice p n cap) l) : n ≤ cap ∧ (cap : Int) ≤ 9223372036854775807 := by
  obtain ⟨p', cap', e, h1, h2⟩ := h.sl
  simp only [Value.slice.injEq] at e
  obtain ⟨_, rfl, rfl⟩ := e
  exact ⟨h1, by unfold maxLen at h2; omega⟩
/-- The three sets and the row of parts. -/
structure Tri (w : World) (S T U : Nat) (f g u : List Nm) (B : Nat) (v : Value) (M : List Pt) (W : World) : Prop where
  s : SetIs W S f
  t : SetIs W T g
  u : SetIs W U u
  p : OwnP W B v M
  b : Below w.heap.size w W
theorem Tri.below {w : World} {S T U : Nat} {f g u : List Nm} {B : Nat} {v : Value} {M : List Pt} {W W' : World} (h : Tri w S T U f g u B v M W) (hb : Below W.heap.size W W') : Tri w S T U f g u B v M W' :=
  ⟨h.s.below hb, h.t.below hb, h.u.below hb, h.p.below hb, h.b.trans (hb.mono h.b.size)⟩
theorem Tri.put {w : World} {S T U : Nat} {f g u u' : List Nm} {B : Nat} {v : Value} {M : List Pt} {W W' : World} (h : Tri w S T U f g u B v M W) (hs : SetIs W' U u') (hk : Kp U W W') (h1 : S ≠ U) (h2 : T ≠ U) (h3 : w.heap.size ≤ U) : Tri w S T U f g u' B v M W' :=
  ⟨h.s.kp h.u hk h1, h.t.kp h.u hk h2, hs, h.p.kp h.u hk, h.b.trans (hk.below h3 h.b.size)⟩
set_option maxRecDepth 100000 in
set_option maxHeartbeats 32000000 in
theorem DotParts_any (pa : Option Addr) (na ca ba oa : Nat) (Da : Nat → Int) (Na : Nat → Nat) (pb : Option Addr) (nb cb bb ob : Nat) (Db : Nat → Int) (Nb : Nat → Nat) (w : World)
    (hpa : 0 < na → pa = some ⟨ba, oa, none⟩) (hna : na ≤ ca) (hca : ca ≤ maxLen) (hDa : Dots w ba oa na Da Na) (hpb : 0 < nb → pb = some ⟨bb, ob, none⟩) (hnb : nb ≤ cb) (hcb : cb ≤ maxLen) (hDb : Dots w bb ob nb Db Nb) :
    Calls Try.prog 3 #[.slice pa na ca, .slice pb nb cb] w fun e w' => e = .returned (.bool true) ∧ Below w.heap.size w w' := by
  have HDA := Lib.hid hDa
  have HPA := Lib.hid hpa
  have HDB := Lib.hid hDb
  have HPB := Lib.hid hpb
  have hcaI : (na : Int) ≤ 9223372036854775807 := by unfold maxLen at hca; omega
  have hcbI : (nb : Int) ≤ 9223372036854775807 := by unfold maxLen at hcb; omega
  clear hDa hpa hca hDb hpb hcb
  go_enter Try.func3, Try.ntmps3
  go_wp2_with fail
  refine (Awake_any w).mono ?_
  rintro e w1 ⟨rfl, hb1⟩
  have HB1 := Lib.hid hb1
  clear hb1
  rcases Nat.lt_or_ge 60 na with h60 | h60
  · have h60I : (60 : Int) < (na : Int) := by omega
    go_wp2
    go_ret
    exact ⟨rfl, HB1.out⟩
  have h60I : ¬ (60 : Int) < (na : Int) := by omega
  rcases Nat.lt_or_ge 60 nb with h61 | h61
  · have h61I : (60 : Int) < (nb : Int) := by omega
    go_wp2
    go_ret
    exact ⟨rfl, HB1.out⟩
  have h61I : ¬ (60 : Int) < (nb : Int) := by omega
  go_wp2_with fail
  refine (Of_any pa na ca ba oa Da Na w1 HPA.out (by omega) (HDA.out.below HB1.out)).mono ?_
  rintro e w2 ⟨la, rfl, hs2, -, hb2⟩
  obtain ⟨S, hS⟩ : ∃ S, w1.heap.size = S := ⟨_, rfl⟩
  obtain ⟨f, hf⟩ : ∃ f, ofF Da Na na = f := ⟨_, rfl⟩
  rw [hS, hf] at hs2
  rw [hS]
  have hwS : w.heap.size ≤ S := by rw [← hS]; exact HB1.out.size
  have HS2 := Lib.hid hs2
  have HB2 := Lib.hid (HB1.out.trans (hb2.mono HB1.out.size))
  clear hs2 hb2 hS hf
  go_wp2_with fail
  refine (Of_any pb nb cb bb ob Db Nb w2 HPB.out (by omega) (HDB.out.below HB2.out)).mono ?_
  rintro e w3 ⟨lb, rfl, hs3, -, hb3⟩
  obtain ⟨T, hT⟩ : ∃ T, w2.heap.size = T := ⟨_, rfl⟩
  obtain ⟨g, hg⟩ : ∃ g, ofF Db Nb nb = g := ⟨_, rfl⟩
  rw [hT, hg] at hs3
  rw [hT]
  have hST : S < T := by rw [← hT]; exact HS2.out.lt
  have HS3 := Lib.hid (HS2.out.below hb3)
  have HT3 := Lib.hid hs3
  have HB3 := Lib.hid (HB2.out.trans (hb3.mono HB2.out.size))
  clear hs3 hb3 hT hg
  go_wp2_with fail
  refine (Parts_any S f w3 HS3.out).mono ?_
  rintro e w4 ⟨pv, M, rfl, hM, hMp, hb4⟩
  obtain ⟨B, hB⟩ : ∃ B, w3.heap.size = B := ⟨_, rfl⟩
  rw [hB] at hM
  have HS4 := Lib.hid (HS3.out.below hb4)
  have HT4 := Lib.hid (HT3.out.below hb4)
  have HM4 := Lib.hid hM
  have HB4 := Lib.hid (HB3.out.trans (hb4.mono HB3.out.size))
  have HMP := Lib.hid hMp
  clear hM hMp hb4 hB
  go_wp2_with fail
  refine (New_any w4).mono ?_
  rintro e w5 ⟨rfl, hs5, hb5⟩
  obtain ⟨U, hU⟩ : ∃ U, w4.heap.size = U := ⟨_, rfl⟩
  rw [hU] at hs5
  rw [hU]
  have hTU : T < U := by rw [← hU]; exact HT4.out.lt
  have hSU : S ≠ U := by omega
  have hTU' : T ≠ U := by omega
  have hwU : w.heap.size ≤ U := by omega
  have H5 : Hid (Tri w S T U f g none16 B pv M w5) := Lib.hid ⟨HS4.out.below hb5, HT4.out.below hb5, hs5, HM4.out.below hb5, HB4.out.trans (hb5.mono HB4.out.size)⟩
  have hfo := HS4.out.oks
  have hgo := HT4.out.oks
  have HFO := Lib.hid hfo
  have HGO := Lib.hid hgo
  clear hs5 hb5 hU hfo hgo
  obtain ⟨n, hn⟩ : ∃ n, M.length = n := ⟨_, rfl⟩
  have hLn : (partsS f).length = n := by rw [← HMP.out, List.length_map, hn]
  have hn16 : n ≤ 16 := by rw [← hLn]; exact partsUpto_len f 16
  have hnI : (n : Int) ≤ 16 := by omega
  obtain ⟨pp, pc, rfl, hpc, hpm⟩ := HM4.out.row.sl
  have hpcI : (pc : Int) ≤ 9223372036854775807 := by unfold maxLen at hpm; omega
  rw [hn] at hpc H5 ⊢
  have HN := Lib.hid hn
  have HLN := Lib.hid hLn
  clear hn hLn hpm HM4 HS4 HT4
  go_wp2_with fail
  go_loopw [11] (fun vi wr => ∃ i : Nat, vi = .int .i64 (i : Int) ∧ i ≤ n ∧ Tri w S T U f g (uAt f i) B (.slice pp n pc) M wr) (fun vi _ => n - (intOf vi).toNat)
  case atStart => exact ⟨0, rfl, Nat.zero_le _, H5.out⟩
  case round =>
    obtain ⟨i, rfl, hi, h0⟩ := hrel
    obtain ⟨W0, rfl⟩ : ∃ W0, W0 = wr := ⟨wr, rfl⟩
    have H0 := Lib.hid h0
    clear h0
    rcases Nat.lt_or_ge i n with hlt | hge
    · have hI : (i : Int) < (n : Int) := by omega
      have hi0 : (0 : Int) ≤ (i : Int) := by omega
      have hiM : i < M.length := by rw [HN.out]; exact hlt
      have hiL : i < (partsS f).length := by rw [HLN.out]; exact hlt
      obtain ⟨G, rfl⟩ := H0.out.p.place (by omega)
      have hpt : (partsS f)[i] = (M[i].dev, M[i].nm) := by
        have := List.getElem_of_eq HMP.out.symm hiL
        rw [this, List.getElem_map]
        rfl
      have hnx := uAt_next f i hiL
      have hz := uAt_zero f i hiL
      have hpm := parts_mem (List.getElem_mem hiL)
      have hprev : ∀ j (hj : j < i), (M[j]'(by omega)).dev < M[i].dev := fun j hj => by
        have := parts_mono (f := f) hj hiL
        have e2 : (partsS f)[j]'(by omega) = ((M[j]'(by omega)).dev, (M[j]'(by omega)).nm) := by
          have := List.getElem_of_eq HMP.out.symm (i := j) (by omega)
          rw [this, List.getElem_map]
          rfl
        rw [hpt, e2] at this
        exact this
      rw [hpt] at hnx hz hpm
      have hparts := fun (W : World) (h : Tri w S T U f g (uAt f i) B (.slice (some ⟨G, 0, none⟩) n pc) M W) => h.p.part i hiM
      have HPARTS : Hid (∀ (u : List Nm) (W : World) (h : Tri w S T U f g u B (.slice (some ⟨G, 0, none⟩) n pc) M W), _) := Lib.hid (fun u W h => h.p.part i hiM)
      clear hparts
      obtain ⟨x, hx⟩ : ∃ x, M[i] = x := ⟨_, rfl⟩
      rw [hx] at hnx hz hpm HPARTS
      have HPREV : Hid (∀ j (hj : j < i), (M[j]'(by omega)).dev < x.dev) := by rw [← hx]; exact Lib.hid hprev
      clear hprev hpt hx
      obtain ⟨dd, q, mp, mc⟩ := x
      simp only at hnx hz hpm HPARTS HPREV
      obtain ⟨hd16, hq, hlv⟩ := hpm
      have hqo : q.Ok ∧ q.more.length ≤ 4096 := by have := HFO.out.2 dd hd16; rw [← hq] at this; exact this
      obtain ⟨hqo, hql⟩ := hqo
      have huM := hqo.most
      have HQO := Lib.hid hqo
      obtain ⟨m, hm⟩ : ∃ m, q.more.length = m := ⟨_, rfl⟩
      obtain ⟨u, hu⟩ : ∃ u, q.upto = u := ⟨_, rfl⟩
      have hlive : 0 < u ∨ 0 < m := by
        unfold live at hlv
        simp only [Bool.or_eq_true, decide_eq_true_eq] at hlv
        omega
      rw [hm] at HPARTS hql
      rw [hu] at HPARTS huM
      have HM := Lib.hid hm
      have HU := Lib.hid hu
      have HNX := Lib.hid hnx
      have HZ := Lib.hid hz
      have huI : (u : Int) ≤ 1099511627776 := by omega
      have hmI : (m : Int) ≤ 4096 := by omega
      clear hnx hz hq hlv hqo hm hu
      obtain ⟨c0, c1, c2, hK⟩ := HPARTS.out _ _ H0.out
      obtain ⟨hmc, hmcI⟩ := hK.caps
      clear hK
      go_upto_region 13 with fail
      go_cut [90] (fun v wz => v = .bool (decide (1000 < u)) ∧ ∃ k, wz = W0.drewN k)
      case first =>
        rcases Nat.eq_zero_or_pos i with rfl | hip
        · have hd1 : decide ((0 : Int) < ((0 : Nat) : Int)) = false := by decide
          rcases Nat.lt_or_ge 1000 u with hu1 | hu1
          · have hu1I : (1000 : Int) < (u : Int) := by omega
            go_quiet (fail)
            go_wp2
            go_meet
            exact ⟨by rw [decide_eq_true hu1], _, rfl⟩
          · have hu1I : ¬ (1000 : Int) < (u : Int) := by omega
            have hu1J : decide ((1000 : Int) < (u : Int)) = false := decide_eq_false hu1I
            rcases Nat.eq_zero_or_pos u with hu0 | hu0
            · subst hu0
              have hm0 : ((m : Int) == 0) = false := beq_eq_false_iff_ne.2 (by omega)
              go_quiet (fail)
              go_wp2
              go_meet
              exact ⟨by rw [decide_eq_false (by omega)], _, rfl⟩
            · have hm0 : ((u : Int) == 0) = false := beq_eq_false_iff_ne.2 (by omega)
              go_quiet (fail)
              go_wp2
              go_meet
              exact ⟨by rw [decide_eq_false (by omega)], _, rfl⟩
        · have hip1 : (0 : Int) < (i : Int) := by omega
          obtain ⟨j, rfl⟩ : ∃ j, i = j + 1 := ⟨i - 1, by omega⟩
          have hjM : j < M.length := by omega
          obtain ⟨e0, -, -, -⟩ := H0.out.p.part j hjM
          have hjd := HPREV.out j (by omega)
          obtain ⟨dj, hdj⟩ : ∃ d, M[j].dev = d := ⟨_, rfl⟩
          rw [hdj] at e0 hjd
          have hjdI : ¬ (dd : Int) ≤ (dj : Int) := by omega
          have hjdJ : decide ((dd : Int) ≤ (dj : Int)) = false := decide_eq_false hjdI
          have hj1 : IntKind.i64.wrap (((j + 1 : Nat) : Int) - 1) = (j : Int) := by rw [IntWalk.i64_in _ (by omega)]; omega
          have hj2 : (j : Int) < (n : Int) := by omega
          have hj3 : (0 : Int) ≤ (j : Int) := by omega
          clear hdj hjd
          rcases Nat.lt_or_ge 1000 u with hu1 | hu1
          · have hu1I : (1000 : Int) < (u : Int) := by omega
            go_quiet (fail)
            go_wp2
            go_meet
            exact ⟨by rw [decide_eq_true hu1], _, rfl⟩
          · have hu1I : ¬ (1000 : Int) < (u : Int) := by omega
            have hu1J : decide ((1000 : Int) < (u : Int)) = false := decide_eq_false hu1I
            rcases Nat.eq_zero_or_pos u with hu0 | hu0
            · subst hu0
              have hm0 : ((m : Int) == 0) = false := beq_eq_false_iff_ne.2 (by omega)
              go_quiet (fail)
              go_wp2
              go_meet
              exact ⟨by rw [decide_eq_false (by omega)], _, rfl⟩
            · have hm0 : ((u : Int) == 0) = false := beq_eq_false_iff_ne.2 (by omega)
              go_quiet (fail)
              go_wp2
              go_meet
              exact ⟨by rw [decide_eq_false (by omega)], _, rfl⟩
      case rest =>
        obtain ⟨rfl, kq, rfl⟩ := hcut
        clear hmc hmcI
        have hb0 : Below W0.heap.size W0 (W0.drewN kq) := below_drewN' (Below.refl _ _) kq
        have H1 := Lib.hid (H0.out.below hb0)
        clear hb0
        obtain ⟨W1, hW1⟩ : ∃ W1, W0.drewN kq = W1 := ⟨_, rfl⟩
        rw [hW1] at H1 ⊢
        clear hW1 c0 c1 c2
        obtain ⟨c0, c1, c2, -⟩ := HPARTS.out _ _ H1.out
        rcases Nat.lt_or_ge 1000 u with hu1 | hu1
        · have hu1I : (1000 : Int) < (u : Int) := by omega
          rw [decide_eq_true hu1]
          go_wp2
          go_ret
          exact ⟨rfl, H1.out.b⟩
        rw [decide_eq_false (by omega : ¬ 1000 < u)]
        have hset0 : (uAt f i).set dd ⟨1 - 1, []⟩ = uAt f i := set_zero (uAt_len f i) hd16 HZ.out
        have HSET := Lib.hid hset0
        obtain ⟨g0, hg0⟩ : ∃ g0, uAt f i = g0 := ⟨_, rfl⟩
        have hg16 : g0.length = 16 := by rw [← hg0]; exact uAt_len f i
        rw [hg0] at H1 HSET HNX
        have HG0 := Lib.hid hg0
        clear hset0 hg0 HZ H0
        go_wp2_with fail
        clear c0 c1 c2
        go_loopw [13] (fun v13 wr => ∃ k : Nat, v13 = .int .u64 (k : Int) ∧ 1 ≤ k ∧ k ≤ u + 1 ∧ Tri w S T U f g (g0.set dd ⟨k - 1, []⟩) B (.slice (some ⟨G, 0, none⟩) n pc) M wr) (fun v13 _ => u + 1 - (intOf v13).toNat)
        case atStart => exact ⟨1, rfl, Nat.le_refl _, by omega, by rw [HSET.out]; exact H1.out⟩
        case round =>
          obtain ⟨k, rfl, hk1, hk2, h2⟩ := hrel
          obtain ⟨W2, rfl⟩ : ∃ W2, W2 = wr := ⟨wr, rfl⟩
          have H2 := Lib.hid h2
          clear h2
          obtain ⟨c0, c1, c2, -⟩ := HPARTS.out _ _ H2.out
          rcases Nat.lt_or_ge u k with hku | hku
          · obtain rfl : k = u + 1 := by omega
            have hkI : ¬ ((u + 1 : Nat) : Int) ≤ (u : Int) := by omega
            have hkJ : ¬ (u : Int) + 1 ≤ (u : Int) := by omega
            go_wp2_with fail
            clear c0 c1 c2
            have h3 : Tri w S T U f g (g0.set dd ⟨u, q.more.take 0⟩) B (.slice (some ⟨G, 0, none⟩) n pc) M W2 := by
              have := H2.out
              rw [Nat.add_sub_cancel] at this
              exact this
            have H3 := Lib.hid h3
            clear h3 H2
            go_loopw [12, 14] (fun v12 vk wr => ∃ k : Nat, vk = .int .i64 (k : Int) ∧ v12 = .int .u64 ((lastN q k : Nat) : Int) ∧ k ≤ m ∧ Tri w S T U f g (g0.set dd ⟨u, q.more.take k⟩) B (.slice (some ⟨G, 0, none⟩) n pc) M wr) (fun _ vk _ => m - (intOf vk).toNat)
            case atStart => exact ⟨0, rfl, by rw [← HU.out]; rfl, Nat.zero_le _, H3.out⟩
            case round =>
              obtain ⟨k, rfl, rfl, hk, h4⟩ := hrel
              obtain ⟨W4, rfl⟩ : ∃ W4, W4 = wr := ⟨wr, rfl⟩
              have H4 := Lib.hid h4
              clear h4
              obtain ⟨c0, c1, c2, hK⟩ := HPARTS.out _ _ H4.out
              obtain ⟨hmc, hmcI⟩ := hK.caps
              rcases Nat.lt_or_ge k m with hkm | hkm
              · have hkI : (k : Int) < (m : Int) := by omega
                have hk0 : (0 : Int) ≤ (k : Int) := by omega
                have hkq : k < q.more.length := by rw [HM.out]; exact hkm
                obtain ⟨Gm, rfl, cn⟩ := hK.numAt k hkq
                have hfar := HQO.out.far _ (mem_getD q.more k hkq)
                have hym := getD_most HQO.out k hkq
                have hls := lastN_step q k
                have hlb : lastN q k < q.more.getD k 0 ∧ (k = 0 → lastN q k + 1 < q.more.getD k 0) := by
                  unfold lastN
                  by_cases h : k = 0
                  · rw [if_pos h]; exact ⟨by omega, fun _ => by omega⟩
                  · rw [if_neg h]; exact ⟨rising_get HQO.out.rise (k - 1) k (by omega) hkq, fun e => absurd e h⟩
                have hadd := addS_more g0 dd q k hg16 hd16 HQO.out (by rw [HM.out]; exact hql) hkq
                rw [HU.out] at hadd
                obtain ⟨y, hy⟩ : ∃ y, q.more.getD k 0 = y := ⟨_, rfl⟩
                obtain ⟨x, hx⟩ : ∃ x, lastN q k = x := ⟨_, rfl⟩
                rw [hy] at cn hym hls hlb hadd
                rw [hx] at hlb ⊢
                obtain ⟨hlb1, hlb2⟩ := hlb
                have HLS := Lib.hid hls
                have HADD := Lib.hid hadd
                have hlbI : ¬ (y : Int) ≤ (x : Int) := by omega
                have hxI : (x : Int) ≤ 1099511627776 := by omega
                have hx1 : IntKind.u64.wrap ((x : Int) + 1) = (x : Int) + 1 := by rw [IntKind.wrap_u64]; omega
                clear hy hx hls hadd hfar hK
                rcases Nat.eq_zero_or_pos k with rfl | hk00
                · have hne : ((y : Int) == (x : Int) + 1) = false := beq_eq_false_iff_ne.2 (by have := hlb2 rfl; omega)
                  clear hlb2
                  go_wp2_with fail
                  clear c0 c1 c2 cn
                  refine (Add_any U (g0.set dd ⟨u, q.more.take 0⟩) dd y W4 H4.out.u).mono ?_
                  rw [HADD.out]
                  rintro e w5 ⟨rfl, hs, hk⟩
                  have H5 := Lib.hid (H4.out.put hs hk hSU hTU' hwU)
                  clear hs hk
                  go_wp2
                  go_roundw
                  case rel => exact ⟨0 + 1, by go_num, by rw [HLS.out], hkm, H5.out⟩
                  case measure => simp [intOf] <;> omega
                · have hk01 : ((k : Int) == 0) = false := beq_eq_false_iff_ne.2 (by omega)
                  clear hlb2
                  go_wp2_with fail
                  clear c0 c1 c2 cn
                  refine (Add_any U (g0.set dd ⟨u, q.more.take k⟩) dd y W4 H4.out.u).mono ?_
                  rw [HADD.out]
                  rintro e w5 ⟨rfl, hs, hk⟩
                  have H5 := Lib.hid (H4.out.put hs hk hSU hTU' hwU)
                  clear hs hk
                  go_wp2
                  go_roundw
                  case rel => exact ⟨k + 1, by go_num, by rw [HLS.out], hkm, H5.out⟩
                  case measure => simp [intOf] <;> omega
              · obtain rfl : k = m := by omega
                have hkI : ¬ (k : Int) < (k : Int) := by omega
                have hqe : (⟨u, q.more.take k⟩ : Nm) = q := by rw [← HU.out, ← HM.out, List.take_length]
                have HQE := Lib.hid hqe
                clear hqe hK
                go_wp2
                go_roundw
                case rel => exact ⟨i + 1, by go_num, hlt, by rw [HNX.out, ← HQE.out]; exact H4.out⟩
                case measure => simp [intOf] <;> omega
          · have hkI : (k : Int) ≤ (u : Int) := by omega
            have HADD := Lib.hid (addS_next g0 dd k hg16 hd16 hk1 (by omega))
            go_wp2_with fail
            clear c0 c1 c2
            refine (Add_any U (g0.set dd ⟨k - 1, []⟩) dd k W2 H2.out.u).mono ?_
            rw [HADD.out]
            rintro e w5 ⟨rfl, hs, hk⟩
            have H5 := Lib.hid (H2.out.put hs hk hSU hTU' hwU)
            clear hs hk
            go_wp2
            go_roundw
            case rel => exact ⟨k + 1, by go_num, by omega, by omega, by rw [Nat.add_sub_cancel]; exact H5.out⟩
            case measure => simp [intOf] <;> omega
    · obtain rfl : i = n := by omega
      have hI : ¬ (i : Int) < (i : Int) := by omega
      have h1 : Tri w S T U f g f B (.slice pp i pc) M W0 := by
        have := H0.out
        rw [← HLN.out, uAt_end HFO.out, HLN.out] at this
        exact this
      have HSM := Lib.hid (same_bytes HFO.out HGO.out)
      have H1 := Lib.hid h1
      clear H0 h1
      obtain ⟨sA, hsA⟩ : ∃ A : ByteArray, A = ⟨(encS f).toArray⟩ := ⟨_, rfl⟩
      obtain ⟨sB, hsB⟩ : ∃ A : ByteArray, A = ⟨(encS g).toArray⟩ := ⟨_, rfl⟩
      have hbq : (sA.toList == sB.toList) = decide (encS f = encS g) := by
        by_cases h : encS f = encS g
        · rw [decide_eq_true h, text_eq_iff, hsA, hsB, h]
        · rw [decide_eq_false h, text_ne_iff, hsA, hsB]
          intro e
          exact h (List.toArray_inj (congrArg ByteArray.data e))
      obtain ⟨bq, hbqe⟩ : ∃ b, decide (encS f = encS g) = b := ⟨_, rfl⟩
      rw [hbqe] at hbq HSM
      have HSA := Lib.hid hsA
      have HSB := Lib.hid hsB
      have HBQ := Lib.hid hbq
      clear hbqe hsA hsB hbq
      go_upto_region 26 with fail
      refine wp_region_held_drew (S := fun W => Tri w S T U f g f B (.slice pp i pc) M W) (by kernel_rfl) (H1.out.below ((Below.refl _ _).drew)) (fun hHeld => ?_)
      refine wpAnyH_take (i := 0) (oi := _) (v := ?_) rfl (by kernel_rfl) (by kernel_rfl) (by kernel_rfl) (fun _ _ _ h => h) (Or.inl ⟨by kernel_rfl, ?hy1⟩) (by assumption) ?_
      case hy1 =>
        intro w9 hSw
        try dsimp only at hSw
        try simp only [List.getElem_toArray, List.getElem_cons_zero, List.getElem_cons_succ]
        go_simp
        try with_reducible rfl
      try simp only [Act.put, List.setIfInBounds_toArray, List.set_cons_zero, List.set_cons_succ, List.getElem_toArray, List.getElem_cons_zero, List.getElem_cons_succ]
      refine wpAnyH_take (i := 3) (oi := _) (v := ?_) rfl (by kernel_rfl) (by kernel_rfl) (by kernel_rfl) (fun _ _ _ h => h) (Or.inl ⟨by kernel_rfl, ?hy2⟩) (by assumption) ?_
      case hy2 =>
        intro w9 hSw
        try dsimp only at hSw
        try simp only [List.getElem_toArray, List.getElem_cons_zero, List.getElem_cons_succ]
        go_simp
        try with_reducible rfl
      try simp only [Act.put, List.setIfInBounds_toArray, List.set_cons_zero, List.set_cons_succ, List.getElem_toArray, List.getElem_cons_zero, List.getElem_cons_succ]
      refine wpAnyH_ready (rs := [1]) (by kernel_rfl) (by simp) (AllReadyH.cons (o := _) rfl (fun K hK => ?_) AllReadyH.nil)
      try simp only [List.getElem_toArray, List.getElem_cons_zero, List.getElem_cons_succ]
      go_simp
      refine (Encode_any S f _ hHeld.s).mono ?_
      rintro e w6 ⟨v6, rfl, ho6, hb6⟩
      refine hK.out _ _ ((hHeld.below hb6)) (fun hHeld => ?_)
      clear hK K
      try simp only [Act.put, List.setIfInBounds_toArray, List.set_cons_zero, List.set_cons_succ, List.getElem_toArray, List.getElem_cons_zero, List.getElem_cons_succ]
      have hX6 : HasA w6 v6 (encS f) := ho6.has0
      have hS6 : Tri w S T U f g f B (.slice pp i pc) M w6 ∧ HasA w6 v6 (encS f) := ⟨hHeld, hX6⟩
      clear hHeld ho6
      refine wpAnyH_more (S' := fun W => Tri w S T U f g f B (.slice pp i pc) M W ∧ HasA W v6 (encS f)) (fun w' h => h.1) _ _ _ _ ?_
      have hHeld := hS6
      refine wpAnyH_take (i := 2) (oi := _) (v := (.string sA)) rfl (by kernel_rfl) (by kernel_rfl) (by kernel_rfl) (fun _ _ _ h => h) (Or.inl ⟨by kernel_rfl, ?hy3⟩) (by assumption) ?_
      case hy3 =>
        intro w9 hSw
        try dsimp only at hSw
        try simp only [List.getElem_toArray, List.getElem_cons_zero, List.getElem_cons_succ]
        go_simp
        have hcv : (convert 38 9 v6).run Try.prog w9 = .ok (.string sA) w9 := by rw [HSA.out]; exact HasA.string (w := w9) hSw.2 0
        rw [hcv]
        rfl
      try simp only [Act.put, List.setIfInBounds_toArray, List.set_cons_zero, List.set_cons_succ, List.getElem_toArray, List.getElem_cons_zero, List.getElem_cons_succ]
      refine wpAnyH_ready (rs := [4]) (by kernel_rfl) (by simp) (AllReadyH.cons (o := _) rfl (fun K hK => ?_) AllReadyH.nil)
      try simp only [List.getElem_toArray, List.getElem_cons_zero, List.getElem_cons_succ]
      go_simp
      refine (Encode_any T g _ hHeld.1.t).mono ?_
      rintro e w7 ⟨v7, rfl, ho7, hb7⟩
      refine hK.out _ _ (⟨hHeld.1.below hb7, hHeld.2.below hb7⟩) (fun hHeld => ?_)
      clear hK K
      try simp only [Act.put, List.setIfInBounds_toArray, List.set_cons_zero, List.set_cons_succ, List.getElem_toArray, List.getElem_cons_zero, List.getElem_cons_succ]
      have hcv7 : (convert 38 9 v7).run Try.prog w7 = .ok (.string sB) w7 := by rw [HSB.out]; exact HasA.string (w := w7) ho7.has0 0
      refine wpAnyH_ready (rs := [5]) (by kernel_rfl) (by simp) (AllReadyH.cons (o := _) rfl (fun K hK => ?_) AllReadyH.nil)
      try simp only [List.getElem_toArray, List.getElem_cons_zero, List.getElem_cons_succ]
      go_simp
      refine hK.out _ _ (hHeld) (fun hHeld => ?_)
      clear hK K
      try simp only [Act.put, List.setIfInBounds_toArray, List.set_cons_zero, List.set_cons_succ, List.getElem_toArray, List.getElem_cons_zero, List.getElem_cons_succ]
      refine wpAnyH_take (i := 6) (oi := _) (v := (.bool bq)) rfl (by kernel_rfl) (by kernel_rfl) (by kernel_rfl) (fun _ _ _ h => h) (Or.inl ⟨by kernel_rfl, ?hy4⟩) (by assumption) ?_
      case hy4 =>
        intro w9 hSw
        try dsimp only at hSw
        try simp only [List.getElem_toArray, List.getElem_cons_zero, List.getElem_cons_succ]
        go_simp
        rw [HBQ.out]
      try simp only [Act.put, List.setIfInBounds_toArray, List.set_cons_zero, List.set_cons_succ, List.getElem_toArray, List.getElem_cons_zero, List.getElem_cons_succ]
      refine wpAnyH_take (i := 7) (oi := _) (v := ?_) rfl (by kernel_rfl) (by kernel_rfl) (by kernel_rfl) (fun _ _ _ h => h) (Or.inl ⟨by kernel_rfl, ?hy5⟩) (by assumption) ?_
      case hy5 =>
        intro w9 hSw
        try dsimp only at hSw
        try simp only [List.getElem_toArray, List.getElem_cons_zero, List.getElem_cons_succ]
        go_simp
        try with_reducible rfl
      try simp only [Act.put, List.setIfInBounds_toArray, List.set_cons_zero, List.set_cons_succ, List.getElem_toArray, List.getElem_cons_zero, List.getElem_cons_succ]
      refine wpAnyH_done (by kernel_rfl) ?_ _
      have H7 := Lib.hid hHeld.1
      clear hHeld hcv7 ho7 hb7 hb6 hS6 hX6 HSA HSB HBQ
      go_wp2_with fail
      refine (Within_any U S f f w7 H7.out.u H7.out.s).mono ?_
      rw [withinS_refl]
      rintro e w8 ⟨rfl, hb8⟩
      have H8 := Lib.hid (H7.out.below hb8)
      clear hb8
      go_wp2_with fail
      refine (Within_any S U f f w8 H8.out.s H8.out.u).mono ?_
      rw [withinS_refl]
      rintro e w10 ⟨rfl, hb10⟩
      have H10 := Lib.hid (H8.out.below hb10)
      clear hb10
      go_wp2_with fail
      refine (Within_any S T f g w10 H10.out.s H10.out.t).mono ?_
      obtain ⟨q1, hq1⟩ : ∃ b, withinS f g = b := ⟨_, rfl⟩
      obtain ⟨q2, hq2⟩ : ∃ b, withinS g f = b := ⟨_, rfl⟩
      rw [hq1, hq2] at HSM
      rw [hq1]
      have HQ2 := Lib.hid hq2
      clear hq1 hq2
      rintro e w11 ⟨rfl, hb11⟩
      have H11 := Lib.hid (H10.out.below hb11)
      clear hb11
      obtain rfl := HSM.out
      cases q1 with
      | false =>
        go_wp2
        go_ret
        exact ⟨rfl, H11.out.b⟩
      | true =>
        go_wp2_with fail
        refine (Within_any T S g f w11 H11.out.t H11.out.s).mono ?_
        rw [HQ2.out]
        rintro e w12 ⟨rfl, hb12⟩
        have H12 := Lib.hid (H11.out.below hb12)
        clear hb12
        cases q2 <;>
        (go_wp2
         go_ret
         exact ⟨rfl, H12.out.b⟩)
end Go.Proofs.Ytfgfamafjkjakab
