/-
  The document's own laying of a number (rolodexref3.Uint).
  The document's own bytes of a list of dots (rolodexref13.Encode).
-/
import Derived.Test.YtfgfamafjkjakaaPut
import Derived.Test.YtfgfamafjkjakaaDotRefPt
import Derived.Test.YtfgfamafjkjakaaDotEncode
namespace Go.Proofs.Ytfgfamafjkjakaa
open Go.ChangeShapes Go.WideShapes Go.ChangeAt Go.RowKit Go.Deep
set_option linter.unusedVariables false
/-- A block of literal bytes that was just made is the call's own. -/
theorem own_one (w : World) (B : Nat) (T : TypeId) (k : Nat) (z : Int) (hk : k < 256) (hz : z = k) (hB : B ≤ w.heap.size) : Own (w.alloc (.cells #[.int .u8 z] T)) B T (.slice (some ⟨w.heap.size, 0, none⟩) 1 1) [k.toUInt8] := by
  subst hz
  refine ⟨rfl, .inr ⟨w.heap.size, 1, _, rfl, hB, heap_alloc_new _ _, Nat.le_refl _, by unfold maxLen; omega, rfl, ?_⟩⟩
  simp [Lib.byteCells, Nat.mod_eq_of_lt hk]
theorem uv_big (x : Nat) (h : 128 ≤ x) : Lib.uvarint x = [(x % 128 + 128).toUInt8] ++ Lib.uvarint (x / 128) := by rw [Lib.uvarint_big h]; rfl

set_option maxRecDepth 100000 in
theorem RefUint_any : ∀ (n x : Nat), x ≤ n → x < 18446744073709551616 → ∀ w : World,
    Calls Try.prog 48 #[.int .u64 x] w fun e w' => ∃ v', e = .returned v' ∧ Own w' w.heap.size 5 v' (Lib.uvarint x) ∧ Below w.heap.size w w' := by
  intro n
  induction n with
  | zero =>
    intro x h0 hx w
    obtain rfl : x = 0 := by omega
    go_enter Try.func48, Try.ntmps48
    go_wp2
    go_ret
    exact ⟨_, rfl, by rw [Lib.uvarint_small (by omega)]; exact own_one w _ _ 0 _ (by omega) rfl (Nat.le_refl _), (Below.refl _ _).alloc (Nat.le_refl _) _⟩
  | succ n ih =>
    intro x h0 hx w
    have IH := Lib.hid ih
    clear ih
    by_cases h128 : x < 128
    · go_enter Try.func48, Try.ntmps48
      go_wp2
      go_ret
      exact ⟨_, rfl, by rw [Lib.uvarint_small (by omega)]; exact own_one w _ _ x _ (by omega) (by omega) (Nat.le_refl _), (Below.refl _ _).alloc (Nat.le_refl _) _⟩
    · have hl := uv_len hx
      have hbig := uv_big x (by omega)
      have hl2 : (Lib.uvarint (x / 128)).length ≤ 9 := by rw [hbig, List.length_append] at hl; simp at hl; omega
      have HBIG := Lib.hid hbig
      clear hbig hl
      go_enter Try.func48, Try.ntmps48
      go_wp2_with fail
      refine (IH.out (x / 128) (by omega) (by omega) _).mono ?_
      rintro e w2 ⟨v2, rfl, ho, hb⟩
      have HO := Lib.hid ho
      have HB := Lib.hid (((Below.refl w.heap.size w).alloc (Nat.le_refl _) _).trans (hb.mono (by simp)))
      have H1 := Lib.hid ((own_one w w.heap.size 5 (x % 128 + 128) ((x : Int) % 128 + 128) (by omega) (by omega) (Nat.le_refl _)).below hb)
      have hsz := HB.out.size
      clear ho hb
      obtain ⟨zs, hzs⟩ : ∃ zs, zs = [(x % 128 + 128).toUInt8] ++ Lib.uvarint (x / 128) := ⟨_, rfl⟩
      have HZ := Lib.hid hzs
      clear hzs
      go_wp2_with (at_builtin; refine wpList_append_has rfl (.tmp 12) (.tmp 15) 28 rfl w.heap.size 5 Try.underlying28 info_u8 _ [(x % 128 + 128).toUInt8] rfl H1.out _ (Lib.uvarint (x / 128)) zs rfl HO.out.has HZ.out (by simp; omega) hsz w HB.out ?_)
      intro v3 w3 ho hb
      have HO3 := Lib.hid ho
      have HB3 := Lib.hid hb
      clear ho hb
      go_wp2
      go_ret
      exact ⟨v3, rfl, by rw [HBIG.out, ← HZ.out]; exact HO3.out, HB3.out⟩
theorem RefUint (x : Nat) (hx : x < 18446744073709551616) (w : World) :
    Calls Try.prog 48 #[.int .u64 x] w fun e w' => ∃ v', e = .returned v' ∧ Own w' w.heap.size 5 v' (Lib.uvarint x) ∧ Below w.heap.size w w' := RefUint_any x x (Nat.le_refl _) hx w

end Go.Proofs.Ytfgfamafjkjakaa
namespace Go.Proofs.Ytfgfamafjkjakaa
open Go.ChangeShapes Go.WideShapes Go.ChangeAt Go.RowKit Go.Deep
set_option linter.unusedVariables false
set_option linter.unusedSimpArgs false
theorem OwnK.numAt' {w : World} {B : Nat} {e : TypeId} {p : Option Addr} {n cap : Nat} {l : List Nat} (h : OwnK w B e (encN .u64) (.slice p n cap) l) (k : Nat) (hk : k < l.length) : ∃ g, p = some ⟨g, 0, none⟩ ∧ w.cell? ⟨g, k, none⟩ = some (.int .u64 ((l.getD k 0 : Nat) : Int)) ∧ B ≤ g ∧ g < w.heap.size := by
  obtain ⟨g, cap', e, h1, h2, _, _, hc, _⟩ := h.form (by omega)
  simp only [Value.slice.injEq] at e
  refine ⟨g, e.1, ?_, h1, h2⟩
  have := hc k hk 0 _ rfl
  rw [List.getD_eq_getElem?_getD, List.getElem?_eq_getElem hk]
  rw [show k * (encN .u64).k + 0 = k from Nat.mul_one k] at this
  exact this
theorem OwnK.caps' {w : World} {B : Nat} {e : TypeId} {α : Type} {E : Enc α} {p : Option Addr} {n cap : Nat} {l : List α} (h : OwnK w B e E (.slice p n cap) l) : n ≤ cap ∧ (cap : Int) ≤ 9223372036854775807 := by
  obtain ⟨p', cap', e, h1, h2⟩ := h.sl
  simp only [Value.slice.injEq] at e
  obtain ⟨_, rfl, rfl⟩ := e
  exact ⟨h1, by unfold maxLen at h2; omega⟩
set_option maxRecDepth 100000 in
set_option maxHeartbeats 32000000 in
theorem RefEnc_any (v : Value) (l : List (Int × Nat)) (f : List Nm) (w : World) (hv : HasK w encD v l) (hl : l.length ≤ 1000) (hT : Tie f l) (hO : OkS f) :
    Calls Try.prog 38 #[v] w fun e w' => ∃ v', e = .returned v' ∧ Own w' w.heap.size 5 v' (encS f) ∧ Below w.heap.size w w' := by
  have hpo : ∀ x ∈ partsS f, x.1 < 16 ∧ x.2.Ok ∧ x.2.more.length ≤ 4096 := fun x hx => by
    obtain ⟨h1, h2, _⟩ := parts_mem hx
    rw [h2]
    exact ⟨h1, hO.2 _ h1⟩
  have hpl : (partsS f).length ≤ 16 := partsUpto_len f 16
  have hes : encS f = encParts (partsS f) (partsS f).length := rfl
  have HES := Lib.hid hes
  have HPO := Lib.hid hpo
  have HPL := Lib.hid hpl
  have HTP := Lib.hid hT.parts
  clear hpo hes hpl
  go_enter Try.func38, Try.ntmps38
  go_wp2_with fail
  refine (RefParts_any v l w hv hl hT.good).mono ?_
  rintro e w1 ⟨pv, M, rfl, hM, hMp, hb1⟩
  rw [HTP.out] at hMp
  obtain ⟨B, hB⟩ : ∃ B, w.heap.size = B := ⟨_, rfl⟩
  rw [hB] at hM hb1
  have HBB := Lib.hid hB
  obtain ⟨L, hL⟩ : ∃ L, partsS f = L := ⟨_, rfl⟩
  rw [hL] at hMp HES HPO HPL
  obtain ⟨n, hn⟩ : ∃ n, M.length = n := ⟨_, rfl⟩
  have hLn : L.length = n := by rw [← hMp, List.length_map, hn]
  have hn16 : n ≤ 16 := by rw [← hLn]; exact HPL.out
  have hNI : (n : Int) ≤ 16 := by omega
  obtain ⟨p1, c1, rfl, hc1, hc2⟩ := hM.row.sl
  have hcI : (c1 : Int) ≤ 9223372036854775807 := by unfold maxLen at hc2; omega
  rw [hn] at hM hc1 ⊢
  have HB1 := Lib.hid hb1
  have HM := Lib.hid hM
  have HMP := Lib.hid hMp
  have HN := Lib.hid hn
  have HLN := Lib.hid hLn
  clear hv hT hO hM hMp hb1 hL hn hLn hB hc2
  go_wp2_with fail
  refine (RefUint n (by omega) w1).mono ?_
  rintro e w2 ⟨v2, rfl, ho2, hb2⟩
  have HO2 := Lib.hid ho2
  have HB2 := Lib.hid hb2
  clear ho2 hb2
  have hu0 := uv_len (x := n) (by omega)
  have hz2 : w1.heap.size ≤ w2.heap.size := HB2.out.size
  go_wp2_with fail
  go_loopw [4, 5] (fun v4 vi wr => ∃ (k : Nat) (bs : List UInt8), vi = .int .i64 (k : Int) ∧ k ≤ n ∧ bs = encParts L k ∧ Own wr w1.heap.size 5 v4 bs ∧ bs.length ≤ 10 + k * 41000 ∧ Below w1.heap.size w1 wr) (fun _ vi _ => n - (intOf vi).toNat)
  case atStart => exact ⟨0, _, rfl, Nat.zero_le _, by rw [encParts_zero, HLN.out], HO2.out, by omega, HB2.out⟩
  case round =>
    obtain ⟨k, bs, rfl, hk, hbs, ho, hbl, hb⟩ := hrel
    have HBS := Lib.hid hbs
    have HO := Lib.hid ho
    have HB := Lib.hid hb
    obtain ⟨W0, rfl⟩ : ∃ W0, W0 = wr := ⟨wr, rfl⟩
    clear hbs ho hb
    rcases Nat.lt_or_ge k n with hlt | hge
    · have hkI : (k : Int) < (n : Int) := by omega
      have hk0 : (0 : Int) ≤ (k : Int) := by omega
      have hkM : k < M.length := by rw [HN.out]; exact hlt
      have hkL : k < L.length := by rw [HLN.out]; exact hlt
      obtain ⟨G, rfl, -, -, -⟩ := HM.out.place (by omega)
      have hLk : L[k] = M[k].pair := by
        have : L[k] = (M.map Pt.pair)[k]'(by rw [List.length_map]; exact hkM) := by simp only [HMP.out]
        rw [this, List.getElem_map]
      have hok := HPO.out _ (List.getElem_mem hkL)
      have hstep := encParts_step L k hkL
      rw [hLk] at hok hstep
      have HPA := Lib.hid (fun (W : World) (hb : Below w1.heap.size w1 W) => (HM.out.below hb).part k hkM)
      obtain ⟨x, hx⟩ : ∃ x, M[k] = x := ⟨_, rfl⟩
      rw [hx] at hok hstep HPA
      obtain ⟨dv, q, px, cx⟩ := x
      simp only at HPA
      obtain ⟨hd16, hqo, hql⟩ := hok
      simp only [Pt.pair] at hd16 hqo hql hstep
      obtain ⟨m, hm⟩ : ∃ m, q.more.length = m := ⟨_, rfl⟩
      rw [hm] at hql HPA
      have HMM := Lib.hid hm
      have HQO := Lib.hid hqo
      have HST := Lib.hid hstep
      have hqu := hqo.most
      obtain ⟨-, -, -, hkk⟩ := HPA.out W0 HB.out
      obtain ⟨hmc, hmcI⟩ := hkk.caps'
      have hmI : (m : Int) ≤ 4096 := by omega
      have hquI : (q.upto : Int) ≤ 1099511627776 := by omega
      have hlud := uv_len (x := dv) (by omega)
      have hluu := uv_len (x := q.upto) (by omega)
      have hlum := uv_len (x := m) (by omega)
      clear hx hLk hstep hqo hm hkk
      obtain ⟨c0, c1', c2, -⟩ := HPA.out W0 HB.out
      go_wp2_with fail
      clear c0 c1' c2
      refine (RefUint dv (by omega) W0).mono ?_
      rintro e wa6 ⟨va6, rfl, hou, hbu⟩
      have HU6 := Lib.hid hou
      have HOa6 := Lib.hid (HO.out.below hbu)
      have HBa6 := Lib.hid (HB.out.trans (hbu.mono HB.out.size))
      have hza6 : w1.heap.size ≤ wa6.heap.size := HBa6.out.size
      clear hou hbu
      go_upto_region 7 with (at_builtin; refine wpList_append_hasA rfl (.tmp 20) (.tmp 27) 28 rfl w1.heap.size 5 Try.underlying28 info_u8 _ (bs) rfl HOa6.out _ (Lib.uvarint dv) _ rfl HU6.out.has0 rfl (by (try simp only [List.length_append]); omega) hza6 w1 HBa6.out (fun vb6 wb6 hov hbv => ?_))
      have HOb6 := Lib.hid hov
      have HBb6 := Lib.hid hbv
      clear hov hbv
      obtain ⟨c0, c1', c2, -⟩ := HPA.out wb6 HBb6.out
      go_wp2_with fail
      clear c0 c1' c2
      refine (RefUint q.upto (by omega) wb6).mono ?_
      rintro e wa7 ⟨va7, rfl, hou, hbu⟩
      have HU7 := Lib.hid hou
      have HOa7 := Lib.hid (HOb6.out.below hbu)
      have HBa7 := Lib.hid (HBb6.out.trans (hbu.mono HBb6.out.size))
      have hza7 : w1.heap.size ≤ wa7.heap.size := HBa7.out.size
      clear hou hbu
      go_upto_region 8 with (at_builtin; refine wpList_append_hasA rfl (.tmp 29) (.tmp 35) 28 rfl w1.heap.size 5 Try.underlying28 info_u8 _ (bs ++ Lib.uvarint dv) rfl HOa7.out _ (Lib.uvarint q.upto) _ rfl HU7.out.has0 rfl (by (try simp only [List.length_append]); omega) hza7 w1 HBa7.out (fun vb7 wb7 hov hbv => ?_))
      have HOb7 := Lib.hid hov
      have HBb7 := Lib.hid hbv
      clear hov hbv
      obtain ⟨c0, c1', c2, -⟩ := HPA.out wb7 HBb7.out
      go_wp2_with fail
      clear c0 c1' c2
      refine (RefUint m (by omega) wb7).mono ?_
      rintro e wa8 ⟨va8, rfl, hou, hbu⟩
      have HU8 := Lib.hid hou
      have HOa8 := Lib.hid (HOb7.out.below hbu)
      have HBa8 := Lib.hid (HBb7.out.trans (hbu.mono HBb7.out.size))
      have hza8 : w1.heap.size ≤ wa8.heap.size := HBa8.out.size
      clear hou hbu
      go_upto_region 9 with (at_builtin; refine wpList_append_hasA rfl (.tmp 37) (.tmp 45) 28 rfl w1.heap.size 5 Try.underlying28 info_u8 _ (bs ++ Lib.uvarint dv ++ Lib.uvarint q.upto) rfl HOa8.out _ (Lib.uvarint m) _ rfl HU8.out.has0 rfl (by (try simp only [List.length_append]); omega) hza8 w1 HBa8.out (fun vb8 wb8 hov hbv => ?_))
      have HOb8 := Lib.hid hov
      have HBb8 := Lib.hid hbv
      clear hov hbv
      obtain ⟨c0, c1', c2, -⟩ := HPA.out wb8 HBb8.out
      go_wp2_with fail
      clear c0 c1' c2
      obtain ⟨pre, hpre⟩ : ∃ pre, bs ++ Lib.uvarint dv ++ Lib.uvarint q.upto ++ Lib.uvarint m = pre := ⟨_, rfl⟩
      have hprl : pre.length ≤ bs.length + 30 := by rw [← hpre]; simp only [List.length_append]; omega
      have HPRE := Lib.hid hpre
      rw [hpre] at HOb8
      clear hpre
      go_loopw [4, 6, 7] (fun v4 v6 vi wr => ∃ (j : Nat), vi = .int .i64 (j : Int) ∧ v6 = .int .u64 ((lastN q j : Nat) : Int) ∧ j ≤ m ∧ Own wr w1.heap.size 5 v4 (pre ++ encMore q j) ∧ Below w1.heap.size w1 wr) (fun _ _ vi _ => m - (intOf vi).toNat)
      case atStart => exact ⟨0, rfl, rfl, Nat.zero_le _, by show Own _ _ _ _ (pre ++ []); rw [List.append_nil]; exact HOb8.out, HBb8.out⟩
      case round =>
        obtain ⟨j, rfl, rfl, hj, ho, hb⟩ := hrel
        have HO9 := Lib.hid ho
        have HB9 := Lib.hid hb
        obtain ⟨W9, rfl⟩ : ∃ W9, W9 = wr := ⟨wr, rfl⟩
        have hcml := encMore_len HQO.out j (by rw [HMM.out]; exact hj)
        clear ho hb
        obtain ⟨c0, c1', c2, hK⟩ := HPA.out W9 HB9.out
        rcases Nat.lt_or_ge j m with hjl | hjg
        · have hjI : (j : Int) < (m : Int) := by omega
          have hj0 : (0 : Int) ≤ (j : Int) := by omega
          have hjq : j < q.more.length := by rw [HMM.out]; exact hjl
          obtain ⟨Gm, rfl, hcy, hGm1, hGm2⟩ := hK.numAt' j hjq
          have hyl := lastN_le HQO.out j hjq
          have hym := getD_most HQO.out j hjq
          have hst := encMore_step q j
          have hls := lastN_step q j
          have hGmw : Gm < w1.heap.size := by
            obtain ⟨g', e1, _, _, h4⟩ := OwnK.numAt' (HPA.out w1 (Below.refl _ _)).2.2.2 j hjq
            simp only [Option.some.injEq, Addr.mk.injEq, and_true] at e1
            rw [e1]
            exact h4
          obtain ⟨y, hy⟩ : ∃ y, q.more.getD j 0 = y := ⟨_, rfl⟩
          obtain ⟨x, hx⟩ : ∃ x, lastN q j = x := ⟨_, rfl⟩
          rw [hy] at hcy hyl hym hst hls
          rw [hx] at hyl hst ⊢
          have HST2 := Lib.hid hst
          have HLS := Lib.hid hls
          have hsub : ((y : Int) - (x : Int)) = ((y - x : Nat) : Int) := by omega
          have hsubI : (0 : Int) ≤ ((y - x : Nat) : Int) ∧ ((y - x : Nat) : Int) < 18446744073709551616 := by omega
          have hwr : IntKind.u64.wrap ((y : Int) - (x : Int)) = ((y - x : Nat) : Int) := by rw [IntKind.wrap_u64]; omega
          have hcyw : ∀ W, Below w1.heap.size w1 W → W.cell? ⟨Gm, j, none⟩ = some (.int .u64 (y : Int)) := fun W hW => by
            have h1 := HB9.out.cell (p := ⟨Gm, j, none⟩) hGmw
            have h2 := hW.cell (p := ⟨Gm, j, none⟩) hGmw
            rw [h2, ← h1]
            exact hcy
          have HCY := Lib.hid hcyw
          clear hy hx hst hls hK hcyw
          go_wp2_with fail
          clear c0 c1' c2 hcy
          refine (RefUint (y - x) (by omega) W9).mono ?_
          rintro e wa ⟨vua, rfl, hou, hbu⟩
          have hlua := uv_len (x := y - x) (by omega)
          have HOUa := Lib.hid hou
          have HOa := Lib.hid (HO9.out.below hbu)
          have HBa := Lib.hid (HB9.out.trans (hbu.mono HB9.out.size))
          have hzaa : w1.heap.size ≤ wa.heap.size := HBa.out.size
          clear hou hbu
          go_upto_region 14 with (at_builtin; refine wpList_append_hasA rfl (.tmp 62) (.tmp 73) 28 rfl w1.heap.size 5 Try.underlying28 info_u8 _ (pre ++ encMore q j) rfl HOa.out _ (Lib.uvarint (y - x)) _ rfl HOUa.out.has0 rfl (by (try simp only [List.length_append]); omega) hzaa w1 HBa.out (fun vb wb hov hbv => ?_))
          have HOb := Lib.hid hov
          have HBb := Lib.hid hbv
          have hcy := HCY.out wb hbv
          obtain ⟨c0, c1', c2, -⟩ := HPA.out wb hbv
          clear hov hbv
          go_wp2
          go_roundw
          case rel => exact ⟨j + 1, by go_num, by rw [HLS.out], hjl, by rw [HST2.out, ← List.append_assoc]; exact HOb.out, HBb.out⟩
          case measure => simp [intOf] <;> omega
        · obtain rfl : j = m := by omega
          have hjI : ¬ (j : Int) < (j : Int) := by omega
          clear hK
          go_wp2
          go_roundw
          case rel =>
            have he : pre ++ encMore q j = encParts L (k + 1) := by
              rw [HST.out, ← HPRE.out, HBS.out, encPart, encHead]
              simp only [HMM.out, List.append_assoc]
            refine ⟨k + 1, _, by go_num, hlt, he, HO9.out, by rw [List.length_append]; omega, HB9.out⟩
          case measure => simp [intOf] <;> omega
    · obtain rfl : k = n := by omega
      have hkI : ¬ (k : Int) < (k : Int) := by omega
      go_wp2
      go_ret
      exact ⟨_, rfl, by rw [HES.out, HLN.out, ← HBS.out]; exact HO.out.mono HB1.out.size, by rw [HBB.out]; exact HB1.out.trans (HB.out.mono (by have := HB1.out.size; rw [HBB.out] at this; exact this))⟩
end Go.Proofs.Ytfgfamafjkjakaa
