/-
  Package dot: a set laid into bytes.
-/
import Derived.Test.YtfgfamafjkjakaaDotEnc
import Derived.Test.YtfgfamafjkjakaaDotParts
import Derived.Test.YtfgfamafjkjakaaAppG
import Derived.Test.YtfgfamafjkjakaaReader2
namespace Go.Proofs.Ytfgfamafjkjakaa
open Go.ChangeShapes Go.WideShapes Go.ChangeAt Go.RowKit Go.Deep
set_option linter.unusedVariables false
set_option linter.unusedSimpArgs false
theorem Own.has0 {w : World} {B : Nat} {e : TypeId} {v : Value} {l : List UInt8} (h : Own w B e v l) : HasA w v l := Has.wide h.has
set_option maxRecDepth 100000 in
set_option maxHeartbeats 16000000 in
theorem Encode_any (R : Nat) (f : List Nm) (w : World) (hS : SetIs w R f) :
    Calls Try.prog 18 #[.pointer (some ⟨R, 0, none⟩)] w fun e w' => ∃ v, e = .returned v ∧ Own w' w.heap.size 5 v (encS f) ∧ Below w.heap.size w w' := by
  have hpo := parts_ok hS
  have hpl : (partsS f).length ≤ 16 := partsUpto_len f 16
  have hes : encS f = encParts (partsS f) (partsS f).length := rfl
  have HES := Lib.hid hes
  have HPO := Lib.hid hpo
  have HPL := Lib.hid hpl
  clear hpo hes hpl
  go_enter Try.func18, Try.ntmps18
  go_wp2_with fail
  refine (Parts_any R f w hS).mono ?_
  rintro e w1 ⟨pv, M, rfl, hM, hMp, hb1⟩
  obtain ⟨B, hB⟩ : ∃ B, w.heap.size = B := ⟨_, rfl⟩
  rw [hB] at hM hb1
  have HBB := Lib.hid hB
  obtain ⟨L, hL⟩ : ∃ L, partsS f = L := ⟨_, rfl⟩
  rw [hL] at hMp HES HPO HPL
  obtain ⟨n, hn⟩ : ∃ n, M.length = n := ⟨_, rfl⟩
  have hLn : L.length = n := by rw [← hMp, List.length_map, hn]
  have hn16 : n ≤ 16 := by rw [← hLn]; exact HPL.out
  have hNI : (n : Int) ≤ 16 := by omega
  obtain ⟨p1, c1, rfl, hc1, hc2⟩ := hM.row.sl
  have hcI : (c1 : Int) ≤ 9223372036854775807 := by unfold maxLen at hc2; omega
  rw [hn] at hM hc1 ⊢
  have HB1 := Lib.hid hb1
  have HM := Lib.hid hM
  have HMP := Lib.hid hMp
  have HL := Lib.hid hL
  have HN := Lib.hid hn
  have HLN := Lib.hid hLn
  clear hS hM hMp hb1 hL hn hLn hB hc2
  go_wp2_with fail
  refine (Uint_any n (by omega) _ [] w1 (has_nil _) (by decide)).mono ?_
  rintro e w2 ⟨v2, rfl, ho2, hb2⟩
  rw [List.nil_append] at ho2
  have HO2 := Lib.hid ho2
  have HB2 := Lib.hid hb2
  clear ho2 hb2
  have hu0 := uv_len (x := n) (by omega)
  have hz2 : w1.heap.size ≤ w2.heap.size := HB2.out.size
  go_wp2_with fail
  go_loopw [4, 18] (fun v4 vi wr => ∃ (k : Nat) (bs : List UInt8), vi = .int .i64 (k : Int) ∧ k ≤ n ∧ bs = encParts L k ∧ Own wr w1.heap.size 5 v4 bs ∧ bs.length ≤ 10 + k * 41000 ∧ Below w1.heap.size w1 wr) (fun _ vi _ => n - (intOf vi).toNat)
  case atStart => exact ⟨0, _, rfl, Nat.zero_le _, by rw [encParts_zero, HLN.out], HO2.out, by omega, HB2.out⟩
  case round =>
    obtain ⟨k, bs, rfl, hk, hbs, ho, hbl, hb⟩ := hrel
    have HBS := Lib.hid hbs
    have HO := Lib.hid ho
    have HB := Lib.hid hb
    obtain ⟨W0, rfl⟩ : ∃ W0, W0 = wr := ⟨wr, rfl⟩
    rcases Nat.lt_or_ge k n with hlt | hge
    · have hkI : (k : Int) < (n : Int) := by omega
      have hk0 : (0 : Int) ≤ (k : Int) := by omega
      have hkM : k < M.length := by rw [HN.out]; exact hlt
      have hkL : k < L.length := by rw [HLN.out]; exact hlt
      obtain ⟨b, o, cap2, p2, hpe, -, -, HPP, HC2⟩ := (HM.out.below hb).row.has.open
      simp only [Value.slice.injEq] at hpe
      obtain ⟨rfl, -, rfl⟩ := hpe
      obtain ⟨rfl, hbl2⟩ := HPP.out (by omega)
      have hcx := HC2.out k hkM
      have hLk : L[k] = M[k].pair := by
        have : L[k] = (M.map Pt.pair)[k]'(by rw [List.length_map]; exact hkM) := by simp only [HMP.out]
        rw [this, List.getElem_map]
      have hok := HPO.out _ (List.getElem_mem hkL)
      have hstep := encParts_step L k hkL
      rw [hLk] at hok hstep
      have heach := HM.out.each _ (List.getElem_mem hkM)
      obtain ⟨⟨dv, q, px, cx⟩, hx⟩ : ∃ x, M[k] = x := ⟨_, rfl⟩
      rw [hx] at hcx hok hstep heach
      have d0 := hcx 0 _ rfl
      have d1 := hcx 1 _ rfl
      have d2 := hcx 2 _ rfl
      rw [show encP.k = 3 from rfl] at d0 d1 d2
      rw [Nat.add_zero] at d0
      obtain ⟨hd16, hqo, hql⟩ := hok
      simp only [Pt.pair, Pt.val] at hd16 hqo hql hstep heach d0 d1 d2
      obtain ⟨m, hm⟩ : ∃ m, q.more.length = m := ⟨_, rfl⟩
      rw [hm] at hql heach d2
      have HMM := Lib.hid hm
      have HQO := Lib.hid hqo
      have HST := Lib.hid hstep
      have HEA := Lib.hid heach
      have hqu := hqo.most
      clear hx hcx hLk hstep heach hqo hm HC2 HPP ho hb hbs
      go_upto_region 6 with fail
      have hb3 := (Below.refl W0.heap.size W0).alloc (Nat.le_refl _) (.cells #[.int .i64 (dv : Int), .int .u64 (q.upto : Int), .slice px m cx] 53)
      have hn3 := heap_alloc_new W0 (.cells #[.int .i64 (dv : Int), .int .u64 (q.upto : Int), .slice px m cx] 53)
      have hz3 : (W0.alloc (.cells #[.int .i64 (dv : Int), .int .u64 (q.upto : Int), .slice px m cx] 53)).heap.size = W0.heap.size + 1 := World.size_alloc _ _
      generalize W0.alloc (.cells #[.int .i64 (dv : Int), .int .u64 (q.upto : Int), .slice px m cx] 53) = w3 at *
      obtain ⟨G, hG⟩ : ∃ G, W0.heap.size = G := ⟨_, rfl⟩
      have hv3 : u4.ownBlock ≠ some G := fun e => by
        have := (World.ownsRow.lt HO.out _ e).2
        omega
      have HB3 := Lib.hid (HB.out.trans (hb3.mono HB.out.size))
      have HO3 := Lib.hid (HO.out.below hb3)
      rw [hG] at hn3 hz3 ⊢
      have HN3 := Lib.hid hn3
      have HV3 := Lib.hid hv3
      have hgz3 : G < w3.heap.size := by omega
      have hdv : (0 : Int) ≤ (dv : Int) ∧ (dv : Int) < 18446744073709551616 := by omega
      have hmI : (0 : Int) ≤ (m : Int) ∧ (m : Int) < 18446744073709551616 := by omega
      have hquI : (0 : Int) ≤ (q.upto : Int) ∧ (q.upto : Int) < 18446744073709551616 := by omega
      have hgw1 : w1.heap.size ≤ G := by rw [← hG]; exact HB.out.size
      clear hb3 hn3 hG d0 d1 d2 hz3 hv3
      have hnn := HN3.out
      have c0 : w3.cell? ⟨G, 0, none⟩ = some (.int .i64 (dv : Int)) := by simp [World.cell?, hnn]
      clear hnn
      go_wp2_with fail
      refine (Uint_any (dv) (by omega) _ [] w3 (has_nil _) (by decide)).mono ?_
      rintro e w4 ⟨vu4, rfl, hou, hbu⟩
      rw [List.nil_append] at hou
      have hlu4 := uv_len (x := dv) (by omega)
      have HOU4 := Lib.hid hou
      have HO4 := Lib.hid (HO3.out.below hbu)
      have HB4 := Lib.hid (HB3.out.trans (hbu.mono HB3.out.size))
      have HN4 := Lib.hid ((hbu.block G hgz3).trans HN3.out)
      have hgz4 : G < w4.heap.size := Nat.lt_of_lt_of_le hgz3 hbu.size
      have hza4 : w1.heap.size ≤ w4.heap.size := HB4.out.size
      clear hou hbu c0
      go_upto_region 7 with (at_builtin; refine wpList_append_hasG rfl (.tmp 22) (.tmp 26) 28 rfl w1.heap.size 5 Try.underlying28 info_u8 _ (bs) rfl HO4.out _ (Lib.uvarint dv) rfl HOU4.out.has0 (Lib.uvarint_pos _) (by (try simp only [List.length_append]); omega) hza4 w1 HB4.out G hgz4 HV3.out (fun vv5 w5 hov hbv hgv hvv hzv => ?_))
      have HO5 := Lib.hid hov
      have HB5 := Lib.hid hbv
      have HN5 := Lib.hid (hgv.trans HN4.out)
      have HV5 := Lib.hid hvv
      have hgz5 : G < w5.heap.size := Nat.lt_of_lt_of_le hgz4 hzv
      clear hov hbv hgv hvv hzv
      have hnn := HN5.out
      have c1 : w5.cell? ⟨G, 1, none⟩ = some (.int .u64 (q.upto : Int)) := by simp [World.cell?, hnn]
      clear hnn
      go_wp2_with fail
      refine (Uint_any (q.upto) (by omega) _ [] w5 (has_nil _) (by decide)).mono ?_
      rintro e w6 ⟨vu6, rfl, hou, hbu⟩
      rw [List.nil_append] at hou
      have hlu6 := uv_len (x := q.upto) (by omega)
      have HOU6 := Lib.hid hou
      have HO6 := Lib.hid (HO5.out.below hbu)
      have HB6 := Lib.hid (HB5.out.trans (hbu.mono HB5.out.size))
      have HN6 := Lib.hid ((hbu.block G hgz5).trans HN5.out)
      have hgz6 : G < w6.heap.size := Nat.lt_of_lt_of_le hgz5 hbu.size
      have hza6 : w1.heap.size ≤ w6.heap.size := HB6.out.size
      clear hou hbu c1
      go_upto_region 8 with (at_builtin; refine wpList_append_hasG rfl (.tmp 28) (.tmp 31) 28 rfl w1.heap.size 5 Try.underlying28 info_u8 _ (bs ++ Lib.uvarint dv) rfl HO6.out _ (Lib.uvarint q.upto) rfl HOU6.out.has0 (Lib.uvarint_pos _) (by (try simp only [List.length_append]); omega) hza6 w1 HB6.out G hgz6 HV5.out (fun vv7 w7 hov hbv hgv hvv hzv => ?_))
      have HO7 := Lib.hid hov
      have HB7 := Lib.hid hbv
      have HN7 := Lib.hid (hgv.trans HN6.out)
      have HV7 := Lib.hid hvv
      have hgz7 : G < w7.heap.size := Nat.lt_of_lt_of_le hgz6 hzv
      clear hov hbv hgv hvv hzv
      have hnn := HN7.out
      have c2 : w7.cell? ⟨G, 2, none⟩ = some (.slice px m cx) := by simp [World.cell?, hnn]
      clear hnn
      go_wp2_with fail
      refine (Uint_any (m) (by omega) _ [] w7 (has_nil _) (by decide)).mono ?_
      rintro e w8 ⟨vu8, rfl, hou, hbu⟩
      rw [List.nil_append] at hou
      have hlu8 := uv_len (x := m) (by omega)
      have HOU8 := Lib.hid hou
      have HO8 := Lib.hid (HO7.out.below hbu)
      have HB8 := Lib.hid (HB7.out.trans (hbu.mono HB7.out.size))
      have HN8 := Lib.hid ((hbu.block G hgz7).trans HN7.out)
      have hgz8 : G < w8.heap.size := Nat.lt_of_lt_of_le hgz7 hbu.size
      have hza8 : w1.heap.size ≤ w8.heap.size := HB8.out.size
      clear hou hbu c2
      go_upto_region 9 with (at_builtin; refine wpList_append_hasG rfl (.tmp 33) (.tmp 38) 28 rfl w1.heap.size 5 Try.underlying28 info_u8 _ (bs ++ Lib.uvarint dv ++ Lib.uvarint q.upto) rfl HO8.out _ (Lib.uvarint m) rfl HOU8.out.has0 (Lib.uvarint_pos _) (by (try simp only [List.length_append]); omega) hza8 w1 HB8.out G hgz8 HV7.out (fun vv9 w9 hov hbv hgv hvv hzv => ?_))
      have HO9 := Lib.hid hov
      have HB9 := Lib.hid hbv
      have HN9 := Lib.hid (hgv.trans HN8.out)
      have HV9 := Lib.hid hvv
      have hgz9 : G < w9.heap.size := Nat.lt_of_lt_of_le hgz8 hzv
      clear hov hbv hgv hvv hzv
      have hnn := HN9.out
      have c1 : w9.cell? ⟨G, 1, none⟩ = some (.int .u64 (q.upto : Int)) := by simp [World.cell?, hnn]
      have c2 : w9.cell? ⟨G, 2, none⟩ = some (.slice px m cx) := by simp [World.cell?, hnn]
      clear hnn
      go_wp2_with fail
      clear c1 c2
      have HEA9 := Lib.hid (HEA.out.below HB9.out)
      have hl0 : encMore q 0 = [] := rfl
      obtain ⟨pre, hpre⟩ : ∃ pre, bs ++ Lib.uvarint dv ++ Lib.uvarint q.upto ++ Lib.uvarint m = pre := ⟨_, rfl⟩
      have hprl : pre.length ≤ bs.length + 30 := by rw [← hpre]; simp only [List.length_append]; omega
      have HPRE := Lib.hid hpre
      rw [hpre] at HO9
      clear hpre hl0
      go_loopw [4, 7, 45] (fun v4 v7 vi wr => ∃ (j : Nat), vi = .int .i64 (j : Int) ∧ v7 = .int .u64 ((lastN q j : Nat) : Int) ∧ j ≤ m ∧ Own wr w1.heap.size 5 v4 (pre ++ encMore q j) ∧ Below w1.heap.size w1 wr) (fun _ _ vi _ => m - (intOf vi).toNat)
      case atStart => exact ⟨0, rfl, rfl, Nat.zero_le _, by show Own _ _ _ _ (pre ++ []); rw [List.append_nil]; exact HO9.out, HB9.out⟩
      case round =>
        obtain ⟨j, rfl, rfl, hj, ho, hb⟩ := hrel
        have HO9' := Lib.hid ho
        have HB9' := Lib.hid hb
        obtain ⟨W9, rfl⟩ : ∃ W9, W9 = wr := ⟨wr, rfl⟩
        have hcml := encMore_len HQO.out j (by rw [HMM.out]; exact hj)
        rcases Nat.lt_or_ge j m with hjl | hjg
        · have hjI : (j : Int) < (m : Int) := by omega
          have hj0 : (0 : Int) ≤ (j : Int) := by omega
          have hjq : j < q.more.length := by rw [HMM.out]; exact hjl
          obtain ⟨b, o, cap2, p2, hpe, -, -, HPP, HC2⟩ := (HEA.out.below hb).has.open
          simp only [Value.slice.injEq] at hpe
          obtain ⟨rfl, -, rfl⟩ := hpe
          obtain ⟨rfl, hbl2⟩ := HPP.out (by omega)
          have hcy := HasK.numAt HC2.out j hjq
          have hyl := lastN_le HQO.out j hjq
          have hym := getD_most HQO.out j hjq
          have hst := encMore_step q j
          have hls := lastN_step q j
          obtain ⟨y, hy⟩ : ∃ y, q.more.getD j 0 = y := ⟨_, rfl⟩
          obtain ⟨x, hx⟩ : ∃ x, lastN q j = x := ⟨_, rfl⟩
          rw [hy] at hcy hyl hym hst hls
          rw [hx] at hyl hst ⊢
          have HST2 := Lib.hid hst
          have HLS := Lib.hid hls
          have hsub : ((y : Int) - (x : Int)) = ((y - x : Nat) : Int) := by omega
          have hsubI : (0 : Int) ≤ ((y - x : Nat) : Int) ∧ ((y - x : Nat) : Int) < 18446744073709551616 := by omega
          have hwr : IntKind.u64.wrap ((y : Int) - (x : Int)) = ((y - x : Nat) : Int) := by rw [IntKind.wrap_u64]; omega
          clear hy hx hst hls HC2 HPP ho hb
          go_wp2_with fail
          refine (Uint_any (y - x) (by omega) _ [] W9 (has_nil _) (by decide)).mono ?_
          rintro e wa ⟨vua, rfl, hou, hbu⟩
          rw [List.nil_append] at hou
          have hlua := uv_len (x := y - x) (by omega)
          have HOUa := Lib.hid hou
          have HOa := Lib.hid (HO9'.out.below hbu)
          have HBa := Lib.hid (HB9'.out.trans (hbu.mono HB9'.out.size))
          have hzaa : w1.heap.size ≤ wa.heap.size := HBa.out.size
          clear hou hbu hcy
          go_wp2_with (at_builtin; refine wpList_append_hasA rfl (.tmp 49) (.tmp 53) 28 rfl w1.heap.size 5 Try.underlying28 info_u8 _ (pre ++ encMore q j) rfl HOa.out _ (Lib.uvarint (y - x)) _ rfl HOUa.out.has0 rfl (by (try simp only [List.length_append]); omega) hzaa w1 HBa.out (fun vb wb hov hbv => ?_))
          have HOb := Lib.hid hov
          have HBb := Lib.hid hbv
          clear hov hbv
          go_wp2
          go_roundw
          case rel => exact ⟨j + 1, by go_num, by rw [HLS.out], hjl, by rw [HST2.out, ← List.append_assoc]; exact HOb.out, HBb.out⟩
          case measure => simp [intOf] <;> omega
        · obtain rfl : j = m := by omega
          have hjI : ¬ (j : Int) < (j : Int) := by omega
          clear ho hb
          go_wp2
          go_roundw
          case rel =>
            have he : pre ++ encMore q j = encParts L (k + 1) := by
              rw [HST.out, ← HPRE.out, HBS.out, encPart, encHead]
              simp only [HMM.out, List.append_assoc]
            refine ⟨k + 1, _, by go_num, hlt, he, HO9'.out, by rw [List.length_append]; omega, HB9'.out⟩
          case measure => simp [intOf] <;> omega
    · obtain rfl : k = n := by omega
      have hkI : ¬ (k : Int) < (k : Int) := by omega
      clear ho hb
      go_wp2
      go_ret
      exact ⟨_, rfl, by rw [HES.out, HLN.out, ← HBS.out]; exact HO.out.mono HB1.out.size, by rw [HBB.out]; exact HB1.out.trans (HB.out.mono (by have := HB1.out.size; rw [HBB.out] at this; exact this))⟩
end Go.Proofs.Ytfgfamafjkjakaa
