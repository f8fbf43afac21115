/-
  The walk of ShaKeys.
-/
import Derived.Test.YtjopfhmloklhdaaDoorShaEqualW
import Derived.Deep.CutBlock
namespace Go.Proofs.YtjopfhmloklhdaaDoor
open Go.ChangeShapes Go.WideShapes Go.ChangeAt Go.RowKit Go.Deep
set_option linter.unusedVariables false
set_option linter.unusedSimpArgs false

theorem mac_long (key b : List UInt8) (h : 64 < key.length) : macOf (shaOf key) b = macOf key b := by
  have e : keyB (shaOf key) = keyB key := by
    unfold keyB
    rw [if_pos (by rw [shaOf_len]; decide), if_neg (by omega), shaOf_len]
  unfold macOf
  rw [e]
theorem mac_zeros (key b : List UInt8) (j : Nat) (h : key.length + j ≤ 64) : macOf (key ++ zeros j) b = macOf key b := by
  have e : keyB (key ++ zeros j) = keyB key := by
    unfold keyB
    have hz : (zeros j).length = j := by simp [zeros]
    rw [List.length_append, hz, if_pos (by omega), if_pos (by omega), List.append_assoc]
    congr 1
    unfold zeros
    rw [List.replicate_append_replicate]
    congr 1
    omega
  unfold macOf
  rw [e]
theorem zeros_succ (j : Nat) : zeros (j + 1) = zeros j ++ [0] := by
  unfold zeros
  rw [List.replicate_succ']
set_option maxRecDepth 100000 in
set_option maxHeartbeats 8000000 in
theorem ShaKeys_any (v : Value) (key : List UInt8) (u : Value) (b : List UInt8) (more : Int) (w : World) (hv : HasA w v key) (hu : HasA w u b) (hmw : (Lit.int .i64 more).wf = true) (hG : Grnd w) :
    Calls Tryd.prog 8 #[v, u, .int .i64 more] w fun e w' => e = .returned (.bool true) ∧ Below w.heap.size w w' := by
  obtain ⟨kp, kc, hve, kk1, kk2⟩ := hv.form
  obtain ⟨bp, bc, hue, bk1, bk2⟩ := hu.form
  obtain ⟨n, hn⟩ : ∃ n, key.length = n := ⟨_, rfl⟩
  obtain ⟨m, hm⟩ : ∃ m, b.length = m := ⟨_, rfl⟩
  rw [hn] at hve kk1
  rw [hm] at hue bk1
  subst hve hue
  have hnm : (n : Int) ≤ 9223372036854775807 := by unfold maxLen at kk2; omega
  have hmm : (m : Int) ≤ 9223372036854775807 := by unfold maxLen at bk2; omega
  have HV := Lib.hid hv
  have HU := Lib.hid hu
  have HG := Lib.hid hG
  have HN := Lib.hid hn
  have HM := Lib.hid hm
  have hgs := hG.s
  have hgr := hG.r
  clear hv hu hG hn hm kk1 kk2 bk1 bk2 hmw
  go_enter Tryd.func8, Tryd.ntmps8
  go_wp2_with fail
  refine (awake_any w HG.out).mono ?_
  rintro e w1 ⟨rfl, hb1⟩
  have HG1 := Lib.hid (HG.out.below hb1)
  have HV1 := Lib.hid (HV.out.below hb1)
  have HU1 := Lib.hid (HU.out.below hb1)
  have HB1 := Lib.hid hb1
  have hz1 := hb1.size
  clear hb1
  by_cases c1 : 300 < n
  · have c1' : (300 : Int) < (n : Int) := by omega
    clear c1
    go_wp2
    go_ret
    exact ⟨rfl, HB1.out⟩
  · have c1' : (n : Int) ≤ 300 := by omega
    by_cases c2 : 500 < m
    · have c2' : (500 : Int) < (m : Int) := by omega
      clear c1 c2
      go_wp2
      go_ret
      exact ⟨rfl, HB1.out⟩
    · have c2' : (m : Int) ≤ 500 := by omega
      by_cases c3 : more < 0
      · clear c1 c2
        go_wp2
        go_ret
        exact ⟨rfl, HB1.out⟩
      · have c3' : 0 ≤ more := by omega
        by_cases c4 : 64 < more
        · clear c1 c2 c3
          go_wp2
          go_ret
          exact ⟨rfl, HB1.out⟩
        · have c4' : more ≤ 64 := by omega
          obtain ⟨mo, rfl⟩ : ∃ mo : Nat, more = (mo : Int) := ⟨more.toNat, by omega⟩
          have hnl : n ≤ 300 := by omega
          have hml : m ≤ 500 := by omega
          clear c1 c2 c3 c4
          go_wp2_with fail
          refine (Mac_any w1 _ _ key b (by have q := HV1.out; exact q) (by have q := HU1.out; exact q) (by have := HN.out; omega) (by have := HM.out; omega) HG1.out).mono ?_
          rintro e w2 ⟨rfl, hb2⟩
          have hdl : (macOf key b).length = 32 := shaOf_len _
          have hlong := mac_long key b
          have hzer := mac_zeros key b
          obtain ⟨M, hM⟩ : ∃ M, macOf key b = M := ⟨_, rfl⟩
          rw [hM] at hdl hlong hzer
          rw [hM]
          obtain ⟨a1, a2, a3⟩ := arr32' M hdl
          obtain ⟨hd3, hb3⟩ := laid_row w2 (noBytes 32).toArray (Lib.byteCells M).toArray 23 (by rw [a3]; rfl)
          have hd3' : BRow ((w2.alloc (.cells (noBytes 32).toArray 23)).setCells w2.heap.size 0 (Lib.byteCells M).toArray.toList) 23 w2.heap.size M := hd3
          have hz2 := hb2.size
          have HLONG := Lib.hid hlong
          have HZER := Lib.hid hzer
          have HDL := Lib.hid hdl
          have A1 := Lib.hid a1
          have A2 := Lib.hid a2
          have HTH := Lib.hid (there_alloc w2 (noBytes 32).toArray 23 (Lib.byteCells M).toArray.size (by rw [a3]; decide))
          have HD3 := Lib.hid hd3'
          have HB3 := Lib.hid (HB1.out.trans ((hb2.mono hz1).trans (hb3.mono (by omega))))
          have HG3 := Lib.hid ((HG1.out.below hb2).below hb3)
          have HV3 := Lib.hid ((HV1.out.below hb2).below hb3)
          have HU3 := Lib.hid ((HU1.out.below hb2).below hb3)
          have hz3 := hd3'.lt
          have hll : (Tryd.prog.info? 23).map (·.size) = some (Lib.byteCells M).length := by rw [bytes_len, hdl]; exact info32
          have HLL := Lib.hid hll
          clear hM hdl hlong hzer a1 a2 a3 hd3 hb3 hd3' hb2 hll
          go_upto_region 6 with (first | (refine wpList_alloc_of rfl 23 (noBytes 32).toArray rfl made32 ?_) | (refine wpList_store_mid rfl 23 (.tmp 7) (.tmp 31) rfl w2.heap.size 0 (Lib.byteCells M).toArray rfl rfl HTH.out A1.out A2.out ?_))
          generalize ((w2.alloc (.cells (noBytes 32).toArray 23)).setCells w2.heap.size 0 (Lib.byteCells M).toArray.toList) = w3 at *
          generalize w2.heap.size = g7 at *
          have hz37 : w.heap.size ≤ w3.heap.size := by omega
          by_cases c5 : 64 < n
          · have c5' : (64 : Int) < (n : Int) := by omega
            go_wp2_with fail
            refine (Sum_any w3 _ key (by have q := HV3.out; exact q) (by have := HN.out; omega) HG3.out).mono ?_
            rintro e w4 ⟨rfl, hb4⟩
            have hdd := shaOf_len key
            have hml2 := HLONG.out (by rw [HN.out]; exact c5)
            obtain ⟨D, hD⟩ : ∃ D, shaOf key = D := ⟨_, rfl⟩
            rw [hD] at hdd hml2
            rw [hD]
            have HML2 := Lib.hid hml2
            obtain ⟨a1, a2, a3⟩ := arr32' D hdd
            obtain ⟨hd5, hb5⟩ := laid_row w4 (noBytes 32).toArray (Lib.byteCells D).toArray 23 (by rw [a3]; rfl)
            have hd5' : BRow ((w4.alloc (.cells (noBytes 32).toArray 23)).setCells w4.heap.size 0 (Lib.byteCells D).toArray.toList) 23 w4.heap.size D := hd5
            have hz4 := hb4.size
            have D1 := Lib.hid a1
            have D2 := Lib.hid a2
            have HDD := Lib.hid hdd
            have HTH2 := Lib.hid (there_alloc w4 (noBytes 32).toArray 23 (Lib.byteCells D).toArray.size (by rw [a3]; decide))
            have hs5 : ShN w w.heap.size [(g7, M), (w4.heap.size, D)] [(.slice bp m bc, b)] ((w4.alloc (.cells (noBytes 32).toArray 23)).setCells w4.heap.size 0 (Lib.byteCells D).toArray.toList) :=
              ⟨rows_two ((HD3.out.below hb4 hz3).below hb5 (by omega)) hd5', has_one ((HU3.out.below hb4).below hb5), (HG3.out.below hb4).below hb5, HB3.out.trans ((hb4.mono hz37).trans (hb5.mono (by omega))), by have := hb5.size; omega⟩
            have HS5 := Lib.hid hs5
            clear hb4 hdd hml2 hD a1 a2 a3 hd5 hb5 hd5' hs5
            go_upto_region 8 with (first | (refine wpList_alloc_of rfl 23 (noBytes 32).toArray rfl made32 ?_) | (refine wpList_store_mid rfl 23 (.tmp 8) (.tmp 36) rfl w4.heap.size 0 (Lib.byteCells D).toArray rfl rfl HTH2.out D1.out D2.out ?_))
            generalize ((w4.alloc (.cells (noBytes 32).toArray 23)).setCells w4.heap.size 0 (Lib.byteCells D).toArray.toList) = w5 at *
            generalize w4.heap.size = g8 at *
            have hs8 : ∀ W, (Instr.sliceAt 23 (.pointer (some ⟨g8, 0, none⟩)) none none none).run Tryd.prog W = .ok (.slice (some ⟨g8, 0, none⟩) 32 32) W := fun W => run_all32 _ W
            refine wp_region_held_drew (S := ShN w w.heap.size [(g7, M), (g8, D)] [(.slice bp m bc, b)]) (by kernel_rfl) (HS5.out.below ((Below.refl _ _).drew)) (fun hHeld => ?_)
            refine wpAnyH_take (i := 0) (oi := _) (v := ?_) rfl (by kernel_rfl) (by kernel_rfl) (by kernel_rfl) (fun _ _ _ h => h) (Or.inl ⟨by rfl, ?hy1⟩) (by assumption) ?_
            case hy1 =>
              intro w9 hSw
              try dsimp only at hSw
              try simp only [List.getElem_toArray, List.getElem_cons_zero, List.getElem_cons_succ]
              go_simp
              try with_reducible rfl
            try simp only [Act.put, List.setIfInBounds_toArray, List.set_cons_zero, List.set_cons_succ, List.getElem_toArray, List.getElem_cons_zero, List.getElem_cons_succ]
            refine wpAnyH_take (i := 1) (oi := _) (v := ?_) rfl (by kernel_rfl) (by kernel_rfl) (by kernel_rfl) (fun _ _ _ h => h) (Or.inl ⟨by rfl, ?hy2⟩) (by assumption) ?_
            case hy2 =>
              intro w9 hSw
              try dsimp only at hSw
              try simp only [List.getElem_toArray, List.getElem_cons_zero, List.getElem_cons_succ]
              go_simp
              try with_reducible rfl
            try simp only [Act.put, List.setIfInBounds_toArray, List.set_cons_zero, List.set_cons_succ, List.getElem_toArray, List.getElem_cons_zero, List.getElem_cons_succ]
            refine wpAnyH_take (i := 3) (oi := _) (v := ?_) rfl (by kernel_rfl) (by kernel_rfl) (by kernel_rfl) (fun _ _ _ h => h) ?hl3 (by assumption) ?_
            case hl3 => refine yieldsIf_load_mid ?_ 23 (.tmp 7) ?_ g7 0 ?_ (Lib.byteCells M) _ ?_ Tryd.underlying23 rfl HLL.out <;> first | exact fun _ hw => (hw.rows (g7, M) (List.mem_cons_self ..)).range | kernel_rfl
            try simp only [Act.put, List.setIfInBounds_toArray, List.set_cons_zero, List.set_cons_succ, List.getElem_toArray, List.getElem_cons_zero, List.getElem_cons_succ]
            refine wpAnyH_ready (rs := [2]) (by kernel_rfl) (by simp) (AllReadyH.cons (o := _) rfl (fun K hK => ?_) AllReadyH.nil)
            try simp only [List.getElem_toArray, List.getElem_cons_zero, List.getElem_cons_succ]
            go_simp
            refine (Mac_any _ _ _ D b ((hHeld.rows (g8, D) (List.mem_cons_of_mem _ (List.mem_cons_self ..))).hasA 32 HDD.out.symm (by decide)) (hHeld.has (.slice bp m bc, b) (List.mem_cons_self ..)) (by rw [HDD.out]; decide) (by have := HM.out; omega) hHeld.g).mono ?_
            rw [HML2.out]
            rintro e wa ⟨rfl, hb0⟩
            refine hK.out _ _ ((hHeld.below hb0)) (fun hHeld => ?_)
            clear hK K
            try simp only [Act.put, List.setIfInBounds_toArray, List.set_cons_zero, List.set_cons_succ, List.getElem_toArray, List.getElem_cons_zero, List.getElem_cons_succ]
            refine wpAnyH_take (i := 4) (oi := _) (v := ?_) rfl (by kernel_rfl) (by kernel_rfl) (by kernel_rfl) (fun _ _ _ h => h) ?hl4 (by assumption) ?_
            case hl4 => refine yieldsIf_eq32 ?_ (.tmp 39) (.tmp 40) 23 ?_ M M ?_ ?_ HDL.out HDL.out true (decide_eq_true rfl) <;> kernel_rfl
            try simp only [Act.put, List.setIfInBounds_toArray, List.set_cons_zero, List.set_cons_succ, List.getElem_toArray, List.getElem_cons_zero, List.getElem_cons_succ]
            refine wpAnyH_take (i := 5) (oi := _) (v := ?_) rfl (by kernel_rfl) (by kernel_rfl) (by kernel_rfl) (fun _ _ _ h => h) (Or.inl ⟨by rfl, ?hy5⟩) (by assumption) ?_
            case hy5 =>
              intro w9 hSw
              try dsimp only at hSw
              try simp only [List.getElem_toArray, List.getElem_cons_zero, List.getElem_cons_succ]
              go_simp
              try with_reducible rfl
            try simp only [Act.put, List.setIfInBounds_toArray, List.set_cons_zero, List.set_cons_succ, List.getElem_toArray, List.getElem_cons_zero, List.getElem_cons_succ]
            refine wpAnyH_done (by kernel_rfl) ?_ _
            have HFIN := Lib.hid hHeld.bel
            clear hHeld hb0 hs8
            go_wp2
            go_ret
            exact ⟨rfl, HFIN.out⟩
          · have c5' : (n : Int) ≤ 64 := by omega
            have hn64 : n ≤ 64 := by omega
            have hs0 : ShN w w.heap.size [(g7, M)] [(.slice bp m bc, b)] w3 := ⟨rows_one HD3.out, has_one HU3.out, HG3.out, HB3.out, hz37⟩
            have HS0 := Lib.hid hs0
            have hown := own_empty w3 5
            have hbe := (Below.refl w3.heap.size w3).alloc (Nat.le_refl _) (.cells #[] 5)
            have HOWN := Lib.hid hown
            have HBE := Lib.hid hbe
            have HVE := Lib.hid (HV3.out.below hbe)
            clear hs0 hown hbe
            go_upto_region 10 with (at_builtin; refine wpList_append_hasA rfl (.tmp 42) (.tmp 43) 31 rfl w3.heap.size 5 Tryd.underlying31 info_u8 _ [] rfl HOWN.out _ key key rfl HVE.out rfl (by have := HN.out; show 0 + key.length ≤ _; omega) HBE.out.size w3 HBE.out (fun v5 w5 ho5 hb5 => ?_))
            have HO5 := Lib.hid ho5
            have HB5 := Lib.hid hb5
            clear ho5 hb5
            go_wp2_with fail
            go_loopw [9, 10] (fun v9 v10 wr => ∃ j : Nat, v10 = .int .i64 j ∧ j ≤ mo ∧ n + j ≤ 64 ∧ Own wr w3.heap.size 5 v9 (key ++ zeros j) ∧ Below w3.heap.size w3 wr) (fun _ v10 _ => mo - (intOf v10).toNat)
            case atStart => exact ⟨0, rfl, Nat.zero_le _, hn64, by show Own _ _ _ _ (key ++ []); rw [List.append_nil]; exact HO5.out, HB5.out⟩
            case round =>
              obtain ⟨j, rfl, hj, hj64, how, hb⟩ := hrel
              have hkl : (key ++ zeros j).length = n + j := by rw [List.length_append, HN.out]; simp [zeros]
              have hmz := HZER.out j (by rw [HN.out]; exact hj64)
              have hsz := zeros_succ j
              have hsw := HS0.out.below hb
              have hkk : key ++ zeros (j + 1) = (key ++ zeros j) ++ [0] := by rw [hsz, List.append_assoc]
              have HKK := Lib.hid hkk
              clear hsz hkk
              generalize key ++ zeros j = kz at *
              obtain ⟨p9, cap9, rfl, q1, q2⟩ := how.has.wide.form
              have hsw2 : ShN w w.heap.size [(g7, M)] [(.slice bp m bc, b), (.slice p9 kz.length cap9, kz)] wr := ⟨hsw.rows, has_two (hsw.has (.slice bp m bc, b) (List.mem_cons_self ..)) how.has.wide, hsw.g, hsw.bel, hsw.le⟩
              obtain ⟨kj, hkj⟩ : ∃ kj, n + j = kj := ⟨_, rfl⟩
              rw [hkj] at hkl hj64
              rw [hkl] at hsw2 how q1 ⊢
              have hcm : (cap9 : Int) ≤ 9223372036854775807 := by unfold maxLen at q2; omega
              have hkjI : (kj : Int) ≤ 64 := by omega
              have HSW := Lib.hid hsw2
              have HMZ := Lib.hid hmz
              have HKL := Lib.hid hkl
              have HOW := Lib.hid how
              have HB := Lib.hid hb
              have HKJ := Lib.hid hkj
              clear hsw hsw2 hmz hkl how hb q2 hkj
              rcases Nat.lt_or_ge j mo with hlt | hge
              · have hltI : (j : Int) < (mo : Int) := by omega
                rcases Nat.lt_or_ge kj 64 with hk | hk
                · have hkI : (kj : Int) < 64 := by omega
                  have hbx := (Below.refl wr.heap.size wr).alloc (Nat.le_refl _) (.cells #[.int .u8 0] 5)
                  have HOX := Lib.hid (HOW.out.alloc (.cells #[.int .u8 0] 5))
                  have HBX := Lib.hid (HB.out.alloc HB.out.size (.cells #[.int .u8 0] 5))
                  have hax := (has_lits wr [0] #[.int .u8 0] rfl 5 (0, 0) 1 rfl (by decide)).1
                  have HAX := Lib.hid hax
                  clear hbx hax
                  go_upto_region 12 with (at_builtin; refine wpList_append_hasA rfl (.tmp 55) (.tmp 56) 31 rfl w3.heap.size 5 Tryd.underlying31 info_u8 _ kz rfl HOX.out _ [0] (kz ++ [0]) rfl HAX.out rfl (by have := HKL.out; show kz.length + 1 ≤ _; omega) HBX.out.size w3 HBX.out (fun v5 w5 ho5 hb5 => ?_))
                  have HO5 := Lib.hid ho5
                  have HB5 := Lib.hid hb5
                  clear ho5 hb5
                  go_wp2
                  go_roundw
                  case rel =>
                    refine ⟨j + 1, by go_num, hlt, by have := HKJ.out; omega, ?_, HB5.out⟩
                    rw [HKK.out]
                    exact HO5.out
                  case measure => simp [intOf]; omega
                · have hkI : ¬ (kj : Int) < 64 := by omega
                  clear hk
                  go_upto_region 14 with fail
                  refine wp_region_held_drew (S := ShN w w.heap.size [(g7, M)] [(.slice bp m bc, b), (.slice p9 kj cap9, kz)]) (by kernel_rfl) (HSW.out.below ((Below.refl _ _).drew)) (fun hHeld => ?_)
                  refine wpAnyH_take (i := 0) (oi := _) (v := ?_) rfl (by kernel_rfl) (by kernel_rfl) (by kernel_rfl) (fun _ _ _ h => h) (Or.inl ⟨by rfl, ?hy6⟩) (by assumption) ?_
                  case hy6 =>
                    intro w9 hSw
                    try dsimp only at hSw
                    try simp only [List.getElem_toArray, List.getElem_cons_zero, List.getElem_cons_succ]
                    go_simp
                    try with_reducible rfl
                  try simp only [Act.put, List.setIfInBounds_toArray, List.set_cons_zero, List.set_cons_succ, List.getElem_toArray, List.getElem_cons_zero, List.getElem_cons_succ]
                  refine wpAnyH_take (i := 1) (oi := _) (v := ?_) rfl (by kernel_rfl) (by kernel_rfl) (by kernel_rfl) (fun _ _ _ h => h) (Or.inl ⟨by rfl, ?hy7⟩) (by assumption) ?_
                  case hy7 =>
                    intro w9 hSw
                    try dsimp only at hSw
                    try simp only [List.getElem_toArray, List.getElem_cons_zero, List.getElem_cons_succ]
                    go_simp
                    try with_reducible rfl
                  try simp only [Act.put, List.setIfInBounds_toArray, List.set_cons_zero, List.set_cons_succ, List.getElem_toArray, List.getElem_cons_zero, List.getElem_cons_succ]
                  refine wpAnyH_take (i := 3) (oi := _) (v := ?_) rfl (by kernel_rfl) (by kernel_rfl) (by kernel_rfl) (fun _ _ _ h => h) ?hl8 (by assumption) ?_
                  case hl8 => refine yieldsIf_load_mid ?_ 23 (.tmp 7) ?_ g7 0 ?_ (Lib.byteCells M) _ ?_ Tryd.underlying23 rfl HLL.out <;> first | exact fun _ hw => (hw.rows (g7, M) (List.mem_cons_self ..)).range | kernel_rfl
                  try simp only [Act.put, List.setIfInBounds_toArray, List.set_cons_zero, List.set_cons_succ, List.getElem_toArray, List.getElem_cons_zero, List.getElem_cons_succ]
                  refine wpAnyH_ready (rs := [2]) (by kernel_rfl) (by simp) (AllReadyH.cons (o := _) rfl (fun K hK => ?_) AllReadyH.nil)
                  try simp only [List.getElem_toArray, List.getElem_cons_zero, List.getElem_cons_succ]
                  go_simp
                  refine (Mac_any _ _ _ kz b (hHeld.has (.slice p9 kj cap9, kz) (List.mem_cons_of_mem _ (List.mem_cons_self ..))) (hHeld.has (.slice bp m bc, b) (List.mem_cons_self ..)) (by have := HKL.out; omega) (by have := HM.out; omega) hHeld.g).mono ?_
                  rw [HMZ.out]
                  rintro e wa ⟨rfl, hb0⟩
                  refine hK.out _ _ ((hHeld.below hb0)) (fun hHeld => ?_)
                  clear hK K
                  try simp only [Act.put, List.setIfInBounds_toArray, List.set_cons_zero, List.set_cons_succ, List.getElem_toArray, List.getElem_cons_zero, List.getElem_cons_succ]
                  refine wpAnyH_take (i := 4) (oi := _) (v := ?_) rfl (by kernel_rfl) (by kernel_rfl) (by kernel_rfl) (fun _ _ _ h => h) ?hl9 (by assumption) ?_
                  case hl9 => refine yieldsIf_eq32 ?_ (.tmp 60) (.tmp 61) 23 ?_ M M ?_ ?_ HDL.out HDL.out true (decide_eq_true rfl) <;> kernel_rfl
                  try simp only [Act.put, List.setIfInBounds_toArray, List.set_cons_zero, List.set_cons_succ, List.getElem_toArray, List.getElem_cons_zero, List.getElem_cons_succ]
                  refine wpAnyH_take (i := 5) (oi := _) (v := ?_) rfl (by kernel_rfl) (by kernel_rfl) (by kernel_rfl) (fun _ _ _ h => h) (Or.inl ⟨by rfl, ?hy10⟩) (by assumption) ?_
                  case hy10 =>
                    intro w9 hSw
                    try dsimp only at hSw
                    try simp only [List.getElem_toArray, List.getElem_cons_zero, List.getElem_cons_succ]
                    go_simp
                    try with_reducible rfl
                  try simp only [Act.put, List.setIfInBounds_toArray, List.set_cons_zero, List.set_cons_succ, List.getElem_toArray, List.getElem_cons_zero, List.getElem_cons_succ]
                  refine wpAnyH_done (by kernel_rfl) ?_ _
                  have HFIN := Lib.hid hHeld.bel
                  clear hHeld hb0
                  go_wp2
                  go_ret
                  exact ⟨rfl, HFIN.out⟩
              · have hltI : ¬ (j : Int) < (mo : Int) := by omega
                clear hge
                go_upto_region 14 with fail
                refine wp_region_held_drew (S := ShN w w.heap.size [(g7, M)] [(.slice bp m bc, b), (.slice p9 kj cap9, kz)]) (by kernel_rfl) (HSW.out.below ((Below.refl _ _).drew)) (fun hHeld => ?_)
                refine wpAnyH_take (i := 0) (oi := _) (v := ?_) rfl (by kernel_rfl) (by kernel_rfl) (by kernel_rfl) (fun _ _ _ h => h) (Or.inl ⟨by rfl, ?hy11⟩) (by assumption) ?_
                case hy11 =>
                  intro w9 hSw
                  try dsimp only at hSw
                  try simp only [List.getElem_toArray, List.getElem_cons_zero, List.getElem_cons_succ]
                  go_simp
                  try with_reducible rfl
                try simp only [Act.put, List.setIfInBounds_toArray, List.set_cons_zero, List.set_cons_succ, List.getElem_toArray, List.getElem_cons_zero, List.getElem_cons_succ]
                refine wpAnyH_take (i := 1) (oi := _) (v := ?_) rfl (by kernel_rfl) (by kernel_rfl) (by kernel_rfl) (fun _ _ _ h => h) (Or.inl ⟨by rfl, ?hy12⟩) (by assumption) ?_
                case hy12 =>
                  intro w9 hSw
                  try dsimp only at hSw
                  try simp only [List.getElem_toArray, List.getElem_cons_zero, List.getElem_cons_succ]
                  go_simp
                  try with_reducible rfl
                try simp only [Act.put, List.setIfInBounds_toArray, List.set_cons_zero, List.set_cons_succ, List.getElem_toArray, List.getElem_cons_zero, List.getElem_cons_succ]
                refine wpAnyH_take (i := 3) (oi := _) (v := ?_) rfl (by kernel_rfl) (by kernel_rfl) (by kernel_rfl) (fun _ _ _ h => h) ?hl13 (by assumption) ?_
                case hl13 => refine yieldsIf_load_mid ?_ 23 (.tmp 7) ?_ g7 0 ?_ (Lib.byteCells M) _ ?_ Tryd.underlying23 rfl HLL.out <;> first | exact fun _ hw => (hw.rows (g7, M) (List.mem_cons_self ..)).range | kernel_rfl
                try simp only [Act.put, List.setIfInBounds_toArray, List.set_cons_zero, List.set_cons_succ, List.getElem_toArray, List.getElem_cons_zero, List.getElem_cons_succ]
                refine wpAnyH_ready (rs := [2]) (by kernel_rfl) (by simp) (AllReadyH.cons (o := _) rfl (fun K hK => ?_) AllReadyH.nil)
                try simp only [List.getElem_toArray, List.getElem_cons_zero, List.getElem_cons_succ]
                go_simp
                refine (Mac_any _ _ _ kz b (hHeld.has (.slice p9 kj cap9, kz) (List.mem_cons_of_mem _ (List.mem_cons_self ..))) (hHeld.has (.slice bp m bc, b) (List.mem_cons_self ..)) (by have := HKL.out; omega) (by have := HM.out; omega) hHeld.g).mono ?_
                rw [HMZ.out]
                rintro e wa ⟨rfl, hb0⟩
                refine hK.out _ _ ((hHeld.below hb0)) (fun hHeld => ?_)
                clear hK K
                try simp only [Act.put, List.setIfInBounds_toArray, List.set_cons_zero, List.set_cons_succ, List.getElem_toArray, List.getElem_cons_zero, List.getElem_cons_succ]
                refine wpAnyH_take (i := 4) (oi := _) (v := ?_) rfl (by kernel_rfl) (by kernel_rfl) (by kernel_rfl) (fun _ _ _ h => h) ?hl14 (by assumption) ?_
                case hl14 => refine yieldsIf_eq32 ?_ (.tmp 60) (.tmp 61) 23 ?_ M M ?_ ?_ HDL.out HDL.out true (decide_eq_true rfl) <;> kernel_rfl
                try simp only [Act.put, List.setIfInBounds_toArray, List.set_cons_zero, List.set_cons_succ, List.getElem_toArray, List.getElem_cons_zero, List.getElem_cons_succ]
                refine wpAnyH_take (i := 5) (oi := _) (v := ?_) rfl (by kernel_rfl) (by kernel_rfl) (by kernel_rfl) (fun _ _ _ h => h) (Or.inl ⟨by rfl, ?hy15⟩) (by assumption) ?_
                case hy15 =>
                  intro w9 hSw
                  try dsimp only at hSw
                  try simp only [List.getElem_toArray, List.getElem_cons_zero, List.getElem_cons_succ]
                  go_simp
                  try with_reducible rfl
                try simp only [Act.put, List.setIfInBounds_toArray, List.set_cons_zero, List.set_cons_succ, List.getElem_toArray, List.getElem_cons_zero, List.getElem_cons_succ]
                refine wpAnyH_done (by kernel_rfl) ?_ _
                have HFIN := Lib.hid hHeld.bel
                clear hHeld hb0
                go_wp2
                go_ret
                exact ⟨rfl, HFIN.out⟩
end Go.Proofs.YtjopfhmloklhdaaDoor
