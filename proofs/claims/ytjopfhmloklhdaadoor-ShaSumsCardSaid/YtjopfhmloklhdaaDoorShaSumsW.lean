/-
  The walk of ShaSums.
-/
import Derived.Test.YtjopfhmloklhdaaDoorRefTwo
import Derived.Test.YtjopfhmloklhdaaDoorConvF
import Derived.Test.YtjopfhmloklhdaaDoorShaKeysW
namespace Go.Proofs.YtjopfhmloklhdaaDoor
open Go.ChangeShapes Go.WideShapes Go.ChangeAt Go.RowKit Go.Deep
set_option linter.unusedVariables false
set_option linter.unusedSimpArgs false
theorem has_six {W : World} {v1 v2 v3 v4 v5 v6 : Value} {l1 l2 l3 l4 l5 l6 : List UInt8} (h1 : HasA W v1 l1) (h2 : HasA W v2 l2) (h3 : HasA W v3 l3) (h4 : HasA W v4 l4) (h5 : HasA W v5 l5) (h6 : HasA W v6 l6) : ∀ p ∈ [(v1, l1), (v2, l2), (v3, l3), (v4, l4), (v5, l5), (v6, l6)], HasA W p.1 p.2 := fun p hp => by
  simp only [List.mem_cons, List.not_mem_nil, or_false] at hp
  rcases hp with rfl | rfl | rfl | rfl | rfl | rfl
  · exact h1
  · exact h2
  · exact h3
  · exact h4
  · exact h5
  · exact h6
/-- The six slices of the last region. -/
structure Six (w : World) (v1 v2 v3 v4 v5 v6 : Value) (b key : List UInt8) (W : World) : Prop where
  h1 : HasA W v1 b
  h2 : HasA W v2 key
  h3 : HasA W v3 (b ++ [9])
  h4 : HasA W v4 b
  h5 : HasA W v5 (key ++ [9])
  h6 : HasA W v6 key
  g : Grnd W
  bel : Below w.heap.size w W
theorem Six.below {w : World} {v1 v2 v3 v4 v5 v6 : Value} {b key : List UInt8} {W W' : World} (h : Six w v1 v2 v3 v4 v5 v6 b key W) (hb : Below W.heap.size W W') : Six w v1 v2 v3 v4 v5 v6 b key W' :=
  ⟨h.h1.below hb, h.h2.below hb, h.h3.below hb, h.h4.below hb, h.h5.below hb, h.h6.below hb, h.g.below hb, h.bel.trans (hb.mono h.bel.size)⟩
set_option maxRecDepth 100000 in
set_option maxHeartbeats 8000000 in
theorem ShaSums_any (v : Value) (b : List UInt8) (u : Value) (key : List UInt8) (w : World) (hv : HasA w v b) (hu : HasA w u key) (hG : Grnd w) :
    Calls Tryd.prog 4 #[v, u] w fun e w' => e = .returned (.bool true) ∧ Below w.heap.size w w' := by
  obtain ⟨bp, bc, rfl, bc1, bc2⟩ := hv.form
  obtain ⟨kp, kc, rfl, kc1, kc2⟩ := hu.form
  obtain ⟨m, hm⟩ : ∃ m, b.length = m := ⟨_, rfl⟩
  obtain ⟨n, hn⟩ : ∃ n, key.length = n := ⟨_, rfl⟩
  have hbc : (bc : Int) ≤ 9223372036854775807 := by unfold maxLen at bc2; omega
  have hkc : (kc : Int) ≤ 9223372036854775807 := by unfold maxLen at kc2; omega
  rw [hm] at hv bc1 ⊢
  rw [hn] at hu kc1 ⊢
  have HM := Lib.hid hm
  have HN := Lib.hid hn
  have HV := Lib.hid hv
  have HU := Lib.hid hu
  have HG := Lib.hid hG
  clear hv hu hG hm hn bc2 kc2
  go_enter Tryd.func4, Tryd.ntmps4
  go_wp2_with fail
  refine (awake_any w HG.out).mono ?_
  rintro e w1 ⟨rfl, hb1⟩
  have HV1 := Lib.hid (HV.out.below hb1)
  have HU1 := Lib.hid (HU.out.below hb1)
  have HG1 := Lib.hid (HG.out.below hb1)
  have HB1 := Lib.hid hb1
  have hz1 := hb1.size
  clear hb1
  by_cases c1 : 1000 < m
  · have c1' : (1000 : Int) < (m : Int) := by omega
    clear c1
    go_wp2
    go_ret
    exact ⟨rfl, HB1.out⟩
  · have c1' : (m : Int) ≤ 1000 := by omega
    by_cases c2 : 300 < n
    · have c2' : (300 : Int) < (n : Int) := by omega
      clear c1 c2
      go_wp2
      go_ret
      exact ⟨rfl, HB1.out⟩
    · have c2' : (n : Int) ≤ 300 := by omega
      have hml : b.length ≤ 1000 := by have := HM.out; omega
      have hnl : key.length ≤ 300 := by have := HN.out; omega
      clear c1 c2
      obtain ⟨sB, hsB⟩ : ∃ A : ByteArray, A = ⟨b.toArray⟩ := ⟨_, rfl⟩
      obtain ⟨sC, hsC⟩ : ∃ A : ByteArray, A = ⟨(b ++ [9]).toArray⟩ := ⟨_, rfl⟩
      obtain ⟨tB, htB⟩ : ∃ A : ByteArray, A = ⟨key.toArray⟩ := ⟨_, rfl⟩
      obtain ⟨tC, htC⟩ : ∃ A : ByteArray, A = ⟨(key ++ [9]).toArray⟩ := ⟨_, rfl⟩
      have h9 : (⟨#[9]⟩ : ByteArray) = ⟨[(9 : UInt8)].toArray⟩ := rfl
      have E3 : ∀ W : World, (Op.stringOp .add sB ⟨#[9]⟩).run Tryd.prog W = .ok (.string sC) W := fun W : World => cat (P := Tryd.prog) (w := W) hsB h9 hsC (by simp; omega)
      have E4 : ∀ W : World, (Op.stringOp .add tB ⟨#[9]⟩).run Tryd.prog W = .ok (.string tC) W := fun W : World => cat (P := Tryd.prog) (w := W) htB h9 htC (by simp; omega)
      have hcv : (convert 31 9 (.slice bp m bc)).run Tryd.prog w1 = .ok (.string sB) w1 := by rw [hsB]; exact HV1.out.string 0
      obtain ⟨W1, C1, CC1, f1, hk1, hci⟩ := conv_is w1 b (by omega)
      rw [← hsB, HM.out] at hk1
      have HCI := Lib.hid hci
      have HE3 := Lib.hid E3
      have HE4 := Lib.hid E4
      have HSB := Lib.hid hsB
      have HSC := Lib.hid hsC
      have HTB := Lib.hid htB
      have HTC := Lib.hid htC
      have hzW := hci.lt
      clear hsB hsC htB htC h9 E3 E4 hci
      go_upto_region 6 with (at_builtin; refine wpList_append_mine rfl (.tmp 19) (.tmp 20) 31 rfl w1.heap.size 5 Tryd.underlying31 info_u8 w1.heap.size m C1 CC1 5 f1 b rfl HM.out.symm ((heap_alloc_old _ _ hzW).trans HCI.out.blk) HCI.out.frozen HCI.out.size HCI.out.le (Nat.le_refl _) (fun j hj => ((World.cell?_alloc_lt _ _ _ hzW).trans (HCI.out.cells j hj))) _ [(9 : UInt8)] (b ++ [9]) 1 rfl (has_lit1 W1 (0, 0) 9) rfl Nat.one_pos rfl (by simp; omega) w1 (HCI.out.bel.alloc (Nat.le_of_lt hzW) _) (fun g3 cap3 w3 hg3 hh3 hb3 => ?_))
      have hz3 := hb3.size
      obtain ⟨pc, cc, rc, gc⟩ := hh3.wide.head b.length (by rw [List.length_append]; omega)
      have htk : (b ++ [(9 : UInt8)]).take b.length = b := by simp
      rw [htk, HM.out] at gc
      rw [HM.out] at rc
      have hcap3 : m + 1 ≤ cap3 ∧ cap3 ≤ maxLen := by
        obtain ⟨_, _, hf3, hc3, hm3⟩ := hh3.form
        simp only [Value.slice.injEq] at hf3
        obtain ⟨-, hf3, rfl⟩ := hf3
        exact ⟨by omega, hm3⟩
      have hcap3I : (cap3 : Int) ≤ 9223372036854775807 := by have := hcap3.2; unfold maxLen at this; omega
      have hcap3J := hcap3.1
      have H3 := Lib.hid hh3.wide
      have HC3 := Lib.hid (gc w3 hh3.wide)
      have HRC := Lib.hid rc
      have HV3 := Lib.hid (HV1.out.below hb3)
      have HU3 := Lib.hid (HU1.out.below hb3)
      have HG3 := Lib.hid (HG1.out.below hb3)
      have HB3 := Lib.hid (HB1.out.trans (hb3.mono hz1))
      clear hh3 gc htk rc hcap3 hk1 hcv hzW hb3
      have hcv : (convert 31 9 (.slice kp n kc)).run Tryd.prog w3 = .ok (.string tB) w3 := by rw [HTB.out]; exact HU3.out.string 0
      obtain ⟨W2, C2, CC2, f2, hk2, hci2⟩ := conv_is w3 key (by omega)
      rw [← HTB.out, HN.out] at hk2
      have HCI2 := Lib.hid hci2
      have hzW2 := hci2.lt
      clear hci2
      go_upto_region 7 with (at_builtin; refine wpList_append_mine rfl (.tmp 24) (.tmp 25) 31 rfl w3.heap.size 5 Tryd.underlying31 info_u8 w3.heap.size n C2 CC2 5 f2 key rfl HN.out.symm ((heap_alloc_old _ _ hzW2).trans HCI2.out.blk) HCI2.out.frozen HCI2.out.size HCI2.out.le (Nat.le_refl _) (fun j hj => ((World.cell?_alloc_lt _ _ _ hzW2).trans (HCI2.out.cells j hj))) _ [(9 : UInt8)] (key ++ [9]) 1 rfl (has_lit1 W2 (0, 0) 9) rfl Nat.one_pos rfl (by simp; omega) w3 (HCI2.out.bel.alloc (Nat.le_of_lt hzW2) _) (fun g4 cap4 w4 hg4 hh4 hb4 => ?_))
      obtain ⟨pk, ck, rk, gk⟩ := hh4.wide.head key.length (by rw [List.length_append]; omega)
      have htk : (key ++ [(9 : UInt8)]).take key.length = key := by simp
      rw [htk, HN.out] at gk
      rw [HN.out] at rk
      have hcap4 : n + 1 ≤ cap4 ∧ cap4 ≤ maxLen := by
        obtain ⟨_, _, hf3, hc3, hm3⟩ := hh4.form
        simp only [Value.slice.injEq] at hf3
        obtain ⟨-, hf3, rfl⟩ := hf3
        exact ⟨by omega, hm3⟩
      have hcap4I : (cap4 : Int) ≤ 9223372036854775807 := by have := hcap4.2; unfold maxLen at this; omega
      have hcap4J := hcap4.1
      have hs4 : Six w (.slice bp m bc) (.slice kp n kc) (.slice (some ⟨g3, 0, none⟩) (m + 1) cap3) (.slice pc m cc) (.slice (some ⟨g4, 0, none⟩) (n + 1) cap4) (.slice pk n ck) b key w4 :=
        ⟨HV3.out.below hb4, HU3.out.below hb4, H3.out.below hb4, HC3.out.below hb4, hh4.wide, gk w4 hh4.wide, HG3.out.below hb4, HB3.out.trans (hb4.mono (by omega))⟩
      have HS4 := Lib.hid hs4
      have hD := shaOf_len b
      have hE := shaOf_len (maskOf (keyB key) 92 ++ shaOf (maskOf (keyB key) 54 ++ b))
      rw [show shaOf (maskOf (keyB key) 92 ++ shaOf (maskOf (keyB key) 54 ++ b)) = macOf key b from rfl] at hE
      obtain ⟨D, hDD⟩ : ∃ D, shaOf b = D := ⟨_, rfl⟩
      obtain ⟨E, hEE⟩ : ∃ E, macOf key b = E := ⟨_, rfl⟩
      rw [hDD] at hD
      rw [hEE] at hE
      have HDL := Lib.hid hD
      have HEL := Lib.hid hE
      have HDD := Lib.hid hDD
      have HEE := Lib.hid hEE
      have rc := HRC.out
      have E3 := HE3.out
      have E4 := HE4.out
      clear hh4 gk htk hcap4 hk2 hcv hzW2 hb4 hs4 hD hE hDD hEE
      refine wp_region_held_drew (S := Six w (.slice bp m bc) (.slice kp n kc) (.slice (some ⟨g3, 0, none⟩) (m + 1) cap3) (.slice pc m cc) (.slice (some ⟨g4, 0, none⟩) (n + 1) cap4) (.slice pk n ck) b key) (by kernel_rfl) (HS4.out.below ((Below.refl _ _).drew)) (fun hHeld => ?_)
      refine wpAnyH_take (i := 0) (oi := _) (v := ?_) rfl (by kernel_rfl) (by kernel_rfl) (by kernel_rfl) (fun _ _ _ h => h) (Or.inl ⟨by kernel_rfl, ?hy1⟩) (by assumption) ?_
      case hy1 =>
        intro w9 hSw
        try dsimp only at hSw
        try simp only [List.getElem_toArray, List.getElem_cons_zero, List.getElem_cons_succ]
        go_simp
        try with_reducible rfl
      try simp only [Act.put, List.setIfInBounds_toArray, List.set_cons_zero, List.set_cons_succ, List.getElem_toArray, List.getElem_cons_zero, List.getElem_cons_succ]
      refine wpAnyH_take (i := 1) (oi := _) (v := ?_) rfl (by kernel_rfl) (by kernel_rfl) (by kernel_rfl) (fun _ _ _ h => h) (Or.inl ⟨by kernel_rfl, ?hy2⟩) (by assumption) ?_
      case hy2 =>
        intro w9 hSw
        try dsimp only at hSw
        try simp only [List.getElem_toArray, List.getElem_cons_zero, List.getElem_cons_succ]
        go_simp
        try with_reducible rfl
      try simp only [Act.put, List.setIfInBounds_toArray, List.set_cons_zero, List.set_cons_succ, List.getElem_toArray, List.getElem_cons_zero, List.getElem_cons_succ]
      refine wpAnyH_take (i := 2) (oi := _) (v := ?_) rfl (by kernel_rfl) (by kernel_rfl) (by kernel_rfl) (fun _ _ _ h => h) (Or.inl ⟨by kernel_rfl, ?hy3⟩) (by assumption) ?_
      case hy3 =>
        intro w9 hSw
        try dsimp only at hSw
        try simp only [List.getElem_toArray, List.getElem_cons_zero, List.getElem_cons_succ]
        go_simp
        try with_reducible rfl
      try simp only [Act.put, List.setIfInBounds_toArray, List.set_cons_zero, List.set_cons_succ, List.getElem_toArray, List.getElem_cons_zero, List.getElem_cons_succ]
      refine wpAnyH_take (i := 3) (oi := _) (v := ?_) rfl (by kernel_rfl) (by kernel_rfl) (by kernel_rfl) (fun _ _ _ h => h) (Or.inl ⟨by kernel_rfl, ?hy4⟩) (by assumption) ?_
      case hy4 =>
        intro w9 hSw
        try dsimp only at hSw
        try simp only [List.getElem_toArray, List.getElem_cons_zero, List.getElem_cons_succ]
        go_simp
        try with_reducible rfl
      try simp only [Act.put, List.setIfInBounds_toArray, List.set_cons_zero, List.set_cons_succ, List.getElem_toArray, List.getElem_cons_zero, List.getElem_cons_succ]
      refine wpAnyH_take (i := 5) (oi := _) (v := ?_) rfl (by kernel_rfl) (by kernel_rfl) (by kernel_rfl) (fun _ _ _ h => h) (Or.inl ⟨by kernel_rfl, ?hy5⟩) (by assumption) ?_
      case hy5 =>
        intro w9 hSw
        try dsimp only at hSw
        try simp only [List.getElem_toArray, List.getElem_cons_zero, List.getElem_cons_succ]
        go_simp
        try with_reducible rfl
      try simp only [Act.put, List.setIfInBounds_toArray, List.set_cons_zero, List.set_cons_succ, List.getElem_toArray, List.getElem_cons_zero, List.getElem_cons_succ]
      refine wpAnyH_ready (rs := [4]) (by kernel_rfl) (by simp) (AllReadyH.cons (o := _) rfl (fun K hK => ?_) AllReadyH.nil)
      try simp only [List.getElem_toArray, List.getElem_cons_zero, List.getElem_cons_succ]
      go_simp
      refine (Sum_any _ _ b hHeld.h4 (by omega) hHeld.g).mono ?_
      rw [HDD.out]
      rintro e w5 ⟨rfl, hb5⟩
      refine hK.out _ _ ((hHeld.below hb5)) (fun hHeld => ?_)
      clear hK K
      try simp only [Act.put, List.setIfInBounds_toArray, List.set_cons_zero, List.set_cons_succ, List.getElem_toArray, List.getElem_cons_zero, List.getElem_cons_succ]
      refine wpAnyH_ready (rs := [6]) (by kernel_rfl) (by simp) (AllReadyH.cons (o := _) rfl (fun K hK => ?_) AllReadyH.nil)
      try simp only [List.getElem_toArray, List.getElem_cons_zero, List.getElem_cons_succ]
      go_simp
      refine (Ref.Sum_any _ b _ hHeld.h1 (by omega)).mono ?_
      rw [HDD.out]
      rintro e w6 ⟨rfl, hb6⟩
      refine hK.out _ _ ((hHeld.below hb6)) (fun hHeld => ?_)
      clear hK K
      try simp only [Act.put, List.setIfInBounds_toArray, List.set_cons_zero, List.set_cons_succ, List.getElem_toArray, List.getElem_cons_zero, List.getElem_cons_succ]
      refine wpAnyH_take (i := 7) (oi := _) (v := ?_) rfl (by kernel_rfl) (by kernel_rfl) (by kernel_rfl) (fun _ _ _ h => h) ?hl6 (by assumption) ?_
      case hl6 => refine yieldsIf_eq32 ?_ (.tmp 31) (.tmp 33) 23 ?_ D D ?_ ?_ HDL.out HDL.out true (decide_eq_true rfl) <;> kernel_rfl
      try simp only [Act.put, List.setIfInBounds_toArray, List.set_cons_zero, List.set_cons_succ, List.getElem_toArray, List.getElem_cons_zero, List.getElem_cons_succ]
      refine wpAnyH_take (i := 8) (oi := _) (v := ?_) rfl (by kernel_rfl) (by kernel_rfl) (by kernel_rfl) (fun _ _ _ h => h) (Or.inl ⟨by kernel_rfl, ?hy7⟩) (by assumption) ?_
      case hy7 =>
        intro w9 hSw
        try dsimp only at hSw
        try simp only [List.getElem_toArray, List.getElem_cons_zero, List.getElem_cons_succ]
        go_simp
        try with_reducible rfl
      try simp only [Act.put, List.setIfInBounds_toArray, List.set_cons_zero, List.set_cons_succ, List.getElem_toArray, List.getElem_cons_zero, List.getElem_cons_succ]
      refine wpAnyH_take (i := 9) (oi := _) (v := ?_) rfl (by kernel_rfl) (by kernel_rfl) (by kernel_rfl) (fun _ _ _ h => h) (Or.inl ⟨by kernel_rfl, ?hy8⟩) (by assumption) ?_
      case hy8 =>
        intro w9 hSw
        try dsimp only at hSw
        try simp only [List.getElem_toArray, List.getElem_cons_zero, List.getElem_cons_succ]
        go_simp
        try with_reducible rfl
      try simp only [Act.put, List.setIfInBounds_toArray, List.set_cons_zero, List.set_cons_succ, List.getElem_toArray, List.getElem_cons_zero, List.getElem_cons_succ]
      refine wpAnyH_take (i := 10) (oi := _) (v := ?_) rfl (by kernel_rfl) (by kernel_rfl) (by kernel_rfl) (fun _ _ _ h => h) (Or.inl ⟨by kernel_rfl, ?hy9⟩) (by assumption) ?_
      case hy9 =>
        intro w9 hSw
        try dsimp only at hSw
        try simp only [List.getElem_toArray, List.getElem_cons_zero, List.getElem_cons_succ]
        go_simp
        try with_reducible rfl
      try simp only [Act.put, List.setIfInBounds_toArray, List.set_cons_zero, List.set_cons_succ, List.getElem_toArray, List.getElem_cons_zero, List.getElem_cons_succ]
      refine wpAnyH_take (i := 11) (oi := _) (v := ?_) rfl (by kernel_rfl) (by kernel_rfl) (by kernel_rfl) (fun _ _ _ h => h) (Or.inl ⟨by kernel_rfl, ?hy10⟩) (by assumption) ?_
      case hy10 =>
        intro w9 hSw
        try dsimp only at hSw
        try simp only [List.getElem_toArray, List.getElem_cons_zero, List.getElem_cons_succ]
        go_simp
        try with_reducible rfl
      try simp only [Act.put, List.setIfInBounds_toArray, List.set_cons_zero, List.set_cons_succ, List.getElem_toArray, List.getElem_cons_zero, List.getElem_cons_succ]
      refine wpAnyH_take (i := 12) (oi := _) (v := ?_) rfl (by kernel_rfl) (by kernel_rfl) (by kernel_rfl) (fun _ _ _ h => h) (Or.inl ⟨by kernel_rfl, ?hy11⟩) (by assumption) ?_
      case hy11 =>
        intro w9 hSw
        try dsimp only at hSw
        try simp only [List.getElem_toArray, List.getElem_cons_zero, List.getElem_cons_succ]
        go_simp
        try with_reducible rfl
      try simp only [Act.put, List.setIfInBounds_toArray, List.set_cons_zero, List.set_cons_succ, List.getElem_toArray, List.getElem_cons_zero, List.getElem_cons_succ]
      refine wpAnyH_take (i := 13) (oi := _) (v := ?_) rfl (by kernel_rfl) (by kernel_rfl) (by kernel_rfl) (fun _ _ _ h => h) (Or.inl ⟨by kernel_rfl, ?hy12⟩) (by assumption) ?_
      case hy12 =>
        intro w9 hSw
        try dsimp only at hSw
        try simp only [List.getElem_toArray, List.getElem_cons_zero, List.getElem_cons_succ]
        go_simp
        try with_reducible rfl
      try simp only [Act.put, List.setIfInBounds_toArray, List.set_cons_zero, List.set_cons_succ, List.getElem_toArray, List.getElem_cons_zero, List.getElem_cons_succ]
      refine wpAnyH_take (i := 14) (oi := _) (v := ?_) rfl (by kernel_rfl) (by kernel_rfl) (by kernel_rfl) (fun _ _ _ h => h) (Or.inl ⟨by kernel_rfl, ?hy13⟩) (by assumption) ?_
      case hy13 =>
        intro w9 hSw
        try dsimp only at hSw
        try simp only [List.getElem_toArray, List.getElem_cons_zero, List.getElem_cons_succ]
        go_simp
        try with_reducible rfl
      try simp only [Act.put, List.setIfInBounds_toArray, List.set_cons_zero, List.set_cons_succ, List.getElem_toArray, List.getElem_cons_zero, List.getElem_cons_succ]
      refine wpAnyH_take (i := 15) (oi := _) (v := ?_) rfl (by kernel_rfl) (by kernel_rfl) (by kernel_rfl) (fun _ _ _ h => h) (Or.inl ⟨by kernel_rfl, ?hy14⟩) (by assumption) ?_
      case hy14 =>
        intro w9 hSw
        try dsimp only at hSw
        try simp only [List.getElem_toArray, List.getElem_cons_zero, List.getElem_cons_succ]
        go_simp
        try with_reducible rfl
      try simp only [Act.put, List.setIfInBounds_toArray, List.set_cons_zero, List.set_cons_succ, List.getElem_toArray, List.getElem_cons_zero, List.getElem_cons_succ]
      refine wpAnyH_take (i := 16) (oi := _) (v := ?_) rfl (by kernel_rfl) (by kernel_rfl) (by kernel_rfl) (fun _ _ _ h => h) (Or.inl ⟨by kernel_rfl, ?hy15⟩) (by assumption) ?_
      case hy15 =>
        intro w9 hSw
        try dsimp only at hSw
        try simp only [List.getElem_toArray, List.getElem_cons_zero, List.getElem_cons_succ]
        go_simp
        try with_reducible rfl
      try simp only [Act.put, List.setIfInBounds_toArray, List.set_cons_zero, List.set_cons_succ, List.getElem_toArray, List.getElem_cons_zero, List.getElem_cons_succ]
      refine wpAnyH_take (i := 18) (oi := _) (v := ?_) rfl (by kernel_rfl) (by kernel_rfl) (by kernel_rfl) (fun _ _ _ h => h) (Or.inl ⟨by kernel_rfl, ?hy16⟩) (by assumption) ?_
      case hy16 =>
        intro w9 hSw
        try dsimp only at hSw
        try simp only [List.getElem_toArray, List.getElem_cons_zero, List.getElem_cons_succ]
        go_simp
        try with_reducible rfl
      try simp only [Act.put, List.setIfInBounds_toArray, List.set_cons_zero, List.set_cons_succ, List.getElem_toArray, List.getElem_cons_zero, List.getElem_cons_succ]
      refine wpAnyH_take (i := 19) (oi := _) (v := ?_) rfl (by kernel_rfl) (by kernel_rfl) (by kernel_rfl) (fun _ _ _ h => h) (Or.inl ⟨by kernel_rfl, ?hy17⟩) (by assumption) ?_
      case hy17 =>
        intro w9 hSw
        try dsimp only at hSw
        try simp only [List.getElem_toArray, List.getElem_cons_zero, List.getElem_cons_succ]
        go_simp
        try with_reducible rfl
      try simp only [Act.put, List.setIfInBounds_toArray, List.set_cons_zero, List.set_cons_succ, List.getElem_toArray, List.getElem_cons_zero, List.getElem_cons_succ]
      refine wpAnyH_ready (rs := [17]) (by kernel_rfl) (by simp) (AllReadyH.cons (o := _) rfl (fun K hK => ?_) AllReadyH.nil)
      try simp only [List.getElem_toArray, List.getElem_cons_zero, List.getElem_cons_succ]
      go_simp
      refine (Mac_any _ _ _ key b hHeld.h6 hHeld.h4 (by omega) (by omega) hHeld.g).mono ?_
      rw [HEE.out]
      rintro e w7 ⟨rfl, hb7⟩
      refine hK.out _ _ ((hHeld.below hb7)) (fun hHeld => ?_)
      clear hK K
      try simp only [Act.put, List.setIfInBounds_toArray, List.set_cons_zero, List.set_cons_succ, List.getElem_toArray, List.getElem_cons_zero, List.getElem_cons_succ]
      refine wpAnyH_ready (rs := [20]) (by kernel_rfl) (by simp) (AllReadyH.cons (o := _) rfl (fun K hK => ?_) AllReadyH.nil)
      try simp only [List.getElem_toArray, List.getElem_cons_zero, List.getElem_cons_succ]
      go_simp
      refine (Ref.Mac_any _ _ key b _ hHeld.h2 hHeld.h1 (by omega) (by omega)).mono ?_
      rw [HEE.out]
      rintro e w8 ⟨rfl, hb8⟩
      refine hK.out _ _ ((hHeld.below hb8)) (fun hHeld => ?_)
      clear hK K
      try simp only [Act.put, List.setIfInBounds_toArray, List.set_cons_zero, List.set_cons_succ, List.getElem_toArray, List.getElem_cons_zero, List.getElem_cons_succ]
      refine wpAnyH_take (i := 21) (oi := _) (v := ?_) rfl (by kernel_rfl) (by kernel_rfl) (by kernel_rfl) (fun _ _ _ h => h) ?hl18 (by assumption) ?_
      case hl18 => refine yieldsIf_eq32 ?_ (.tmp 44) (.tmp 47) 23 ?_ E E ?_ ?_ HEL.out HEL.out true (decide_eq_true rfl) <;> kernel_rfl
      try simp only [Act.put, List.setIfInBounds_toArray, List.set_cons_zero, List.set_cons_succ, List.getElem_toArray, List.getElem_cons_zero, List.getElem_cons_succ]
      refine wpAnyH_take (i := 22) (oi := _) (v := ?_) rfl (by kernel_rfl) (by kernel_rfl) (by kernel_rfl) (fun _ _ _ h => h) (Or.inl ⟨by kernel_rfl, ?hy19⟩) (by assumption) ?_
      case hy19 =>
        intro w9 hSw
        try dsimp only at hSw
        try simp only [List.getElem_toArray, List.getElem_cons_zero, List.getElem_cons_succ]
        go_simp
        try with_reducible rfl
      try simp only [Act.put, List.setIfInBounds_toArray, List.set_cons_zero, List.set_cons_succ, List.getElem_toArray, List.getElem_cons_zero, List.getElem_cons_succ]
      refine wpAnyH_take (i := 23) (oi := _) (v := ?_) rfl (by kernel_rfl) (by kernel_rfl) (by kernel_rfl) (fun _ _ _ h => h) (Or.inl ⟨by kernel_rfl, ?hy20⟩) (by assumption) ?_
      case hy20 =>
        intro w9 hSw
        try dsimp only at hSw
        try simp only [List.getElem_toArray, List.getElem_cons_zero, List.getElem_cons_succ]
        go_simp
        try with_reducible rfl
      try simp only [Act.put, List.setIfInBounds_toArray, List.set_cons_zero, List.set_cons_succ, List.getElem_toArray, List.getElem_cons_zero, List.getElem_cons_succ]
      refine wpAnyH_take (i := 24) (oi := _) (v := ?_) rfl (by kernel_rfl) (by kernel_rfl) (by kernel_rfl) (fun _ _ _ h => h) (Or.inl ⟨by kernel_rfl, ?hy21⟩) (by assumption) ?_
      case hy21 =>
        intro w9 hSw
        try dsimp only at hSw
        try simp only [List.getElem_toArray, List.getElem_cons_zero, List.getElem_cons_succ]
        go_simp
        try with_reducible rfl
      try simp only [Act.put, List.setIfInBounds_toArray, List.set_cons_zero, List.set_cons_succ, List.getElem_toArray, List.getElem_cons_zero, List.getElem_cons_succ]
      refine wpAnyH_take (i := 25) (oi := _) (v := ?_) rfl (by kernel_rfl) (by kernel_rfl) (by kernel_rfl) (fun _ _ _ h => h) ?hl22 (by assumption) ?_
      case hl22 => refine yieldsIf_textS ?_ (.tmp 51) ?_ (.slice (some ⟨g3, 0, none⟩) (m + 1) cap3) (b ++ [9]) ?_ ?_ sC HSC.out <;> first | exact fun _ hw => hw.h3 | kernel_rfl
      try simp only [Act.put, List.setIfInBounds_toArray, List.set_cons_zero, List.set_cons_succ, List.getElem_toArray, List.getElem_cons_zero, List.getElem_cons_succ]
      refine wpAnyH_take (i := 26) (oi := _) (v := ?_) rfl (by kernel_rfl) (by kernel_rfl) (by kernel_rfl) (fun _ _ _ h => h) (Or.inl ⟨by kernel_rfl, ?hy23⟩) (by assumption) ?_
      case hy23 =>
        intro w9 hSw
        try dsimp only at hSw
        try simp only [List.getElem_toArray, List.getElem_cons_zero, List.getElem_cons_succ]
        go_simp
        try with_reducible rfl
      try simp only [Act.put, List.setIfInBounds_toArray, List.set_cons_zero, List.set_cons_succ, List.getElem_toArray, List.getElem_cons_zero, List.getElem_cons_succ]
      refine wpAnyH_take (i := 27) (oi := _) (v := ?_) rfl (by kernel_rfl) (by kernel_rfl) (by kernel_rfl) (fun _ _ _ h => h) ?hl24 (by assumption) ?_
      case hl24 => refine yieldsIf_textS ?_ (.tmp 53) ?_ (.slice bp m bc) b ?_ ?_ sB HSB.out <;> first | exact fun _ hw => hw.h1 | kernel_rfl
      try simp only [Act.put, List.setIfInBounds_toArray, List.set_cons_zero, List.set_cons_succ, List.getElem_toArray, List.getElem_cons_zero, List.getElem_cons_succ]
      refine wpAnyH_take (i := 28) (oi := _) (v := ?_) rfl (by kernel_rfl) (by kernel_rfl) (by kernel_rfl) (fun _ _ _ h => h) (Or.inl ⟨by kernel_rfl, ?hy25⟩) (by assumption) ?_
      case hy25 =>
        intro w9 hSw
        try dsimp only at hSw
        try simp only [List.getElem_toArray, List.getElem_cons_zero, List.getElem_cons_succ]
        go_simp
        try with_reducible rfl
      try simp only [Act.put, List.setIfInBounds_toArray, List.set_cons_zero, List.set_cons_succ, List.getElem_toArray, List.getElem_cons_zero, List.getElem_cons_succ]
      refine wpAnyH_take (i := 29) (oi := _) (v := ?_) rfl (by kernel_rfl) (by kernel_rfl) (by kernel_rfl) (fun _ _ _ h => h) ?hl26 (by assumption) ?_
      case hl26 => refine yieldsIf_eqS ?_ (.tmp 52) (.tmp 55) 9 ?_ sC sC ?_ ?_ true (decide_eq_true rfl) <;> kernel_rfl
      try simp only [Act.put, List.setIfInBounds_toArray, List.set_cons_zero, List.set_cons_succ, List.getElem_toArray, List.getElem_cons_zero, List.getElem_cons_succ]
      refine wpAnyH_take (i := 30) (oi := _) (v := ?_) rfl (by kernel_rfl) (by kernel_rfl) (by kernel_rfl) (fun _ _ _ h => h) (Or.inl ⟨by kernel_rfl, ?hy27⟩) (by assumption) ?_
      case hy27 =>
        intro w9 hSw
        try dsimp only at hSw
        try simp only [List.getElem_toArray, List.getElem_cons_zero, List.getElem_cons_succ]
        go_simp
        try with_reducible rfl
      try simp only [Act.put, List.setIfInBounds_toArray, List.set_cons_zero, List.set_cons_succ, List.getElem_toArray, List.getElem_cons_zero, List.getElem_cons_succ]
      refine wpAnyH_take (i := 31) (oi := _) (v := ?_) rfl (by kernel_rfl) (by kernel_rfl) (by kernel_rfl) (fun _ _ _ h => h) (Or.inl ⟨by kernel_rfl, ?hy28⟩) (by assumption) ?_
      case hy28 =>
        intro w9 hSw
        try dsimp only at hSw
        try simp only [List.getElem_toArray, List.getElem_cons_zero, List.getElem_cons_succ]
        go_simp
        try with_reducible rfl
      try simp only [Act.put, List.setIfInBounds_toArray, List.set_cons_zero, List.set_cons_succ, List.getElem_toArray, List.getElem_cons_zero, List.getElem_cons_succ]
      refine wpAnyH_take (i := 32) (oi := _) (v := ?_) rfl (by kernel_rfl) (by kernel_rfl) (by kernel_rfl) (fun _ _ _ h => h) (Or.inl ⟨by kernel_rfl, ?hy29⟩) (by assumption) ?_
      case hy29 =>
        intro w9 hSw
        try dsimp only at hSw
        try simp only [List.getElem_toArray, List.getElem_cons_zero, List.getElem_cons_succ]
        go_simp
        try with_reducible rfl
      try simp only [Act.put, List.setIfInBounds_toArray, List.set_cons_zero, List.set_cons_succ, List.getElem_toArray, List.getElem_cons_zero, List.getElem_cons_succ]
      refine wpAnyH_take (i := 33) (oi := _) (v := ?_) rfl (by kernel_rfl) (by kernel_rfl) (by kernel_rfl) (fun _ _ _ h => h) ?hl30 (by assumption) ?_
      case hl30 => refine yieldsIf_textS ?_ (.tmp 59) ?_ (.slice (some ⟨g4, 0, none⟩) (n + 1) cap4) (key ++ [9]) ?_ ?_ tC HTC.out <;> first | exact fun _ hw => hw.h5 | kernel_rfl
      try simp only [Act.put, List.setIfInBounds_toArray, List.set_cons_zero, List.set_cons_succ, List.getElem_toArray, List.getElem_cons_zero, List.getElem_cons_succ]
      refine wpAnyH_take (i := 34) (oi := _) (v := ?_) rfl (by kernel_rfl) (by kernel_rfl) (by kernel_rfl) (fun _ _ _ h => h) (Or.inl ⟨by kernel_rfl, ?hy31⟩) (by assumption) ?_
      case hy31 =>
        intro w9 hSw
        try dsimp only at hSw
        try simp only [List.getElem_toArray, List.getElem_cons_zero, List.getElem_cons_succ]
        go_simp
        try with_reducible rfl
      try simp only [Act.put, List.setIfInBounds_toArray, List.set_cons_zero, List.set_cons_succ, List.getElem_toArray, List.getElem_cons_zero, List.getElem_cons_succ]
      refine wpAnyH_take (i := 35) (oi := _) (v := ?_) rfl (by kernel_rfl) (by kernel_rfl) (by kernel_rfl) (fun _ _ _ h => h) ?hl32 (by assumption) ?_
      case hl32 => refine yieldsIf_textS ?_ (.tmp 61) ?_ (.slice kp n kc) key ?_ ?_ tB HTB.out <;> first | exact fun _ hw => hw.h2 | kernel_rfl
      try simp only [Act.put, List.setIfInBounds_toArray, List.set_cons_zero, List.set_cons_succ, List.getElem_toArray, List.getElem_cons_zero, List.getElem_cons_succ]
      refine wpAnyH_take (i := 36) (oi := _) (v := ?_) rfl (by kernel_rfl) (by kernel_rfl) (by kernel_rfl) (fun _ _ _ h => h) (Or.inl ⟨by kernel_rfl, ?hy33⟩) (by assumption) ?_
      case hy33 =>
        intro w9 hSw
        try dsimp only at hSw
        try simp only [List.getElem_toArray, List.getElem_cons_zero, List.getElem_cons_succ]
        go_simp
        try with_reducible rfl
      try simp only [Act.put, List.setIfInBounds_toArray, List.set_cons_zero, List.set_cons_succ, List.getElem_toArray, List.getElem_cons_zero, List.getElem_cons_succ]
      refine wpAnyH_take (i := 37) (oi := _) (v := ?_) rfl (by kernel_rfl) (by kernel_rfl) (by kernel_rfl) (fun _ _ _ h => h) ?hl34 (by assumption) ?_
      case hl34 => refine yieldsIf_eqS ?_ (.tmp 60) (.tmp 63) 9 ?_ tC tC ?_ ?_ true (decide_eq_true rfl) <;> kernel_rfl
      try simp only [Act.put, List.setIfInBounds_toArray, List.set_cons_zero, List.set_cons_succ, List.getElem_toArray, List.getElem_cons_zero, List.getElem_cons_succ]
      refine wpAnyH_take (i := 38) (oi := _) (v := ?_) rfl (by kernel_rfl) (by kernel_rfl) (by kernel_rfl) (fun _ _ _ h => h) (Or.inl ⟨by kernel_rfl, ?hy35⟩) (by assumption) ?_
      case hy35 =>
        intro w9 hSw
        try dsimp only at hSw
        try simp only [List.getElem_toArray, List.getElem_cons_zero, List.getElem_cons_succ]
        go_simp
        try with_reducible rfl
      try simp only [Act.put, List.setIfInBounds_toArray, List.set_cons_zero, List.set_cons_succ, List.getElem_toArray, List.getElem_cons_zero, List.getElem_cons_succ]
      refine wpAnyH_take (i := 39) (oi := _) (v := ?_) rfl (by kernel_rfl) (by kernel_rfl) (by kernel_rfl) (fun _ _ _ h => h) (Or.inl ⟨by kernel_rfl, ?hy36⟩) (by assumption) ?_
      case hy36 =>
        intro w9 hSw
        try dsimp only at hSw
        try simp only [List.getElem_toArray, List.getElem_cons_zero, List.getElem_cons_succ]
        go_simp
        try with_reducible rfl
      try simp only [Act.put, List.setIfInBounds_toArray, List.set_cons_zero, List.set_cons_succ, List.getElem_toArray, List.getElem_cons_zero, List.getElem_cons_succ]
      refine wpAnyH_done (by kernel_rfl) ?_ _
      have HFIN := Lib.hid hHeld.bel
      clear hHeld hb5 hb6 hb7 hb8 rc rk E3 E4
      go_wp2
      go_ret
      exact ⟨rfl, HFIN.out⟩
end Go.Proofs.YtjopfhmloklhdaaDoor
