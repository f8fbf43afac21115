/-
  Package merge: two sorted lists made one.
-/
import Derived.Test.YtfdafoibclfpgaaMRow
namespace Go.Proofs.Ytfdafoibclfpgaa
open Go.ChangeShapes Go.WideShapes Go.ChangeAt Go.RowKit Go.Deep
set_option linter.unusedVariables false
set_option linter.unusedSimpArgs false
def lenV : Value → Nat
  | .slice _ n _ => n
  | _ => 0
theorem tail1 {w : World} {p : Option Addr} {n c : Nat} {x : Itm} {l : List Itm} (h : HasK w encI (.slice p n c) (x :: l)) :
    ∃ m p' c', n = m + 1 ∧ l.length = m ∧ (∀ W, (Instr.slice 23 (.slice p n c) (some (.int .i64 1)) none none).run Try.prog W = .ok (.slice p' m c') W) ∧ HasK w encI (.slice p' m c') l := by
  obtain ⟨p', c', h1, h2⟩ := item_tail h 1 (by simp)
  obtain ⟨q, cap, he, -, -⟩ := h.form
  simp only [Value.slice.injEq] at he
  obtain ⟨-, rfl, -⟩ := he
  refine ⟨l.length, p', c', rfl, rfl, fun W => ?_, by simpa using h2 w h⟩
  simpa using h1 W
theorem headC {w : World} {p : Option Addr} {n c : Nat} {x : Itm} {l : List Itm} (h : HasK w encI (.slice p n c) (x :: l)) : ∃ b o, p = some ⟨b, o, none⟩ ∧ b < w.heap.size ∧ ItC w b o x := by
  obtain ⟨q, cap, b, o, he, -, -, h3, h4⟩ := h
  simp only [Value.slice.injEq] at he
  obtain ⟨rfl, rfl, rfl⟩ := he
  obtain ⟨rfl, hb⟩ := h3 (by simp)
  refine ⟨b, o, rfl, hb, ?_⟩
  have := HasK.itAt h4 0 (by simp)
  simpa using this
set_option maxRecDepth 100000 in
set_option maxHeartbeats 16000000 in
theorem Pair_any (v u : Value) (a b : List Itm) (w : World) (hv : HasK w encI v a) (hu : HasK w encI u b) (hl : a.length ≤ 1000000) (hl2 : b.length ≤ 1000000) :
    Calls Try.prog 29 #[v, u] w fun e w' => ∃ v', e = .returned v' ∧ OwnK w' w.heap.size 29 encI v' (pairL a b) ∧ Below w.heap.size w w' := by
  obtain ⟨p, cap, rfl, h1, h2⟩ := hv.form
  obtain ⟨p2, cap2, rfl, k1, k2⟩ := hu.form
  obtain ⟨m, hm⟩ : ∃ m, a.length = m := ⟨_, rfl⟩
  obtain ⟨n, hn⟩ : ∃ n, b.length = n := ⟨_, rfl⟩
  have HM := Lib.hid hm
  have HN := Lib.hid hn
  have HV := Lib.hid hv
  have HU := Lib.hid hu
  have hcI : (cap : Int) ≤ 9223372036854775807 := by unfold maxLen at h2; omega
  have hcJ : (cap2 : Int) ≤ 9223372036854775807 := by unfold maxLen at k2; omega
  obtain ⟨B, hB⟩ : ∃ B, w.heap.size = B := ⟨_, rfl⟩
  have HBB := Lib.hid hB
  rw [hm] at hl h1 HV ⊢
  rw [hn] at hl2 k1 HU ⊢
  rw [hB]
  have hs0 : (0 : Int) ≤ (m : Int) + (n : Int) ∧ (m : Int) + (n : Int) ≤ 9223372036854775807 := by omega
  have hmn : m + n ≤ 2000000 := by omega
  clear hv hu hm hn h2 k2 hB
  go_enter Try.func29, Try.ntmps29
  go_wp2_with (at_make; refine wpList_make_k rfl _ _ 23 rfl B 29 encI _ 48 Try.underlying23 info_item rfl (by decide) (m + n) ((m : Int) + (n : Int)) (by omega) rfl rfl (by omega) (by rw [HBB.out]; exact Nat.le_refl _) w (by rw [← HBB.out]; exact Below.refl _ _) (fun v1 w1 ho1 hb1 => ?_))
  have HO1 := Lib.hid ho1
  have HB1 := Lib.hid hb1
  clear ho1 hb1
  go_loopw [0, 1, 5] (fun va vb vo wr => ∃ la lb lo, HasK w encI va la ∧ HasK w encI vb lb ∧ OwnK wr B 29 encI vo lo ∧ lo ++ pairL la lb = pairL a b ∧ Below B w wr ∧ lo.length + la.length + lb.length ≤ m + n) (fun va vb _ _ => lenV va + lenV vb)
  case atStart => exact ⟨a, b, [], HV.out, HU.out, HO1.out, rfl, HB1.out, by rw [HM.out, HN.out]; simp⟩
  case round =>
    obtain ⟨la, lb, lo, hva, hvb, hvo, heq, hb, hlen⟩ := hrel
    obtain ⟨W0, rfl⟩ : ∃ W0, W0 = wr := ⟨wr, rfl⟩
    obtain ⟨pa, ca, rfl, a1, a2⟩ := hva.form
    obtain ⟨pb, cb, rfl, b1, b2⟩ := hvb.form
    have HVA := Lib.hid hva
    have HVB := Lib.hid hvb
    have HVO := Lib.hid hvo
    have HEQ := Lib.hid heq
    have HB := Lib.hid hb
    have HLEN := Lib.hid hlen
    clear hva hvb hvo heq hb hlen a2 b2
    have fin : la = [] ∨ lb = [] → pairL la lb = la ++ lb := fun h => by
      rcases h with rfl | rfl
      · rw [pairL_nil]; rfl
      · rw [pairL_nil', List.append_nil]
    rcases la with _ | ⟨x, la⟩
    · have HF := Lib.hid (fin (.inl rfl))
      have HBS := Lib.hid (show B ≤ W0.heap.size by have := HB.out.size; rw [HBB.out] at this; exact this)
      have hz : ¬ (0 : Int) < ((([] : List Itm).length : Nat) : Int) := by simp
      obtain ⟨z, hz0⟩ : ∃ z, ([] : List Itm).length = z := ⟨_, rfl⟩
      have HVA2 := Lib.hid (HVA.out.below ((HB.out.mono (by rw [HBB.out]; exact Nat.le_refl _) : Below w.heap.size w W0)))
      have HVB2 := Lib.hid (HVB.out.below ((HB.out.mono (by rw [HBB.out]; exact Nat.le_refl _) : Below w.heap.size w W0)))
      rw [hz0] at hz HVA2 ⊢
      clear fin hz0
      go_wp2_with (at_builtin; first
        | (refine wpList_append_ka rfl (.tmp 54) (.tmp 55) 23 rfl B 29 encI _ 48 Try.underlying23 info_item rfl (by decide) _ lo rfl HVO.out _ [] rfl HVA2.out (by have := HLEN.out; show lo.length + 0 ≤ _; omega) HBS.out w HB.out (fun v7 w7 ho7 hb7 => ?_); have HO7 := Lib.hid ho7; have HB7 := Lib.hid hb7; have HS7 := Lib.hid (show B ≤ w7.heap.size by have := hb7.size; rw [HBB.out] at this; exact this); have HVB7 := Lib.hid (HVB.out.below ((hb7.mono (by rw [HBB.out]; exact Nat.le_refl _) : Below w.heap.size w w7))); clear ho7 hb7)
        | (refine wpList_append_ka rfl (.tmp 56) (.tmp 57) 23 rfl B 29 encI _ 48 Try.underlying23 info_item rfl (by decide) _ (lo ++ []) rfl HO7.out _ lb rfl HVB7.out (by have := HLEN.out; rw [List.append_nil]; omega) HS7.out w HB7.out (fun v8 w8 ho8 hb8 => ?_); have HO8 := Lib.hid ho8; have HB8 := Lib.hid hb8; clear ho8 hb8))
      go_ret
      exact ⟨_, rfl, by have z := HO8.out; rw [List.append_assoc, ← HF.out, HEQ.out] at z; exact z, HB8.out⟩
    · rcases lb with _ | ⟨y, lb⟩
      · have HF := Lib.hid (fin (.inr rfl))
        have HBS := Lib.hid (show B ≤ W0.heap.size by have := HB.out.size; rw [HBB.out] at this; exact this)
        have hy : (0 : Int) < (((x :: la).length : Nat) : Int) := by simp <;> omega
        have hz : ¬ (0 : Int) < ((([] : List Itm).length : Nat) : Int) := by simp
        obtain ⟨z, hz0⟩ : ∃ z, ([] : List Itm).length = z := ⟨_, rfl⟩
        obtain ⟨q, hq0⟩ : ∃ q, (x :: la).length = q := ⟨_, rfl⟩
        have HVA2 := Lib.hid (HVA.out.below ((HB.out.mono (by rw [HBB.out]; exact Nat.le_refl _) : Below w.heap.size w W0)))
        have HVB2 := Lib.hid HVB.out
        have HQ := Lib.hid hq0
        rw [hz0] at hz HVB2 ⊢
        rw [hq0] at hy HVA2 ⊢
        clear fin hz0 hq0
        go_wp2_with (at_builtin; first
          | (refine wpList_append_ka rfl (.tmp 54) (.tmp 55) 23 rfl B 29 encI _ 48 Try.underlying23 info_item rfl (by decide) _ lo rfl HVO.out _ (x :: la) rfl HVA2.out (by have := HLEN.out; omega) HBS.out w HB.out (fun v7 w7 ho7 hb7 => ?_); have HO7 := Lib.hid ho7; have HB7 := Lib.hid hb7; have HS7 := Lib.hid (show B ≤ w7.heap.size by have := hb7.size; rw [HBB.out] at this; exact this); have HVB7 := Lib.hid (HVB2.out.below ((hb7.mono (by rw [HBB.out]; exact Nat.le_refl _) : Below w.heap.size w w7))); clear ho7 hb7)
          | (refine wpList_append_ka rfl (.tmp 56) (.tmp 57) 23 rfl B 29 encI _ 48 Try.underlying23 info_item rfl (by decide) _ (lo ++ x :: la) rfl HO7.out _ [] rfl HVB7.out (by have := HLEN.out; rw [List.length_append]; show _ + 0 ≤ _; omega) HS7.out w HB7.out (fun v8 w8 ho8 hb8 => ?_); have HO8 := Lib.hid ho8; have HB8 := Lib.hid hb8; clear ho8 hb8))
        go_ret
        exact ⟨_, rfl, by have z := HO8.out; rw [List.append_assoc, ← HF.out, HEQ.out] at z; exact z, HB8.out⟩
      · have HBS := Lib.hid (show B ≤ W0.heap.size by have := HB.out.size; rw [HBB.out] at this; exact this)
        obtain ⟨ba, oa, rfl, hba, hxc⟩ := headC HVA.out
        obtain ⟨bb, ob, rfl, hbb, hyc⟩ := headC HVB.out
        obtain ⟨q, pa', ca', hq, hlq, sta, hta⟩ := tail1 HVA.out
        obtain ⟨r, pb', cb', hr, hlr, stb, htb⟩ := tail1 HVB.out
        have hwW : Below w.heap.size w W0 := HB.out.mono (by rw [HBB.out]; exact Nat.le_refl _)
        have HX := Lib.hid hxc
        have HY := Lib.hid hyc
        have HXW := Lib.hid (hxc.below hwW)
        have HYW := Lib.hid (hyc.below hwW)
        have HTA := Lib.hid hta
        have HTB := Lib.hid htb
        have HSTA := Lib.hid sta
        have HSTB := Lib.hid stb
        have HLQ := Lib.hid hlq
        have HLR := Lib.hid hlr
        have hpc := pairL_cons x la y lb
        have HPC := Lib.hid hpc
        rw [hq] at HSTA HVA a1 ⊢
        rw [hr] at HSTB HVB b1 ⊢
        have hqI : (0 : Int) < ((q + 1 : Nat) : Int) := by omega
        have hrI : (0 : Int) < ((r + 1 : Nat) : Int) := by omega
        obtain ⟨Q, hQ⟩ : ∃ Q, q + 1 = Q := ⟨_, rfl⟩
        obtain ⟨R, hR⟩ : ∃ R, r + 1 = R := ⟨_, rfl⟩
        have HQQ := Lib.hid hQ
        have HRR := Lib.hid hR
        rw [hQ] at HSTA HVA hqI a1 ⊢
        rw [hR] at HSTB HVB hrI b1 ⊢
        clear hxc hyc hta htb sta stb hlq hlr hpc hq hr hQ hR hwW fin
        go_upto_region 4 with fail
        refine AnyL.begin (S := fun W => ItC W ba oa x ∧ ItC W bb ob y) 7 (by kernel_rfl) ⟨HXW.out.drew, HYW.out.drew⟩ (fun hHeld => ?_)
        refine AnyL.take (i := 0) (oi := _) (v := ?_) 30 rfl (by kernel_rfl) (by kernel_rfl) (by kernel_rfl) (by kernel_rfl) (by kernel_rfl) (fun _ _ _ h => h) (Or.inl ⟨by kernel_rfl, ?hy1⟩) (by assumption) ?_
        case hy1 =>
          intro w9 hSw
          try dsimp only at hSw
          try simp only [List.getElem_toArray, List.getElem_cons_zero, List.getElem_cons_succ]
          go_simp
          try with_reducible rfl
        try simp only [Act.put, List.setIfInBounds_toArray, List.set_cons_zero, List.set_cons_succ, List.getElem_toArray, List.getElem_cons_zero, List.getElem_cons_succ]
        refine AnyL.take (i := 1) (oi := _) (v := ?_) 30 rfl (by kernel_rfl) (by kernel_rfl) (by kernel_rfl) (by kernel_rfl) (by kernel_rfl) (fun _ _ _ h => h) (Or.inl ⟨by kernel_rfl, ?hy2⟩) (by assumption) ?_
        case hy2 =>
          intro w9 hSw
          try dsimp only at hSw
          try simp only [List.getElem_toArray, List.getElem_cons_zero, List.getElem_cons_succ]
          go_simp
          try with_reducible rfl
        try simp only [Act.put, List.setIfInBounds_toArray, List.set_cons_zero, List.set_cons_succ, List.getElem_toArray, List.getElem_cons_zero, List.getElem_cons_succ]
        refine AnyL.take (i := 2) (oi := _) (v := x.v) 30 rfl (by kernel_rfl) (by kernel_rfl) (by kernel_rfl) (by kernel_rfl) (by kernel_rfl) (fun _ _ _ h => h) (Or.inl ⟨by kernel_rfl, ?hy3⟩) (by assumption) ?_
        case hy3 =>
          intro w9 hSw
          try dsimp only at hSw
          try simp only [List.getElem_toArray, List.getElem_cons_zero, List.getElem_cons_succ]
          go_simp
          obtain ⟨⟨a0, a1, a2, a3⟩, -⟩ := hSw
          try go_simp
          try rfl
        try simp only [Act.put, List.setIfInBounds_toArray, List.set_cons_zero, List.set_cons_succ, List.getElem_toArray, List.getElem_cons_zero, List.getElem_cons_succ]
        refine AnyL.take (i := 3) (oi := _) (v := ?_) 30 rfl (by kernel_rfl) (by kernel_rfl) (by kernel_rfl) (by kernel_rfl) (by kernel_rfl) (fun _ _ _ h => h) (Or.inl ⟨by kernel_rfl, ?hy4⟩) (by assumption) ?_
        case hy4 =>
          intro w9 hSw
          try dsimp only at hSw
          try simp only [List.getElem_toArray, List.getElem_cons_zero, List.getElem_cons_succ]
          go_simp
          try with_reducible rfl
        try simp only [Act.put, List.setIfInBounds_toArray, List.set_cons_zero, List.set_cons_succ, List.getElem_toArray, List.getElem_cons_zero, List.getElem_cons_succ]
        refine AnyL.take (i := 4) (oi := _) (v := ?_) 30 rfl (by kernel_rfl) (by kernel_rfl) (by kernel_rfl) (by kernel_rfl) (by kernel_rfl) (fun _ _ _ h => h) (Or.inl ⟨by kernel_rfl, ?hy5⟩) (by assumption) ?_
        case hy5 =>
          intro w9 hSw
          try dsimp only at hSw
          try simp only [List.getElem_toArray, List.getElem_cons_zero, List.getElem_cons_succ]
          go_simp
          try with_reducible rfl
        try simp only [Act.put, List.setIfInBounds_toArray, List.set_cons_zero, List.set_cons_succ, List.getElem_toArray, List.getElem_cons_zero, List.getElem_cons_succ]
        refine AnyL.take (i := 5) (oi := _) (v := y.v) 30 rfl (by kernel_rfl) (by kernel_rfl) (by kernel_rfl) (by kernel_rfl) (by kernel_rfl) (fun _ _ _ h => h) (Or.inl ⟨by kernel_rfl, ?hy6⟩) (by assumption) ?_
        case hy6 =>
          intro w9 hSw
          try dsimp only at hSw
          try simp only [List.getElem_toArray, List.getElem_cons_zero, List.getElem_cons_succ]
          go_simp
          obtain ⟨-, ⟨a0, a1, a2, a3⟩⟩ := hSw
          try go_simp
          try rfl
        try simp only [Act.put, List.setIfInBounds_toArray, List.set_cons_zero, List.set_cons_succ, List.getElem_toArray, List.getElem_cons_zero, List.getElem_cons_succ]
        refine AnyL.one (i := 6) (o := _) (by kernel_rfl) rfl (fun K hK => ?_)
        try simp only [List.getElem_toArray, List.getElem_cons_zero, List.getElem_cons_succ]
        go_simp
        refine (Ahead_any x y _).mono ?_
        obtain ⟨ah, hah⟩ : ∃ a, aheadI x y = a := ⟨_, rfl⟩
        rw [hah]
        have HAH := Lib.hid hah
        clear hah
        rintro e w9 ⟨rfl, hb9⟩
        refine hK.out _ _ (fun _ => ⟨hHeld.1.below hb9, hHeld.2.below hb9⟩) (fun hHeld => ?_)
        replace hHeld := hHeld (by decide)
        clear hK K
        try simp only [Act.put, List.setIfInBounds_toArray, List.set_cons_zero, List.set_cons_succ, List.getElem_toArray, List.getElem_cons_zero, List.getElem_cons_succ]
        have HX9 := Lib.hid hHeld.1
        have HY9 := Lib.hid hHeld.2
        have hd9 := ((Below.refl W0.heap.size W0).drew.trans hb9)
        have HO9 := Lib.hid (HVO.out.below hd9)
        have HB9 := Lib.hid (HB.out.trans (hd9.mono HBS.out))
        clear hb9 hd9
        refine AnyL.one (i := 7) (o := _) (by kernel_rfl) rfl (fun K hK => ?_)
        try simp only [List.getElem_toArray, List.getElem_cons_zero, List.getElem_cons_succ]
        go_simp
        refine hK.out _ _ (fun h => absurd rfl h) (fun _ => ?_)
        clear hK K
        try simp only [Act.put, List.setIfInBounds_toArray, List.set_cons_zero, List.set_cons_succ, List.getElem_toArray, List.getElem_cons_zero, List.getElem_cons_succ]
        refine AnyL.done (by kernel_rfl) ?_ _
        have HS9 := Lib.hid (show B ≤ w9.heap.size by have := HB9.out.size; rw [HBB.out] at this; exact this)
        cases ah with
        | true =>
          obtain ⟨c0, c1, c2, c3⟩ := HX9.out
          have hba := (Below.refl w9.heap.size w9).alloc (Nat.le_refl _) (.cells #[.string x.key, .int .u64 (x.seq : Int), .bool x.gone, .string x.val] 29)
          have HYY := Lib.hid (one_item x (heap_alloc_new w9 (.cells #[.string x.key, .int .u64 (x.seq : Int), .bool x.gone, .string x.val] 29)))
          have HOA := Lib.hid (HO9.out.below hba)
          have HBA := Lib.hid (HB9.out.trans (hba.mono HS9.out))
          have HSA := Lib.hid (show B ≤ (w9.alloc (.cells #[.string x.key, .int .u64 (x.seq : Int), .bool x.gone, .string x.val] 29)).heap.size by have := HBA.out.size; rw [HBB.out] at this; exact this)
          have sta := HSTA.out
          clear hba
          go_wp2_with (at_builtin; refine wpList_append_k rfl (.tmp 30) (.tmp 34) 23 rfl B 29 encI _ 48 Try.underlying23 info_item rfl (by decide) _ lo rfl HOA.out _ [x] rfl HYY.out Nat.one_pos (by have := HLEN.out; simp only [List.length_cons, List.length_nil] at this ⊢; omega) HSA.out w HBA.out (fun v7 w7 ho7 hb7 _ _ => ?_); have HO7 := Lib.hid ho7; have HB7 := Lib.hid hb7; clear ho7 hb7)
          go_roundw
          case rel =>
            refine ⟨la, y :: lb, lo ++ [x], HTA.out, HVB.out, HO7.out, ?_, HB7.out, ?_⟩
            · rw [← HEQ.out, HPC.out, HAH.out, if_pos rfl, List.append_assoc]; rfl
            · have := HLEN.out; simp only [List.length_cons, List.length_append, List.length_nil] at this ⊢; omega
          case measure => have := HQQ.out; simp [lenV] <;> omega
        | false =>
          have HSTB2 := HSTB
          go_upto_region 7 with fail
          refine AnyL.begin (S := fun W => ItC W ba oa x ∧ ItC W bb ob y) 7 (by kernel_rfl) ⟨HX9.out.drew, HY9.out.drew⟩ (fun hHeld => ?_)
          refine AnyL.take (i := 0) (oi := _) (v := ?_) 30 rfl (by kernel_rfl) (by kernel_rfl) (by kernel_rfl) (by kernel_rfl) (by kernel_rfl) (fun _ _ _ h => h) (Or.inl ⟨by kernel_rfl, ?hy7⟩) (by assumption) ?_
          case hy7 =>
            intro w9 hSw
            try dsimp only at hSw
            try simp only [List.getElem_toArray, List.getElem_cons_zero, List.getElem_cons_succ]
            go_simp
            try with_reducible rfl
          try simp only [Act.put, List.setIfInBounds_toArray, List.set_cons_zero, List.set_cons_succ, List.getElem_toArray, List.getElem_cons_zero, List.getElem_cons_succ]
          refine AnyL.take (i := 1) (oi := _) (v := ?_) 30 rfl (by kernel_rfl) (by kernel_rfl) (by kernel_rfl) (by kernel_rfl) (by kernel_rfl) (fun _ _ _ h => h) (Or.inl ⟨by kernel_rfl, ?hy8⟩) (by assumption) ?_
          case hy8 =>
            intro w9 hSw
            try dsimp only at hSw
            try simp only [List.getElem_toArray, List.getElem_cons_zero, List.getElem_cons_succ]
            go_simp
            try with_reducible rfl
          try simp only [Act.put, List.setIfInBounds_toArray, List.set_cons_zero, List.set_cons_succ, List.getElem_toArray, List.getElem_cons_zero, List.getElem_cons_succ]
          refine AnyL.take (i := 2) (oi := _) (v := y.v) 30 rfl (by kernel_rfl) (by kernel_rfl) (by kernel_rfl) (by kernel_rfl) (by kernel_rfl) (fun _ _ _ h => h) (Or.inl ⟨by kernel_rfl, ?hy9⟩) (by assumption) ?_
          case hy9 =>
            intro w9 hSw
            try dsimp only at hSw
            try simp only [List.getElem_toArray, List.getElem_cons_zero, List.getElem_cons_succ]
            go_simp
            obtain ⟨-, ⟨a0, a1, a2, a3⟩⟩ := hSw
            try go_simp
            try rfl
          try simp only [Act.put, List.setIfInBounds_toArray, List.set_cons_zero, List.set_cons_succ, List.getElem_toArray, List.getElem_cons_zero, List.getElem_cons_succ]
          refine AnyL.take (i := 3) (oi := _) (v := ?_) 30 rfl (by kernel_rfl) (by kernel_rfl) (by kernel_rfl) (by kernel_rfl) (by kernel_rfl) (fun _ _ _ h => h) (Or.inl ⟨by kernel_rfl, ?hy10⟩) (by assumption) ?_
          case hy10 =>
            intro w9 hSw
            try dsimp only at hSw
            try simp only [List.getElem_toArray, List.getElem_cons_zero, List.getElem_cons_succ]
            go_simp
            try with_reducible rfl
          try simp only [Act.put, List.setIfInBounds_toArray, List.set_cons_zero, List.set_cons_succ, List.getElem_toArray, List.getElem_cons_zero, List.getElem_cons_succ]
          refine AnyL.take (i := 4) (oi := _) (v := ?_) 30 rfl (by kernel_rfl) (by kernel_rfl) (by kernel_rfl) (by kernel_rfl) (by kernel_rfl) (fun _ _ _ h => h) (Or.inl ⟨by kernel_rfl, ?hy11⟩) (by assumption) ?_
          case hy11 =>
            intro w9 hSw
            try dsimp only at hSw
            try simp only [List.getElem_toArray, List.getElem_cons_zero, List.getElem_cons_succ]
            go_simp
            try with_reducible rfl
          try simp only [Act.put, List.setIfInBounds_toArray, List.set_cons_zero, List.set_cons_succ, List.getElem_toArray, List.getElem_cons_zero, List.getElem_cons_succ]
          refine AnyL.take (i := 5) (oi := _) (v := x.v) 30 rfl (by kernel_rfl) (by kernel_rfl) (by kernel_rfl) (by kernel_rfl) (by kernel_rfl) (fun _ _ _ h => h) (Or.inl ⟨by kernel_rfl, ?hy12⟩) (by assumption) ?_
          case hy12 =>
            intro w9 hSw
            try dsimp only at hSw
            try simp only [List.getElem_toArray, List.getElem_cons_zero, List.getElem_cons_succ]
            go_simp
            obtain ⟨⟨a0, a1, a2, a3⟩, -⟩ := hSw
            try go_simp
            try rfl
          try simp only [Act.put, List.setIfInBounds_toArray, List.set_cons_zero, List.set_cons_succ, List.getElem_toArray, List.getElem_cons_zero, List.getElem_cons_succ]
          refine AnyL.one (i := 6) (o := _) (by kernel_rfl) rfl (fun K hK => ?_)
          try simp only [List.getElem_toArray, List.getElem_cons_zero, List.getElem_cons_succ]
          go_simp
          refine (Ahead_any y x _).mono ?_
          obtain ⟨ah, hah2⟩ : ∃ a, aheadI y x = a := ⟨_, rfl⟩
          rw [hah2]
          have HAH2 := Lib.hid hah2
          clear hah2
          rintro e w8 ⟨rfl, hb8⟩
          refine hK.out _ _ (fun _ => ⟨hHeld.1.below hb8, hHeld.2.below hb8⟩) (fun hHeld => ?_)
          replace hHeld := hHeld (by decide)
          clear hK K
          try simp only [Act.put, List.setIfInBounds_toArray, List.set_cons_zero, List.set_cons_succ, List.getElem_toArray, List.getElem_cons_zero, List.getElem_cons_succ]
          have HY8 := Lib.hid hHeld.2
          have hd8 := ((Below.refl w9.heap.size w9).drew.trans hb8)
          have HO8 := Lib.hid (HO9.out.below hd8)
          have HB8 := Lib.hid (HB9.out.trans (hd8.mono HS9.out))
          clear hb8 hd8
          refine AnyL.one (i := 7) (o := _) (by kernel_rfl) rfl (fun K hK => ?_)
          try simp only [List.getElem_toArray, List.getElem_cons_zero, List.getElem_cons_succ]
          go_simp
          refine hK.out _ _ (fun h => absurd rfl h) (fun _ => ?_)
          clear hK K
          try simp only [Act.put, List.setIfInBounds_toArray, List.set_cons_zero, List.set_cons_succ, List.getElem_toArray, List.getElem_cons_zero, List.getElem_cons_succ]
          refine AnyL.done (by kernel_rfl) ?_ _
          have HS8 := Lib.hid (show B ≤ w8.heap.size by have := HB8.out.size; rw [HBB.out] at this; exact this)
          cases ah with
          | true =>
            obtain ⟨c0, c1, c2, c3⟩ := HY8.out
            have hba := (Below.refl w8.heap.size w8).alloc (Nat.le_refl _) (.cells #[.string y.key, .int .u64 (y.seq : Int), .bool y.gone, .string y.val] 29)
            have HYY := Lib.hid (one_item y (heap_alloc_new w8 (.cells #[.string y.key, .int .u64 (y.seq : Int), .bool y.gone, .string y.val] 29)))
            have HOA := Lib.hid (HO8.out.below hba)
            have HBA := Lib.hid (HB8.out.trans (hba.mono HS8.out))
            have HSA := Lib.hid (show B ≤ (w8.alloc (.cells #[.string y.key, .int .u64 (y.seq : Int), .bool y.gone, .string y.val] 29)).heap.size by have := HBA.out.size; rw [HBB.out] at this; exact this)
            have stb := HSTB.out
            clear hba
            go_wp2_with (at_builtin; refine wpList_append_k rfl (.tmp 46) (.tmp 50) 23 rfl B 29 encI _ 48 Try.underlying23 info_item rfl (by decide) _ lo rfl HOA.out _ [y] rfl HYY.out Nat.one_pos (by have := HLEN.out; simp only [List.length_cons, List.length_nil] at this ⊢; omega) HSA.out w HBA.out (fun v7 w7 ho7 hb7 _ _ => ?_); have HO7 := Lib.hid ho7; have HB7 := Lib.hid hb7; clear ho7 hb7)
            go_roundw
            case rel =>
              refine ⟨x :: la, lb, lo ++ [y], HVA.out, HTB.out, HO7.out, ?_, HB7.out, ?_⟩
              · rw [← HEQ.out, HPC.out, HAH.out, HAH2.out, if_neg (by decide), if_pos rfl, List.append_assoc]; rfl
              · have := HLEN.out; simp only [List.length_cons, List.length_append, List.length_nil] at this ⊢; omega
            case measure => have := HRR.out; simp [lenV] <;> omega
          | false =>
            have stb := HSTB.out
            go_wp2
            go_roundw
            case rel =>
              refine ⟨x :: la, lb, lo, HVA.out, HTB.out, HO8.out, ?_, HB8.out, ?_⟩
              · rw [← HEQ.out, HPC.out, HAH.out, HAH2.out, if_neg (by decide), if_neg (by decide)]
              · have := HLEN.out; simp only [List.length_cons] at this ⊢; omega
            case measure => have := HRR.out; simp [lenV] <;> omega
end Go.Proofs.Ytfdafoibclfpgaa
