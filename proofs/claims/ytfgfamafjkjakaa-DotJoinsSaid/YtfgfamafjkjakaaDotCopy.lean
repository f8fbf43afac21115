/-
  Package dot: a copy of a set.
-/
import Derived.Test.YtfgfamafjkjakaaDotCells
namespace Go.Proofs.Ytfgfamafjkjakaa
open Go.ChangeShapes Go.WideShapes Go.ChangeAt Go.RowKit Go.Deep
set_option linter.unusedVariables false
set_option linter.unusedSimpArgs false
theorem upTo_set (f : List Nm) (k : Nat) (hf : f.length = 16) (hk : k < 16) : (f.take k ++ List.replicate (16 - k) Nm.zero).set k (f.getD k Nm.zero) = f.take (k + 1) ++ List.replicate (16 - (k + 1)) Nm.zero := by
  have hl : (f.take k).length = k := by rw [List.length_take]; omega
  have e : f.getD k Nm.zero = f[k]'(by omega) := by rw [List.getD_eq_getElem?_getD, List.getElem?_eq_getElem (by omega)]; rfl
  rw [List.set_append_right _ _ (by omega), hl, Nat.sub_self, e, List.take_succ_eq_append_getElem (by omega), List.append_assoc]
  congr 1
  rw [show 16 - k = (16 - (k + 1)) + 1 by omega, List.replicate_succ]
  rfl
set_option maxRecDepth 100000 in
set_option maxHeartbeats 8000000 in
theorem Copy_any (R : Nat) (f : List Nm) (w : World) (hS : SetIs w R f) :
    Calls Try.prog 17 #[.pointer (some ⟨R, 0, none⟩)] w fun e w' => e = .returned (.pointer (some ⟨w.heap.size, 0, none⟩)) ∧ SetIs w' w.heap.size f ∧ Below w.heap.size w w' := by
  have hf := hS.len
  have HF := Lib.hid hf
  obtain ⟨ps, hps, hpl, hph, hp4⟩ := hS
  have HPS := Lib.hid hps
  have HPL := Lib.hid hpl
  have HPH := Lib.hid hph
  have HP4 := Lib.hid hp4
  obtain ⟨L, hL⟩ : ∃ L, w.heap.size = L := ⟨_, rfl⟩
  have HL := Lib.hid hL
  clear hf hps hpl hph hp4
  go_enter Try.func17, Try.ntmps17
  go_upto_region 2 with fail
  have hs0 : SetIs (w.alloc (.cells #[.int .u64 0, .slice none 0 0, .int .u64 0, .slice none 0 0, .int .u64 0, .slice none 0 0, .int .u64 0, .slice none 0 0, .int .u64 0, .slice none 0 0, .int .u64 0, .slice none 0 0, .int .u64 0, .slice none 0 0, .int .u64 0, .slice none 0 0, .int .u64 0, .slice none 0 0, .int .u64 0, .slice none 0 0, .int .u64 0, .slice none 0 0, .int .u64 0, .slice none 0 0, .int .u64 0, .slice none 0 0, .int .u64 0, .slice none 0 0, .int .u64 0, .slice none 0 0, .int .u64 0, .slice none 0 0] 58)) L none16 := by
    refine ⟨List.replicate 16 (Nm.zero, .slice none 0 0), by simp [none16], rfl, by rw [← hL]; exact heap_alloc_new _ _, fun p hp => ?_⟩
    obtain rfl := List.eq_of_mem_replicate hp
    exact ⟨HasU.nil _, Nm.zero_ok, by decide⟩
  have hb0 := (Below.refl w.heap.size w).alloc (Nat.le_refl _) (.cells #[.int .u64 0, .slice none 0 0, .int .u64 0, .slice none 0 0, .int .u64 0, .slice none 0 0, .int .u64 0, .slice none 0 0, .int .u64 0, .slice none 0 0, .int .u64 0, .slice none 0 0, .int .u64 0, .slice none 0 0, .int .u64 0, .slice none 0 0, .int .u64 0, .slice none 0 0, .int .u64 0, .slice none 0 0, .int .u64 0, .slice none 0 0, .int .u64 0, .slice none 0 0, .int .u64 0, .slice none 0 0, .int .u64 0, .slice none 0 0, .int .u64 0, .slice none 0 0, .int .u64 0, .slice none 0 0] 58)
  generalize (w.alloc (.cells #[.int .u64 0, .slice none 0 0, .int .u64 0, .slice none 0 0, .int .u64 0, .slice none 0 0, .int .u64 0, .slice none 0 0, .int .u64 0, .slice none 0 0, .int .u64 0, .slice none 0 0, .int .u64 0, .slice none 0 0, .int .u64 0, .slice none 0 0, .int .u64 0, .slice none 0 0, .int .u64 0, .slice none 0 0, .int .u64 0, .slice none 0 0, .int .u64 0, .slice none 0 0, .int .u64 0, .slice none 0 0, .int .u64 0, .slice none 0 0, .int .u64 0, .slice none 0 0, .int .u64 0, .slice none 0 0] 58)) = w1 at *
  have hRL : R < w.heap.size := lt_of_block HPH.out
  have hr1 : w1.rangeAt R 0 (setRow16 ps) := setRow_range ((hb0.block R hRL).trans HPH.out)
  have HRL := Lib.hid hRL
  have HS0 := Lib.hid hs0
  have HB0 := Lib.hid hb0
  clear hs0 hb0 hL hRL
  go_wp2_with (refine wpList_load_mid rfl 56 (.tmp 10) rfl R 0 rfl (setRow16 ps) _ hr1 Try.underlying56 rfl (info_row HPL.out) ?_)
  clear hr1
  go_loopw [12] (fun vi wr => ∃ (k : Nat), vi = .int .i64 (k : Int) ∧ k ≤ 16 ∧ SetIs wr L (f.take k ++ List.replicate (16 - k) Nm.zero) ∧ Below w.heap.size w wr) (fun vi _ => 16 - (intOf vi).toNat)
  case atStart => exact ⟨0, rfl, by omega, HS0.out, HB0.out⟩
  case round =>
    obtain ⟨k, rfl, hk, hs, hb⟩ := hrel
    rcases Nat.lt_or_ge k 16 with hlt | hge
    · have hkI : (k : Int) < 16 := by omega
      have hkp : k < ps.length := by rw [HPL.out]; exact hlt
      have hk0 : (0 : Int) ≤ (k : Int) := by omega
      have hix := index_nm ps HPL.out k hkp
      have h4 := HP4.out _ (List.getElem_mem hkp)
      have hfk : f.getD k Nm.zero = ps[k].1 := by rw [← HPS.out, List.getD_eq_getElem?_getD, List.getElem?_map, List.getElem?_eq_getElem hkp]; rfl
      obtain ⟨⟨q, mv⟩, hq⟩ : ∃ q, ps[k] = q := ⟨_, rfl⟩
      rw [hq] at hix h4 hfk
      simp only at hix h4 hfk
      obtain ⟨hu, hok, hle⟩ := h4
      have hu2 := hu.below hb
      obtain ⟨pm, cm, rfl, -, -⟩ := hu.form
      have HU := Lib.hid hu2
      have HOK := Lib.hid hok
      have HLE := Lib.hid hle
      have HFK := Lib.hid hfk
      have HS := Lib.hid hs
      have HB := Lib.hid hb
      have HIX := Lib.hid hix
      clear hu hu2 hok hle hfk hs hb hix hq
      go_upto_region 5 with (refine wpList_index_at rfl 56 (.tmp 11) (.tmp 12) rfl _ HIX.out ?_)
      have hb1 := (Below.refl wr.heap.size wr).alloc (Nat.le_refl _) (.cells #[.int .u64 (q.upto : Int), .slice pm q.more.length cm] 55)
      have hn1 := heap_alloc_new wr (.cells #[.int .u64 (q.upto : Int), .slice pm q.more.length cm] 55)
      generalize (wr.alloc (.cells #[.int .u64 (q.upto : Int), .slice pm q.more.length cm] 55)) = w2 at *
      have h2 := Two.mk' hn1
      have HTWO := Lib.hid h2
      have HB2 := Lib.hid (HB.out.trans (hb1.mono HB.out.size))
      have HS2 := Lib.hid (HS.out.below hb1)
      have HU2 := Lib.hid (HU.out.below hb1)
      clear hb1 hn1 h2
      refine AnyL.begin (S := fun W => Two w2 ⟨wr.heap.size, 0, none⟩ ⟨wr.heap.size, 1, none⟩ (.int .u64 (q.upto : Int)) (.slice pm q.more.length cm) W) 11 (by kernel_rfl) HTWO.out.drew (fun hHeld => ?_)
      refine AnyL.take (i := 0) (oi := _) (v := ?_) 30 rfl (by kernel_rfl) (by kernel_rfl) (by kernel_rfl) (by kernel_rfl) (by kernel_rfl) (fun _ _ _ h => h) (Or.inl ⟨by kernel_rfl, ?hy1⟩) (by assumption) ?_
      case hy1 =>
        intro w9 hSw
        try dsimp only at hSw
        try simp only [List.getElem_toArray, List.getElem_cons_zero, List.getElem_cons_succ]
        go_simp
        try with_reducible rfl
      try simp only [Act.put, List.setIfInBounds_toArray, List.set_cons_zero, List.set_cons_succ, List.getElem_toArray, List.getElem_cons_zero, List.getElem_cons_succ]
      refine AnyL.take (i := 1) (oi := _) (v := ?_) 30 rfl (by kernel_rfl) (by kernel_rfl) (by kernel_rfl) (by kernel_rfl) (by kernel_rfl) (fun _ _ _ h => h) (Or.inl ⟨by kernel_rfl, ?hy2⟩) (by assumption) ?_
      case hy2 =>
        intro w9 hSw
        try dsimp only at hSw
        try simp only [List.getElem_toArray, List.getElem_cons_zero, List.getElem_cons_succ]
        go_simp
        try with_reducible rfl
      try simp only [Act.put, List.setIfInBounds_toArray, List.set_cons_zero, List.set_cons_succ, List.getElem_toArray, List.getElem_cons_zero, List.getElem_cons_succ]
      refine AnyL.take (i := 2) (oi := _) (v := ?_) 30 rfl (by kernel_rfl) (by kernel_rfl) (by kernel_rfl) (by kernel_rfl) (by kernel_rfl) (fun _ _ _ h => h) (Or.inl ⟨by kernel_rfl, ?hy3⟩) (by assumption) ?_
      case hy3 =>
        intro w9 hSw
        try dsimp only at hSw
        try simp only [List.getElem_toArray, List.getElem_cons_zero, List.getElem_cons_succ]
        go_simp
        try with_reducible rfl
      try simp only [Act.put, List.setIfInBounds_toArray, List.set_cons_zero, List.set_cons_succ, List.getElem_toArray, List.getElem_cons_zero, List.getElem_cons_succ]
      refine AnyL.take (i := 3) (oi := _) (v := .int .u64 (q.upto : Int)) 30 rfl (by kernel_rfl) (by kernel_rfl) (by kernel_rfl) (by kernel_rfl) (by kernel_rfl) (fun _ _ _ h => h) (Or.inl ⟨by kernel_rfl, ?hy4⟩) (by assumption) ?_
      case hy4 =>
        intro w9 hSw
        try dsimp only at hSw
        try simp only [List.getElem_toArray, List.getElem_cons_zero, List.getElem_cons_succ]
        go_simp
        obtain ⟨hx0, hx1, -⟩ := hSw
        try go_simp
        try with_reducible rfl
      try simp only [Act.put, List.setIfInBounds_toArray, List.set_cons_zero, List.set_cons_succ, List.getElem_toArray, List.getElem_cons_zero, List.getElem_cons_succ]
      refine AnyL.take (i := 4) (oi := _) (v := ?_) 30 rfl (by kernel_rfl) (by kernel_rfl) (by kernel_rfl) (by kernel_rfl) (by kernel_rfl) (fun _ _ _ h => h) (Or.inl ⟨by kernel_rfl, ?hy5⟩) (by assumption) ?_
      case hy5 =>
        intro w9 hSw
        try dsimp only at hSw
        try simp only [List.getElem_toArray, List.getElem_cons_zero, List.getElem_cons_succ]
        go_simp
        try with_reducible rfl
      try simp only [Act.put, List.setIfInBounds_toArray, List.set_cons_zero, List.set_cons_succ, List.getElem_toArray, List.getElem_cons_zero, List.getElem_cons_succ]
      refine AnyL.take (i := 5) (oi := _) (v := .slice pm q.more.length cm) 30 rfl (by kernel_rfl) (by kernel_rfl) (by kernel_rfl) (by kernel_rfl) (by kernel_rfl) (fun _ _ _ h => h) (Or.inl ⟨by kernel_rfl, ?hy6⟩) (by assumption) ?_
      case hy6 =>
        intro w9 hSw
        try dsimp only at hSw
        try simp only [List.getElem_toArray, List.getElem_cons_zero, List.getElem_cons_succ]
        go_simp
        obtain ⟨hx0, hx1, -⟩ := hSw
        try go_simp
        try with_reducible rfl
      try simp only [Act.put, List.setIfInBounds_toArray, List.set_cons_zero, List.set_cons_succ, List.getElem_toArray, List.getElem_cons_zero, List.getElem_cons_succ]
      refine AnyL.take (i := 8) (oi := _) (v := ?_) 30 rfl (by kernel_rfl) (by kernel_rfl) (by kernel_rfl) (by kernel_rfl) (by kernel_rfl) (fun _ _ _ h => h) (Or.inl ⟨by kernel_rfl, ?hy7⟩) (by assumption) ?_
      case hy7 =>
        intro w9 hSw
        try dsimp only at hSw
        try simp only [List.getElem_toArray, List.getElem_cons_zero, List.getElem_cons_succ]
        go_simp
        try with_reducible rfl
      try simp only [Act.put, List.setIfInBounds_toArray, List.set_cons_zero, List.set_cons_succ, List.getElem_toArray, List.getElem_cons_zero, List.getElem_cons_succ]
      refine AnyL.take (i := 9) (oi := _) (v := ?_) 30 rfl (by kernel_rfl) (by kernel_rfl) (by kernel_rfl) (by kernel_rfl) (by kernel_rfl) (fun _ _ _ h => h) (Or.inl ⟨by kernel_rfl, ?hy8⟩) (by assumption) ?_
      case hy8 =>
        intro w9 hSw
        try dsimp only at hSw
        try simp only [List.getElem_toArray, List.getElem_cons_zero, List.getElem_cons_succ]
        go_simp
        try with_reducible rfl
      try simp only [Act.put, List.setIfInBounds_toArray, List.set_cons_zero, List.set_cons_succ, List.getElem_toArray, List.getElem_cons_zero, List.getElem_cons_succ]
      refine AnyL.one (i := 6) (o := _) (by kernel_rfl) rfl (fun K hK => ?_)
      try simp only [List.getElem_toArray, List.getElem_cons_zero, List.getElem_cons_succ]
      go_simp
      refine (Clone_any _ q.more _ (HU2.out.below hHeld.2.2).has (by have := HLE.out; omega)).mono ?_
      rintro e w4 ⟨mv4, rfl, hu4, hb4⟩
      replace hu4 := HasU.of_own hu4
      obtain ⟨p4, c4, rfl, -, -⟩ := hu4.form
      refine hK.out _ _ (fun _ => (HTWO.out.go hHeld hb4)) (fun hHeld => ?_)
      replace hHeld := hHeld (by decide)
      clear hK K
      try simp only [Act.put, List.setIfInBounds_toArray, List.set_cons_zero, List.set_cons_succ, List.getElem_toArray, List.getElem_cons_zero, List.getElem_cons_succ]
      refine AnyL.take (i := 7) (oi := _) (v := ?_) 30 rfl (by kernel_rfl) (by kernel_rfl) (by kernel_rfl) (by kernel_rfl) (by kernel_rfl) (fun _ _ _ h => h) (Or.inl ⟨by kernel_rfl, ?hy9⟩) (by assumption) ?_
      case hy9 =>
        intro w9 hSw
        try dsimp only at hSw
        try simp only [List.getElem_toArray, List.getElem_cons_zero, List.getElem_cons_succ]
        go_simp
        try with_reducible rfl
      try simp only [Act.put, List.setIfInBounds_toArray, List.set_cons_zero, List.set_cons_succ, List.getElem_toArray, List.getElem_cons_zero, List.getElem_cons_succ]
      refine AnyL.take (i := 10) (oi := _) (v := ?_) 30 rfl (by kernel_rfl) (by kernel_rfl) (by kernel_rfl) (by kernel_rfl) (by kernel_rfl) (fun _ _ _ h => h) (Or.inl ⟨by kernel_rfl, ?hy10⟩) (by assumption) ?_
      case hy10 =>
        intro w9 hSw
        try dsimp only at hSw
        try simp only [List.getElem_toArray, List.getElem_cons_zero, List.getElem_cons_succ]
        go_simp
        try with_reducible rfl
      try simp only [Act.put, List.setIfInBounds_toArray, List.set_cons_zero, List.set_cons_succ, List.getElem_toArray, List.getElem_cons_zero, List.getElem_cons_succ]
      have hs4 := HS2.out.below hHeld.2.2
      obtain ⟨mvL, r0, r1, -, -, -, z0, z1⟩ := hs4.at_ k hlt
      have HS4 := Lib.hid hs4
      have HU4 := Lib.hid hu4
      clear hs4 hu4
      refine AnyL.one (i := 11) (o := _) (by kernel_rfl) rfl (fun K hK => ?_)
      try simp only [List.getElem_toArray, List.getElem_cons_zero, List.getElem_cons_succ]
      go_simp
      refine hK.out _ _ (fun h => absurd rfl h) (fun _ => ?_)
      clear hK K
      try simp only [Act.put, List.setIfInBounds_toArray, List.set_cons_zero, List.set_cons_succ, List.getElem_toArray, List.getElem_cons_zero, List.getElem_cons_succ]
      refine AnyL.done (by kernel_rfl) ?_ _
      have hs5 := HS4.out.set k q _ HU4.out HOK.out HLE.out
      go_wp2
      go_roundw
      case rel =>
        refine ⟨k + 1, by go_num, hlt, ?_, ?_⟩
        · have e := upTo_set f k HF.out hlt
          rw [HFK.out] at e
          rw [e] at hs5
          exact hs5
        · have hb5 := HB2.out.trans (hHeld.2.2.mono HB2.out.size)
          exact ((hb5.setCell (p := ⟨L, k * 2, none⟩) (by rw [← HL.out]; exact Nat.le_refl _) _).setCell (p := ⟨L, k * 2 + 1, none⟩) (by rw [← HL.out]; exact Nat.le_refl _) _)
      case measure => simp [intOf] <;> omega
    · obtain rfl : k = 16 := by omega
      have hkI : ¬ ((16 : Nat) : Int) < 16 := by omega
      rw [List.take_of_length_le (by rw [HF.out]; exact Nat.le_refl _), Nat.sub_self, List.replicate_zero, List.append_nil] at hs
      have HS := Lib.hid hs
      have HB := Lib.hid hb
      clear hs hb
      go_wp2
      go_ret
      rw [HL.out]
      exact ⟨rfl, HS.out, by rw [← HL.out]; exact HB.out⟩
end Go.Proofs.Ytfgfamafjkjakaa
