/-
  Layer 13's law: DotOrder walked.
-/
import Derived.Test.YtfgfamafjkjakaaDotAwakeW
namespace Go.Proofs.Ytfgfamafjkjakaa
open Go.ChangeShapes Go.WideShapes Go.ChangeAt Go.RowKit Go.Deep
set_option linter.unusedVariables false
set_option linter.unusedSimpArgs false
/-- Three dots in their blocks. -/
structure Three (G : Nat) (da db dc : Int) (na nb nc : Nat) (W : World) : Prop where
  a : TwoC ⟨G, 0, none⟩ ⟨G, 1, none⟩ (.int .i64 da) (.int .u64 (na : Int)) W
  b : TwoC ⟨G + 1, 0, none⟩ ⟨G + 1, 1, none⟩ (.int .i64 db) (.int .u64 (nb : Int)) W
  c : TwoC ⟨G + 1 + 1, 0, none⟩ ⟨G + 1 + 1, 1, none⟩ (.int .i64 dc) (.int .u64 (nc : Int)) W
theorem Three.below {G : Nat} {da db dc : Int} {na nb nc : Nat} {W W' : World} (h : Three G da db dc na nb nc W) (hb : Below W.heap.size W W') : Three G da db dc na nb nc W' := ⟨h.a.below hb, h.b.below hb, h.c.below hb⟩
theorem less_tri (d : Int) (n : Nat) (d' : Int) (n' : Nat) : (lessB d n d' n' = true ∧ lessB d' n' d n = false ∧ ¬ (d = d' ∧ n = n')) ∨ (d = d' ∧ n = n' ∧ lessB d n d' n' = false ∧ lessB d' n' d n = false) ∨ (lessB d n d' n' = false ∧ lessB d' n' d n = true ∧ ¬ (d = d' ∧ n = n')) := by
  unfold lessB
  simp only [decide_eq_true_eq, decide_eq_false_iff_not]
  omega
theorem less_trans {d : Int} {n : Nat} {d' : Int} {n' : Nat} {e : Int} {k : Nat} (h1 : lessB d n d' n' = true) (h2 : lessB d' n' e k = true) : lessB d n e k = true := by
  unfold lessB at h1 h2 ⊢
  simp only [decide_eq_true_eq] at h1 h2 ⊢
  omega
set_option maxRecDepth 100000 in
set_option maxHeartbeats 16000000 in
theorem DotOrder_any (da db dc : Int) (na nb nc : Nat) (w : World) :
    Calls Try.prog 7 #[.agg #[.int .i64 da, .int .u64 (na : Int)], .agg #[.int .i64 db, .int .u64 (nb : Int)], .agg #[.int .i64 dc, .int .u64 (nc : Int)]] w fun e w' => e = .returned (.bool true) ∧ Below w.heap.size w w' := by
  have hb0 := ((((Below.refl w.heap.size w).alloc (Nat.le_refl _) (.cells #[.int .i64 da, .int .u64 (na : Int)] 32)).alloc (by rw [World.size_alloc]; omega) (.cells #[.int .i64 db, .int .u64 (nb : Int)] 32))).alloc (by rw [World.size_alloc, World.size_alloc]; omega) (.cells #[.int .i64 dc, .int .u64 (nc : Int)] 32)
  have h3 : Three w.heap.size da db dc na nb nc (((w.alloc (.cells #[.int .i64 da, .int .u64 (na : Int)] 32)).alloc (.cells #[.int .i64 db, .int .u64 (nb : Int)] 32)).alloc (.cells #[.int .i64 dc, .int .u64 (nc : Int)] 32)) := by
    have z1 : (w.alloc (.cells #[.int .i64 da, .int .u64 (na : Int)] 32)).heap.size = w.heap.size + 1 := World.size_alloc _ _
    have z2 : ((w.alloc (.cells #[.int .i64 da, .int .u64 (na : Int)] 32)).alloc (.cells #[.int .i64 db, .int .u64 (nb : Int)] 32)).heap.size = w.heap.size + 1 + 1 := by rw [World.size_alloc, z1]
    have n1 := heap_alloc_new w (.cells #[.int .i64 da, .int .u64 (na : Int)] 32)
    have n2 := heap_alloc_new (w.alloc (.cells #[.int .i64 da, .int .u64 (na : Int)] 32)) (.cells #[.int .i64 db, .int .u64 (nb : Int)] 32)
    have n3 := heap_alloc_new ((w.alloc (.cells #[.int .i64 da, .int .u64 (na : Int)] 32)).alloc (.cells #[.int .i64 db, .int .u64 (nb : Int)] 32)) (.cells #[.int .i64 dc, .int .u64 (nc : Int)] 32)
    have t1 : TwoC ⟨w.heap.size, 0, none⟩ ⟨w.heap.size, 1, none⟩ (.int .i64 da) (.int .u64 (na : Int)) (w.alloc (.cells #[.int .i64 da, .int .u64 (na : Int)] 32)) := ⟨by simp only [World.cell?, n1]; rfl, by simp only [World.cell?, n1]; rfl⟩
    rw [z1] at n2
    rw [z2] at n3
    have b2 := (Below.refl _ (w.alloc (.cells #[.int .i64 da, .int .u64 (na : Int)] 32))).alloc (Nat.le_refl _) (.cells #[.int .i64 db, .int .u64 (nb : Int)] 32)
    have b3 := (Below.refl _ ((w.alloc (.cells #[.int .i64 da, .int .u64 (na : Int)] 32)).alloc (.cells #[.int .i64 db, .int .u64 (nb : Int)] 32))).alloc (Nat.le_refl _) (.cells #[.int .i64 dc, .int .u64 (nc : Int)] 32)
    refine ⟨(t1.below b2).below b3, TwoC.below ⟨by simp only [World.cell?, n2]; rfl, by simp only [World.cell?, n2]; rfl⟩ b3, ⟨by simp only [World.cell?, n3]; rfl, by simp only [World.cell?, n3]; rfl⟩⟩
  have HB0 := Lib.hid hb0
  have H30 := Lib.hid h3
  clear hb0 h3
  have htri := less_tri da na db nb
  go_enter Try.func7, Try.ntmps7
  go_wp2_with fail
  generalize (((w.alloc (.cells #[.int .i64 da, .int .u64 (na : Int)] 32)).alloc (.cells #[.int .i64 db, .int .u64 (nb : Int)] 32)).alloc (.cells #[.int .i64 dc, .int .u64 (nc : Int)] 32)) = w0 at *
  obtain ⟨G, hG⟩ : ∃ G, w.heap.size = G := ⟨_, rfl⟩
  rw [hG] at HB0 H30 ⊢
  have HGG := Lib.hid hG
  clear hG
  refine (Awake_any _).mono ?_
  rintro e w1 ⟨rfl, hb1⟩
  have H1 := Lib.hid (H30.out.below hb1)
  have HB1 := Lib.hid (HB0.out.trans (hb1.mono (by have := HB0.out.size; rw [HGG.out] at this; exact this)))
  clear hb1
  rcases htri with ⟨hx, hy, hn⟩ | ⟨rfl, rfl, hx, hy⟩ | ⟨hx, hy, hn⟩
  · rcases Decidable.em (da = db) with rfl | hd
    · have hn2 : ¬ na = nb := fun e => hn ⟨rfl, e⟩
      clear hn
      have h31 := H1.out
      obtain ⟨a0, a1⟩ := h31.a
      obtain ⟨b0, b1⟩ := h31.b
      clear h31
      go_wp2_with fail
      refine (Less_any da na da nb w1).mono ?_
      rw [hx]
      rintro e w2 ⟨rfl, hb2⟩
      have H2 := Lib.hid (H1.out.below hb2)
      have HB2 := Lib.hid (HB1.out.trans (hb2.mono (by have := HB1.out.size; rw [HGG.out] at this; exact this)))
      clear hb2
      clear a0 a1
      clear b0 b1
      have h32 := H2.out
      obtain ⟨a0, a1⟩ := h32.a
      obtain ⟨b0, b1⟩ := h32.b
      clear h32
      go_wp2_with fail
      refine (Less_any da nb da na w2).mono ?_
      rw [hy]
      rintro e w3 ⟨rfl, hb3⟩
      have H3 := Lib.hid (H2.out.below hb3)
      have HB3 := Lib.hid (HB2.out.trans (hb3.mono (by have := HB2.out.size; rw [HGG.out] at this; exact this)))
      clear hb3
      clear a0 a1
      clear b0 b1
      have h33 := H3.out
      obtain ⟨a0, a1⟩ := h33.a
      obtain ⟨b0, b1⟩ := h33.b
      clear h33
      go_wp2_with fail
      refine (RefLess_any da na da nb w3).mono ?_
      rw [hx]
      rintro e w4 ⟨rfl, hb4⟩
      have H4 := Lib.hid (H3.out.below hb4)
      have HB4 := Lib.hid (HB3.out.trans (hb4.mono (by have := HB3.out.size; rw [HGG.out] at this; exact this)))
      clear hb4
      clear a0 a1
      clear b0 b1
      obtain ⟨z, hz⟩ : ∃ z, lessB da nb dc nc = z := ⟨_, rfl⟩
      cases z with
      | false =>
        have h34 := H4.out
        obtain ⟨a0, a1⟩ := h34.a
        obtain ⟨b0, b1⟩ := h34.b
        obtain ⟨c0, c1⟩ := h34.c
        clear h34
        go_wp2_with fail
        refine (Less_any da nb dc nc w4).mono ?_
        rw [hz]
        rintro e w5 ⟨rfl, hb5⟩
        have H5 := Lib.hid (H4.out.below hb5)
        have HB5 := Lib.hid (HB4.out.trans (hb5.mono (by have := HB4.out.size; rw [HGG.out] at this; exact this)))
        clear hb5
        clear a0 a1
        clear b0 b1
        clear c0 c1
        have h35 := H5.out
        obtain ⟨a0, a1⟩ := h35.a
        obtain ⟨b0, b1⟩ := h35.b
        obtain ⟨c0, c1⟩ := h35.c
        clear h35
        go_wp2
        go_ret
        rw [HGG.out]
        exact ⟨rfl, HB5.out⟩
      | true =>
        have hac := less_trans hx hz
        have h34 := H4.out
        obtain ⟨a0, a1⟩ := h34.a
        obtain ⟨b0, b1⟩ := h34.b
        obtain ⟨c0, c1⟩ := h34.c
        clear h34
        go_wp2_with fail
        refine (Less_any da nb dc nc w4).mono ?_
        rw [hz]
        rintro e w5 ⟨rfl, hb5⟩
        have H5 := Lib.hid (H4.out.below hb5)
        have HB5 := Lib.hid (HB4.out.trans (hb5.mono (by have := HB4.out.size; rw [HGG.out] at this; exact this)))
        clear hb5
        clear a0 a1
        clear b0 b1
        clear c0 c1
        have h35 := H5.out
        obtain ⟨a0, a1⟩ := h35.a
        obtain ⟨b0, b1⟩ := h35.b
        obtain ⟨c0, c1⟩ := h35.c
        clear h35
        go_wp2_with fail
        refine (Less_any da na dc nc w5).mono ?_
        rw [hac]
        rintro e w6 ⟨rfl, hb6⟩
        have H6 := Lib.hid (H5.out.below hb6)
        have HB6 := Lib.hid (HB5.out.trans (hb6.mono (by have := HB5.out.size; rw [HGG.out] at this; exact this)))
        clear hb6
        clear a0 a1
        clear b0 b1
        clear c0 c1
        have h36 := H6.out
        obtain ⟨a0, a1⟩ := h36.a
        obtain ⟨b0, b1⟩ := h36.b
        obtain ⟨c0, c1⟩ := h36.c
        clear h36
        go_wp2
        go_ret
        rw [HGG.out]
        exact ⟨rfl, HB6.out⟩
    · clear hn
      have h31 := H1.out
      obtain ⟨a0, a1⟩ := h31.a
      obtain ⟨b0, b1⟩ := h31.b
      clear h31
      go_wp2_with fail
      refine (Less_any da na db nb w1).mono ?_
      rw [hx]
      rintro e w2 ⟨rfl, hb2⟩
      have H2 := Lib.hid (H1.out.below hb2)
      have HB2 := Lib.hid (HB1.out.trans (hb2.mono (by have := HB1.out.size; rw [HGG.out] at this; exact this)))
      clear hb2
      clear a0 a1
      clear b0 b1
      have h32 := H2.out
      obtain ⟨a0, a1⟩ := h32.a
      obtain ⟨b0, b1⟩ := h32.b
      clear h32
      go_wp2_with fail
      refine (Less_any db nb da na w2).mono ?_
      rw [hy]
      rintro e w3 ⟨rfl, hb3⟩
      have H3 := Lib.hid (H2.out.below hb3)
      have HB3 := Lib.hid (HB2.out.trans (hb3.mono (by have := HB2.out.size; rw [HGG.out] at this; exact this)))
      clear hb3
      clear a0 a1
      clear b0 b1
      have h33 := H3.out
      obtain ⟨a0, a1⟩ := h33.a
      obtain ⟨b0, b1⟩ := h33.b
      clear h33
      go_wp2_with fail
      refine (RefLess_any da na db nb w3).mono ?_
      rw [hx]
      rintro e w4 ⟨rfl, hb4⟩
      have H4 := Lib.hid (H3.out.below hb4)
      have HB4 := Lib.hid (HB3.out.trans (hb4.mono (by have := HB3.out.size; rw [HGG.out] at this; exact this)))
      clear hb4
      clear a0 a1
      clear b0 b1
      obtain ⟨z, hz⟩ : ∃ z, lessB db nb dc nc = z := ⟨_, rfl⟩
      cases z with
      | false =>
        have h34 := H4.out
        obtain ⟨a0, a1⟩ := h34.a
        obtain ⟨b0, b1⟩ := h34.b
        obtain ⟨c0, c1⟩ := h34.c
        clear h34
        go_wp2_with fail
        refine (Less_any db nb dc nc w4).mono ?_
        rw [hz]
        rintro e w5 ⟨rfl, hb5⟩
        have H5 := Lib.hid (H4.out.below hb5)
        have HB5 := Lib.hid (HB4.out.trans (hb5.mono (by have := HB4.out.size; rw [HGG.out] at this; exact this)))
        clear hb5
        clear a0 a1
        clear b0 b1
        clear c0 c1
        have h35 := H5.out
        obtain ⟨a0, a1⟩ := h35.a
        obtain ⟨b0, b1⟩ := h35.b
        obtain ⟨c0, c1⟩ := h35.c
        clear h35
        go_wp2
        go_ret
        rw [HGG.out]
        exact ⟨rfl, HB5.out⟩
      | true =>
        have hac := less_trans hx hz
        have h34 := H4.out
        obtain ⟨a0, a1⟩ := h34.a
        obtain ⟨b0, b1⟩ := h34.b
        obtain ⟨c0, c1⟩ := h34.c
        clear h34
        go_wp2_with fail
        refine (Less_any db nb dc nc w4).mono ?_
        rw [hz]
        rintro e w5 ⟨rfl, hb5⟩
        have H5 := Lib.hid (H4.out.below hb5)
        have HB5 := Lib.hid (HB4.out.trans (hb5.mono (by have := HB4.out.size; rw [HGG.out] at this; exact this)))
        clear hb5
        clear a0 a1
        clear b0 b1
        clear c0 c1
        have h35 := H5.out
        obtain ⟨a0, a1⟩ := h35.a
        obtain ⟨b0, b1⟩ := h35.b
        obtain ⟨c0, c1⟩ := h35.c
        clear h35
        go_wp2_with fail
        refine (Less_any da na dc nc w5).mono ?_
        rw [hac]
        rintro e w6 ⟨rfl, hb6⟩
        have H6 := Lib.hid (H5.out.below hb6)
        have HB6 := Lib.hid (HB5.out.trans (hb6.mono (by have := HB5.out.size; rw [HGG.out] at this; exact this)))
        clear hb6
        clear a0 a1
        clear b0 b1
        clear c0 c1
        have h36 := H6.out
        obtain ⟨a0, a1⟩ := h36.a
        obtain ⟨b0, b1⟩ := h36.b
        obtain ⟨c0, c1⟩ := h36.c
        clear h36
        go_wp2
        go_ret
        rw [HGG.out]
        exact ⟨rfl, HB6.out⟩
  · skip
    have h31 := H1.out
    obtain ⟨a0, a1⟩ := h31.a
    obtain ⟨b0, b1⟩ := h31.b
    clear h31
    go_wp2_with fail
    refine (Less_any da na da na w1).mono ?_
    rw [hx]
    rintro e w2 ⟨rfl, hb2⟩
    have H2 := Lib.hid (H1.out.below hb2)
    have HB2 := Lib.hid (HB1.out.trans (hb2.mono (by have := HB1.out.size; rw [HGG.out] at this; exact this)))
    clear hb2
    clear a0 a1
    clear b0 b1
    have h32 := H2.out
    obtain ⟨a0, a1⟩ := h32.a
    obtain ⟨b0, b1⟩ := h32.b
    clear h32
    go_wp2_with fail
    refine (Less_any da na da na w2).mono ?_
    rw [hy]
    rintro e w3 ⟨rfl, hb3⟩
    have H3 := Lib.hid (H2.out.below hb3)
    have HB3 := Lib.hid (HB2.out.trans (hb3.mono (by have := HB2.out.size; rw [HGG.out] at this; exact this)))
    clear hb3
    clear a0 a1
    clear b0 b1
    have h33 := H3.out
    obtain ⟨a0, a1⟩ := h33.a
    obtain ⟨b0, b1⟩ := h33.b
    clear h33
    go_wp2_with fail
    refine (RefLess_any da na da na w3).mono ?_
    rw [hx]
    rintro e w4 ⟨rfl, hb4⟩
    have H4 := Lib.hid (H3.out.below hb4)
    have HB4 := Lib.hid (HB3.out.trans (hb4.mono (by have := HB3.out.size; rw [HGG.out] at this; exact this)))
    clear hb4
    clear a0 a1
    clear b0 b1
    have h34 := H4.out
    obtain ⟨a0, a1⟩ := h34.a
    obtain ⟨b0, b1⟩ := h34.b
    obtain ⟨c0, c1⟩ := h34.c
    clear h34
    go_wp2
    go_ret
    rw [HGG.out]
    exact ⟨rfl, HB4.out⟩
  · rcases Decidable.em (da = db) with rfl | hd
    · have hn2 : ¬ na = nb := fun e => hn ⟨rfl, e⟩
      clear hn
      have h31 := H1.out
      obtain ⟨a0, a1⟩ := h31.a
      obtain ⟨b0, b1⟩ := h31.b
      clear h31
      go_wp2_with fail
      refine (Less_any da na da nb w1).mono ?_
      rw [hx]
      rintro e w2 ⟨rfl, hb2⟩
      have H2 := Lib.hid (H1.out.below hb2)
      have HB2 := Lib.hid (HB1.out.trans (hb2.mono (by have := HB1.out.size; rw [HGG.out] at this; exact this)))
      clear hb2
      clear a0 a1
      clear b0 b1
      have h32 := H2.out
      obtain ⟨a0, a1⟩ := h32.a
      obtain ⟨b0, b1⟩ := h32.b
      clear h32
      go_wp2_with fail
      refine (Less_any da nb da na w2).mono ?_
      rw [hy]
      rintro e w3 ⟨rfl, hb3⟩
      have H3 := Lib.hid (H2.out.below hb3)
      have HB3 := Lib.hid (HB2.out.trans (hb3.mono (by have := HB2.out.size; rw [HGG.out] at this; exact this)))
      clear hb3
      clear a0 a1
      clear b0 b1
      have h33 := H3.out
      obtain ⟨a0, a1⟩ := h33.a
      obtain ⟨b0, b1⟩ := h33.b
      clear h33
      go_wp2_with fail
      refine (RefLess_any da na da nb w3).mono ?_
      rw [hx]
      rintro e w4 ⟨rfl, hb4⟩
      have H4 := Lib.hid (H3.out.below hb4)
      have HB4 := Lib.hid (HB3.out.trans (hb4.mono (by have := HB3.out.size; rw [HGG.out] at this; exact this)))
      clear hb4
      clear a0 a1
      clear b0 b1
      have h34 := H4.out
      obtain ⟨a0, a1⟩ := h34.a
      obtain ⟨b0, b1⟩ := h34.b
      obtain ⟨c0, c1⟩ := h34.c
      clear h34
      go_wp2
      go_ret
      rw [HGG.out]
      exact ⟨rfl, HB4.out⟩
    · clear hn
      have h31 := H1.out
      obtain ⟨a0, a1⟩ := h31.a
      obtain ⟨b0, b1⟩ := h31.b
      clear h31
      go_wp2_with fail
      refine (Less_any da na db nb w1).mono ?_
      rw [hx]
      rintro e w2 ⟨rfl, hb2⟩
      have H2 := Lib.hid (H1.out.below hb2)
      have HB2 := Lib.hid (HB1.out.trans (hb2.mono (by have := HB1.out.size; rw [HGG.out] at this; exact this)))
      clear hb2
      clear a0 a1
      clear b0 b1
      have h32 := H2.out
      obtain ⟨a0, a1⟩ := h32.a
      obtain ⟨b0, b1⟩ := h32.b
      clear h32
      go_wp2_with fail
      refine (Less_any db nb da na w2).mono ?_
      rw [hy]
      rintro e w3 ⟨rfl, hb3⟩
      have H3 := Lib.hid (H2.out.below hb3)
      have HB3 := Lib.hid (HB2.out.trans (hb3.mono (by have := HB2.out.size; rw [HGG.out] at this; exact this)))
      clear hb3
      clear a0 a1
      clear b0 b1
      have h33 := H3.out
      obtain ⟨a0, a1⟩ := h33.a
      obtain ⟨b0, b1⟩ := h33.b
      clear h33
      go_wp2_with fail
      refine (RefLess_any da na db nb w3).mono ?_
      rw [hx]
      rintro e w4 ⟨rfl, hb4⟩
      have H4 := Lib.hid (H3.out.below hb4)
      have HB4 := Lib.hid (HB3.out.trans (hb4.mono (by have := HB3.out.size; rw [HGG.out] at this; exact this)))
      clear hb4
      clear a0 a1
      clear b0 b1
      have h34 := H4.out
      obtain ⟨a0, a1⟩ := h34.a
      obtain ⟨b0, b1⟩ := h34.b
      obtain ⟨c0, c1⟩ := h34.c
      clear h34
      go_wp2
      go_ret
      rw [HGG.out]
      exact ⟨rfl, HB4.out⟩
end Go.Proofs.Ytfgfamafjkjakaa
