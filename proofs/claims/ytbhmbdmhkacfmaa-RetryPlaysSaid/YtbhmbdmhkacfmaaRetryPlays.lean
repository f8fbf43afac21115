/-
  The statement of the timer's law RetryPlays holds: for every base, every greatest delay, every list of calls and every time that is asked for the law answers true, and its arguments read as before. No condition.
-/
import Derived.Test.YtbhmbdmhkacfmaaRows
import Derived.Test.YtbhmbdmhkacfmaaG
import Derived.Test.YtbhmbdmhkacfmaaStay
import Derived.WalkKit
import Derived.ProofKit
import Derived.OpenShut
namespace Go.Proofs.Ytbhmbdmhkacfmaa.retryPlays
open Go.ChangeShapes Go.WideShapes Go.ChangeAt Go.RowKit Go.Deep
set_option linter.unusedVariables false

theorem own : ownKnob Try.prog.godebug = none := by kernel_rfl
theorem New_t (b m : Int) (h1 : 1 ≤ b) (h2 : b ≤ m) (h3 : m ≤ 1099511627776) (w : World) :
    Calls Try.prog 9 #[.int .i64 b, .int .i64 m] w fun e w' => e = .returned (.tuple #[.pointer (some ⟨w.heap.size, 0, none⟩), .int .i64 0]) ∧ Tm w' w.heap.size b m 0 (-9223372036854775808) ∧ Below w.heap.size w w' := by
  go_enter Try.func9, Try.ntmps9
  go_wp2_with (first | (go_at_call 17; refine (good_t _ _ h1 h2 h3 _).mono ?_; rintro e w' ⟨rfl, rfl⟩))
  go_ret2
  exact ⟨rfl, by unfold Tm; exact heap_alloc_new _ _, (Below.refl _ _).alloc (Nat.le_refl _) _⟩
theorem New_f (b m : Int) (h : ¬ (1 ≤ b ∧ b ≤ m ∧ m ≤ 1099511627776)) (w : World) :
    Calls Try.prog 9 #[.int .i64 b, .int .i64 m] w fun e w' => e = .returned (.tuple #[.pointer none, .int .i64 1]) ∧ w = w' := by
  have H := Lib.hid h
  clear h
  go_enter Try.func9, Try.ntmps9
  go_wp2_with (first | (go_at_call 17; refine (good_f _ _ H.out _).mono ?_; rintro e w' ⟨rfl, rfl⟩))
  go_ret2
  exact ⟨rfl, rfl⟩

/-- The calls as they lie in memory. -/
def Acts (w : World) (b off len : Nat) (A B C : Nat → Int) : Prop :=
  ∀ i, i < len → w.cell? ⟨b, off + i * 3, none⟩ = some (.int .i64 (A i)) ∧ w.cell? ⟨b, off + i * 3 + 1, none⟩ = some (.int .i64 (B i)) ∧ w.cell? ⟨b, off + i * 3 + 2, none⟩ = some (.int .u64 (C i)) ∧
    (-9223372036854775808 ≤ A i ∧ A i ≤ 9223372036854775807) ∧ (-9223372036854775808 ≤ B i ∧ B i ≤ 9223372036854775807) ∧ (0 ≤ C i ∧ C i ≤ 18446744073709551615)

theorem new3_1 (w : World) (x y z : Value) (t : TypeId) : (w.alloc (.cells #[x, y, z] t)).cell? ⟨w.heap.size, 1, none⟩ = some y := by
  simp only [World.cell?, heap_alloc_new w (.cells #[x, y, z] t)]; rfl
theorem walk_long (a0 a1 a3 : Int) (p : Option Addr) (len cap : Nat) (hl : 100 < len) (w : World) (hg : 1 ≤ a0 ∧ a0 ≤ a1 ∧ a1 ≤ 1099511627776) :
    Calls Try.prog 5 #[.int .i64 a0, .int .i64 a1, .slice p len cap, .int .i64 a3] w fun e w' => e = .returned (.bool true) ∧ Below w.heap.size w w' := by
  obtain ⟨h1, h2, h3⟩ := hg
  go_enter Try.func5, Try.ntmps5
  go_wp2_with (first | (go_at_call 8; refine (awake2 _).mono ?_; rintro e w1 ⟨rfl, hg⟩) | (go_at_call 9; refine (New_t _ _ h1 h2 h3 _).mono ?_; rintro e w2 ⟨rfl, ht, hb⟩; have HT := Lib.hid ht; clear ht) | (go_at_call 11; refine (Delays_t _ _ h1 h2 h3 _).mono ?_; rintro e w' ⟨rfl, rfl⟩))
  go_ret
  exact ⟨rfl, hg.trans (hb.mono hg.size)⟩
theorem walk_bad (a0 a1 a3 : Int) (p : Option Addr) (len cap : Nat) (w : World) (hg : ¬ (1 ≤ a0 ∧ a0 ≤ a1 ∧ a1 ≤ 1099511627776)) :
    Calls Try.prog 5 #[.int .i64 a0, .int .i64 a1, .slice p len cap, .int .i64 a3] w fun e w' => e = .returned (.bool true) ∧ Below w.heap.size w w' := by
  have H := Lib.hid hg
  clear hg
  go_enter Try.func5, Try.ntmps5
  go_wp2_with (first | (go_at_call 8; refine (awake2 _).mono ?_; rintro e w1 ⟨rfl, hg⟩) | (go_at_call 9; refine (New_f _ _ H.out _).mono ?_; rintro e w' ⟨rfl, rfl⟩) | (go_at_call 11; refine (Delays_f _ _ H.out _).mono ?_; rintro e w' ⟨rfl, rfl⟩))
  go_ret
  exact ⟨rfl, hg⟩

set_option maxRecDepth 100000 in
set_option maxHeartbeats 2000000 in
theorem walk (a0 a1 a3 : Int) (p : Option Addr) (len cap b off : Nat) (A B C : Nat → Int) (w : World) (hg : 1 ≤ a0 ∧ a0 ≤ a1 ∧ a1 ≤ 1099511627776) (hl : (len : Int) ≤ 100) (hcap : len ≤ cap) (hcap2 : cap ≤ 9223372036854775807)
    (hp : 0 < len → p = some ⟨b, off, none⟩ ∧ b < w.heap.size) (hA : Acts w b off len A B C) :
    Calls Try.prog 5 #[.int .i64 a0, .int .i64 a1, .slice p len cap, .int .i64 a3] w fun e w' => e = .returned (.bool true) ∧ Below w.heap.size w w' := by
  obtain ⟨h1, h2, h3⟩ := hg
  have HA := Lib.hid hA
  have HP := Lib.hid hp
  clear hA hp
  go_enter Try.func5, Try.ntmps5
  go_wp2_with (first | (go_at_call 8; refine (awake2 _).mono ?_; rintro e w1 ⟨rfl, hg⟩; have hs : w.heap.size ≤ w1.heap.size := hg.size; have HG := Lib.hid hg; clear hg) | (go_at_call 9; refine (New_t _ _ h1 h2 h3 _).mono ?_; rintro e w2 ⟨rfl, ht, hb⟩; have HT := Lib.hid ht; clear ht) | (go_at_call 11; refine (Delays_t _ _ h1 h2 h3 _).mono ?_; rintro e w' ⟨rfl, rfl⟩))
  go_loopw [11, 12, 13] (fun fr fa i wr => ∃ (k : Nat) (F G : Int), k ≤ len ∧ i = .int .i64 k ∧ 0 ≤ F ∧ F ≤ k ∧ fa = .int .i64 F ∧ fr = .int .i64 G ∧ Tm wr w1.heap.size a0 a1 F G ∧ Below w1.heap.size w1 wr) (fun _ _ i _ => len - (intOf i).toNat)
  case atStart => exact ⟨0, 0, _, by omega, rfl, by omega, by omega, rfl, rfl, HT.out, hb⟩
  case round =>
    obtain ⟨k, F, G, hk, rfl, f1, f2, rfl, rfl, hT, hB⟩ := hrel
    by_cases hlt : k < len
    · obtain ⟨hpp, hbs⟩ := HP.out (by omega)
      subst hpp
      obtain ⟨x0, x1, x2, ⟨xa, xb⟩, ⟨xc, xd⟩, ⟨xe, xf⟩⟩ := HA.out k hlt
      have old : ∀ o, wr.cell? ⟨b, o, none⟩ = w.cell? ⟨b, o, none⟩ := fun o => (hB.cell (p := ⟨b, o, none⟩) (by show b < _; omega)).trans (HG.out.cell (p := ⟨b, o, none⟩) hbs)
      have y0 := (old _).trans x0
      have y1 := (old _).trans x1
      have y2 := (old _).trans x2
      clear old x0 x1 x2
      have HT' := Lib.hid hT
      have HB' := Lib.hid hB
      have hR := hT.lt
      clear hT hB hb
      by_cases o0 : A k = 0
      · skip
        have dd := dl_bd a0 a1 (F + 1) (C k) h1 h2
        obtain ⟨d1, d2, _, _, _⟩ := dd
        rw [o0] at y0
        clear o0
        by_cases hn : B k < 4611686018427387904 - dl a0 a1 (F + 1) (C k)
        · have HV : Hid (nxt a0 a1 (F + 1) (B k) (C k) = B k + dl a0 a1 (F + 1) (C k)) := Lib.hid (by unfold nxt; rw [if_pos (by omega)])
          go_wp2_with (first | (go_at_call 12; refine (refDelay _ _ _ _ h1 h2 h3 (by omega) (by omega) xe xf _).mono ?_; rintro e w' ⟨rfl, rfl⟩))
          refine (fail_val _ _ _ _ _ _ _ _ _ h1 h2 h3 (by omega) (by omega) xc xd xe xf (HT'.out.alloc _) HV.out).mono ?_
          rintro e w2 ⟨rfl, hT2, hO⟩
          have HT2 := Lib.hid hT2
          have HO := Lib.hid hO
          clear hT2 hO
          have e1 : w2.cell? ⟨wr.heap.size, 1, none⟩ = some (.int .i64 (B k)) := by rw [HO.out.cell (p := ⟨wr.heap.size, 1, none⟩) (by show wr.heap.size ≠ _; omega)]; exact new3_1 ..
          go_wp2_with fail
          go_quiet ((first
            | (go_at_call 15; exact Calls.quiet_of_same (fails_gen _ _ _ _ _ _ (HT2.out.drewN _)))
            | (go_at_call 16; exact Calls.quiet_of_same (ready_gen _ _ _ _ _ _ _ (HT2.out.drewN _)))))
          go_wp2
          go_roundw
          case rel => exact ⟨k + 1, _, _, by omega, by go_num, by omega, by omega, rfl, rfl, HT2.out.drewN _, below_drewN' ((HB'.out.alloc (by have := hR; omega) _).trans HO.out.1) _⟩
          case measure => simp [intOf]; omega
        · have HV : Hid (nxt a0 a1 (F + 1) (B k) (C k) = 4611686018427387904) := Lib.hid (by unfold nxt; split <;> omega)
          go_wp2_with (first | (go_at_call 12; refine (refDelay _ _ _ _ h1 h2 h3 (by omega) (by omega) xe xf _).mono ?_; rintro e w' ⟨rfl, rfl⟩))
          refine (fail_val _ _ _ _ _ _ _ _ _ h1 h2 h3 (by omega) (by omega) xc xd xe xf (HT'.out.alloc _) HV.out).mono ?_
          rintro e w2 ⟨rfl, hT2, hO⟩
          have HT2 := Lib.hid hT2
          have HO := Lib.hid hO
          clear hT2 hO
          have e1 : w2.cell? ⟨wr.heap.size, 1, none⟩ = some (.int .i64 (B k)) := by rw [HO.out.cell (p := ⟨wr.heap.size, 1, none⟩) (by show wr.heap.size ≠ _; omega)]; exact new3_1 ..
          go_wp2_with fail
          go_quiet ((first
            | (go_at_call 15; exact Calls.quiet_of_same (fails_gen _ _ _ _ _ _ (HT2.out.drewN _)))
            | (go_at_call 16; exact Calls.quiet_of_same (ready_gen _ _ _ _ _ _ _ (HT2.out.drewN _)))))
          go_wp2
          go_roundw
          case rel => exact ⟨k + 1, _, _, by omega, by go_num, by omega, by omega, rfl, rfl, HT2.out.drewN _, below_drewN' ((HB'.out.alloc (by have := hR; omega) _).trans HO.out.1) _⟩
          case measure => simp [intOf]; omega
      · by_cases o1 : A k = 1
        · skip
          rw [o1] at y0
          clear o1
          go_wp2_with fail
          refine (well_gen _ _ _ _ _ _ _ (HT'.out.alloc _)).mono ?_
          rintro e w2 ⟨rfl, hT2, hO⟩
          have HT2 := Lib.hid hT2
          have HO := Lib.hid hO
          clear hT2 hO
          have e1 : w2.cell? ⟨wr.heap.size, 1, none⟩ = some (.int .i64 (B k)) := by rw [HO.out.cell (p := ⟨wr.heap.size, 1, none⟩) (by show wr.heap.size ≠ _; omega)]; exact new3_1 ..
          go_wp2_with fail
          go_quiet ((first
            | (go_at_call 15; exact Calls.quiet_of_same (fails_gen _ _ _ _ _ _ (HT2.out.drewN _)))
            | (go_at_call 16; exact Calls.quiet_of_same (ready_gen _ _ _ _ _ _ _ (HT2.out.drewN _)))))
          go_wp2
          go_roundw
          case rel => exact ⟨k + 1, _, _, by omega, by go_num, by omega, by omega, rfl, rfl, HT2.out.drewN _, below_drewN' ((HB'.out.alloc (by have := hR; omega) _).trans HO.out.1) _⟩
          case measure => simp [intOf]; omega
        · go_wp2_with fail
          go_quiet ((first
            | (go_at_call 15; exact Calls.quiet_of_same (fails_gen _ _ _ _ _ _ ((HT'.out.alloc _).drewN _)))
            | (go_at_call 16; exact Calls.quiet_of_same (ready_gen _ _ _ _ _ _ _ ((HT'.out.alloc _).drewN _)))))
          go_wp2
          go_roundw
          case rel => exact ⟨k + 1, F, G, by omega, by go_num, f1, by omega, rfl, rfl, (HT'.out.alloc _).drewN _, below_drewN' (HB'.out.alloc (by have := hR; omega) _) _⟩
          case measure => simp [intOf]; omega
    · go_wp2
      go_ret
      exact ⟨rfl, HG.out.trans (hB.mono hs)⟩

theorem lt_of_cell {w : World} {a : Addr} {v : Value} (h : w.cell? a = some v) : a.block < w.heap.size := by
  rcases Nat.lt_or_ge a.block w.heap.size with h' | h'
  · exact h'
  · simp [World.cell?, Array.getElem?_eq_none h'] at h
theorem laidOut : laidOutB Try.prog = true := by kernel_rfl
theorem cells35 : Try.prog.cellsOf 35 = 3 := by kernel_rfl
def num? : Option Value → Int
  | some (.int _ z) => z
  | _ => 0

theorem open_acts {H : Type} {enc : TypeId × Value → H} {W : World} {p : Option Addr} {len cap : Nat} {d : DataW H} {ps : List MemPlace} (h : DataW.Trod enc Try.prog W 0 (fun _ => true) true 33 (.slice p len cap) d ps) :
    len ≤ cap ∧ cap ≤ maxLen ∧ ∃ (b off : Nat) (A B C : Nat → Int), (0 < len → p = some ⟨b, off, none⟩ ∧ b < W.heap.size) ∧ Acts W b off len A B C := by
  obtain ⟨fuel, hf⟩ := h
  rcases open_slice Try.underlying33 hf with ⟨hcs, _⟩ | ⟨a, len', cap', m, n, D, Pl, hcs, _, hl, hm, hmm, _, hi⟩
  · simp [Value.cells] at hcs
    obtain ⟨rfl, rfl, rfl⟩ := hcs
    exact ⟨Nat.le_refl _, Nat.zero_le _, 0, 0, fun _ => 0, fun _ => 0, fun _ => 0, fun h => absurd h (Nat.lt_irrefl _), fun i hi => absurd hi (Nat.not_lt_zero _)⟩
  · simp [Value.cells] at hcs
    obtain ⟨rfl, rfl, rfl⟩ := hcs
    refine ⟨hl, hm, ?_⟩
    simp only [if_true] at hmm
    subst hmm
    rw [cells35] at hi
    have hcell : ∀ i, i < len → ∃ x y z : Int, W.cell? (a.add (i * 3)) = some (.int .i64 x) ∧ W.cell? ((a.add (i * 3)).add 1) = some (.int .i64 y) ∧ W.cell? ((a.add (i * 3)).add 2) = some (.int .u64 z) ∧
        (Lit.int .i64 x).wf = true ∧ (Lit.int .i64 y).wf = true ∧ (Lit.int .u64 z).wf = true := by
      intro i hil
      obtain ⟨cs, hc, ht⟩ := hi i (by omega)
      obtain ⟨_, _, hat⟩ := World.cells?_some hc
      obtain ⟨x, hx, wx⟩ := field_int Try.underlying35 (by kernel_rfl) ht 0 _ .i64 rfl Try.underlying3
      obtain ⟨y, hy, wy⟩ := field_int Try.underlying35 (by kernel_rfl) ht 1 _ .i64 rfl Try.underlying2
      obtain ⟨z, hz, wz⟩ := field_int Try.underlying35 (by kernel_rfl) ht 2 _ .u64 rfl Try.underlying29
      exact ⟨x, y, z, by have := hat 0 (by omega); rw [hx] at this; simpa [Addr.add] using this, by rw [hat 1 (by omega), hy], by rw [hat 2 (by omega), hz], wx, wy, wz⟩
    obtain ⟨b, off, spot⟩ := a
    by_cases h0 : len = 0
    · subst h0
      exact ⟨0, 0, fun _ => 0, fun _ => 0, fun _ => 0, fun h => absurd h (Nat.lt_irrefl _), fun i hi => absurd hi (Nat.not_lt_zero _)⟩
    · obtain ⟨x, y, z, hx, _⟩ := hcell 0 (by omega)
      have hspot : spot = none := by simpa [Addr.add] using World.cell?_spot hx
      subst hspot
      refine ⟨b, off, fun i => num? (W.cell? ⟨b, off + i * 3, none⟩), fun i => num? (W.cell? ⟨b, off + i * 3 + 1, none⟩), fun i => num? (W.cell? ⟨b, off + i * 3 + 2, none⟩), fun _ => ⟨rfl, lt_of_cell hx⟩, fun i hil => ?_⟩
      obtain ⟨x, y, z, hx, hy, hz, wx, wy, wz⟩ := hcell i hil
      rw [add_plain] at hx hy hz
      rw [add_plain] at hy hz
      simp only [hx, hy, hz]
      exact ⟨rfl, rfl, rfl, i64_bd wx, i64_bd wy, u64_bd wz⟩

set_option maxRecDepth 100000 in
theorem lifted (os : Os) (started : os.Started) (H : Type) (enc : TypeId × Value → H) :
    ReturnsInHanded {} Try.checked os 5 .any (Rows.retryPlaysSpec.pre6 enc Try.prog Try.f5 Rows.retryPlaysRow.domain false) (Rows.retryPlaysSpec.post enc Try.prog Try.f5 false true false false) := by
  refine returnsInHanded_of_change (C := Try.checked) own started (by kernel_rfl) Try.func5
    (ChangeSpec.witness6 (enc := enc) (C := Try.checked) false ⟨#[], #[.int .i64 0, .int .i64 0, .slice none 0 0, .int .i64 0], []⟩ 8 (by kernel_rfl) (by kernel_rfl) (by kernel_rfl) (by kernel_rfl)) ?_
  intro W base args ds gs before hval0 hW hcnd _
  have hval : ∀ (j : Nat) t v, Try.f5.params[j]? = some t → args[j]? = some v → Value.okWide Try.prog W .any base t v := hval0
  have hW' := hW
  obtain ⟨p, q, hA0, hV, rfl, hfz, hnd⟩ := hW
  have hA : DataW.TrodAll enc Try.prog W 0 (fun _ => true) true Try.f5.params.toList args.toList ds p := hA0
  have hAk := hA
  rw [Try.params5] at hA hval
  obtain ⟨v0, vs0, d0, ds0, p0, q0, hargs, rfl, rfl, h0, r0⟩ := trodAll_cons hA
  obtain ⟨v1, vs1, d1, ds1, p1, q1, rfl, rfl, rfl, h1, r1⟩ := trodAll_cons r0
  obtain ⟨v2, vs2, d2, ds2, p2, q2, rfl, rfl, rfl, h2, r2⟩ := trodAll_cons r1
  obtain ⟨v3, vs3, d3, ds3, p3, q3, rfl, rfl, rfl, h3, r3⟩ := trodAll_cons r2
  obtain ⟨rfl, rfl, rfl⟩ := trodAll_nil r3
  obtain rfl : args = #[v0, v1, v2, v3] := by cases args; simp_all
  obtain ⟨rfl, rfl⟩ := trodVars_none hV
  obtain ⟨a0, rfl, rfl, rfl, w0⟩ := open_int Try.underlying2 (hval 0 2 v0 rfl rfl) h0
  obtain ⟨a1, rfl, rfl, rfl, w1⟩ := open_int Try.underlying2 (hval 1 2 v1 rfl rfl) h1
  obtain ⟨pt, len, cap, rfl⟩ := okWide_slice Try.underlying33 (hval 2 33 v2 rfl rfl)
  obtain ⟨a3, rfl, rfl, rfl, w3⟩ := open_int Try.underlying2 (hval 3 2 v3 rfl rfl) h3
  obtain ⟨hl, hm, b, off, A, B, C, hp, hacts⟩ := open_acts h2
  clear hA0 hval0
  have fin : Calls Try.prog 5 #[.int .i64 a0, .int .i64 a1, .slice pt len cap, .int .i64 a3] W fun e w' => e = .returned (.bool true) ∧ Below W.heap.size W w' := by
    by_cases hg : 1 ≤ a0 ∧ a0 ≤ a1 ∧ a1 ≤ 1099511627776
    · by_cases hlen : 100 < len
      · exact walk_long a0 a1 a3 pt len cap hlen W hg
      · exact walk a0 a1 a3 pt len cap b off A B C W hg (by omega) hl (by unfold maxLen at hm; omega) hp hacts
    · exact walk_bad a0 a1 a3 pt len cap W hg
  refine fin.mono fun e W' ⟨he, hb⟩ => ?_
  subst he
  exact ⟨_, rfl, law_post laidOut rfl hW' hAk (by rw [Try.params5]; intro t ht; revert t; decide +kernel) (by kernel_rfl) Try.underlying4 rfl hb⟩

theorem over : Rows.retryPlaysRow.holds Try.pinned (OpenSpec.ofChange Rows.retryPlaysSpec) :=
  OpenClaim.holds_of_wide 5 Try.f5 rfl rfl rfl rfl rfl rfl rfl ⟨rfl, rfl, rfl, rfl, rfl⟩ rfl rfl rfl rfl rfl (by kernel_rfl) Try.func5 (by kernel_rfl)
    (of_decide_eq_true (by kernel_rfl)) (by unfold Func.isWrapper; first | (rw [if_pos (by decide +kernel)]; kernel_rfl) | (rw [if_neg (by decide +kernel)]; exact ⟨rfl, rfl⟩))
    (fun os started H enc _ => lifted os started H enc)

/-- The statement. -/
theorem proved : Rows.RetryPlaysSaid :=
  over
#print axioms proved
end Go.Proofs.Ytbhmbdmhkacfmaa.retryPlays
