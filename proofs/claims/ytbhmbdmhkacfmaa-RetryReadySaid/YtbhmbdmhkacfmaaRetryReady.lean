/-
  The statement of the timer's law RetryReady holds: for every input the law answers true, and its arguments read as before. No condition.
  The call and the row's step are the kit's shell; the walk and all that it leans on (Ytbhmbdmhkacfmaa Math, A) are ours.
-/
import Derived.Test.YtbhmbdmhkacfmaaRows
import Derived.Test.YtbhmbdmhkacfmaaA
import Derived.WalkKit
import Derived.ProofKit
import Derived.OpenShut
namespace Go.Proofs.Ytbhmbdmhkacfmaa.retryReady
open Go.ChangeShapes Go.WideShapes Go.ChangeAt Go.RowKit
set_option linter.unusedVariables false      -- a walk need not use every 'w<i>' (that an integer argument fits its kind)

theorem own : ownKnob Try.prog.godebug = none := by kernel_rfl

theorem New_t (b m : Int) (h1 : 1 ≤ b) (h2 : b ≤ m) (h3 : m ≤ 1099511627776) (w : World) :
    Calls Try.prog 9 #[.int .i64 b, .int .i64 m] w fun e w' => e = .returned (.tuple #[.pointer (some ⟨w.heap.size, 0, none⟩), .int .i64 0]) ∧ w.alloc (.cells #[.int .i64 b, .int .i64 m, .int .i64 0, .int .i64 (-9223372036854775808)] 44) = w' := by
  go_enter Try.func9, Try.ntmps9
  go_wp2_with (first | (go_at_call 17; refine (good_t _ _ h1 h2 h3 _).mono ?_; rintro e w' ⟨rfl, rfl⟩))
  go_ret2
  exact ⟨rfl, rfl⟩
theorem New_f (b m : Int) (h : ¬ (1 ≤ b ∧ b ≤ m ∧ m ≤ 1099511627776)) (w : World) :
    Calls Try.prog 9 #[.int .i64 b, .int .i64 m] w fun e w' => e = .returned (.tuple #[.pointer none, .int .i64 1]) ∧ w = w' := by
  have H := Lib.hid h
  clear h
  go_enter Try.func9, Try.ntmps9
  go_wp2_with (first | (go_at_call 17; refine (good_f _ _ H.out _).mono ?_; rintro e w' ⟨rfl, rfl⟩))
  go_ret2
  exact ⟨rfl, rfl⟩
theorem nxt_bd (b m f now r : Int) (h1 : 1 ≤ b) (h2 : b ≤ m) (h3 : m ≤ 1099511627776) (n1 : 0 ≤ now) (n2 : now ≤ 1152921504606846976) : now + 1 ≤ nxt b m f now r ∧ nxt b m f now r ≤ now + m := by
  obtain ⟨d1, d2, d3, d4, d5⟩ := dl_bd b m f r h1 h2
  unfold nxt; rw [if_pos (by omega)]; omega
/-! ### STEP 1: THE WALK: the Go text returns true. 'Grown w w'': the world has at most new blocks (Derived/RowKit3.lean). Part the cases AHEAD of 'go_enter' where a test parts the walk; take each callee by a contract of your own. -/
theorem walk (a0 : Int) (a1 : Int) (a2 : Int) (a3 : Int) (a4 : Int) (w0 : (Lit.int .i64 a0).wf = true) (w1 : (Lit.int .i64 a1).wf = true) (w2 : (Lit.int .i64 a2).wf = true) (w3 : (Lit.int .u64 a3).wf = true) (w4 : (Lit.int .i64 a4).wf = true) (w : World) :
    Calls Try.prog 7 #[.int .i64 a0, .int .i64 a1, .int .i64 a2, .int .u64 a3, .int .i64 a4] w fun e w' => e = .returned (.bool true) ∧ Grown w w' := by
  have v0 := i64_bd w0
  have v1 := i64_bd w1
  have v2 := i64_bd w2
  have v3 := u64_bd w3
  have v4 := i64_bd w4
  clear w0 w1 w2 w3 w4
  by_cases hg : 1 ≤ a0 ∧ a0 ≤ a1 ∧ a1 ≤ 1099511627776
  · obtain ⟨h1, h2, h3⟩ := hg
    by_cases c1 : a2 < 0
    · go_enter Try.func7, Try.ntmps7
      go_wp2_with (first | (go_at_call 8; refine (awake _).mono ?_; rintro e w1 ⟨rfl, hg⟩) | (go_at_call 9; refine (New_t _ _ h1 h2 h3 _).mono ?_; rintro e w' ⟨rfl, rfl⟩))
      go_ret
      exact ⟨rfl, hg.alloc _ _⟩
    by_cases c2 : 1152921504606846976 < a2
    · go_enter Try.func7, Try.ntmps7
      go_wp2_with (first | (go_at_call 8; refine (awake _).mono ?_; rintro e w1 ⟨rfl, hg⟩) | (go_at_call 9; refine (New_t _ _ h1 h2 h3 _).mono ?_; rintro e w' ⟨rfl, rfl⟩))
      go_ret
      exact ⟨rfl, hg.alloc _ _⟩
    by_cases c3 : a4 < 1
    · go_enter Try.func7, Try.ntmps7
      go_wp2_with (first | (go_at_call 8; refine (awake _).mono ?_; rintro e w1 ⟨rfl, hg⟩) | (go_at_call 9; refine (New_t _ _ h1 h2 h3 _).mono ?_; rintro e w' ⟨rfl, rfl⟩))
      go_ret
      exact ⟨rfl, hg.alloc _ _⟩
    by_cases c4 : 60 < a4
    · go_enter Try.func7, Try.ntmps7
      go_wp2_with (first | (go_at_call 8; refine (awake _).mono ?_; rintro e w1 ⟨rfl, hg⟩) | (go_at_call 9; refine (New_t _ _ h1 h2 h3 _).mono ?_; rintro e w' ⟨rfl, rfl⟩))
      go_ret
      exact ⟨rfl, hg.alloc _ _⟩
    go_enter Try.func7, Try.ntmps7
    go_wp2_with (first | (go_at_call 8; refine (awake _).mono ?_; rintro e w1 ⟨rfl, hg⟩) | (go_at_call 9; refine (New_t _ _ h1 h2 h3 _).mono ?_; rintro e w' ⟨rfl, rfl⟩))
    go_loopw [13] (fun i wr => ∃ (k n : Nat) (A : Int), (k : Int) ≤ a4 ∧ i = .int .i64 k ∧ wr = (w1.alloc (.cells #[.int .i64 a0, .int .i64 a1, .int .i64 k, .int .i64 A] 44)).drewN n ∧ (1 ≤ k → a2 + 1 ≤ A ∧ A ≤ a2 + a1)) (fun i _ => (a4 - intOf i).toNat)
    case atStart => exact ⟨0, 0, _, by omega, rfl, rfl, by omega⟩
    case round =>
      obtain ⟨k, n, A, hk, rfl, rfl, hA⟩ := hrel
      by_cases hlt : (k : Int) < a4
      · have hn := nxt_bd a0 a1 ((k : Int) + 1) a2 a3 h1 h2 h3 (by omega) (by omega)
        clear hA
        go_wp2_with (go_at_call 13; refine (fail_any _ _ _ _ _ _ _ h1 h2 h3 (by omega) (by omega) v2.1 v2.2 v3.1 v3.2 _).mono ?_; rintro e w' ⟨k2, rfl, rfl⟩)
        go_roundw
        case rel => exact ⟨k + 1, k2, _, by omega, by go_num, rfl, fun _ => hn⟩
        case measure => simp [intOf]; omega
      · obtain ⟨hA1, hA2⟩ := hA (by omega)
        have hb : ((k : Int) != a4) = false := by simp; omega
        have hc : ((k : Int) == a4) = true := by simp; omega
        have hd : ¬ A ≤ a2 := by omega
        clear hA
        go_wp2_with go_in
        go_ret
        exact ⟨rfl, ((grown_drewN (hg.alloc _ _) _).setCell hg.2.2 _).setCell hg.2.2 _⟩
  · have H := Lib.hid hg
    clear hg
    go_enter Try.func7, Try.ntmps7
    go_wp2_with (first | (go_at_call 8; refine (awake _).mono ?_; rintro e w1 ⟨rfl, hg⟩) | (go_at_call 9; refine (New_f _ _ H.out _).mono ?_; rintro e w' ⟨rfl, rfl⟩))
    go_ret
    exact ⟨rfl, hg⟩

/-! ### THE ROW's STEP: WRITTEN OUT: LEAVE IT -/
set_option maxRecDepth 100000 in
theorem lifted (os : Os) (started : os.Started) (H : Type) (enc : TypeId × Value → H) :
    ReturnsInHanded {} Try.checked os 7 .any (Rows.retryReadySpec.pre6 enc Try.prog Try.f7 Rows.retryReadyRow.domain false) (Rows.retryReadySpec.post enc Try.prog Try.f7 false true false false) := by
  refine returnsInHanded_of_change (C := Try.checked) own started (by kernel_rfl) Try.func7
    (ChangeSpec.witness6 (enc := enc) (C := Try.checked) false ⟨#[], #[.int .i64 0, .int .i64 0, .int .i64 0, .int .u64 0, .int .i64 0], []⟩ 8 (by kernel_rfl) (by kernel_rfl) (by kernel_rfl) (by kernel_rfl)) ?_
  intro W base args ds gs before hval0 hW hcnd _
  have hval : ∀ (j : Nat) t v, Try.f7.params[j]? = some t → args[j]? = some v → Value.okWide Try.prog W .any base t v := hval0
  have hW' := hW
  obtain ⟨p, q, hA0, hV, rfl, hfz, hnd⟩ := hW
  have hA : DataW.TrodAll enc Try.prog W 0 (fun _ => true) true Try.f7.params.toList args.toList ds p := hA0
  rw [Try.params7] at hA hval
  obtain ⟨v0, vs0, d0, ds0, p0, q0, hargs, rfl, rfl, h0, r0⟩ := trodAll_cons hA
  obtain ⟨v1, vs1, d1, ds1, p1, q1, rfl, rfl, rfl, h1, r1⟩ := trodAll_cons r0
  obtain ⟨v2, vs2, d2, ds2, p2, q2, rfl, rfl, rfl, h2, r2⟩ := trodAll_cons r1
  obtain ⟨v3, vs3, d3, ds3, p3, q3, rfl, rfl, rfl, h3, r3⟩ := trodAll_cons r2
  obtain ⟨v4, vs4, d4, ds4, p4, q4, rfl, rfl, rfl, h4, r4⟩ := trodAll_cons r3
  obtain ⟨rfl, rfl, rfl⟩ := trodAll_nil r4
  obtain rfl : args = #[v0, v1, v2, v3, v4] := by cases args; simp_all
  obtain ⟨rfl, rfl⟩ := trodVars_none hV
  obtain ⟨a0, rfl, rfl, rfl, w0⟩ := open_int Try.underlying2 (hval 0 2 v0 rfl rfl) h0
  obtain ⟨a1, rfl, rfl, rfl, w1⟩ := open_int Try.underlying2 (hval 1 2 v1 rfl rfl) h1
  obtain ⟨a2, rfl, rfl, rfl, w2⟩ := open_int Try.underlying2 (hval 2 2 v2 rfl rfl) h2
  obtain ⟨a3, rfl, rfl, rfl, w3⟩ := open_int Try.underlying29 (hval 3 29 v3 rfl rfl) h3
  obtain ⟨a4, rfl, rfl, rfl, w4⟩ := open_int Try.underlying3 (hval 4 3 v4 rfl rfl) h4
  clear hA0 hval0
  simp only [List.append_nil] at hW'
  refine (walk a0 a1 a2 a3 a4 w0 w1 w2 w3 w4 W).mono fun e W' ⟨he, hg⟩ => ?_
  subst he
  exact ⟨_, rfl, post_of_same (pa := []) (pv := []) hW' (fun _ _ _ => (trodAll_cons_mk (shut_bool Try.underlying4 _) trodAll_mk0)) (fun sp _ => (trodAll_cons_mk (shut_int Try.underlying2 w0) (trodAll_cons_mk (shut_int Try.underlying2 w1) (trodAll_cons_mk (shut_int Try.underlying2 w2) (trodAll_cons_mk (shut_int Try.underlying29 w3) (trodAll_cons_mk (shut_int Try.underlying3 w4) trodAll_mk0)))))) (fun _ _ => rfl) rfl
    (hg.frame _) hg.2.1 (ok_one (by kernel_rfl) rfl (okWide_bool_mk Try.underlying4 _))⟩

theorem over : Rows.retryReadyRow.holds Try.pinned (OpenSpec.ofChange Rows.retryReadySpec) :=
  OpenClaim.holds_of_wide 7 Try.f7 rfl rfl rfl rfl rfl rfl rfl ⟨rfl, rfl, rfl, rfl, rfl⟩ rfl rfl rfl rfl rfl (by kernel_rfl) Try.func7 (by kernel_rfl)
    (of_decide_eq_true (by kernel_rfl)) (by unfold Func.isWrapper; first | (rw [if_pos (by decide +kernel)]; kernel_rfl) | (rw [if_neg (by decide +kernel)]; exact ⟨rfl, rfl⟩))
    (fun os started H enc _ => lifted os started H enc)

/-- ████ THE STATEMENT ████ -/
theorem proved : Rows.RetryReadySaid :=
  over
#print axioms proved
end Go.Proofs.Ytbhmbdmhkacfmaa.retryReady
