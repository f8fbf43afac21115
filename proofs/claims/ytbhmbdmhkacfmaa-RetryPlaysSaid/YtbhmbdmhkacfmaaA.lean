import Derived.Test.YtbhmbdmhkacfmaaRows
import Derived.Test.YtbhmbdmhkacfmaaMath
import Derived.WalkKit
import Derived.ProofKit
import Derived.OpenShut
import Derived.Outline
import Derived.Handy
import Derived.Deep.RegionWith
import Derived.Deep.QuietTactic
import Derived.BigQuiet
namespace Go.Proofs.Ytbhmbdmhkacfmaa
open Go.ChangeShapes Go.WideShapes Go.ChangeAt Go.RowKit
set_option linter.unusedVariables false

theorem i64_bd {n : Int} (h : (Lit.int .i64 n).wf = true) : -9223372036854775808 ≤ n ∧ n ≤ 9223372036854775807 := by simp only [Lit.wf, Bool.and_eq_true, decide_eq_true_eq] at h; exact h
theorem u64_bd {n : Int} (h : (Lit.int .u64 n).wf = true) : 0 ≤ n ∧ n ≤ 18446744073709551615 := by simp only [Lit.wf, Bool.and_eq_true, decide_eq_true_eq] at h; exact h
theorem good_t (b m : Int) (h1 : 1 ≤ b) (h2 : b ≤ m) (h3 : m ≤ 1099511627776) (w : World) :
    Calls Try.prog 17 #[.int .i64 b, .int .i64 m] w fun e w' => e = .returned (.bool true) ∧ w = w' := by
  go_enter Try.func17, Try.ntmps17
  go_wp2
  go_ret
  exact ⟨rfl, rfl⟩
theorem good_f (b m : Int) (h : ¬ (1 ≤ b ∧ b ≤ m ∧ m ≤ 1099511627776)) (w : World) :
    Calls Try.prog 17 #[.int .i64 b, .int .i64 m] w fun e w' => e = .returned (.bool false) ∧ w = w' := by
  by_cases h1 : 1 ≤ b
  · by_cases h2 : b ≤ m
    · have h3 : ¬ m ≤ 1099511627776 := fun h3 => h ⟨h1, h2, h3⟩
      clear h
      go_enter Try.func17, Try.ntmps17
      go_wp2
      go_ret
      exact ⟨rfl, rfl⟩
    · clear h
      go_enter Try.func17, Try.ntmps17
      go_wp2
      go_ret
      exact ⟨rfl, rfl⟩
  · clear h
    go_enter Try.func17, Try.ntmps17
    go_wp2
    go_ret
    exact ⟨rfl, rfl⟩

theorem dl_wrap (b m f r t : Int) (h : top b m f = t) (t1 : 1 ≤ t) (t2 : t ≤ 1099511627776) (r1 : 0 ≤ r) :
    wrap64 ((t + 1) / 2 + wrap64 (r % (t / 2 + 1))) = dl b m f r := by
  subst h
  have a := Int.emod_nonneg r (b := top b m f / 2 + 1) (by omega)
  have c := Int.emod_lt_of_pos r (b := top b m f / 2 + 1) (by omega)
  unfold dl
  rw [IntWalk.wrap64_in (r % (top b m f / 2 + 1)) (by omega), IntWalk.wrap64_in _ (by omega)]
theorem ret_int {k : IntKind} {a b : Int} (h : a = b) : Ending.returned (.int k a) = .returned (.int k b) := by rw [h]

set_option maxHeartbeats 400000 in
theorem delay_any (b m f r : Int) (h1 : 1 ≤ b) (h2 : b ≤ m) (h3 : m ≤ 1099511627776) (f1 : -9223372036854775808 ≤ f) (f2 : f ≤ 9223372036854775807) (r1 : 0 ≤ r) (r2 : r ≤ 18446744073709551615) (w : World) :
    Calls Try.prog 18 #[.int .i64 b, .int .i64 m, .int .i64 f, .int .u64 r] w fun e w' => e = .returned (.int .i64 (dl b m f r)) ∧ w = w' := by
  go_enter Try.func18, Try.ntmps18
  go_wp2
  go_loop [9, 10] (fun d i => ∃ k : Nat, (k : Int) ≤ max (f - 1) 0 ∧ i = .int .i64 (k + 1) ∧ d = .int .i64 (it b m k)) (fun _ i => (f - intOf i).toNat)
  case atStart => exact ⟨0, by omega, rfl, rfl⟩
  case round =>
    obtain ⟨k, hk, rfl, rfl⟩ := hrel
    have a1 := it_ge b m h1 k
    have a2 := it_le b m h1 h2 k
    by_cases c1 : (k : Int) + 1 < f
    · by_cases c2 : it b m k < m
      · have HS := Lib.hid (it_more b m k c2)
        go_wp2
        go_round
        case rel => exact ⟨k + 1, by omega, by go_num, by rw [HS.out]⟩
        case measure => simp [intOf]; omega
      · have HS := Lib.hid (top_full b m f k (by omega) c2)
        go_wp2
        · go_ret
          exact ⟨ret_int (dl_wrap b m f r _ (by rw [HS.out]; omega) (by omega) (by omega) r1), rfl⟩
        · go_ret
          exact ⟨ret_int (dl_wrap b m f r _ (by rw [HS.out]; omega) (by omega) (by omega) r1), rfl⟩
    · have HS := Lib.hid (top_done b m f k (by omega))
      go_wp2
      · go_ret
        exact ⟨ret_int (dl_wrap b m f r _ (by rw [HS.out]; omega) (by omega) (by omega) r1), rfl⟩
      · go_ret
        exact ⟨ret_int (dl_wrap b m f r _ (by rw [HS.out]; omega) (by omega) (by omega) r1), rfl⟩

theorem tm_set (c0 c1 c2 c3 v : Value) (n : Nat) (w : World) :
    ((w.alloc (.cells #[c0, c1, c2, c3] 44)).drewN n).setCell ⟨w.heap.size, 3, none⟩ v = (w.alloc (.cells #[c0, c1, c2, v] 44)).drewN n := by
  show ((w.alloc (.cells #[c0, c1, c2, c3] 44)).setCell ⟨w.heap.size, 3, none⟩ v).drewN n = _
  rw [World.setCell_alloc_at _ _ _ _ _ rfl]; rfl
def nxt (b m f now r : Int) : Int := if now ≤ 4611686018427387904 - dl b m f r then now + dl b m f r else 4611686018427387904
theorem fail_zero (b m f a now r : Int) (h1 : 1 ≤ b) (h2 : b ≤ m) (h3 : m ≤ 1099511627776) (f1 : 0 ≤ f) (f2 : f ≤ 1000) (n1 : -9223372036854775808 ≤ now) (n2 : now ≤ 9223372036854775807) (r1 : 0 ≤ r) (r2 : r ≤ 18446744073709551615) (w : World) :
    Calls Try.prog 13 #[.pointer (some ⟨w.heap.size, 0, none⟩), .int .i64 now, .int .u64 r] (w.alloc (.cells #[.int .i64 b, .int .i64 m, .int .i64 f, .int .i64 a] 44)) fun e w' => ∃ k, e = .returned (.int .i64 (nxt b m (f + 1) now r)) ∧ w' = (w.alloc (.cells #[.int .i64 b, .int .i64 m, .int .i64 (f + 1), .int .i64 (nxt b m (f + 1) now r)] 44)).drewN k := by
  have hd := dl_bd b m (f + 1) r h1 h2
  by_cases hn : now ≤ 4611686018427387904 - dl b m (f + 1) r
  · have HN : Hid (nxt b m (f + 1) now r = now + dl b m (f + 1) r) := Lib.hid (by unfold nxt; rw [if_pos hn])
    go_enter Try.func13, Try.ntmps13
    go_wp2
    go_quiet ((go_at_call 18; exact Calls.quiet_of_same ((delay_any _ _ _ _ h1 h2 h3 (by omega) (by omega) r1 r2 _).mono fun _ _ h => ⟨h.1, h.2.symm⟩)))
    go_wp2
    go_ret
    rw [HN.out]
    exact ⟨_, rfl, tm_set _ _ _ _ _ _ _⟩
  · have HN : Hid (nxt b m (f + 1) now r = 4611686018427387904) := Lib.hid (by unfold nxt; rw [if_neg hn])
    go_enter Try.func13, Try.ntmps13
    go_wp2
    go_quiet ((go_at_call 18; exact Calls.quiet_of_same ((delay_any _ _ _ _ h1 h2 h3 (by omega) (by omega) r1 r2 _).mono fun _ _ h => ⟨h.1, h.2.symm⟩)))
    go_wp2
    go_ret
    rw [HN.out]
    exact ⟨_, rfl, rfl⟩
theorem fail_any (b m f a now r : Int) (n : Nat) (h1 : 1 ≤ b) (h2 : b ≤ m) (h3 : m ≤ 1099511627776) (f1 : 0 ≤ f) (f2 : f ≤ 1000) (n1 : -9223372036854775808 ≤ now) (n2 : now ≤ 9223372036854775807) (r1 : 0 ≤ r) (r2 : r ≤ 18446744073709551615) (w : World) :
    Calls Try.prog 13 #[.pointer (some ⟨w.heap.size, 0, none⟩), .int .i64 now, .int .u64 r] ((w.alloc (.cells #[.int .i64 b, .int .i64 m, .int .i64 f, .int .i64 a] 44)).drewN n) fun e w' => ∃ k, e = .returned (.int .i64 (nxt b m (f + 1) now r)) ∧ w' = (w.alloc (.cells #[.int .i64 b, .int .i64 m, .int .i64 (f + 1), .int .i64 (nxt b m (f + 1) now r)] 44)).drewN k :=
  (fail_zero b m f a now r h1 h2 h3 f1 f2 n1 n2 r1 r2 (w.drewN n)).mono fun e w' ⟨k, he, hw⟩ => ⟨n + k, he, by rw [hw, ← World.drewN_drewN]; rfl⟩

theorem fail_1 (w : World) :
    Calls Try.prog 13 #[.pointer (some ⟨w.heap.size, 0, none⟩), .int .i64 10, .int .u64 0] (w.alloc (.cells #[.int .i64 4, .int .i64 100, .int .i64 0, .int .i64 (-9223372036854775808)] 44)) fun e w' => ∃ k, e = .returned (.int .i64 12) ∧ w' = (w.alloc (.cells #[.int .i64 4, .int .i64 100, .int .i64 1, .int .i64 12] 44)).drewN k := by
  have h := fail_zero 4 100 0 (-9223372036854775808) 10 0 (by omega) (by omega) (by omega) (by omega) (by omega) (by omega) (by omega) (by omega) (by omega) w
  rw [show nxt 4 100 (0 + 1) 10 0 = 12 from by decide, show (0 : Int) + 1 = 1 from rfl] at h
  exact h
theorem fail_2 (w : World) (n : Nat) :
    Calls Try.prog 13 #[.pointer (some ⟨w.heap.size, 0, none⟩), .int .i64 12, .int .u64 7] ((w.alloc (.cells #[.int .i64 4, .int .i64 100, .int .i64 1, .int .i64 12] 44)).drewN n) fun e w' => ∃ k, e = .returned (.int .i64 18) ∧ w' = (w.alloc (.cells #[.int .i64 4, .int .i64 100, .int .i64 2, .int .i64 18] 44)).drewN k := by
  have h := fail_any 4 100 1 12 12 7 n (by omega) (by omega) (by omega) (by omega) (by omega) (by omega) (by omega) (by omega) (by omega) w
  rw [show nxt 4 100 (1 + 1) 12 7 = 18 from by decide, show (1 : Int) + 1 = 2 from rfl] at h
  exact h
theorem delay_1 (w : World) : Calls Try.prog 18 #[.int .i64 4, .int .i64 100, .int .i64 2, .int .u64 7] w fun e w' => e = .returned (.int .i64 6) ∧ w = w' := by
  have h := delay_any 4 100 2 7 (by omega) (by omega) (by omega) (by omega) (by omega) (by omega) (by omega) w
  rw [show dl 4 100 2 7 = 6 from by decide] at h
  exact h
theorem grown_drewN {w v : World} (h : Grown w v) : ∀ n, Grown w (v.drewN n)
  | 0 => h
  | n + 1 => (grown_drewN h n).drew
theorem awake (w : World) :
    Calls Try.prog 8 #[] w fun e w' => e = .returned (.bool true) ∧ Grown w w' := by
  go_enter Try.func8, Try.ntmps8
  go_wp2_with (first | (go_at_call_of 13 (Value.int IntKind.i64 10); refine (fail_1 _).mono ?_; rintro e w' ⟨k, rfl, rfl⟩) | (go_at_call_of 13 (Value.int IntKind.i64 12); refine (fail_2 _ _).mono ?_; rintro e w' ⟨k, rfl, rfl⟩) | (go_at_call 18; refine (delay_1 _).mono ?_; rintro e w' ⟨rfl, rfl⟩) | go_in)
  go_ret
  exact ⟨rfl, ((grown_drewN ((Grown.refl _).alloc _ _) _).setCell (by simp) _).setCell (by simp) _⟩

/-! The calls of package retry that answer a delay, and the document's own. -/
theorem Delay_t (b m f r : Int) (h1 : 1 ≤ b) (h2 : b ≤ m) (h3 : m ≤ 1099511627776) (f1 : 1 ≤ f) (f2 : f ≤ 9223372036854775807) (r1 : 0 ≤ r) (r2 : r ≤ 18446744073709551615) (w : World) :
    Calls Try.prog 10 #[.int .i64 b, .int .i64 m, .int .i64 f, .int .u64 r] w fun e w' => e = .returned (.tuple #[.int .i64 (dl b m f r), .int .i64 0]) ∧ w = w' := by
  go_enter Try.func10, Try.ntmps10
  go_wp2_with (first | (go_at_call 17; refine (good_t _ _ h1 h2 h3 _).mono ?_; rintro e w' ⟨rfl, rfl⟩) | (go_at_call 18; refine (delay_any _ _ _ _ h1 h2 h3 (by omega) (by omega) r1 r2 _).mono ?_; rintro e w' ⟨rfl, rfl⟩))
  go_ret2
  exact ⟨rfl, rfl⟩
theorem Delay_f (b m f r : Int) (h : ¬ (1 ≤ b ∧ b ≤ m ∧ m ≤ 1099511627776)) (w : World) :
    Calls Try.prog 10 #[.int .i64 b, .int .i64 m, .int .i64 f, .int .u64 r] w fun e w' => e = .returned (.tuple #[.int .i64 0, .int .i64 1]) ∧ w = w' := by
  have H := Lib.hid h
  clear h
  go_enter Try.func10, Try.ntmps10
  go_wp2_with (first | (go_at_call 17; refine (good_f _ _ H.out _).mono ?_; rintro e w' ⟨rfl, rfl⟩))
  go_ret2
  exact ⟨rfl, rfl⟩
theorem Delay_g (b m f r : Int) (h1 : 1 ≤ b) (h2 : b ≤ m) (h3 : m ≤ 1099511627776) (f1 : f < 1) (w : World) :
    Calls Try.prog 10 #[.int .i64 b, .int .i64 m, .int .i64 f, .int .u64 r] w fun e w' => e = .returned (.tuple #[.int .i64 0, .int .i64 1]) ∧ w = w' := by
  go_enter Try.func10, Try.ntmps10
  go_wp2_with (first | (go_at_call 17; refine (good_t _ _ h1 h2 h3 _).mono ?_; rintro e w' ⟨rfl, rfl⟩))
  go_ret2
  exact ⟨rfl, rfl⟩
theorem Delays_t (b m : Int) (h1 : 1 ≤ b) (h2 : b ≤ m) (h3 : m ≤ 1099511627776) (w : World) :
    Calls Try.prog 11 #[.int .i64 b, .int .i64 m] w fun e w' => e = .returned (.bool true) ∧ w = w' := by
  go_enter Try.func11, Try.ntmps11
  go_wp2
  go_ret
  exact ⟨rfl, rfl⟩
theorem Delays_f (b m : Int) (h : ¬ (1 ≤ b ∧ b ≤ m ∧ m ≤ 1099511627776)) (w : World) :
    Calls Try.prog 11 #[.int .i64 b, .int .i64 m] w fun e w' => e = .returned (.bool false) ∧ w = w' := by
  by_cases h1 : 1 ≤ b
  · by_cases h2 : b ≤ m
    · have h3 : ¬ m ≤ 1099511627776 := fun h3 => h ⟨h1, h2, h3⟩
      clear h
      go_enter Try.func11, Try.ntmps11
      go_wp2
      go_ret
      exact ⟨rfl, rfl⟩
    · clear h
      go_enter Try.func11, Try.ntmps11
      go_wp2
      go_ret
      exact ⟨rfl, rfl⟩
  · clear h
    go_enter Try.func11, Try.ntmps11
    go_wp2
    go_ret
    exact ⟨rfl, rfl⟩
set_option maxHeartbeats 400000 in
theorem refDelay (b m f r : Int) (h1 : 1 ≤ b) (h2 : b ≤ m) (h3 : m ≤ 1099511627776) (f1 : -9223372036854775808 ≤ f) (f2 : f ≤ 9223372036854775807) (r1 : 0 ≤ r) (r2 : r ≤ 18446744073709551615) (w : World) :
    Calls Try.prog 12 #[.int .i64 b, .int .i64 m, .int .i64 f, .int .u64 r] w fun e w' => e = .returned (.int .i64 (dl b m f r)) ∧ w = w' := by
  go_enter Try.func12, Try.ntmps12
  go_wp2
  go_loop [9, 10] (fun d i => ∃ k : Nat, (k : Int) ≤ max (f - 1) 0 ∧ i = .int .i64 (k + 1) ∧ d = .int .i64 (it b m k)) (fun _ i => (f - intOf i).toNat)
  case atStart => exact ⟨0, by omega, rfl, rfl⟩
  case round =>
    obtain ⟨k, hk, rfl, rfl⟩ := hrel
    have a1 := it_ge b m h1 k
    have a2 := it_le b m h1 h2 k
    by_cases c1 : (k : Int) + 1 < f
    · by_cases c2 : it b m k < m
      · have HS := Lib.hid (it_more b m k c2)
        go_wp2
        go_round
        case rel => exact ⟨k + 1, by omega, by go_num, by rw [HS.out]; go_num⟩
        case measure => simp [intOf]; omega
      · have HS := Lib.hid (top_full b m f k (by omega) c2)
        go_wp2
        all_goals
          go_ret
          exact ⟨ret_int (dl_wrap b m f r _ (by rw [HS.out]; omega) (by omega) (by omega) r1), rfl⟩
    · have HS := Lib.hid (top_done b m f k (by omega))
      go_wp2
      all_goals
        go_ret
        exact ⟨ret_int (dl_wrap b m f r _ (by rw [HS.out]; omega) (by omega) (by omega) r1), rfl⟩
end Go.Proofs.Ytbhmbdmhkacfmaa
