/-
  Package sha: Equal, and digits read.
-/
import Derived.Test.YtjopfhmloklhdaaDoorRot
import Derived.Deep.RegionHeld
import Derived.Deep.Cut
namespace Go.Proofs.YtjopfhmloklhdaaDoor
open Go.ChangeShapes Go.WideShapes Go.ChangeAt Go.RowKit Go.Deep
set_option linter.unusedVariables false
set_option linter.unusedSimpArgs false

/-- What is unlike among the first k bytes. -/
def unl (a b : List UInt8) : Nat → Nat
  | 0 => 0
  | k + 1 => unl a b k ||| ((a.getD k 0).toNat ^^^ (b.getD k 0).toNat)
theorem unl_lt (a b : List UInt8) : ∀ k, unl a b k < 256
  | 0 => by show (0 : Nat) < 256; decide
  | k + 1 => Nat.or_lt_two_pow (n := 8) (unl_lt a b k) (Nat.xor_lt_two_pow (n := 8) (a.getD k 0).toNat_lt (b.getD k 0).toNat_lt)
theorem or_zero {x y : Nat} : x ||| y = 0 ↔ x = 0 ∧ y = 0 := by
  constructor
  · intro h
    constructor
    · apply Nat.eq_of_testBit_eq
      intro i
      have := congrArg (fun n => Nat.testBit n i) h
      simp only [Nat.testBit_or, Nat.zero_testBit, Bool.or_eq_false_iff] at this
      simpa using this.1
    · apply Nat.eq_of_testBit_eq
      intro i
      have := congrArg (fun n => Nat.testBit n i) h
      simp only [Nat.testBit_or, Nat.zero_testBit, Bool.or_eq_false_iff] at this
      simpa using this.2
  · rintro ⟨rfl, rfl⟩
    rfl
theorem xor_zero {x y : Nat} : x ^^^ y = 0 ↔ x = y := by
  constructor
  · intro h
    apply Nat.eq_of_testBit_eq
    intro i
    have := congrArg (fun n => Nat.testBit n i) h
    simp only [Nat.testBit_xor, Nat.zero_testBit] at this
    cases h1 : x.testBit i <;> cases h2 : y.testBit i <;> simp_all
  · rintro rfl
    exact Nat.xor_self _
theorem unl_zero (a b : List UInt8) : ∀ k, unl a b k = 0 ↔ ∀ j, j < k → a.getD j 0 = b.getD j 0
  | 0 => ⟨fun _ j hj => absurd hj (Nat.not_lt_zero _), fun _ => rfl⟩
  | k + 1 => by
    unfold unl
    rw [or_zero, unl_zero a b k, xor_zero]
    constructor
    · rintro ⟨h1, h2⟩ j hj
      rcases Nat.lt_or_ge j k with h | h
      · exact h1 j h
      · obtain rfl : j = k := by omega
        exact UInt8.toNat_inj.1 h2
    · intro h
      exact ⟨fun j hj => h j (by omega), by rw [h k (by omega)]⟩
theorem unl_same (a b : List UInt8) (hl : a.length = b.length) : (unl a b a.length == 0) = decide (a = b) := by
  rw [Bool.eq_iff_iff, beq_iff_eq, decide_eq_true_eq, unl_zero]
  constructor
  · intro h
    apply List.ext_getElem hl
    intro i h1 h2
    have := h i h1
    rw [List.getD_eq_getElem?_getD, List.getD_eq_getElem?_getD, List.getElem?_eq_getElem h1, List.getElem?_eq_getElem h2] at this
    exact this
  · rintro rfl j _
    rfl
set_option maxRecDepth 100000 in
set_option maxHeartbeats 4000000 in
theorem Equal_any (v u : Value) (a b : List UInt8) (w : World) (ha : HasA w v a) (hb : HasA w u b) :
    Calls Tryd.prog 16 #[v, u] w fun e w' => e = .returned (.bool (decide (a = b))) ∧ ∃ n, w' = w.drewN n := by
  obtain ⟨g1, o1, cap1, p1, rfl, k1, m1, HP1, HC1⟩ := ha.open
  obtain ⟨g2, o2, cap2, p2, rfl, k2, m2, HP2, HC2⟩ := hb.open
  have hm1 : (cap1 : Int) ≤ 9223372036854775807 := by unfold maxLen at m1; omega
  have hm2 : (cap2 : Int) ≤ 9223372036854775807 := by unfold maxLen at m2; omega
  have M1 := Lib.hid m1
  have M2 := Lib.hid m2
  clear ha hb m1 m2
  by_cases hl : a.length = b.length
  · have HL := Lib.hid hl
    have HSAME := Lib.hid (unl_same a b hl)
    obtain ⟨n, hn⟩ : ∃ n, n = a.length := ⟨_, rfl⟩
    have hn2 : n = b.length := hn.trans hl
    rw [← hn, ← hn2]
    have HN := Lib.hid hn
    have HN2 := Lib.hid hn2
    have hk1 : n ≤ cap1 := by omega
    have hk2 : n ≤ cap2 := by omega
    clear hl hn hn2 k1 k2
    go_enter Tryd.func16, Tryd.ntmps16
    go_wp2_with fail
    go_loopw [5, 14] (fun vu vi wr => ∃ (k m : Nat), vi = .int .i64 k ∧ k ≤ n ∧ vu = .int .u8 ((unl a b k : Nat) : Int) ∧ wr = w.drewN m) (fun _ vi _ => n - (intOf vi).toNat)
    case atStart => exact ⟨0, 0, rfl, Nat.zero_le _, rfl, rfl⟩
    case round =>
      obtain ⟨k, m, rfl, hk, rfl, rfl⟩ := hrel
      rcases Nat.lt_or_ge k n with hlt | hge
      · have hlt' : (k : Int) < (n : Int) := by omega
        have la : k < a.length := by rw [← HN.out]; exact hlt
        have lb : k < b.length := by rw [← HN2.out]; exact hlt
        obtain ⟨rfl, hb1⟩ := HP1.out (by omega)
        obtain ⟨rfl, hb2⟩ := HP2.out (by omega)
        have c1 : (w.drewN m).cell? ⟨g1, o1 + k, none⟩ = some (.int .u8 (a[k].toNat : Int)) := HC1.out k la
        have c2 : (w.drewN m).cell? ⟨g2, o2 + k, none⟩ = some (.int .u8 (b[k].toNat : Int)) := HC2.out k lb
        have x1 := a[k].toNat_lt
        have x2 := b[k].toNat_lt
        have hu := unl_lt a b k
        have hnx : unl a b (k + 1) = unl a b k ||| (a[k].toNat ^^^ b[k].toNat) := by
          show unl a b k ||| ((a.getD k 0).toNat ^^^ (b.getD k 0).toNat) = _
          rw [List.getD_eq_getElem?_getD, List.getD_eq_getElem?_getD, List.getElem?_eq_getElem la, List.getElem?_eq_getElem lb]
          rfl
        have HNX := Lib.hid hnx
        generalize unl a b k = uk at *
        generalize a[k].toNat = xa at *
        generalize b[k].toNat = xb at *
        have hx : xa ^^^ xb < 256 := Nat.xor_lt_two_pow (n := 8) x1 x2
        have e1 : bits .xor .u8 (xa : Int) (xb : Int) = ((xa ^^^ xb : Nat) : Int) := u8_xor_nat _ _ x1 x2
        have e2 : bits .or .u8 (uk : Int) ((xa ^^^ xb : Nat) : Int) = ((uk ||| (xa ^^^ xb) : Nat) : Int) := u8_or_nat _ _ hu hx
        clear hnx la lb
        go_upto_region 7 with fail
        refine wp_region_held_drew (S := fun w' => w'.cell? ⟨g1, o1 + k, none⟩ = some (.int .u8 (xa : Int)) ∧ w'.cell? ⟨g2, o2 + k, none⟩ = some (.int .u8 (xb : Int))) (by kernel_rfl) ⟨c1, c2⟩ (fun hHeld => ?_)
        refine wpAnyH_take (i := 0) (oi := _) (v := ?_) rfl (by kernel_rfl) (by kernel_rfl) (by kernel_rfl) (fun _ _ _ h => h) (Or.inl ⟨by rfl, ?hy1⟩) (by assumption) ?_
        case hy1 =>
          intro w9 hSw
          try dsimp only at hSw
          try simp only [List.getElem_toArray, List.getElem_cons_zero, List.getElem_cons_succ]
          go_simp
          try with_reducible rfl
        try simp only [Act.put, List.setIfInBounds_toArray, List.set_cons_zero, List.set_cons_succ, List.getElem_toArray, List.getElem_cons_zero, List.getElem_cons_succ]
        refine wpAnyH_take (i := 1) (oi := _) (v := ?_) rfl (by kernel_rfl) (by kernel_rfl) (by kernel_rfl) (fun _ _ _ h => h) (Or.inl ⟨by rfl, ?hy2⟩) (by assumption) ?_
        case hy2 =>
          intro w9 hSw
          try dsimp only at hSw
          try simp only [List.getElem_toArray, List.getElem_cons_zero, List.getElem_cons_succ]
          go_simp
          try with_reducible rfl
        try simp only [Act.put, List.setIfInBounds_toArray, List.set_cons_zero, List.set_cons_succ, List.getElem_toArray, List.getElem_cons_zero, List.getElem_cons_succ]
        refine wpAnyH_take (i := 2) (oi := _) (v := ?_) rfl (by kernel_rfl) (by kernel_rfl) (by kernel_rfl) (fun _ _ _ h => h) (Or.inl ⟨by rfl, ?hy3⟩) (by assumption) ?_
        case hy3 =>
          intro w9 hSw
          try dsimp only at hSw
          try simp only [List.getElem_toArray, List.getElem_cons_zero, List.getElem_cons_succ]
          go_simp
          try with_reducible rfl
        try simp only [Act.put, List.setIfInBounds_toArray, List.set_cons_zero, List.set_cons_succ, List.getElem_toArray, List.getElem_cons_zero, List.getElem_cons_succ]
        refine wpAnyH_take (i := 3) (oi := _) (v := ?_) rfl (by kernel_rfl) (by kernel_rfl) (by kernel_rfl) (fun _ _ _ h => h) (Or.inl ⟨by rfl, ?hy4⟩) (by assumption) ?_
        case hy4 =>
          intro w9 hSw
          try dsimp only at hSw
          try simp only [List.getElem_toArray, List.getElem_cons_zero, List.getElem_cons_succ]
          go_simp
          try with_reducible rfl
        try simp only [Act.put, List.setIfInBounds_toArray, List.set_cons_zero, List.set_cons_succ, List.getElem_toArray, List.getElem_cons_zero, List.getElem_cons_succ]
        refine wpAnyH_take (i := 4) (oi := _) (v := ?_) rfl (by kernel_rfl) (by kernel_rfl) (by kernel_rfl) (fun _ _ _ h => h) (Or.inl ⟨by rfl, ?hy5⟩) (by assumption) ?_
        case hy5 =>
          intro w9 hSw
          try dsimp only at hSw
          try simp only [List.getElem_toArray, List.getElem_cons_zero, List.getElem_cons_succ]
          go_simp
          try with_reducible rfl
        try simp only [Act.put, List.setIfInBounds_toArray, List.set_cons_zero, List.set_cons_succ, List.getElem_toArray, List.getElem_cons_zero, List.getElem_cons_succ]
        refine wpAnyH_take (i := 5) (oi := _) (v := ?_) rfl (by kernel_rfl) (by kernel_rfl) (by kernel_rfl) (fun _ _ _ h => h) (Or.inl ⟨by rfl, ?hy6⟩) (by assumption) ?_
        case hy6 =>
          intro w9 hSw
          try dsimp only at hSw
          try simp only [List.getElem_toArray, List.getElem_cons_zero, List.getElem_cons_succ]
          go_simp
          try with_reducible rfl
        try simp only [Act.put, List.setIfInBounds_toArray, List.set_cons_zero, List.set_cons_succ, List.getElem_toArray, List.getElem_cons_zero, List.getElem_cons_succ]
        refine wpAnyH_take (i := 6) (oi := _) (v := ?_) rfl (by kernel_rfl) (by kernel_rfl) (by kernel_rfl) (fun _ _ _ h => h) (Or.inl ⟨by rfl, ?hy7⟩) (by assumption) ?_
        case hy7 =>
          intro w9 hSw
          try dsimp only at hSw
          try simp only [List.getElem_toArray, List.getElem_cons_zero, List.getElem_cons_succ]
          go_simp
          try with_reducible rfl
        try simp only [Act.put, List.setIfInBounds_toArray, List.set_cons_zero, List.set_cons_succ, List.getElem_toArray, List.getElem_cons_zero, List.getElem_cons_succ]
        refine wpAnyH_take (i := 7) (oi := _) (v := ?_) rfl (by kernel_rfl) (by kernel_rfl) (by kernel_rfl) (fun _ _ _ h => h) (Or.inl ⟨by rfl, ?hy8⟩) (by assumption) ?_
        case hy8 =>
          intro w9 hSw
          try dsimp only at hSw
          try simp only [List.getElem_toArray, List.getElem_cons_zero, List.getElem_cons_succ]
          go_simp
          try with_reducible rfl
        try simp only [Act.put, List.setIfInBounds_toArray, List.set_cons_zero, List.set_cons_succ, List.getElem_toArray, List.getElem_cons_zero, List.getElem_cons_succ]
        refine wpAnyH_take (i := 8) (oi := _) (v := ?_) rfl (by kernel_rfl) (by kernel_rfl) (by kernel_rfl) (fun _ _ _ h => h) (Or.inl ⟨by rfl, ?hy9⟩) (by assumption) ?_
        case hy9 =>
          intro w9 hSw
          try dsimp only at hSw
          try simp only [List.getElem_toArray, List.getElem_cons_zero, List.getElem_cons_succ]
          go_simp
          try with_reducible rfl
        try simp only [Act.put, List.setIfInBounds_toArray, List.set_cons_zero, List.set_cons_succ, List.getElem_toArray, List.getElem_cons_zero, List.getElem_cons_succ]
        refine wpAnyH_take (i := 9) (oi := _) (v := ?_) rfl (by kernel_rfl) (by kernel_rfl) (by kernel_rfl) (fun _ _ _ h => h) (Or.inl ⟨by rfl, ?hy10⟩) (by assumption) ?_
        case hy10 =>
          intro w9 hSw
          try dsimp only at hSw
          try simp only [List.getElem_toArray, List.getElem_cons_zero, List.getElem_cons_succ]
          go_simp
          try with_reducible rfl
        try simp only [Act.put, List.setIfInBounds_toArray, List.set_cons_zero, List.set_cons_succ, List.getElem_toArray, List.getElem_cons_zero, List.getElem_cons_succ]
        refine wpAnyH_take (i := 10) (oi := _) (v := ?_) rfl (by kernel_rfl) (by kernel_rfl) (by kernel_rfl) (fun _ _ _ h => h) (Or.inl ⟨by rfl, ?hy11⟩) (by assumption) ?_
        case hy11 =>
          intro w9 hSw
          try dsimp only at hSw
          try simp only [List.getElem_toArray, List.getElem_cons_zero, List.getElem_cons_succ]
          go_simp
          try with_reducible rfl
        try simp only [Act.put, List.setIfInBounds_toArray, List.set_cons_zero, List.set_cons_succ, List.getElem_toArray, List.getElem_cons_zero, List.getElem_cons_succ]
        refine wpAnyH_take (i := 11) (oi := _) (v := ?_) rfl (by kernel_rfl) (by kernel_rfl) (by kernel_rfl) (fun _ _ _ h => h) (Or.inl ⟨by rfl, ?hy12⟩) (by assumption) ?_
        case hy12 =>
          intro w9 hSw
          try dsimp only at hSw
          try simp only [List.getElem_toArray, List.getElem_cons_zero, List.getElem_cons_succ]
          go_simp
          try with_reducible rfl
        try simp only [Act.put, List.setIfInBounds_toArray, List.set_cons_zero, List.set_cons_succ, List.getElem_toArray, List.getElem_cons_zero, List.getElem_cons_succ]
        refine wpAnyH_done (by kernel_rfl) ?_ _
        go_wp2
        go_roundw
        case rel => exact ⟨k + 1, m + 1, by go_num, hlt, by rw [HNX.out], rfl⟩
        case measure => simp [intOf]; omega
      · obtain rfl : k = n := by omega
        have hge' : ¬ (k : Int) < (k : Int) := by omega
        have hs := HSAME.out
        rw [← HN.out] at hs
        have hu := unl_lt a b k
        have HS := Lib.hid hs
        generalize unl a b k = uk at *
        clear hs
        go_wp2
        go_ret
        refine ⟨?_, m, rfl⟩
        rw [← HS.out]
        have e : ((uk : Int) == 0) = (uk == 0) := by
          rw [Bool.eq_iff_iff, beq_iff_eq, beq_iff_eq]
          omega
        exact congrArg (fun b => Ending.returned (.bool b)) e
  · have hd : decide (a = b) = false := by rw [decide_eq_false_iff_not]; rintro rfl; exact hl rfl
    obtain ⟨n1, hn1⟩ : ∃ n, n = a.length := ⟨_, rfl⟩
    obtain ⟨n2, hn2⟩ : ∃ n, n = b.length := ⟨_, rfl⟩
    rw [hd, ← hn1, ← hn2]
    have hne : ¬ n1 = n2 := by omega
    have hne' : ¬ (n1 : Int) = (n2 : Int) := by omega
    clear hl hd hn1 hn2 k1 k2
    go_enter Tryd.func16, Tryd.ntmps16
    go_wp2
    go_ret
    exact ⟨rfl, 0, rfl⟩
end Go.Proofs.YtjopfhmloklhdaaDoor
