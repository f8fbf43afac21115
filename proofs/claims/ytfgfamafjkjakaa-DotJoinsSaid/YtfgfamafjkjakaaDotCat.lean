/-
  Package slices, of numbers: Grow of nothing.
  Package slices, of numbers: Compact of nothing, and of one number twice.
  Package slices, of numbers: Concat of two rows.
-/
import Derived.Test.YtfgfamafjkjakaaDotRow
import Derived.Test.YtfgfamafjkjakaaDotIns
import Derived.Lib.AppendZeros
namespace Go.Proofs.Ytfgfamafjkjakaa
open Go.ChangeShapes Go.WideShapes Go.ChangeAt Go.RowKit Go.Deep
set_option linter.unusedVariables false
set_option linter.unusedSimpArgs false
theorem zeros_own (w : World) (n : Nat) (h0 : 0 < n) (hn : n ≤ 100000000) : OwnK (w.drew.alloc (.cells (Builtin.zeroCells (Value.int .u64 0).cells n ++ Builtin.zeroCells (Value.int .u64 0).cells (grownCap w n 0 30 - n)) 30)) w.heap.size 30 (encN .u64) (.slice (some ⟨w.heap.size, 0, none⟩) 0 (grownCap w n 0 30)) [] := by
  have hge := grownCap_ge w n 0 30
  have hm : grownCap w n 0 30 ≤ maxLen := grownCap_le_maxLen w n 0 _ (by unfold maxLen; omega)
  refine ⟨by simp [flatK], .inr ⟨w.heap.size, _, _, rfl, Nat.le_refl _, heap_alloc_new w.drew _, Nat.zero_le _, hm, ?_, by simp [flatK]⟩⟩
  have hz : (Value.int .u64 0).cells.size = 1 := rfl
  rw [Array.size_append, size_zeroCells, size_zeroCells, hz]
  show n * 1 + (grownCap w n 0 30 - n) * 1 = grownCap w n 0 30 * 1
  omega
theorem head_nil (W : World) : (Instr.slice 51 (.slice none 0 0) none (some (.int .i64 0)) none).run Try.prog W = .ok (.slice none 0 0) W := by kernel_rfl
theorem info_p64 : ∃ i, Try.prog.info? 30 = some i ∧ i.zero = some (.int .u64 0) ∧ i.size = 1 ∧ i.bytes = 8 := k_parts info_n64
set_option maxRecDepth 100000 in
set_option maxHeartbeats 8000000 in
theorem Grow_nil (n : Nat) (w : World) (hn : n ≤ 10000000) :
    Calls Try.prog 49 #[.slice none 0 0, .int .i64 (n : Int)] w fun e w' => ∃ v, e = .returned v ∧ OwnK w' w.heap.size 30 (encN .u64) v [] ∧ Below w.heap.size w w' := by
  obtain ⟨i, hi, hz, hs1, hb8⟩ := info_p64
  have hnI : (0 : Int) ≤ (n : Int) ∧ (n : Int) ≤ 10000000 := by omega
  rcases Nat.eq_zero_or_pos n with rfl | h0
  · go_enter Try.func49, Try.ntmps49
    go_wp2
    go_ret
    exact ⟨_, rfl, OwnK.nil _ _ _ _, Below.refl _ _⟩
  · have hr : (Builtin.append_ #[51, 3] 51 #[.slice none 0 0, .int .i64 (n : Int)]).run Try.prog w = _ := Lib.run_append_nil_zeros w 51 3 51 30 i (.int .u64 0) .i64 .i64 Try.underlying51 Try.underlying3 hi hz n h0 (by omega) (by omega) (by rw [hb8]; omega)
    have hown := zeros_own w n h0 (by omega)
    have hbel : Below w.heap.size w (w.drew.alloc (.cells (Builtin.zeroCells (Value.int .u64 0).cells n ++ Builtin.zeroCells (Value.int .u64 0).cells (grownCap w n 0 30 - n)) 30)) := (Below.refl _ _).drew.alloc (Nat.le_refl _) _
    have hge := grownCap_ge w n 0 30
    obtain ⟨c, hc⟩ : ∃ c, grownCap w n 0 30 = c := ⟨_, rfl⟩
    rw [hc] at hr hown hbel hge
    have s1 := head_nil
    have s2 := fun W => run_upto (some ⟨w.heap.size, 0, none⟩) n c 0 (Nat.zero_le _) 0 rfl (by omega) W
    have h0n : 0 < n := h0
    have HR := Lib.hid hr
    have HOW := Lib.hid hown
    have HBE := Lib.hid hbel
    clear hr hown hbel hi hz hs1 hb8 hge hc
    go_enter Try.func49, Try.ntmps49
    go_wp2_with (at_builtin; refine Lib.wpList_append_run _ rfl _ _ _ _ rfl _ _ rfl rfl _ _ HR.out ?_)
    go_ret
    exact ⟨_, rfl, HOW.out, HBE.out⟩
end Go.Proofs.Ytfgfamafjkjakaa
namespace Go.Proofs.Ytfgfamafjkjakaa
open Go.ChangeShapes Go.WideShapes Go.ChangeAt Go.RowKit Go.Deep
set_option linter.unusedVariables false
set_option linter.unusedSimpArgs false
set_option maxRecDepth 100000 in
set_option maxHeartbeats 8000000 in
theorem Compact_none (p : Option Addr) (c : Nat) (w : World) :
    Calls Try.prog 42 #[.slice p 0 c] w fun e w' => e = .returned (.slice p 0 c) ∧ w' = w := by
  go_enter Try.func42, Try.ntmps42
  go_wp2
  go_ret
  exact ⟨rfl, rfl⟩
set_option maxRecDepth 100000 in
set_option maxHeartbeats 8000000 in
theorem Compact_twice (v : Value) (x : Nat) (w : World) (B : Nat) (hB : B ≤ w.heap.size) (hv : OwnK w B 30 (encN .u64) v [x, x]) :
    Calls Try.prog 42 #[v] w fun e w' => ∃ v', e = .returned v' ∧ OwnK w' B 30 (encN .u64) v' [x] ∧ Below B w w' := by
  obtain ⟨g, c, rfl, hg, hgl, h1, h2, hc, hf⟩ := hv.form Nat.two_pos
  obtain ⟨cur, -, -, -, hcur, -, -, hsz, htk⟩ := own_parts (n := 2) hv Nat.two_pos
  have hc2 : 2 ≤ c := h1
  have hcI : (2 : Int) ≤ (c : Int) ∧ (c : Int) ≤ 9223372036854775807 := by unfold maxLen at h2; omega
  have k0 : w.cell? ⟨g, 0, none⟩ = some (.int .u64 (x : Int)) := hc 0 Nat.two_pos 0 _ rfl
  have k1 : w.cell? ⟨g, 1, none⟩ = some (.int .u64 (x : Int)) := hc 1 Nat.one_lt_two 0 _ rfl
  have wz : IntKind.i64.wrap 0 = 0 := by rw [IntKind.wrap_i64]; rfl
  have z1 : w.frozen? ⟨g, 1, none⟩ = false := hf 1
  have s1 : ∀ W, (Instr.slice 51 (.slice (some ⟨g, 0, none⟩) 2 c) (some (.int .i64 1)) none none).run Try.prog W = .ok (.slice (some ⟨g, 1, none⟩) 1 (c - 1)) W := fun W => run_from g 0 2 c 1 (by decide) (by omega) 1 rfl W
  have s2 : ∀ W, (Instr.slice 51 (.slice (some ⟨g, 0, none⟩) 2 c) none (some (.int .i64 1)) none).run Try.prog W = .ok (.slice (some ⟨g, 0, none⟩) 1 c) W := fun W => run_upto (some ⟨g, 0, none⟩) 2 c 1 (by omega) 1 rfl (by omega) W
  have hown : ∀ W : World, W.heap[g]? = some (.cells (cur.setIfInBounds 1 (.int .u64 0)) 30 (0, 0)) → OwnK W B 30 (encN .u64) (.slice (some ⟨g, 0, none⟩) 1 c) [x] := fun W hW => by
    refine own_of rfl hg hW (by omega) h2 (by rw [Array.size_setIfInBounds]; exact hsz) ?_
    have h0 : cur.toList.take 2 = [.int .u64 (x : Int), .int .u64 (x : Int)] := htk
    rw [Array.toList_setIfInBounds]
    have : (cur.toList.set 1 (.int .u64 0)).take 1 = (cur.toList.take 2).take 1 := by
      rw [List.take_set_of_le (by omega), List.take_take]
      rfl
    rw [this, h0]
    rfl
  have HOW := Lib.hid hown
  have HCUR := Lib.hid hcur
  have HG := Lib.hid hg
  clear hv hc hf hown hcur hsz htk h1 h2
  go_enter Try.func42, Try.ntmps42
  go_wp2_with fail
  go_loopw [3] (fun v3 wr => v3 = .int .i64 1 ∧ wr = w) (fun _ _ => 0)
  case atStart => exact ⟨rfl, rfl⟩
  case round =>
    obtain ⟨rfl, rfl⟩ := hrel
    obtain ⟨W, rfl⟩ : ∃ W, W = wr := ⟨wr, rfl⟩
    go_upto_region 6 with fail
    refine AnyL.begin (S := fun W' => TwoC ⟨g, 0, none⟩ ⟨g, 1, none⟩ (.int .u64 (x : Int)) (.int .u64 (x : Int)) W') 9 (by kernel_rfl) ⟨k0, k1⟩ (fun hHeld => ?_)
    refine AnyL.take (i := 0) (oi := _) (v := ?_) 30 rfl (by kernel_rfl) (by kernel_rfl) (by kernel_rfl) (by kernel_rfl) (by kernel_rfl) (fun _ _ _ h => h) (Or.inl ⟨by kernel_rfl, ?hy1⟩) (by assumption) ?_
    case hy1 =>
      intro w9 hSw
      try dsimp only at hSw
      try simp only [List.getElem_toArray, List.getElem_cons_zero, List.getElem_cons_succ]
      go_simp
      try with_reducible rfl
    try simp only [Act.put, List.setIfInBounds_toArray, List.set_cons_zero, List.set_cons_succ, List.getElem_toArray, List.getElem_cons_zero, List.getElem_cons_succ]
    refine AnyL.take (i := 1) (oi := _) (v := ?_) 30 rfl (by kernel_rfl) (by kernel_rfl) (by kernel_rfl) (by kernel_rfl) (by kernel_rfl) (fun _ _ _ h => h) (Or.inl ⟨by kernel_rfl, ?hy2⟩) (by assumption) ?_
    case hy2 =>
      intro w9 hSw
      try dsimp only at hSw
      try simp only [List.getElem_toArray, List.getElem_cons_zero, List.getElem_cons_succ]
      go_simp
      try with_reducible rfl
    try simp only [Act.put, List.setIfInBounds_toArray, List.set_cons_zero, List.set_cons_succ, List.getElem_toArray, List.getElem_cons_zero, List.getElem_cons_succ]
    refine AnyL.take (i := 2) (oi := _) (v := ?_) 30 rfl (by kernel_rfl) (by kernel_rfl) (by kernel_rfl) (by kernel_rfl) (by kernel_rfl) (fun _ _ _ h => h) (Or.inl ⟨by kernel_rfl, ?hy3⟩) (by assumption) ?_
    case hy3 =>
      intro w9 hSw
      try dsimp only at hSw
      try simp only [List.getElem_toArray, List.getElem_cons_zero, List.getElem_cons_succ]
      go_simp
      try with_reducible rfl
    try simp only [Act.put, List.setIfInBounds_toArray, List.set_cons_zero, List.set_cons_succ, List.getElem_toArray, List.getElem_cons_zero, List.getElem_cons_succ]
    refine AnyL.take (i := 3) (oi := _) (v := .int .u64 (x : Int)) 30 rfl (by kernel_rfl) (by kernel_rfl) (by kernel_rfl) (by kernel_rfl) (by kernel_rfl) (fun _ _ _ h => h) (Or.inl ⟨by kernel_rfl, ?hy4⟩) (by assumption) ?_
    case hy4 =>
      intro w9 hSw
      try dsimp only at hSw
      try simp only [List.getElem_toArray, List.getElem_cons_zero, List.getElem_cons_succ]
      go_simp
      obtain ⟨hx0, hx1⟩ := hSw
      try go_simp
      try with_reducible rfl
    try simp only [Act.put, List.setIfInBounds_toArray, List.set_cons_zero, List.set_cons_succ, List.getElem_toArray, List.getElem_cons_zero, List.getElem_cons_succ]
    refine AnyL.take (i := 4) (oi := _) (v := ?_) 30 rfl (by kernel_rfl) (by kernel_rfl) (by kernel_rfl) (by kernel_rfl) (by kernel_rfl) (fun _ _ _ h => h) (Or.inl ⟨by kernel_rfl, ?hy5⟩) (by assumption) ?_
    case hy5 =>
      intro w9 hSw
      try dsimp only at hSw
      try simp only [List.getElem_toArray, List.getElem_cons_zero, List.getElem_cons_succ]
      go_simp
      try with_reducible rfl
    try simp only [Act.put, List.setIfInBounds_toArray, List.set_cons_zero, List.set_cons_succ, List.getElem_toArray, List.getElem_cons_zero, List.getElem_cons_succ]
    refine AnyL.take (i := 5) (oi := _) (v := ?_) 30 rfl (by kernel_rfl) (by kernel_rfl) (by kernel_rfl) (by kernel_rfl) (by kernel_rfl) (fun _ _ _ h => h) (Or.inl ⟨by kernel_rfl, ?hy6⟩) (by assumption) ?_
    case hy6 =>
      intro w9 hSw
      try dsimp only at hSw
      try simp only [List.getElem_toArray, List.getElem_cons_zero, List.getElem_cons_succ]
      go_simp
      try with_reducible rfl
    try simp only [Act.put, List.setIfInBounds_toArray, List.set_cons_zero, List.set_cons_succ, List.getElem_toArray, List.getElem_cons_zero, List.getElem_cons_succ]
    refine AnyL.take (i := 6) (oi := _) (v := ?_) 30 rfl (by kernel_rfl) (by kernel_rfl) (by kernel_rfl) (by kernel_rfl) (by kernel_rfl) (fun _ _ _ h => h) (Or.inl ⟨by kernel_rfl, ?hy7⟩) (by assumption) ?_
    case hy7 =>
      intro w9 hSw
      try dsimp only at hSw
      try simp only [List.getElem_toArray, List.getElem_cons_zero, List.getElem_cons_succ]
      go_simp
      try with_reducible rfl
    try simp only [Act.put, List.setIfInBounds_toArray, List.set_cons_zero, List.set_cons_succ, List.getElem_toArray, List.getElem_cons_zero, List.getElem_cons_succ]
    refine AnyL.take (i := 7) (oi := _) (v := ?_) 30 rfl (by kernel_rfl) (by kernel_rfl) (by kernel_rfl) (by kernel_rfl) (by kernel_rfl) (fun _ _ _ h => h) (Or.inl ⟨by kernel_rfl, ?hy8⟩) (by assumption) ?_
    case hy8 =>
      intro w9 hSw
      try dsimp only at hSw
      try simp only [List.getElem_toArray, List.getElem_cons_zero, List.getElem_cons_succ]
      go_simp
      try with_reducible rfl
    try simp only [Act.put, List.setIfInBounds_toArray, List.set_cons_zero, List.set_cons_succ, List.getElem_toArray, List.getElem_cons_zero, List.getElem_cons_succ]
    refine AnyL.take (i := 8) (oi := _) (v := .int .u64 (x : Int)) 30 rfl (by kernel_rfl) (by kernel_rfl) (by kernel_rfl) (by kernel_rfl) (by kernel_rfl) (fun _ _ _ h => h) (Or.inl ⟨by kernel_rfl, ?hy9⟩) (by assumption) ?_
    case hy9 =>
      intro w9 hSw
      try dsimp only at hSw
      try simp only [List.getElem_toArray, List.getElem_cons_zero, List.getElem_cons_succ]
      go_simp
      obtain ⟨hx0, hx1⟩ := hSw
      try go_simp
      try with_reducible rfl
    try simp only [Act.put, List.setIfInBounds_toArray, List.set_cons_zero, List.set_cons_succ, List.getElem_toArray, List.getElem_cons_zero, List.getElem_cons_succ]
    refine AnyL.one (i := 9) (o := _) (by kernel_rfl) rfl (fun K hK => ?_)
    try simp only [List.getElem_toArray, List.getElem_cons_zero, List.getElem_cons_succ]
    go_simp
    refine hK.out _ _ (fun h => absurd rfl h) (fun _ => ?_)
    clear hK K
    try simp only [Act.put, List.setIfInBounds_toArray, List.set_cons_zero, List.set_cons_succ, List.getElem_toArray, List.getElem_cons_zero, List.getElem_cons_succ]
    refine AnyL.done (by kernel_rfl) ?_ _
    go_wp2_with fail
    have k1' : W.drew.cell? ⟨g, 1, none⟩ = some (.int .u64 (x : Int)) := k1
    have z1' : W.drew.frozen? ⟨g, 1, none⟩ = false := z1
    have hbd : Below B W W.drew := (Below.refl _ _).drew
    have hcd : W.drew.heap[g]? = some (.cells cur 30 (0, 0)) := HCUR.out
    generalize W.drew = W2 at *
    have HBD := Lib.hid hbd
    have HCD := Lib.hid hcd
    have hkk : ∀ j, j < 1 → (W2.cell? ⟨g, 1 + j, none⟩).isSome = true := fun j hj => by
      obtain rfl : j = 0 := by omega
      show (W2.cell? ⟨g, 1, none⟩).isSome = true
      rw [k1']; rfl
    have hzz : ∀ j, j < 1 → W2.frozen? ⟨g, 1 + j, none⟩ = false := fun j hj => by
      obtain rfl : j = 0 := by omega
      exact z1'
    have hclr : ∀ ty : TypeId, (Builtin.clear_ #[51] ty #[.slice (some ⟨g, 1, none⟩) 1 (c - 1)]).run Try.prog W2 = .ok (.tuple #[]) (W2.setCell ⟨g, 1, none⟩ (.int .u64 0)) := fun ty => Lib.run_clear_slice W2 51 30 ty (.int .u64 0) Try.underlying51 (fun _ => by kernel_rfl) rfl rfl g 1 1 (c - 1) Nat.one_pos hkk hzz
    clear hkk hzz
    clear k0 k1 z1 hbd hcd hHeld
    go_loopw [3, 5] (fun v3 v5 wr => v3 = .int .i64 1 ∧ v5 = .int .i64 1 ∧ wr = W2) (fun _ _ _ => 0)
    case atStart => exact ⟨rfl, rfl, rfl⟩
    case round =>
      obtain ⟨rfl, rfl, rfl⟩ := hrel
      go_wp2
      go_ret
      exact ⟨_, rfl, HOW.out _ (heap_setCell_same _ _ _ _ _ _ HCD.out), HBD.out.setCell (p := ⟨g, 1, none⟩) HG.out _⟩
end Go.Proofs.Ytfgfamafjkjakaa
namespace Go.Proofs.Ytfgfamafjkjakaa
open Go.ChangeShapes Go.WideShapes Go.ChangeAt Go.RowKit Go.Deep
set_option linter.unusedVariables false
set_option linter.unusedSimpArgs false
def sumTo (a b k : Nat) : Nat := if k = 0 then 0 else if k = 1 then a else a + b
def catTo (a b : List Nat) (k : Nat) : List Nat := if k = 0 then [] else if k = 1 then a else a ++ b
set_option maxRecDepth 100000 in
set_option maxHeartbeats 8000000 in
theorem Concat_two (g : Nat) (T : TypeId) (v1 v2 : Value) (l1 l2 : List Nat) (w : World) (hg : w.heap[g]? = some (.cells #[v1, v2] T (0, 0))) (h1 : HasK w (encN .u64) v1 l1) (h2 : HasK w (encN .u64) v2 l2) (hl1 : l1.length ≤ 100000) (hl2 : l2.length ≤ 100000) :
    Calls Try.prog 39 #[.slice (some ⟨g, 0, none⟩) 2 2] w fun e w' => ∃ v, e = .returned v ∧ OwnK w' w.heap.size 30 (encN .u64) v (l1 ++ l2) ∧ Below w.heap.size w w' := by
  obtain ⟨p1, c1, rfl, -, -⟩ := h1.form
  obtain ⟨p2, c2, rfl, -, -⟩ := h2.form
  obtain ⟨m1, hm1⟩ : ∃ m, l1.length = m := ⟨_, rfl⟩
  obtain ⟨m2, hm2⟩ : ∃ m, l2.length = m := ⟨_, rfl⟩
  have HM1 := Lib.hid hm1
  have HM2 := Lib.hid hm2
  rw [hm1] at hl1 hg h1
  rw [hm2] at hl2 hg h2
  have k0 : w.cell? ⟨g, 0, none⟩ = some (.slice p1 m1 c1) := by simp [World.cell?, hg]
  have k1 : w.cell? ⟨g, 1, none⟩ = some (.slice p2 m2 c2) := by simp [World.cell?, hg]
  have HG := Lib.hid hg
  have H1 := Lib.hid h1
  have H2 := Lib.hid h2
  clear hm1 hm2 h1 h2 hg
  have hI1 : (0 : Int) ≤ (m1 : Int) ∧ (m1 : Int) ≤ 100000 := by omega
  have hI2 : (0 : Int) ≤ (m2 : Int) ∧ (m2 : Int) ≤ 100000 := by omega
  go_enter Try.func39, Try.ntmps39
  go_wp2_with fail
  go_loopw [3, 11] (fun v3 vi wr => ∃ k : Nat, vi = .int .i64 (k : Int) ∧ k ≤ 2 ∧ v3 = .int .i64 ((sumTo m1 m2 k : Nat) : Int) ∧ wr = w) (fun _ vi _ => 2 - (intOf vi).toNat)
  case atStart => exact ⟨0, rfl, by omega, rfl, rfl⟩
  case round =>
    obtain ⟨k, rfl, hk, rfl, rfl⟩ := hrel
    rcases (by omega : k = 0 ∨ k = 1 ∨ k = 2) with rfl | rfl | rfl
    · have hs0 : sumTo m1 m2 0 = 0 := rfl
      rw [hs0]
      clear hs0
      have hn : ¬ (m1 : Int) < 0 := by omega
      go_wp2
      go_roundw
      case rel => exact ⟨1, by go_num, by omega, by show Value.int .i64 _ = .int .i64 ((m1 : Nat) : Int); go_num, trivial⟩
      case measure => simp [intOf]
    · have hs0 : sumTo m1 m2 1 = m1 := rfl
      rw [hs0]
      clear hs0
      have hn : ¬ (m1 : Int) + (m2 : Int) < 0 := by omega
      go_wp2
      go_roundw
      case rel => exact ⟨2, by go_num, by omega, by show Value.int .i64 _ = .int .i64 ((m1 + m2 : Nat) : Int); go_num, trivial⟩
      case measure => simp [intOf]
    · have hs0 : sumTo m1 m2 2 = m1 + m2 := rfl
      rw [hs0]
      clear hs0
      obtain ⟨sm, hsm⟩ : ∃ s, m1 + m2 = s := ⟨_, rfl⟩
      rw [hsm]
      go_wp2_with fail
      refine (Grow_nil sm wr (by omega)).mono ?_
      rintro e w1 ⟨vv, rfl, ho, hb⟩
      have HO := Lib.hid ho
      have HB := Lib.hid hb
      clear ho hb hsm k0 k1
      go_wp2_with fail
      obtain ⟨W, rfl⟩ : ∃ W, W = wr := ⟨wr, rfl⟩
      go_loopw [6, 27] (fun v6 vi wr => ∃ k : Nat, vi = .int .i64 (k : Int) ∧ k ≤ 2 ∧ OwnK wr W.heap.size 30 (encN .u64) v6 (catTo l1 l2 k) ∧ Below W.heap.size W wr) (fun _ vi _ => 2 - (intOf vi).toNat)
      case atStart => exact ⟨0, rfl, by omega, HO.out, HB.out⟩
      case round =>
        obtain ⟨k, rfl, hk, ho, hb⟩ := hrel
        obtain ⟨W1, rfl⟩ : ∃ W1, W1 = wr := ⟨wr, rfl⟩
        have HOK := Lib.hid ho
        have HBK := Lib.hid hb
        have hgg := (hb.block g (lt_of_block HG.out)).trans HG.out
        have k0 : W1.cell? ⟨g, 0, none⟩ = some (.slice p1 m1 c1) := by simp [World.cell?, hgg]
        have k1 : W1.cell? ⟨g, 1, none⟩ = some (.slice p2 m2 c2) := by simp [World.cell?, hgg]
        have A1 := Lib.hid (H1.out.below hb)
        have A2 := Lib.hid (H2.out.below hb)
        have hsz := hb.size
        clear ho hb hgg
        rcases (by omega : k = 0 ∨ k = 1 ∨ k = 2) with rfl | rfl | rfl
        · clear k1
          go_wp2_with (at_builtin; refine wpList_append_ka rfl (.tmp 31) (.tmp 32) 51 rfl W.heap.size 30 (encN .u64) (.int .u64 0) 8 Try.underlying51 info_n64 rfl (by decide) _ [] rfl HOK.out _ l1 rfl A1.out (by have z := HM1.out; show 0 + l1.length ≤ 1000000000; omega) hsz W HBK.out (fun v7 w7 ho7 hb7 => ?_); have HO7 := Lib.hid ho7; have HB7 := Lib.hid hb7; clear ho7 hb7)
          go_roundw
          case rel => exact ⟨1, by go_num, by omega, HO7.out, HB7.out⟩
          case measure => simp [intOf]
        · clear k0
          go_wp2_with (at_builtin; refine wpList_append_ka rfl (.tmp 31) (.tmp 32) 51 rfl W.heap.size 30 (encN .u64) (.int .u64 0) 8 Try.underlying51 info_n64 rfl (by decide) _ l1 rfl HOK.out _ l2 rfl A2.out (by have z := HM1.out; have y := HM2.out; show l1.length + l2.length ≤ 1000000000; omega) hsz W HBK.out (fun v7 w7 ho7 hb7 => ?_); have HO7 := Lib.hid ho7; have HB7 := Lib.hid hb7; clear ho7 hb7)
          go_roundw
          case rel => exact ⟨2, by go_num, by omega, HO7.out, HB7.out⟩
          case measure => simp [intOf]
        · clear k0 k1
          go_wp2
          go_ret
          exact ⟨_, rfl, HOK.out, HBK.out⟩
end Go.Proofs.Ytfgfamafjkjakaa
