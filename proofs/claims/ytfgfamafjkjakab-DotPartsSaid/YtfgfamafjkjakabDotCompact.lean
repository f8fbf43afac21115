/-
  Package slices, of numbers: Compact of nothing, and of one number twice.
-/
import Derived.Test.YtfgfamafjkjakabDotGrow
namespace Go.Proofs.Ytfgfamafjkjakab
open Go.ChangeShapes Go.WideShapes Go.ChangeAt Go.RowKit Go.Deep
set_option linter.unusedVariables false
set_option linter.unusedSimpArgs false
set_option maxRecDepth 100000 in
set_option maxHeartbeats 8000000 in
theorem Compact_none (p : Option Addr) (c : Nat) (w : World) :
    Calls Try.prog 29 #[.slice p 0 c] w fun e w' => e = .returned (.slice p 0 c) ∧ w' = w := by
  go_enter Try.func29, Try.ntmps29
  go_wp2
  go_ret
  exact ⟨rfl, rfl⟩
set_option maxRecDepth 100000 in
set_option maxHeartbeats 8000000 in
theorem Compact_twice (v : Value) (x : Nat) (w : World) (B : Nat) (hB : B ≤ w.heap.size) (hv : OwnK w B 30 (encN .u64) v [x, x]) :
    Calls Try.prog 29 #[v] w fun e w' => ∃ v', e = .returned v' ∧ OwnK w' B 30 (encN .u64) v' [x] ∧ Below B w w' := by
  obtain ⟨g, c, rfl, hg, hgl, h1, h2, hc, hf⟩ := hv.form Nat.two_pos
  obtain ⟨cur, -, -, -, hcur, -, -, hsz, htk⟩ := own_parts (n := 2) hv Nat.two_pos
  have hc2 : 2 ≤ c := h1
  have hcI : (2 : Int) ≤ (c : Int) ∧ (c : Int) ≤ 9223372036854775807 := by unfold maxLen at h2; omega
  have k0 : w.cell? ⟨g, 0, none⟩ = some (.int .u64 (x : Int)) := hc 0 Nat.two_pos 0 _ rfl
  have k1 : w.cell? ⟨g, 1, none⟩ = some (.int .u64 (x : Int)) := hc 1 Nat.one_lt_two 0 _ rfl
  have wz : IntKind.i64.wrap 0 = 0 := by rw [IntKind.wrap_i64]; rfl
  have z1 : w.frozen? ⟨g, 1, none⟩ = false := hf 1
  have s1 : ∀ W, (Instr.slice 31 (.slice (some ⟨g, 0, none⟩) 2 c) (some (.int .i64 1)) none none).run Try.prog W = .ok (.slice (some ⟨g, 1, none⟩) 1 (c - 1)) W := fun W => run_from g 0 2 c 1 (by decide) (by omega) 1 rfl W
  have s2 : ∀ W, (Instr.slice 31 (.slice (some ⟨g, 0, none⟩) 2 c) none (some (.int .i64 1)) none).run Try.prog W = .ok (.slice (some ⟨g, 0, none⟩) 1 c) W := fun W => run_upto (some ⟨g, 0, none⟩) 2 c 1 (by omega) 1 rfl (by omega) W
  have hown : ∀ W : World, W.heap[g]? = some (.cells (cur.setIfInBounds 1 (.int .u64 0)) 30 (0, 0)) → OwnK W B 30 (encN .u64) (.slice (some ⟨g, 0, none⟩) 1 c) [x] := fun W hW => by
    refine own_of rfl hg hW (by omega) h2 (by rw [Array.size_setIfInBounds]; exact hsz) ?_
    have h0 : cur.toList.take 2 = [.int .u64 (x : Int), .int .u64 (x : Int)] := htk
    rw [Array.toList_setIfInBounds]
    have : (cur.toList.set 1 (.int .u64 0)).take 1 = (cur.toList.take 2).take 1 := by
      rw [List.take_set_of_le (by omega), List.take_take]
      rfl
    rw [this, h0]
    rfl
  have HOW := Lib.hid hown
  have HCUR := Lib.hid hcur
  have HG := Lib.hid hg
  clear hv hc hf hown hcur hsz htk h1 h2
  go_enter Try.func29, Try.ntmps29
  go_wp2_with fail
  go_loopw [3] (fun v3 wr => v3 = .int .i64 1 ∧ wr = w) (fun _ _ => 0)
  case atStart => exact ⟨rfl, rfl⟩
  case round =>
    obtain ⟨rfl, rfl⟩ := hrel
    obtain ⟨W, rfl⟩ : ∃ W, W = wr := ⟨wr, rfl⟩
    go_upto_region 6 with fail
    refine AnyL.begin (S := fun W' => TwoC ⟨g, 0, none⟩ ⟨g, 1, none⟩ (.int .u64 (x : Int)) (.int .u64 (x : Int)) W') 9 (by kernel_rfl) ⟨k0, k1⟩ (fun hHeld => ?_)
    refine AnyL.take (i := 0) (oi := _) (v := ?_) 30 rfl (by kernel_rfl) (by kernel_rfl) (by kernel_rfl) (by kernel_rfl) (by kernel_rfl) (fun _ _ _ h => h) (Or.inl ⟨by kernel_rfl, ?hy1⟩) (by assumption) ?_
    case hy1 =>
      intro w9 hSw
      try dsimp only at hSw
      try simp only [List.getElem_toArray, List.getElem_cons_zero, List.getElem_cons_succ]
      go_simp
      try with_reducible rfl
    try simp only [Act.put, List.setIfInBounds_toArray, List.set_cons_zero, List.set_cons_succ, List.getElem_toArray, List.getElem_cons_zero, List.getElem_cons_succ]
    refine AnyL.take (i := 1) (oi := _) (v := ?_) 30 rfl (by kernel_rfl) (by kernel_rfl) (by kernel_rfl) (by kernel_rfl) (by kernel_rfl) (fun _ _ _ h => h) (Or.inl ⟨by kernel_rfl, ?hy2⟩) (by assumption) ?_
    case hy2 =>
      intro w9 hSw
      try dsimp only at hSw
      try simp only [List.getElem_toArray, List.getElem_cons_zero, List.getElem_cons_succ]
      go_simp
      try with_reducible rfl
    try simp only [Act.put, List.setIfInBounds_toArray, List.set_cons_zero, List.set_cons_succ, List.getElem_toArray, List.getElem_cons_zero, List.getElem_cons_succ]
    refine AnyL.take (i := 2) (oi := _) (v := ?_) 30 rfl (by kernel_rfl) (by kernel_rfl) (by kernel_rfl) (by kernel_rfl) (by kernel_rfl) (fun _ _ _ h => h) (Or.inl ⟨by kernel_rfl, ?hy3⟩) (by assumption) ?_
    case hy3 =>
      intro w9 hSw
      try dsimp only at hSw
      try simp only [List.getElem_toArray, List.getElem_cons_zero, List.getElem_cons_succ]
      go_simp
      try with_reducible rfl
    try simp only [Act.put, List.setIfInBounds_toArray, List.set_cons_zero, List.set_cons_succ, List.getElem_toArray, List.getElem_cons_zero, List.getElem_cons_succ]
    refine AnyL.take (i := 3) (oi := _) (v := .int .u64 (x : Int)) 30 rfl (by kernel_rfl) (by kernel_rfl) (by kernel_rfl) (by kernel_rfl) (by kernel_rfl) (fun _ _ _ h => h) (Or.inl ⟨by kernel_rfl, ?hy4⟩) (by assumption) ?_
    case hy4 =>
      intro w9 hSw
      try dsimp only at hSw
      try simp only [List.getElem_toArray, List.getElem_cons_zero, List.getElem_cons_succ]
      go_simp
      obtain ⟨hx0, hx1⟩ := hSw
      try go_simp
      try with_reducible rfl
    try simp only [Act.put, List.setIfInBounds_toArray, List.set_cons_zero, List.set_cons_succ, List.getElem_toArray, List.getElem_cons_zero, List.getElem_cons_succ]
    refine AnyL.take (i := 4) (oi := _) (v := ?_) 30 rfl (by kernel_rfl) (by kernel_rfl) (by kernel_rfl) (by kernel_rfl) (by kernel_rfl) (fun _ _ _ h => h) (Or.inl ⟨by kernel_rfl, ?hy5⟩) (by assumption) ?_
    case hy5 =>
      intro w9 hSw
      try dsimp only at hSw
      try simp only [List.getElem_toArray, List.getElem_cons_zero, List.getElem_cons_succ]
      go_simp
      try with_reducible rfl
    try simp only [Act.put, List.setIfInBounds_toArray, List.set_cons_zero, List.set_cons_succ, List.getElem_toArray, List.getElem_cons_zero, List.getElem_cons_succ]
    refine AnyL.take (i := 5) (oi := _) (v := ?_) 30 rfl (by kernel_rfl) (by kernel_rfl) (by kernel_rfl) (by kernel_rfl) (by kernel_rfl) (fun _ _ _ h => h) (Or.inl ⟨by kernel_rfl, ?hy6⟩) (by assumption) ?_
    case hy6 =>
      intro w9 hSw
      try dsimp only at hSw
      try simp only [List.getElem_toArray, List.getElem_cons_zero, List.getElem_cons_succ]
      go_simp
      try with_reducible rfl
    try simp only [Act.put, List.setIfInBounds_toArray, List.set_cons_zero, List.set_cons_succ, List.getElem_toArray, List.getElem_cons_zero, List.getElem_cons_succ]
    refine AnyL.take (i := 6) (oi := _) (v := ?_) 30 rfl (by kernel_rfl) (by kernel_rfl) (by kernel_rfl) (by kernel_rfl) (by kernel_rfl) (fun _ _ _ h => h) (Or.inl ⟨by kernel_rfl, ?hy7⟩) (by assumption) ?_
    case hy7 =>
      intro w9 hSw
      try dsimp only at hSw
      try simp only [List.getElem_toArray, List.getElem_cons_zero, List.getElem_cons_succ]
      go_simp
      try with_reducible rfl
    try simp only [Act.put, List.setIfInBounds_toArray, List.set_cons_zero, List.set_cons_succ, List.getElem_toArray, List.getElem_cons_zero, List.getElem_cons_succ]
    refine AnyL.take (i := 7) (oi := _) (v := ?_) 30 rfl (by kernel_rfl) (by kernel_rfl) (by kernel_rfl) (by kernel_rfl) (by kernel_rfl) (fun _ _ _ h => h) (Or.inl ⟨by kernel_rfl, ?hy8⟩) (by assumption) ?_
    case hy8 =>
      intro w9 hSw
      try dsimp only at hSw
      try simp only [List.getElem_toArray, List.getElem_cons_zero, List.getElem_cons_succ]
      go_simp
      try with_reducible rfl
    try simp only [Act.put, List.setIfInBounds_toArray, List.set_cons_zero, List.set_cons_succ, List.getElem_toArray, List.getElem_cons_zero, List.getElem_cons_succ]
    refine AnyL.take (i := 8) (oi := _) (v := .int .u64 (x : Int)) 30 rfl (by kernel_rfl) (by kernel_rfl) (by kernel_rfl) (by kernel_rfl) (by kernel_rfl) (fun _ _ _ h => h) (Or.inl ⟨by kernel_rfl, ?hy9⟩) (by assumption) ?_
    case hy9 =>
      intro w9 hSw
      try dsimp only at hSw
      try simp only [List.getElem_toArray, List.getElem_cons_zero, List.getElem_cons_succ]
      go_simp
      obtain ⟨hx0, hx1⟩ := hSw
      try go_simp
      try with_reducible rfl
    try simp only [Act.put, List.setIfInBounds_toArray, List.set_cons_zero, List.set_cons_succ, List.getElem_toArray, List.getElem_cons_zero, List.getElem_cons_succ]
    refine AnyL.one (i := 9) (o := _) (by kernel_rfl) rfl (fun K hK => ?_)
    try simp only [List.getElem_toArray, List.getElem_cons_zero, List.getElem_cons_succ]
    go_simp
    refine hK.out _ _ (fun h => absurd rfl h) (fun _ => ?_)
    clear hK K
    try simp only [Act.put, List.setIfInBounds_toArray, List.set_cons_zero, List.set_cons_succ, List.getElem_toArray, List.getElem_cons_zero, List.getElem_cons_succ]
    refine AnyL.done (by kernel_rfl) ?_ _
    go_wp2_with fail
    have k1' : W.drew.cell? ⟨g, 1, none⟩ = some (.int .u64 (x : Int)) := k1
    have z1' : W.drew.frozen? ⟨g, 1, none⟩ = false := z1
    have hbd : Below B W W.drew := (Below.refl _ _).drew
    have hcd : W.drew.heap[g]? = some (.cells cur 30 (0, 0)) := HCUR.out
    generalize W.drew = W2 at *
    have HBD := Lib.hid hbd
    have HCD := Lib.hid hcd
    have hkk : ∀ j, j < 1 → (W2.cell? ⟨g, 1 + j, none⟩).isSome = true := fun j hj => by
      obtain rfl : j = 0 := by omega
      show (W2.cell? ⟨g, 1, none⟩).isSome = true
      rw [k1']; rfl
    have hzz : ∀ j, j < 1 → W2.frozen? ⟨g, 1 + j, none⟩ = false := fun j hj => by
      obtain rfl : j = 0 := by omega
      exact z1'
    have hclr : ∀ ty : TypeId, (Builtin.clear_ #[31] ty #[.slice (some ⟨g, 1, none⟩) 1 (c - 1)]).run Try.prog W2 = .ok (.tuple #[]) (W2.setCell ⟨g, 1, none⟩ (.int .u64 0)) := fun ty => Lib.run_clear_slice W2 31 30 ty (.int .u64 0) Try.underlying31 (fun _ => by kernel_rfl) rfl rfl g 1 1 (c - 1) Nat.one_pos hkk hzz
    clear hkk hzz
    clear k0 k1 z1 hbd hcd hHeld
    go_loopw [3, 5] (fun v3 v5 wr => v3 = .int .i64 1 ∧ v5 = .int .i64 1 ∧ wr = W2) (fun _ _ _ => 0)
    case atStart => exact ⟨rfl, rfl, rfl⟩
    case round =>
      obtain ⟨rfl, rfl, rfl⟩ := hrel
      go_wp2
      go_ret
      exact ⟨_, rfl, HOW.out _ (heap_setCell_same _ _ _ _ _ _ HCD.out), HBD.out.setCell (p := ⟨g, 1, none⟩) HG.out _⟩
end Go.Proofs.Ytfgfamafjkjakab
