/-
  Package slices, of numbers: Grow of nothing.
-/
import Derived.Test.YtfgfamafjkjakabDotRow
import Derived.Test.YtfgfamafjkjakabDotIns
import Derived.Lib.AppendZeros
namespace Go.Proofs.Ytfgfamafjkjakab
open Go.ChangeShapes Go.WideShapes Go.ChangeAt Go.RowKit Go.Deep
set_option linter.unusedVariables false
set_option linter.unusedSimpArgs false
theorem zeros_own (w : World) (n : Nat) (h0 : 0 < n) (hn : n ≤ 100000000) : OwnK (w.drew.alloc (.cells (Builtin.zeroCells (Value.int .u64 0).cells n ++ Builtin.zeroCells (Value.int .u64 0).cells (grownCap w n 0 30 - n)) 30)) w.heap.size 30 (encN .u64) (.slice (some ⟨w.heap.size, 0, none⟩) 0 (grownCap w n 0 30)) [] := by
  have hge := grownCap_ge w n 0 30
  have hm : grownCap w n 0 30 ≤ maxLen := grownCap_le_maxLen w n 0 _ (by unfold maxLen; omega)
  refine ⟨by simp [flatK], .inr ⟨w.heap.size, _, _, rfl, Nat.le_refl _, heap_alloc_new w.drew _, Nat.zero_le _, hm, ?_, by simp [flatK]⟩⟩
  have hz : (Value.int .u64 0).cells.size = 1 := rfl
  rw [Array.size_append, size_zeroCells, size_zeroCells, hz]
  show n * 1 + (grownCap w n 0 30 - n) * 1 = grownCap w n 0 30 * 1
  omega
theorem head_nil (W : World) : (Instr.slice 31 (.slice none 0 0) none (some (.int .i64 0)) none).run Try.prog W = .ok (.slice none 0 0) W := by kernel_rfl
theorem info_p64 : ∃ i, Try.prog.info? 30 = some i ∧ i.zero = some (.int .u64 0) ∧ i.size = 1 ∧ i.bytes = 8 := k_parts info_n64
set_option maxRecDepth 100000 in
set_option maxHeartbeats 8000000 in
theorem Grow_nil (n : Nat) (w : World) (hn : n ≤ 10000000) :
    Calls Try.prog 37 #[.slice none 0 0, .int .i64 (n : Int)] w fun e w' => ∃ v, e = .returned v ∧ OwnK w' w.heap.size 30 (encN .u64) v [] ∧ Below w.heap.size w w' := by
  obtain ⟨i, hi, hz, hs1, hb8⟩ := info_p64
  have hnI : (0 : Int) ≤ (n : Int) ∧ (n : Int) ≤ 10000000 := by omega
  rcases Nat.eq_zero_or_pos n with rfl | h0
  · go_enter Try.func37, Try.ntmps37
    go_wp2
    go_ret
    exact ⟨_, rfl, OwnK.nil _ _ _ _, Below.refl _ _⟩
  · have hr : (Builtin.append_ #[31, 3] 31 #[.slice none 0 0, .int .i64 (n : Int)]).run Try.prog w = _ := Lib.run_append_nil_zeros w 31 3 31 30 i (.int .u64 0) .i64 .i64 Try.underlying31 Try.underlying3 hi hz n h0 (by omega) (by omega) (by rw [hb8]; omega)
    have hown := zeros_own w n h0 (by omega)
    have hbel : Below w.heap.size w (w.drew.alloc (.cells (Builtin.zeroCells (Value.int .u64 0).cells n ++ Builtin.zeroCells (Value.int .u64 0).cells (grownCap w n 0 30 - n)) 30)) := (Below.refl _ _).drew.alloc (Nat.le_refl _) _
    have hge := grownCap_ge w n 0 30
    obtain ⟨c, hc⟩ : ∃ c, grownCap w n 0 30 = c := ⟨_, rfl⟩
    rw [hc] at hr hown hbel hge
    have s1 := head_nil
    have s2 := fun W => run_upto (some ⟨w.heap.size, 0, none⟩) n c 0 (Nat.zero_le _) 0 rfl (by omega) W
    have h0n : 0 < n := h0
    have HR := Lib.hid hr
    have HOW := Lib.hid hown
    have HBE := Lib.hid hbel
    clear hr hown hbel hi hz hs1 hb8 hge hc
    go_enter Try.func37, Try.ntmps37
    go_wp2_with (at_builtin; refine Lib.wpList_append_run _ rfl _ _ _ _ rfl _ _ rfl rfl _ _ HR.out ?_)
    go_ret
    exact ⟨_, rfl, HOW.out, HBE.out⟩
end Go.Proofs.Ytfgfamafjkjakab
