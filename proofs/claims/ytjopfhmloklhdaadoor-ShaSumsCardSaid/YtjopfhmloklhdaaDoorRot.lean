/-
  A number turned (math/bits.RotateLeft32, by fewer than none).
-/
import Derived.Test.YtjopfhmloklhdaaDoorShaMath
import Derived.Test.YtjopfhmloklhdaaDoorHasA
import Derived.Laws.BitsAllLaws
import Derived.LoopTactic
namespace Go.Proofs.YtjopfhmloklhdaaDoor
open Go.ChangeShapes Go.WideShapes Go.ChangeAt Go.RowKit Go.Deep
set_option linter.unusedVariables false
set_option linter.unusedSimpArgs false
theorem ret_u32 {a b : Int} (h : a = b) : Ending.returned (.int .u32 a) = .returned (.int .u32 b) := by rw [h]
theorem rot_bits (x r : Nat) (hx : x < 4294967296) (hr : r ≤ 32) (a b : Int) (ha : a = ((x * 2 ^ (32 - r) % 4294967296 : Nat) : Int)) (hb : b = ((x / 2 ^ r : Nat) : Int)) : bits .or .u32 a b = ((rotr x r : Nat) : Int) := by
  subst ha; subst hb
  rw [u32_or_nat _ _ (Nat.mod_lt _ (by omega)) (Nat.lt_of_le_of_lt (Nat.div_le_self _ _) hx), rotr_or x r hx hr]
set_option maxRecDepth 100000 in
set_option maxHeartbeats 2000000 in
theorem rot_7 (x : Nat) (hx : x < 4294967296) (w : World) :
    Calls Tryd.prog 35 #[.int .u32 (x : Int), .int .i64 (-7)] w fun e w' => e = .returned (.int .u32 (rotr x 7 : Nat)) ∧ w' = w := by
  have hk : bits .and .u64 (IntKind.u64.wrap (-7)) 31 = 25 := by decide
  go_enter Tryd.func35, Tryd.ntmps35
  go_wp2
  go_ret
  exact ⟨ret_u32 (rot_bits x 7 hx (by omega) _ _ (by omega) (by omega)), rfl⟩
set_option maxRecDepth 100000 in
set_option maxHeartbeats 2000000 in
theorem rot_18 (x : Nat) (hx : x < 4294967296) (w : World) :
    Calls Tryd.prog 35 #[.int .u32 (x : Int), .int .i64 (-18)] w fun e w' => e = .returned (.int .u32 (rotr x 18 : Nat)) ∧ w' = w := by
  have hk : bits .and .u64 (IntKind.u64.wrap (-18)) 31 = 14 := by decide
  go_enter Tryd.func35, Tryd.ntmps35
  go_wp2
  go_ret
  exact ⟨ret_u32 (rot_bits x 18 hx (by omega) _ _ (by omega) (by omega)), rfl⟩
set_option maxRecDepth 100000 in
set_option maxHeartbeats 2000000 in
theorem rot_17 (x : Nat) (hx : x < 4294967296) (w : World) :
    Calls Tryd.prog 35 #[.int .u32 (x : Int), .int .i64 (-17)] w fun e w' => e = .returned (.int .u32 (rotr x 17 : Nat)) ∧ w' = w := by
  have hk : bits .and .u64 (IntKind.u64.wrap (-17)) 31 = 15 := by decide
  go_enter Tryd.func35, Tryd.ntmps35
  go_wp2
  go_ret
  exact ⟨ret_u32 (rot_bits x 17 hx (by omega) _ _ (by omega) (by omega)), rfl⟩
set_option maxRecDepth 100000 in
set_option maxHeartbeats 2000000 in
theorem rot_19 (x : Nat) (hx : x < 4294967296) (w : World) :
    Calls Tryd.prog 35 #[.int .u32 (x : Int), .int .i64 (-19)] w fun e w' => e = .returned (.int .u32 (rotr x 19 : Nat)) ∧ w' = w := by
  have hk : bits .and .u64 (IntKind.u64.wrap (-19)) 31 = 13 := by decide
  go_enter Tryd.func35, Tryd.ntmps35
  go_wp2
  go_ret
  exact ⟨ret_u32 (rot_bits x 19 hx (by omega) _ _ (by omega) (by omega)), rfl⟩
set_option maxRecDepth 100000 in
set_option maxHeartbeats 2000000 in
theorem rot_6 (x : Nat) (hx : x < 4294967296) (w : World) :
    Calls Tryd.prog 35 #[.int .u32 (x : Int), .int .i64 (-6)] w fun e w' => e = .returned (.int .u32 (rotr x 6 : Nat)) ∧ w' = w := by
  have hk : bits .and .u64 (IntKind.u64.wrap (-6)) 31 = 26 := by decide
  go_enter Tryd.func35, Tryd.ntmps35
  go_wp2
  go_ret
  exact ⟨ret_u32 (rot_bits x 6 hx (by omega) _ _ (by omega) (by omega)), rfl⟩
set_option maxRecDepth 100000 in
set_option maxHeartbeats 2000000 in
theorem rot_11 (x : Nat) (hx : x < 4294967296) (w : World) :
    Calls Tryd.prog 35 #[.int .u32 (x : Int), .int .i64 (-11)] w fun e w' => e = .returned (.int .u32 (rotr x 11 : Nat)) ∧ w' = w := by
  have hk : bits .and .u64 (IntKind.u64.wrap (-11)) 31 = 21 := by decide
  go_enter Tryd.func35, Tryd.ntmps35
  go_wp2
  go_ret
  exact ⟨ret_u32 (rot_bits x 11 hx (by omega) _ _ (by omega) (by omega)), rfl⟩
set_option maxRecDepth 100000 in
set_option maxHeartbeats 2000000 in
theorem rot_25 (x : Nat) (hx : x < 4294967296) (w : World) :
    Calls Tryd.prog 35 #[.int .u32 (x : Int), .int .i64 (-25)] w fun e w' => e = .returned (.int .u32 (rotr x 25 : Nat)) ∧ w' = w := by
  have hk : bits .and .u64 (IntKind.u64.wrap (-25)) 31 = 7 := by decide
  go_enter Tryd.func35, Tryd.ntmps35
  go_wp2
  go_ret
  exact ⟨ret_u32 (rot_bits x 25 hx (by omega) _ _ (by omega) (by omega)), rfl⟩
set_option maxRecDepth 100000 in
set_option maxHeartbeats 2000000 in
theorem rot_2 (x : Nat) (hx : x < 4294967296) (w : World) :
    Calls Tryd.prog 35 #[.int .u32 (x : Int), .int .i64 (-2)] w fun e w' => e = .returned (.int .u32 (rotr x 2 : Nat)) ∧ w' = w := by
  have hk : bits .and .u64 (IntKind.u64.wrap (-2)) 31 = 30 := by decide
  go_enter Tryd.func35, Tryd.ntmps35
  go_wp2
  go_ret
  exact ⟨ret_u32 (rot_bits x 2 hx (by omega) _ _ (by omega) (by omega)), rfl⟩
set_option maxRecDepth 100000 in
set_option maxHeartbeats 2000000 in
theorem rot_13 (x : Nat) (hx : x < 4294967296) (w : World) :
    Calls Tryd.prog 35 #[.int .u32 (x : Int), .int .i64 (-13)] w fun e w' => e = .returned (.int .u32 (rotr x 13 : Nat)) ∧ w' = w := by
  have hk : bits .and .u64 (IntKind.u64.wrap (-13)) 31 = 19 := by decide
  go_enter Tryd.func35, Tryd.ntmps35
  go_wp2
  go_ret
  exact ⟨ret_u32 (rot_bits x 13 hx (by omega) _ _ (by omega) (by omega)), rfl⟩
set_option maxRecDepth 100000 in
set_option maxHeartbeats 2000000 in
theorem rot_22 (x : Nat) (hx : x < 4294967296) (w : World) :
    Calls Tryd.prog 35 #[.int .u32 (x : Int), .int .i64 (-22)] w fun e w' => e = .returned (.int .u32 (rotr x 22 : Nat)) ∧ w' = w := by
  have hk : bits .and .u64 (IntKind.u64.wrap (-22)) 31 = 10 := by decide
  go_enter Tryd.func35, Tryd.ntmps35
  go_wp2
  go_ret
  exact ⟨ret_u32 (rot_bits x 22 hx (by omega) _ _ (by omega) (by omega)), rfl⟩
end Go.Proofs.YtjopfhmloklhdaaDoor
