/-
  Package frame and the document's own frames (rolodexref3): the four bytes of a number, and back.
-/
import Derived.Test.YtbkoejhnlmbciaaDoorCrc
import Derived.Test.YtbkoejhnlmbciaaDoorFrameMath
import Derived.Deep.QuietTactic
import Derived.BigQuiet
namespace Go.Proofs.YtbkoejhnlmbciaaDoor
open Go.ChangeShapes Go.WideShapes Go.ChangeAt Go.RowKit Go.Deep
set_option linter.unusedVariables false

theorem le4_cells (n : Nat) (hn : n < 4294967296) : (Lib.byteCells (le4 n)).toArray = #[Value.int IntKind.u8 (↑n % 256), Value.int IntKind.u8 (↑n / 256 % 256), Value.int IntKind.u8 (↑n / 65536 % 256), Value.int IntKind.u8 (↑n / 16777216)] := by
  have h0 : ((UInt8.ofNat n).toNat : Int) = (n : Int) % 256 := by rw [UInt8.toNat_ofNat']; omega
  have h1 : ((UInt8.ofNat (n / 256)).toNat : Int) = (n : Int) / 256 % 256 := by rw [UInt8.toNat_ofNat']; omega
  have h2 : ((UInt8.ofNat (n / 65536)).toNat : Int) = (n : Int) / 65536 % 256 := by rw [UInt8.toNat_ofNat']; omega
  have h3 : ((UInt8.ofNat (n / 16777216)).toNat : Int) = (n : Int) / 16777216 := by rw [UInt8.toNat_ofNat']; omega
  rw [← h0, ← h1, ← h2, ← h3]
  rfl
theorem or_add (a b k m : Nat) (hm : m = b * 2 ^ k) (ha : a < 2 ^ k) (h : m < 4294967296) (h' : a < 4294967296) : bits .or .u32 (a : Int) (m : Int) = ((a + m : Nat) : Int) := by
  subst hm
  rw [u32_or_nat _ _ h' h, Nat.or_comm, Nat.mul_comm b, ← Nat.two_pow_add_eq_or_of_lt ha b, Nat.add_comm]
theorem num_bits (x0 x1 x2 x3 : Nat) (h0 : x0 < 256) (h1 : x1 < 256) (h2 : x2 < 256) (h3 : x3 < 256) :
    bits .or .u32 (bits .or .u32 (bits .or .u32 ((x0 : Int) % 4294967296) ((x1 : Int) % 4294967296 * 256 % 4294967296)) ((x2 : Int) % 4294967296 * 65536 % 4294967296)) ((x3 : Int) % 4294967296 * 16777216 % 4294967296) = ((x0 + 256 * x1 + 65536 * x2 + 16777216 * x3 : Nat) : Int) := by
  rw [show (x0 : Int) % 4294967296 = ((x0 : Nat) : Int) by omega, show (x1 : Int) % 4294967296 * 256 % 4294967296 = ((256 * x1 : Nat) : Int) by omega,
    show (x2 : Int) % 4294967296 * 65536 % 4294967296 = ((65536 * x2 : Nat) : Int) by omega, show (x3 : Int) % 4294967296 * 16777216 % 4294967296 = ((16777216 * x3 : Nat) : Int) by omega,
    or_add _ x1 8 _ (by omega) (by omega) (by omega) (by omega), or_add _ x2 16 _ (by omega) (by omega) (by omega) (by omega), or_add _ x3 24 _ (by omega) (by omega) (by omega) (by omega)]
theorem n4_at {l : List UInt8} (h : 4 ≤ l.length) : n4 l = (l[0]'(by omega)).toNat + 256 * (l[1]'(by omega)).toNat + 65536 * (l[2]'(by omega)).toNat + 16777216 * (l[3]'(by omega)).toNat := by
  obtain ⟨a, b, c, d, r, rfl⟩ := four_of h
  rfl
set_option maxRecDepth 100000 in
set_option maxHeartbeats 2000000 in
theorem four_any (n : Nat) (hn : n < 4294967296) (w : World) :
    Calls Tryd.prog 14 #[.int .u32 (n : Int)] w fun e w' => e = .returned (.agg (Lib.byteCells (le4 n)).toArray) ∧ Below w.heap.size w w' := by
  have HC := Lib.hid (le4_cells n hn)
  go_enter Tryd.func14, Tryd.ntmps14
  go_wp2
  rw [← HC.out]
  refine bodyPost_ret (results_cell_row (p := 2) (ty := 39) rfl _ _ w.heap.size 39 (Lib.byteCells (le4 n)).toArray (0, 0) (.array 4 5) ?hp ?hg ?hu rfl ?hi) rfl ?_
  case hp => rfl
  case hg => exact heap_alloc_new _ _
  case hu => kernel_rfl
  case hi => exact (by kernel_rfl : (Tryd.prog.info? 39).map (·.size) = some 4)
  exact ⟨rfl, (Below.refl _ _).alloc (Nat.le_refl _) _⟩
set_option maxRecDepth 100000 in
set_option maxHeartbeats 2000000 in
theorem Rfour_any (n : Nat) (hn : n < 4294967296) (w : World) :
    Calls Tryd.prog 18 #[.int .u32 (n : Int)] w fun e w' => ∃ v, e = .returned v ∧ Own w' w.heap.size 5 v (le4 n) ∧ Below w.heap.size w w' := by
  have HC := Lib.hid (le4_cells n hn)
  go_enter Tryd.func18, Tryd.ntmps18
  go_wp2
  go_ret
  refine ⟨_, rfl, ⟨by rw [Lib.byteCells_length, le4_len], .inr ⟨w.heap.size, 4, _, rfl, Nat.le_refl _, heap_alloc_new _ _, by rw [le4_len]; omega, by unfold maxLen; omega, rfl, ?_⟩⟩, (Below.refl _ _).alloc (Nat.le_refl _) _⟩
  rw [← HC.out, le4_len]
  rfl
set_option maxRecDepth 100000 in
set_option maxHeartbeats 2000000 in
theorem number_any (v : Value) (l : List UInt8) (w : World) (hv : HasA w v l) (h4 : 4 ≤ l.length) :
    Calls Tryd.prog 21 #[v] w fun e w' => e = .returned (.int .u32 (n4 l : Nat)) ∧ ∃ n, w' = w.drewN n := by
  obtain ⟨b, o, cap, p, rfl, hc1, hc2, HP, HC⟩ := hv.open
  have hml : (cap : Int) ≤ 9223372036854775807 := by unfold maxLen at hc2; omega
  have H2 := Lib.hid hc2
  clear hv hc2
  have hp := (HP.out (by omega)).1
  subst hp
  have c0 := HC.out 0 (by omega)
  have c1 := HC.out 1 (by omega)
  have c2 := HC.out 2 (by omega)
  have c3 := HC.out 3 (by omega)
  rw [Nat.add_zero] at c0
  go_enter Tryd.func21, Tryd.ntmps21
  go_wp2
  go_quiet (fail)
  have HN := Lib.hid (num_bits _ _ _ _ l[0].toNat_lt l[1].toNat_lt l[2].toNat_lt l[3].toNat_lt)
  have HE := Lib.hid (n4_at h4)
  go_wp2
  go_ret
  refine ⟨?_, _, rfl⟩
  rw [HE.out, ← HN.out]
  rfl
set_option maxRecDepth 100000 in
set_option maxHeartbeats 2000000 in
theorem Rnumber_any (v : Value) (l : List UInt8) (w : World) (hv : HasA w v l) (h4 : 4 ≤ l.length) :
    Calls Tryd.prog 23 #[v] w fun e w' => e = .returned (.int .u32 (n4 l : Nat)) ∧ ∃ n, w' = w.drewN n := by
  obtain ⟨b, o, cap, p, rfl, hc1, hc2, HP, HC⟩ := hv.open
  have hml : (cap : Int) ≤ 9223372036854775807 := by unfold maxLen at hc2; omega
  have H2 := Lib.hid hc2
  clear hv hc2
  have hp := (HP.out (by omega)).1
  subst hp
  have c0 := HC.out 0 (by omega)
  have c1 := HC.out 1 (by omega)
  have c2 := HC.out 2 (by omega)
  have c3 := HC.out 3 (by omega)
  rw [Nat.add_zero] at c0
  go_enter Tryd.func23, Tryd.ntmps23
  go_wp2
  go_quiet (fail)
  have HN := Lib.hid (num_bits _ _ _ _ l[0].toNat_lt l[1].toNat_lt l[2].toNat_lt l[3].toNat_lt)
  have HE := Lib.hid (n4_at h4)
  go_wp2
  go_ret
  refine ⟨?_, _, rfl⟩
  rw [HE.out, ← HN.out]
  rfl
end Go.Proofs.YtbkoejhnlmbciaaDoor
