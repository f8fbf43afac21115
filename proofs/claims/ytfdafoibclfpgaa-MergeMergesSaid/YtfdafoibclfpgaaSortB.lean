/-
  Package slices, of numbers: patterns broken: some numbers exchanged.
-/
import Derived.Test.YtfdafoibclfpgaaSortC
import Derived.Laws.BitsAllLaws
import Derived.Sort.LotD1
namespace Go.Proofs.Ytfdafoibclfpgaa
open Go.ChangeShapes Go.WideShapes Go.ChangeAt Go.RowKit Go.Deep
set_option linter.unusedVariables false
set_option linter.unusedSimpArgs false
def tab8 : List UInt8 := [0, 1] ++ List.replicate 2 2 ++ List.replicate 4 3 ++ List.replicate 8 4 ++ List.replicate 16 5 ++ List.replicate 32 6 ++ List.replicate 64 7 ++ List.replicate 128 8
def len8 (k : Nat) : Nat := (tab8.getD k 0).toNat
theorem len8_all : ((List.range 256).all fun k => decide (k < 2 ^ len8 k ∧ (1 ≤ k → 2 ^ len8 k ≤ 2 * k) ∧ len8 k ≤ 8)) = true := by decide +kernel
theorem len8_spec {k : Nat} (h : k < 256) : k < 2 ^ len8 k ∧ (1 ≤ k → 2 ^ len8 k ≤ 2 * k) ∧ len8 k ≤ 8 := of_decide_eq_true (List.all_eq_true.1 len8_all k (List.mem_range.2 h))
theorem tab8_len : tab8.length = 256 := by decide +kernel
theorem lit_get (s : ByteArray) (n : Nat) (h : n < s.size) (hs : s.data.toList = tab8) : (s[n]'h).toNat = len8 n := by
  unfold len8
  rw [← hs, List.getD_eq_getElem?_getD, List.getElem?_eq_getElem (show n < s.data.toList.length by rw [show s.data.toList.length = s.size from Array.length_toList]; exact h)]
  rfl
theorem wrap_twice (k : Nat) (h : k ≤ 100) : wrap64 (wrap64 (k : Int)) = (k : Int) := by
  rw [IntWalk.wrap64_in (k : Int) (by omega), IntWalk.wrap64_in (k : Int) (by omega)]
/-- How many bits. -/
def LenIs (n r : Nat) : Prop := n < 2 ^ r ∧ (1 ≤ n → 2 ^ r ≤ 2 * n) ∧ r ≤ 16
set_option maxRecDepth 100000 in
set_option maxHeartbeats 8000000 in
theorem Len64_gen (n : Nat) (w : World) (hn : n < 65536) : Calls Try.prog 44 #[.int .u64 (n : Int)] w fun e w' => (∃ r : Nat, e = .returned (.int .i64 (r : Int)) ∧ LenIs n r) ∧ w' = w := by
  have g1 : ¬ (4294967296 : Int) ≤ (n : Int) := by omega
  have g2 : ¬ (65536 : Int) ≤ (n : Int) := by omega
  rcases Nat.lt_or_ge n 256 with h8 | h8
  · have h0 : (0 : Int) ≤ (n : Int) ∧ (n : Int) < 256 := by omega
    have g3 : ¬ (256 : Int) ≤ (n : Int) := by omega
    obtain ⟨a1, a2, a3⟩ := len8_spec h8
    have a3I : (len8 n : Int) ≤ 8 := by omega
    obtain ⟨r, hr⟩ : ∃ r, len8 n = r := ⟨_, rfl⟩
    rw [hr] at a1 a2 a3 a3I
    have HR := Lib.hid hr
    clear hr
    go_enter Try.func44, Try.ntmps44
    go_wp2
    go_ret
    refine ⟨⟨r, congrArg Ending.returned (congrArg (Value.int .i64) (Eq.trans (congrArg (fun k : Nat => wrap64 (wrap64 (k : Int))) (lit_get _ n ?_ ?_)) ?_)), a1, a2, by omega⟩, rfl⟩
    case refine_1 => exact Nat.lt_of_lt_of_eq h8 (by kernel_rfl)
    case refine_2 => kernel_rfl
    case refine_3 => rw [HR.out]; exact wrap_twice r (by omega)
  · have g3 : (256 : Int) ≤ (n : Int) := by omega
    obtain ⟨m, hm⟩ : ∃ m, n / 256 = m := ⟨_, rfl⟩
    have hm8 : m < 256 := by omega
    obtain ⟨a1, a2, a3⟩ := len8_spec hm8
    have a3I : (len8 m : Int) ≤ 8 := by omega
    obtain ⟨r, hr⟩ : ∃ r, len8 m = r := ⟨_, rfl⟩
    rw [hr] at a1 a2 a3 a3I
    have hfin : LenIs n (8 + r) := by
      refine ⟨?_, fun _ => ?_, by omega⟩
      · rw [Nat.pow_add]; omega
      · have := a2 (by omega); rw [Nat.pow_add]; omega
    have HF := Lib.hid hfin
    have HR := Lib.hid hr
    have HM := Lib.hid hm
    clear hr hm hfin a1 a2
    go_enter Try.func44, Try.ntmps44
    go_upto_if 14 with (fail)
    go_cut [0, 2] (fun v0 v2 wz => v0 = .int .u64 (m : Int) ∧ v2 = .int .i64 8 ∧ w = wz)
    case first =>
      go_wp2
      go_meet
      exact ⟨congrArg (Value.int .u64) (by have := HM.out; omega), rfl, rfl⟩
    case rest =>
      obtain ⟨rfl, rfl, rfl⟩ := hcut
      have hm0 : (0 : Int) ≤ (m : Int) ∧ (m : Int) < 256 := by omega
      go_wp2
      go_ret
      refine ⟨⟨8 + r, congrArg Ending.returned (congrArg (Value.int .i64) (Eq.trans (congrArg (fun k : Nat => wrap64 (8 + wrap64 (k : Int))) (lit_get _ m ?_ ?_)) ?_)), HF.out⟩, rfl⟩
      case refine_1 => exact Nat.lt_of_lt_of_eq hm8 (by kernel_rfl)
      case refine_2 => kernel_rfl
      case refine_3 => rw [HR.out]; rw [IntWalk.wrap64_in (r : Int) (by omega), IntWalk.wrap64_in _ (by omega)]; omega
set_option maxRecDepth 100000 in
set_option maxHeartbeats 8000000 in
theorem Len_gen (n : Nat) (w : World) (hn : n < 65536) : Calls Try.prog 31 #[.int .u64 (n : Int)] w fun e w' => (∃ r : Nat, e = .returned (.int .i64 (r : Int)) ∧ LenIs n r) ∧ w' = w := by
  go_enter Try.func31, Try.ntmps31
  go_wp2_with fail
  refine (Len64_gen n w hn).mono ?_
  rintro e w' ⟨⟨r, rfl, h⟩, rfl⟩
  have H := Lib.hid h
  clear h
  go_wp2
  go_ret
  exact ⟨⟨r, rfl, H.out⟩, rfl⟩
set_option maxRecDepth 100000 in
set_option maxHeartbeats 32000000 in
theorem NextPow_any (n : Nat) (w : World) (hn : n < 65536) (h1 : 1 ≤ n) : Calls Try.prog 47 #[.int .i64 (n : Int)] w fun e w' => (∃ m : Nat, e = .returned (.int .u64 (m : Int)) ∧ 1 ≤ m ∧ m ≤ 2 * n) ∧ w' = w := by
  have h0 : (0 : Int) ≤ (n : Int) ∧ (n : Int) < 65536 := by omega
  go_enter Try.func47, Try.ntmps47
  go_wp2_with fail
  refine (Len_gen n w hn).mono ?_
  rintro e w' ⟨⟨r, rfl, h⟩, rfl⟩
  have hr := h.2.2
  have H := Lib.hid h
  clear h
  rcases (by omega : r = 0 ∨ r = 1 ∨ r = 2 ∨ r = 3 ∨ r = 4 ∨ r = 5 ∨ r = 6 ∨ r = 7 ∨ r = 8 ∨ r = 9 ∨ r = 10 ∨ r = 11 ∨ r = 12 ∨ r = 13 ∨ r = 14 ∨ r = 15 ∨ r = 16) with rfl | rfl | rfl | rfl | rfl | rfl | rfl | rfl | rfl | rfl | rfl | rfl | rfl | rfl | rfl | rfl | rfl
  · clear hr
    go_wp2
    go_ret
    exact ⟨⟨1, rfl, by decide, by have := H.out.2.1 h1; omega⟩, rfl⟩
  · clear hr
    go_wp2
    go_ret
    exact ⟨⟨2, rfl, by decide, by have := H.out.2.1 h1; omega⟩, rfl⟩
  · clear hr
    go_wp2
    go_ret
    exact ⟨⟨4, rfl, by decide, by have := H.out.2.1 h1; omega⟩, rfl⟩
  · clear hr
    go_wp2
    go_ret
    exact ⟨⟨8, rfl, by decide, by have := H.out.2.1 h1; omega⟩, rfl⟩
  · clear hr
    go_wp2
    go_ret
    exact ⟨⟨16, rfl, by decide, by have := H.out.2.1 h1; omega⟩, rfl⟩
  · clear hr
    go_wp2
    go_ret
    exact ⟨⟨32, rfl, by decide, by have := H.out.2.1 h1; omega⟩, rfl⟩
  · clear hr
    go_wp2
    go_ret
    exact ⟨⟨64, rfl, by decide, by have := H.out.2.1 h1; omega⟩, rfl⟩
  · clear hr
    go_wp2
    go_ret
    exact ⟨⟨128, rfl, by decide, by have := H.out.2.1 h1; omega⟩, rfl⟩
  · clear hr
    go_wp2
    go_ret
    exact ⟨⟨256, rfl, by decide, by have := H.out.2.1 h1; omega⟩, rfl⟩
  · clear hr
    go_wp2
    go_ret
    exact ⟨⟨512, rfl, by decide, by have := H.out.2.1 h1; omega⟩, rfl⟩
  · clear hr
    go_wp2
    go_ret
    exact ⟨⟨1024, rfl, by decide, by have := H.out.2.1 h1; omega⟩, rfl⟩
  · clear hr
    go_wp2
    go_ret
    exact ⟨⟨2048, rfl, by decide, by have := H.out.2.1 h1; omega⟩, rfl⟩
  · clear hr
    go_wp2
    go_ret
    exact ⟨⟨4096, rfl, by decide, by have := H.out.2.1 h1; omega⟩, rfl⟩
  · clear hr
    go_wp2
    go_ret
    exact ⟨⟨8192, rfl, by decide, by have := H.out.2.1 h1; omega⟩, rfl⟩
  · clear hr
    go_wp2
    go_ret
    exact ⟨⟨16384, rfl, by decide, by have := H.out.2.1 h1; omega⟩, rfl⟩
  · clear hr
    go_wp2
    go_ret
    exact ⟨⟨32768, rfl, by decide, by have := H.out.2.1 h1; omega⟩, rfl⟩
  · clear hr
    go_wp2
    go_ret
    exact ⟨⟨65536, rfl, by decide, by have := H.out.2.1 h1; omega⟩, rfl⟩
theorem xor_nat (a b : Nat) (ha : a < 18446744073709551616) (hb : b < 18446744073709551616) : ∃ y : Nat, y < 18446744073709551616 ∧ bits .xor .u64 (a : Int) (b : Int) = (y : Int) :=
  ⟨a ^^^ b, Nat.xor_lt_two_pow (n := 64) ha hb, u64_xor_nat a b ha hb⟩
set_option maxRecDepth 100000 in
set_option maxHeartbeats 32000000 in
theorem Next_any (s x : Nat) (w : World) (hx : x < 18446744073709551616) (hc : w.cell? ⟨s, 0, none⟩ = some (.int .u64 (x : Int))) (hz : w.frozen? ⟨s, 0, none⟩ = false) :
    Calls Try.prog 48 #[.pointer (some ⟨s, 0, none⟩)] w fun e w' => ∃ y : Nat, e = .returned (.int .u64 (y : Int)) ∧ y < 18446744073709551616 ∧ w'.cell? ⟨s, 0, none⟩ = some (.int .u64 (y : Int)) ∧ w'.frozen? ⟨s, 0, none⟩ = false ∧ Kq s w w' := by
  obtain ⟨y1, hy1, e1⟩ := xor_nat x (x * 8192 % 18446744073709551616) hx (Nat.mod_lt _ (by decide))
  have w1 : IntKind.u64.wrap ((x : Int) * 8192) = ((x * 8192 % 18446744073709551616 : Nat) : Int) := by rw [IntKind.wrap_u64]; omega
  obtain ⟨x1, hx1⟩ : ∃ z, x * 8192 % 18446744073709551616 = z := ⟨_, rfl⟩
  rw [hx1] at e1 w1
  obtain ⟨y2, hy2, e2⟩ := xor_nat y1 (y1 / 128) hy1 (by omega)
  obtain ⟨x2, hx2⟩ : ∃ z, y1 / 128 = z := ⟨_, rfl⟩
  have w2 : (y1 : Int) / 128 = (x2 : Int) := by omega
  rw [hx2] at e2
  obtain ⟨y3, hy3, e3⟩ := xor_nat y2 (y2 * 131072 % 18446744073709551616) hy2 (Nat.mod_lt _ (by decide))
  have w3 : IntKind.u64.wrap ((y2 : Int) * 131072) = ((y2 * 131072 % 18446744073709551616 : Nat) : Int) := by rw [IntKind.wrap_u64]; omega
  obtain ⟨x3, hx3⟩ : ∃ z, y2 * 131072 % 18446744073709551616 = z := ⟨_, rfl⟩
  rw [hx3] at e3 w3
  clear hx1 hx2 hx3
  have hxI : (0 : Int) ≤ (x : Int) ∧ (x : Int) < 18446744073709551616 := by omega
  have hy1I : (0 : Int) ≤ (y1 : Int) ∧ (y1 : Int) < 18446744073709551616 := by omega
  have hy2I : (0 : Int) ≤ (y2 : Int) ∧ (y2 : Int) < 18446744073709551616 := by omega
  go_enter Try.func48, Try.ntmps48
  go_upto_region 1 with fail
  go_region
  have c1 : (w.setCell ⟨s, 0, none⟩ (.int .u64 (y1 : Int))).cell? ⟨s, 0, none⟩ = some (.int .u64 (y1 : Int)) := World.cell?_setCell_same _ _ _ hc
  have z1 : (w.setCell ⟨s, 0, none⟩ (.int .u64 (y1 : Int))).frozen? ⟨s, 0, none⟩ = false := by rw [World.frozen?_setCell]; exact hz
  have k1 := (Kq.setCell s 0 w (.int .u64 (y1 : Int))).trans (Kq.drew s _)
  obtain ⟨wA, hwA⟩ : ∃ zz, (w.setCell ⟨s, 0, none⟩ (.int .u64 (y1 : Int))).drew = zz := ⟨_, rfl⟩
  have c1' : wA.cell? ⟨s, 0, none⟩ = some (.int .u64 (y1 : Int)) := by rw [← hwA]; exact c1
  have z1' : wA.frozen? ⟨s, 0, none⟩ = false := by rw [← hwA]; exact z1
  rw [hwA] at k1 ⊢
  clear hwA c1 z1 hc hz e1 w1
  go_upto_region 2 with fail
  go_region
  have c2 : (wA.setCell ⟨s, 0, none⟩ (.int .u64 (y2 : Int))).cell? ⟨s, 0, none⟩ = some (.int .u64 (y2 : Int)) := World.cell?_setCell_same _ _ _ c1'
  have z2 : (wA.setCell ⟨s, 0, none⟩ (.int .u64 (y2 : Int))).frozen? ⟨s, 0, none⟩ = false := by rw [World.frozen?_setCell]; exact z1'
  have k2 := (k1.trans (Kq.setCell s 0 wA (.int .u64 (y2 : Int)))).trans (Kq.drew s _)
  obtain ⟨wB, hwB⟩ : ∃ zz, (wA.setCell ⟨s, 0, none⟩ (.int .u64 (y2 : Int))).drew = zz := ⟨_, rfl⟩
  have c2' : wB.cell? ⟨s, 0, none⟩ = some (.int .u64 (y2 : Int)) := by rw [← hwB]; exact c2
  have z2' : wB.frozen? ⟨s, 0, none⟩ = false := by rw [← hwB]; exact z2
  rw [hwB] at k2 ⊢
  clear hwB c2 z2 c1' z1' e2 w2 k1
  go_upto_region 3 with fail
  go_region
  have c3 : (wB.setCell ⟨s, 0, none⟩ (.int .u64 (y3 : Int))).cell? ⟨s, 0, none⟩ = some (.int .u64 (y3 : Int)) := World.cell?_setCell_same _ _ _ c2'
  have z3 : (wB.setCell ⟨s, 0, none⟩ (.int .u64 (y3 : Int))).frozen? ⟨s, 0, none⟩ = false := by rw [World.frozen?_setCell]; exact z2'
  have k3 := (k2.trans (Kq.setCell s 0 wB (.int .u64 (y3 : Int)))).trans (Kq.drew s _)
  obtain ⟨wC, hwC⟩ : ∃ zz, (wB.setCell ⟨s, 0, none⟩ (.int .u64 (y3 : Int))).drew = zz := ⟨_, rfl⟩
  have c3' : wC.cell? ⟨s, 0, none⟩ = some (.int .u64 (y3 : Int)) := by rw [← hwC]; exact c3
  have z3' : wC.frozen? ⟨s, 0, none⟩ = false := by rw [← hwC]; exact z3
  rw [hwC] at k3 ⊢
  clear hwC c3 z3 c2' z2' e3 w3 k2
  have K3 := Lib.hid k3
  clear k3
  go_wp2
  go_ret
  exact ⟨y3, rfl, hy3, c3', z3', K3.out⟩
end Go.Proofs.Ytfdafoibclfpgaa
