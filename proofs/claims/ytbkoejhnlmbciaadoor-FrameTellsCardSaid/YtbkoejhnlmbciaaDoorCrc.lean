/-
  Package crc and the document's own sums (rolodexref1): what More and Sum answer. The package's table of sixteen numbers is read where it lies.
-/
import Derived.Test.YtbkoejhnlmbciaaDoorRows
import Derived.Test.YtbkoejhnlmbciaaDoorHasA
import Derived.Test.YtbkoejhnlmbciaaDoorCrcMath
import Derived.Lib.LaidTab
import Derived.Laws.BitsAllLaws
import Derived.LoopTactic
namespace Go.Proofs.YtbkoejhnlmbciaaDoor
open Go.ChangeShapes Go.WideShapes Go.ChangeAt Go.RowKit Go.Deep
set_option linter.unusedVariables false

/-- The table lies as it was laid. -/
def Nib (w : World) : Prop := Lib.TabIs Tryd.prog w "rolodex/crc.nibbles" .u32 (cTab.map fun (n : Nat) => (n : Int))
theorem gN : Tryd.prog.globalNamed "rolodex/crc.nibbles" = some 0 := by kernel_rfl
theorem Nib.at {w : World} (h : Nib w) (i : Nat) (hi : i < 16) : w.cell? ⟨0, i, none⟩ = some (.int .u32 ((cTab.getD i 0 : Nat) : Int)) := by
  have hi' : i < cTab.length := hi
  have h1 := Lib.TabIs.cell h gN i (by rw [List.length_map]; exact hi')
  rw [h1]
  simp [List.getD, hi']
theorem flip (s : Nat) (h : s < 4294967296) : 4294967295 ^^^ s = 4294967295 - s := by
  apply Nat.eq_of_testBit_eq
  intro i
  have h1 := Nat.testBit_two_pow_sub_succ (x := s) (n := 32) h i
  have h2 := Nat.testBit_two_pow_sub_one 32 i
  rw [show (2 ^ 32 - (s + 1) : Nat) = 4294967295 - s by omega] at h1
  rw [show (2 ^ 32 - 1 : Nat) = 4294967295 by rfl] at h2
  rw [Nat.testBit_xor, h1, h2]
  by_cases hi : i < 32
  · simp [hi]
  · have : s.testBit i = false := Nat.testBit_lt_two_pow (Nat.lt_of_lt_of_le h (Nat.pow_le_pow_right (n := 2) (i := 32) (j := i) (by omega) (by omega)))
    simp [hi, this]
theorem flip_bits (s : Nat) (h : s < 4294967296) : bits .xor .u32 IntKind.u32.max (s : Int) = ((4294967295 - s : Nat) : Int) := by
  have e : IntKind.u32.max = ((4294967295 : Nat) : Int) := by decide
  rw [e, u32_xor_nat _ _ (by omega) h, flip s h]
theorem flip_bits' (s : Nat) (h : s < 4294967296) : bits .xor .u32 (s : Int) 4294967295 = ((4294967295 - s : Nat) : Int) := by
  rw [show (4294967295 : Int) = ((4294967295 : Nat) : Int) from rfl, u32_xor_nat _ _ h (by omega), Nat.xor_comm, flip s h]
theorem nib_step (c : Nat) (hc : c < 4294967296) : ∃ i y d : Nat, i < 16 ∧ cTab.getD i 0 = y ∧ bits .and .u32 (c : Int) 15 = (i : Int) ∧ bits .xor .u32 ((c : Int) / 16) (y : Int) = (d : Int) ∧ d = cLs 4 c := by
  have hi : c % 16 < 16 := Nat.mod_lt _ (by omega)
  have hy : cTab.getD (c % 16) 0 < 4294967296 := by rw [tab_ok _ hi]; exact cLs_lt 4 (by omega)
  refine ⟨c % 16, _, _, hi, rfl, ?_, ?_, rfl⟩
  · rw [show (15 : Int) = ((15 : Nat) : Int) from rfl, u32_and_nat _ _ hc (by omega)]
    exact congrArg _ (Nat.and_two_pow_sub_one_eq_mod c 4)
  · rw [show (c : Int) / 16 = ((c / 16 : Nat) : Int) by omega, u32_xor_nat _ _ (by omega) hy, cNib]

set_option maxRecDepth 100000 in
set_option maxHeartbeats 2000000 in
theorem More_any (s : Nat) (hs : s < 4294967296) (v : Value) (l : List UInt8) (w : World) (hv : HasA w v l) (hN : Nib w) :
    Calls Tryd.prog 15 #[.int .u32 (s : Int), v] w fun e w' => e = .returned (.int .u32 (crcMore s l : Nat)) ∧ w' = w := by
  obtain ⟨b, o, cap, p, rfl, hc1, hc2, HP, HC⟩ := hv.open
  have hml : (cap : Int) ≤ 9223372036854775807 := by unfold maxLen at hc2; omega
  have H2 := Lib.hid hc2
  have HN := Lib.hid hN
  clear hv hc2 hN
  obtain ⟨s0, hs0⟩ : ∃ s0, s0 = 4294967295 - s := ⟨_, rfl⟩
  have hflip := flip_bits s hs
  rw [← hs0] at hflip
  have HS := Lib.hid hs0
  clear hs0
  go_enter Tryd.func15, Tryd.ntmps15
  go_wp2
  go_loop [5, 12] (fun v i => ∃ (k : Nat), k ≤ l.length ∧ i = .int .i64 k ∧ v = .int .u32 ((cRun s0 (l.take k) : Nat) : Int)) (fun _ i => l.length - (intOf i).toNat)
  case atStart => exact ⟨0, by omega, rfl, by rw [List.take_zero]; rfl⟩
  case round =>
    obtain ⟨k, hk, rfl, rfl⟩ := hrel
    have hs0 : s0 < 4294967296 := by have := HS.out; omega
    rcases Nat.lt_or_ge k l.length with hl9 | hl9
    · have hp := (HP.out (by omega)).1
      subst hp
      have hcell := HC.out k hl9
      have hx := l[k].toNat_lt
      have hc := cRun_lt (l.take k) hs0
      have hsn := cRun_snoc s0 l k hl9
      have HSN := Lib.hid hsn
      clear hsn
      generalize cRun s0 (l.take k) = c at *
      generalize l[k].toNat = x at *
      have hxc : bits .xor .u32 (c : Int) (x : Int) = ((c ^^^ x : Nat) : Int) := u32_xor_nat _ _ hc (by omega)
      have hcx : c ^^^ x < 4294967296 := Nat.xor_lt_two_pow (n := 32) (by omega) (by omega)
      obtain ⟨c1, hc1'⟩ : ∃ c1, c1 = c ^^^ x := ⟨_, rfl⟩
      rw [← hc1'] at hxc hcx
      obtain ⟨i1, y1, d1, hi1, ht1, ha1, hx1, hd1⟩ := nib_step c1 hcx
      have hd1l : d1 < 4294967296 := by rw [hd1]; exact cLs_lt 4 hcx
      obtain ⟨i2, y2, d2, hi2, ht2, ha2, hx2, hd2⟩ := nib_step d1 hd1l
      have hn1 := HN.out.at i1 hi1
      have hn2 := HN.out.at i2 hi2
      rw [ht1] at hn1
      rw [ht2] at hn2
      have HD : Hid (d2 = cByte c x) := Lib.hid (by rw [hd2, hd1, hc1']; unfold cByte; exact cLs_add 4 4 _)
      clear hc1' hd1 hd2 ht1 ht2
      go_wp2
      go_round
      case rel => exact ⟨k + 1, by omega, by go_num, by rw [HSN.out, ← HD.out]⟩
      case measure => simp [intOf]; omega
    · have HK := Lib.hid (show k = l.length by omega)
      have hc := cRun_lt (l.take k) hs0
      have hfl := flip_bits _ hc
      generalize hcc : cRun s0 (l.take k) = c at *
      have HCC := Lib.hid hcc
      clear hcc
      go_wp2
      go_ret
      refine ⟨?_, rfl⟩
      rw [← HCC.out, HK.out, List.take_length]
      unfold crcMore
      rw [← HS.out]
      rfl
theorem More_has (s : Nat) (hs : s < 4294967296) {v : Value} {l : List UInt8} {w : World} (hv : Has w v l) (hN : Nib w) :
    Calls Tryd.prog 15 #[.int .u32 (s : Int), v] w fun e w' => e = .returned (.int .u32 (crcMore s l : Nat)) ∧ w' = w := More_any s hs v l w hv.wide hN
set_option maxRecDepth 100000 in
set_option maxHeartbeats 2000000 in
theorem Sum_any (v : Value) (l : List UInt8) (w : World) (hv : HasA w v l) (hN : Nib w) :
    Calls Tryd.prog 16 #[v] w fun e w' => e = .returned (.int .u32 (crcSum l : Nat)) ∧ w' = w := by
  have HM := Lib.hid (More_any 0 (by omega) v l w hv hN)
  go_enter Tryd.func16, Tryd.ntmps16
  go_wp2_with fail
  refine HM.out.mono ?_
  rintro e w' ⟨rfl, rfl⟩
  go_wp2
  go_ret
  exact ⟨rfl, rfl⟩

/-! The document's own sums. -/
set_option maxRecDepth 100000 in
set_option maxHeartbeats 2000000 in
theorem Bit_any (c d : Nat) (hc : c < 4294967296) (hd : d ≤ 1) (w : World) : Calls Tryd.prog 24 #[.int .u32 (c : Int), .int .u32 (d : Int)] w fun e w' => e = .returned (.int .u32 (cBit c d : Nat)) ∧ w' = w := by
  have e1 : bits .xor .u32 (c : Int) (d : Int) = ((c ^^^ d : Nat) : Int) := u32_xor_nat _ _ hc (by omega)
  have hlt : c ^^^ d < 4294967296 := Nat.xor_lt_two_pow (n := 32) (by omega) (by omega)
  have e2 : bits .and .u32 ((c ^^^ d : Nat) : Int) 1 = (((c ^^^ d) % 2 : Nat) : Int) := by
    rw [show (1 : Int) = ((1 : Nat) : Int) from rfl, u32_and_nat _ _ hlt (by omega)]
    exact congrArg _ (Nat.and_two_pow_sub_one_eq_mod (c ^^^ d) 1)
  have e3 : bits .xor .u32 ((c : Int) / 2) 2197175160 = (((c / 2) ^^^ 2197175160 : Nat) : Int) := by
    rw [show (c : Int) / 2 = ((c / 2 : Nat) : Int) by omega, show (2197175160 : Int) = ((2197175160 : Nat) : Int) from rfl]
    exact u32_xor_nat _ _ (by omega) (by omega)
  have HB : Hid (cBit c d = if (c ^^^ d) % 2 = 1 then (c / 2) ^^^ 2197175160 else c / 2) := Lib.hid rfl
  generalize c ^^^ d = x at *
  generalize (c / 2) ^^^ 2197175160 = y at *
  rcases Nat.mod_two_eq_zero_or_one x with hx | hx
  · rw [hx] at e2
    have HX := Lib.hid hx
    clear hx
    go_enter Tryd.func24, Tryd.ntmps24
    go_wp2
    go_ret
    refine ⟨?_, rfl⟩
    rw [HB.out, HX.out]
    simp
  · rw [hx] at e2
    have HX := Lib.hid hx
    clear hx
    go_enter Tryd.func24, Tryd.ntmps24
    go_wp2
    go_ret
    refine ⟨?_, rfl⟩
    rw [HB.out, HX.out]
    simp
theorem cBits_lt (c x : Nat) (hc : c < 4294967296) : ∀ k, cBits c x k < 4294967296
  | 0 => hc
  | k + 1 => by
    unfold cBits
    rw [cBit_L _ _ (by omega)]
    exact cL_lt (Nat.xor_lt_two_pow (n := 32) (by have := cBits_lt c x hc k; omega) (by omega))
theorem cBits_succ (c x k : Nat) : cBits c x (k + 1) = cBit (cBits c x k) (x / 2 ^ k % 2) := rfl

set_option maxRecDepth 100000 in
set_option maxHeartbeats 4000000 in
theorem RefMore_any (s : Nat) (hs : s < 4294967296) (v : Value) (l : List UInt8) (w : World) (hv : HasA w v l) :
    Calls Tryd.prog 22 #[.int .u32 (s : Int), v] w fun e w' => e = .returned (.int .u32 (crcMore s l : Nat)) ∧ w' = w := by
  obtain ⟨b, o, cap, p, rfl, hc1, hc2, HP, HC⟩ := hv.open
  have hml : (cap : Int) ≤ 9223372036854775807 := by unfold maxLen at hc2; omega
  have H2 := Lib.hid hc2
  clear hv hc2
  obtain ⟨s0, hs0⟩ : ∃ s0, s0 = 4294967295 - s := ⟨_, rfl⟩
  have hflip := flip_bits' s hs
  rw [← hs0] at hflip
  have HS := Lib.hid hs0
  clear hs0
  go_enter Tryd.func22, Tryd.ntmps22
  go_wp2
  go_loop [5, 6] (fun v i => ∃ (k : Nat), k ≤ l.length ∧ i = .int .i64 k ∧ v = .int .u32 ((cRun s0 (l.take k) : Nat) : Int)) (fun _ i => l.length - (intOf i).toNat)
  case atStart => exact ⟨0, by omega, rfl, by rw [List.take_zero]; rfl⟩
  case round =>
    obtain ⟨k, hk, rfl, rfl⟩ := hrel
    have hs0 : s0 < 4294967296 := by have := HS.out; omega
    rcases Nat.lt_or_ge k l.length with hl9 | hl9
    · have hp := (HP.out (by omega)).1
      subst hp
      have hcell := HC.out k hl9
      have hx := l[k].toNat_lt
      have hc := cRun_lt (l.take k) hs0
      have HSN := Lib.hid (cRun_snoc s0 l k hl9)
      generalize cRun s0 (l.take k) = c at *
      generalize l[k].toNat = x at *
      go_wp2
      go_loop [5, 7] (fun v i => ∃ (q : Nat), q ≤ 8 ∧ i = .int .i64 q ∧ v = .int .u32 ((cBits c x q : Nat) : Int)) (fun _ i => 8 - (intOf i).toNat)
      case atStart => exact ⟨0, by omega, rfl, rfl⟩
      case round =>
        obtain ⟨q, hq, rfl, rfl⟩ := hrel
        have hcq := cBits_lt c x hc q
        have HQ := Lib.hid (cBits_succ c x q)
        rcases Nat.lt_or_ge q 8 with hq9 | hq9
        · obtain ⟨y, hy⟩ : ∃ y, x / 2 ^ q = y := ⟨_, rfl⟩
          have e1 : y < 256 := by rw [← hy]; exact Nat.lt_of_le_of_lt (Nat.div_le_self _ _) hx
          have e3 : (x : Int) / 2 ^ q = (y : Int) := by rw [← hy]; simp
          rw [hy] at HQ
          clear hy
          obtain ⟨z, hz⟩ : ∃ z, y % 2 = z := ⟨_, rfl⟩
          have hz1 : z ≤ 1 := by omega
          have m1 : bits .and .u32 (y : Int) 1 = (z : Int) := by
            rw [show (1 : Int) = ((1 : Nat) : Int) from rfl, u32_and_nat _ _ (by omega) (by omega), ← hz]
            exact congrArg _ (Nat.and_two_pow_sub_one_eq_mod y 1)
          rw [hz] at HQ
          clear hz
          generalize cBits c x q = c1 at *
          have q1 : (q : Int) < 8 := by omega
          have q2 : (q : Int) ≤ 8 := by omega
          have q3 : (0 : Int) ≤ q := by omega
          have HB := Lib.hid (Bit_any c1 z hcq hz1 w)
          go_wp2_with fail
          refine HB.out.mono ?_
          rintro e w' ⟨rfl, rfl⟩
          go_wp2
          go_round
          case rel => exact ⟨q + 1, by omega, by go_num, by rw [HQ.out]⟩
          case measure => simp [intOf]; omega
        · have HK := Lib.hid (show q = 8 by omega)
          have q1 : ¬ (q : Int) < 8 := by omega
          go_wp2
          exact ⟨⟨k + 1, by omega, by go_num, by rw [HK.out, cBits_byte _ _ hx, HSN.out]⟩, by simp [intOf]; omega⟩
    · have HK := Lib.hid (show k = l.length by omega)
      have hc := cRun_lt (l.take k) hs0
      have hfl := flip_bits' _ hc
      generalize hcc : cRun s0 (l.take k) = c at *
      have HCC := Lib.hid hcc
      clear hcc
      go_wp2
      go_ret
      refine ⟨?_, rfl⟩
      rw [← HCC.out, HK.out, List.take_length]
      unfold crcMore
      rw [← HS.out]
      rfl
set_option maxRecDepth 100000 in
set_option maxHeartbeats 2000000 in
theorem RefSum_any (v : Value) (l : List UInt8) (w : World) (hv : HasA w v l) :
    Calls Tryd.prog 19 #[v] w fun e w' => e = .returned (.int .u32 (crcSum l : Nat)) ∧ w' = w := by
  have HM := Lib.hid (RefMore_any 0 (by omega) v l w hv)
  go_enter Tryd.func19, Tryd.ntmps19
  go_wp2_with fail
  refine HM.out.mono ?_
  rintro e w' ⟨rfl, rfl⟩
  go_wp2
  go_ret
  exact ⟨rfl, rfl⟩
end Go.Proofs.YtbkoejhnlmbciaaDoor
