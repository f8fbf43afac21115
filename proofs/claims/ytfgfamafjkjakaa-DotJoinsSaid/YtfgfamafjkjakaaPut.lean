/-
  Package bin lays numbers and texts: what its calls Uint and Text answer, for all numbers, texts and bytes ahead of them (up to the bounds that are named).
-/
import Derived.Test.YtfgfamafjkjakaaAppA
import Derived.Test.YtfgfamafjkjakaaRows
import Derived.Test.YtfgfamafjkjakaaBytes
import Derived.Lib.Varint
import Derived.Lib.VarintMem
import Derived.Outline
namespace Go.Proofs.Ytfgfamafjkjakaa
open Go.ChangeShapes Go.WideShapes Go.ChangeAt Go.RowKit Go.Deep
set_option linter.unusedVariables false

/-- One byte in a block of its own. -/
theorem has_one (w : World) (T : TypeId) (k : Nat) (z : Int) (hk : k < 256) (hz : z = k) : Has (w.alloc (.cells #[.int .u8 z] T)) (.slice (some ⟨w.heap.size, 0, none⟩) 1 1) [k.toUInt8] := by
  subst hz
  refine .inr ⟨w.heap.size, 0, 1, rfl, Nat.le_refl _, by unfold maxLen; omega, by simp, fun j hj => ?_⟩
  obtain rfl : j = 0 := by simpa using hj
  simp only [World.cell?, heap_alloc_new w (.cells #[.int .u8 (k : Int)] T), Nat.zero_add]
  simp [Nat.mod_eq_of_lt hk]

theorem uv_len {x : Nat} (h : x < 18446744073709551616) : (Lib.uvarint x).length ≤ 10 := Lib.uvarint_length64 h

set_option maxRecDepth 100000 in
set_option maxHeartbeats 1000000 in
theorem put_any (B x : Nat) (hx : x < 18446744073709551616) (sv : Value) (xs : List UInt8) (w : World) (hown : Own w B 5 sv xs) (hBw : B ≤ w.heap.size) (hlim : xs.length + 10 ≤ 140737488355328) :
    Calls Try.prog 47 #[sv, .int .u64 x] w fun e w' => ∃ v', e = .returned v' ∧ Own w' B 5 v' (xs ++ Lib.uvarint x) ∧ Below B w w' := by
  have hlen := uv_len hx
  clear hx
  go_enter Try.func47, Try.ntmps47
  go_wp2
  go_loopw [0, 1] (fun vb vx wr => ∃ (y : Nat) (pre : List UInt8), vx = .int .u64 y ∧ y ≤ x ∧ Lib.uvarint x = pre ++ Lib.uvarint y ∧ Own wr B 5 vb (xs ++ pre) ∧ Below B w wr) (fun _ vx _ => (intOf vx).toNat)
  case atStart => exact ⟨x, [], rfl, Nat.le_refl _, rfl, by rw [List.append_nil]; exact hown, Below.refl _ _⟩
  case round =>
    obtain ⟨y, pre, rfl, hy, hsplit, hown1, hnx⟩ := hrel
    have hpl : pre.length + (Lib.uvarint y).length ≤ 10 := by
      have h2 := congrArg List.length hsplit
      rw [List.length_append] at h2
      omega
    have hyp := Lib.uvarint_pos y
    have HS := Lib.hid hsplit
    have HO := Lib.hid hown1
    have HN := Lib.hid hnx
    have hsz := hnx.size
    clear hsplit hown1 hnx hown
    by_cases h128 : 128 ≤ y
    · have hor : bits .or .u8 ((y : Int) % 256) 128 = (y : Int) % 128 + 128 := by
        rw [Lib.u8_or128_any _ (by omega) (by omega)]
        omega
      obtain ⟨zs, hzs⟩ : ∃ zs, zs = (xs ++ pre) ++ [(y % 128 + 128).toUInt8] := ⟨_, rfl⟩
      have HZ := Lib.hid hzs
      clear hzs
      go_wp2_with (at_builtin; refine wpList_append_has rfl (.tmp 7) (.tmp 11) 28 rfl B 5 Try.underlying28 info_u8 _ (xs ++ pre) rfl (HO.out.alloc _) _ [(y % 128 + 128).toUInt8] zs rfl (has_one _ _ (y % 128 + 128) _ (by omega) (by omega)) HZ.out (by simp; omega) (by simp; omega) w (HN.out.alloc (by omega) _) ?_)
      intro v' w1 ho hb
      have HO1 := Lib.hid ho
      have HB1 := Lib.hid hb
      clear ho hb
      go_wp2
      go_roundw
      case rel => exact ⟨y / 128, pre ++ [(y % 128 + 128).toUInt8], by go_num, by omega, by rw [HS.out, Lib.uvarint_big h128]; simp, by rw [← List.append_assoc, ← HZ.out]; exact HO1.out, HB1.out⟩
      case measure => simp [intOf]; omega
    · have hsm : Hid (Lib.uvarint y = [y.toUInt8]) := Lib.hid (Lib.uvarint_small (by omega))
      obtain ⟨zs, hzs⟩ : ∃ zs, zs = (xs ++ pre) ++ [y.toUInt8] := ⟨_, rfl⟩
      have HZ := Lib.hid hzs
      clear hzs
      go_wp2_with (at_builtin; refine wpList_append_has rfl (.tmp 15) (.tmp 18) 28 rfl B 5 Try.underlying28 info_u8 _ (xs ++ pre) rfl (HO.out.alloc _) _ [y.toUInt8] zs rfl (has_one _ _ y _ (by omega) (by omega)) HZ.out (by simp; omega) (by simp; omega) w (HN.out.alloc (by omega) _) ?_)
      intro v' w1 ho hb
      have HO1 := Lib.hid ho
      have HB1 := Lib.hid hb
      clear ho hb
      go_wp2
      go_ret
      exact ⟨v', rfl, by rw [HS.out, hsm.out, ← List.append_assoc, ← HZ.out]; exact HO1.out, HB1.out⟩

theorem Uint_any (x : Nat) (hx : x < 18446744073709551616) (v : Value) (l : List UInt8) (w : World) (hv : Has w v l) (hlim : l.length + 10 ≤ 140737488355328) :
    Calls Try.prog 36 #[v, .int .u64 x] w fun e w' => ∃ v', e = .returned v' ∧ Own w' w.heap.size 5 v' (l ++ Lib.uvarint x) ∧ Below w.heap.size w w' := by
  obtain ⟨p, cap, rfl, hc1, hc2⟩ := hv.form
  have HV := Lib.hid hv
  unfold maxLen at hc2
  clear hv
  go_enter Try.func36, Try.ntmps36
  go_wp2_with (at_make; refine wpList_make_part rfl _ _ 28 rfl w.heap.size 5 Try.underlying28 info_u8 _ _ _ _ l.length (l.length + 10) rfl rfl rfl (by omega) (by omega) (by omega) (Nat.le_refl _) w (Below.refl _ _) ?_)
  intro zs w1 hz ho hb
  have HO := Lib.hid ho
  have HB := Lib.hid hb
  clear ho hb
  go_wp2_with ((refine wpList_copy_has rfl (.tmp 12) (.tmp 13) 28 28 rfl w.heap.size 5 Try.underlying28 info_u8 _ _ l rfl _ rfl zs HO.out _ rfl (HV.out.below HB.out) w HB.out ?_))
  intro w2 ho hb
  have HO2 := Lib.hid ho
  have HB2 := Lib.hid hb
  have hsz := hb.size
  clear ho hb
  go_wp2_with fail
  refine (put_any w.heap.size x hx _ l w2 HO2.out hsz hlim).mono ?_
  rintro e w' ⟨v', rfl, h1, h2⟩
  have H1 := Lib.hid h1
  have H2 := Lib.hid h2
  clear h1 h2
  go_wp2
  go_ret
  exact ⟨v', rfl, H1.out, HB2.out.trans H2.out⟩

end Go.Proofs.Ytfgfamafjkjakaa
