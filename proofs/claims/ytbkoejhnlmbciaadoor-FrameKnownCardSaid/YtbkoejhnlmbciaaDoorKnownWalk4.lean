/-
  The walk of the law FrameKnown.
-/
import Derived.Test.YtbkoejhnlmbciaaDoorAwake4
namespace Go.Proofs.YtbkoejhnlmbciaaDoor
open Go.ChangeShapes Go.WideShapes Go.ChangeAt Go.RowKit Go.Deep
set_option linter.unusedVariables false
set_option linter.unusedSimpArgs false

theorem has_cells (w : World) (T : TypeId) (f : Nat × Nat) (l : List UInt8) (h0 : l.length ≤ maxLen) : Has (w.alloc (.cells (Lib.byteCells l).toArray T f)) (.slice (some ⟨w.heap.size, 0, none⟩) l.length l.length) l := by
  refine .inr ⟨w.heap.size, 0, l.length, rfl, Nat.le_refl _, h0, lt_of_block (heap_alloc_new _ _), fun j hj => ?_⟩
  have h := heap_alloc_new w (.cells (Lib.byteCells l).toArray T f)
  rw [Nat.zero_add]
  unfold World.cell?
  rw [h]
  have h2 := byteCells_get hj
  simpa using h2
theorem scan_spoilt : fScan [0, 0, 0, 0, 1, 2, 3, 4] = ([], 0, 2) := by
  have h : fHow [0, 0, 0, 0, 1, 2, 3, 4] = 2 := by kernel_rfl
  rw [fScan_end (by simp) (by rw [h]; omega), h]
theorem scan_nil : fScan [] = ([], 0, 0) := fScan_nil rfl
set_option maxRecDepth 100000 in
set_option maxHeartbeats 4000000 in
theorem FrameKnown_any (w : World) (hN : Nib w) :
    Calls Tryd.prog 3 #[] w fun e w' => e = .returned (.bool true) ∧ Below w.heap.size w w' := by
  have HN := Lib.hid hN
  clear hN
  go_enter Tryd.func3, Tryd.ntmps3
  go_wp2_with fail
  refine (awake_any w HN.out).mono ?_
  rintro e w1 ⟨rfl, hb1⟩
  have hz1 := hb1.size
  have HB1 := Lib.hid hb1
  have HN1 := Lib.hid (HN.out.below hb1)
  clear hb1
  go_wp2_with (at_make; refine wpList_make_part rfl _ _ 23 rfl w1.heap.size 5 Tryd.underlying23 info_u8 _ _ _ _ 65537 65537 rfl rfl rfl rfl (by omega) (by omega) (Nat.le_refl _) w1 (Below.refl _ _) ?_)
  intro zs w2 hz ho2 hb2
  have hz2 := hb2.size
  have hzl : zs.length = 65537 := hz.out
  have HO2 := Lib.hid ho2.has.wide
  have HB2 := Lib.hid (HB1.out.trans (hb2.mono hz1))
  have HN2 := Lib.hid (HN1.out.below hb2)
  clear hz ho2 hb2
  go_wp2_with fail
  refine (Append_big _ [] _ zs w2 (HasA.nil _) HO2.out (by omega)).mono ?_
  rintro e w3 ⟨rfl, hw3⟩
  rw [hw3]
  clear hw3 w3
  go_wp2_with fail
  refine (Scan_any _ [] w2 (HasA.nil _) HN2.out (by simp)).mono ?_
  rintro e w4 ⟨v4, rfl, ho4, hb4⟩
  rw [scan_nil] at ho4 ⊢
  obtain ⟨p4, c4, rfl, _⟩ := ho4.form
  have hz4 := hb4.size
  have HB4 := Lib.hid (HB2.out.trans (hb4.mono (Nat.le_trans hz1 hz2)))
  have HN4 := Lib.hid (HN2.out.below hb4)
  clear ho4 hb4
  have hb5 : Below w4.heap.size w4 (w4.alloc (Obj.cells #[.int .u8 0, .int .u8 0, .int .u8 0, .int .u8 0, .int .u8 1, .int .u8 2, .int .u8 3, .int .u8 4] 5)) := (Below.refl w4.heap.size w4).alloc (Nat.le_refl _) _
  have ha5 : Has (w4.alloc (Obj.cells #[.int .u8 0, .int .u8 0, .int .u8 0, .int .u8 0, .int .u8 1, .int .u8 2, .int .u8 3, .int .u8 4] 5)) (.slice (some ⟨w4.heap.size, 0, none⟩) 8 8) [0, 0, 0, 0, 1, 2, 3, 4] := has_cells w4 5 (0, 0) [0, 0, 0, 0, 1, 2, 3, 4] (by unfold maxLen; simp)
  have HB5 := Lib.hid hb5
  have HA5 := Lib.hid ha5
  clear hb5 ha5
  go_wp2_with fail
  refine (Scan_any _ [0, 0, 0, 0, 1, 2, 3, 4] _ HA5.out.wide (HN4.out.below HB5.out) (by simp)).mono ?_
  rintro e w6 ⟨v6, rfl, ho6, hb6⟩
  rw [scan_spoilt] at ho6 ⊢
  obtain ⟨p6, c6, rfl, _⟩ := ho6.form
  have hb6' : Below w.heap.size w w6 := (HB4.out.trans (HB5.out.mono (Nat.le_trans hz1 (Nat.le_trans hz2 hz4)))).trans (hb6.mono (Nat.le_trans hz1 (Nat.le_trans hz2 (Nat.le_trans hz4 HB5.out.size))))
  have HB6 := Lib.hid hb6'
  clear ho6 hb6 hb6'
  go_wp2_with fail
  go_ret
  exact ⟨rfl, HB6.out⟩
end Go.Proofs.YtbkoejhnlmbciaaDoor
