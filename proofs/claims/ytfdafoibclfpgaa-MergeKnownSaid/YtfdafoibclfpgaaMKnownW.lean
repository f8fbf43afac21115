/-
  The statement MergeKnown, walked.
-/
import Derived.Test.YtfdafoibclfpgaaMAwake
namespace Go.Proofs.Ytfdafoibclfpgaa
open Go.ChangeShapes Go.WideShapes Go.ChangeAt Go.RowKit Go.Deep
set_option linter.unusedVariables false
set_option linter.unusedSimpArgs false
def baL : List Itm := [⟨⟨#[98]⟩, 0, false, ⟨#[]⟩⟩, ⟨⟨#[97]⟩, 0, false, ⟨#[]⟩⟩]
theorem ba_not : sortedB baL = false := by simp [baL, sortedB, aheadI, kEq_data, kLt_data, Op.bytesLess]
theorem ba_code : mergeCode [baL] = 15 := by unfold mergeCode; simp [ba_not]
theorem nil_code : mergeCode [] = 0 := rfl
theorem nil_merged {m : List Itm} (h : mergedOf [] m) : m = [] := List.eq_nil_of_length_eq_zero (by have := (h.1 rfl).len; simpa using this)
theorem ba_thin : (thinC [] false baL).length = 0 := by unfold thinC; rw [ba_not]; rfl
theorem ba_row {W : World} {g : Nat} {T : TypeId} (h : W.heap[g]? = some (.cells #[.string ⟨#[98]⟩, .int .u64 0, .bool false, .string ⟨#[]⟩, .string ⟨#[97]⟩, .int .u64 0, .bool false, .string ⟨#[]⟩] T (0, 0))) : HasK W encI (.slice (some ⟨g, 0, none⟩) 2 2) baL := has_flat (T := T) rfl h (by decide)
set_option maxRecDepth 100000 in
set_option maxHeartbeats 32000000 in
theorem Known_any (w : World) : Calls Try.prog 3 #[] w fun e w' => e = .returned (.bool true) ∧ Below w.heap.size w w' := by
  obtain ⟨B, hB⟩ : ∃ B, w.heap.size = B := ⟨_, rfl⟩
  rw [hB]
  have HBB := Lib.hid hB
  clear hB
  go_enter Try.func3, Try.ntmps3
  go_wp2_with fail
  refine (Awake_any w).mono ?_
  rintro e w1 ⟨rfl, hb1⟩
  rw [HBB.out] at hb1
  have hs1 : B ≤ w1.heap.size := by have := hb1.size; rw [HBB.out] at this; exact this
  have hba := (Below.refl w1.heap.size w1).alloc (Nat.le_refl _) (.cells #[.string ⟨#[98]⟩, .int .u64 0, .bool false, .string ⟨#[]⟩, .string ⟨#[97]⟩, .int .u64 0, .bool false, .string ⟨#[]⟩] 29)
  have hk2 := ba_row (heap_alloc_new w1 (.cells #[.string ⟨#[98]⟩, .int .u64 0, .bool false, .string ⟨#[]⟩, .string ⟨#[97]⟩, .int .u64 0, .bool false, .string ⟨#[]⟩] 29))
  have hb2 := hb1.trans (hba.mono hs1)
  have hs2 := Nat.le_trans hs1 hba.size
  obtain ⟨w2, hw2⟩ : ∃ w2, w1.alloc (.cells #[.string ⟨#[98]⟩, .int .u64 0, .bool false, .string ⟨#[]⟩, .string ⟨#[97]⟩, .int .u64 0, .bool false, .string ⟨#[]⟩] 29) = w2 := ⟨_, rfl⟩
  rw [hw2] at hk2 hb2 hs2
  have hba2 := (Below.refl w2.heap.size w2).alloc (Nat.le_refl _) (.cells #[.slice (some ⟨w1.heap.size, 0, none⟩) 2 2] 23)
  have hw2s : w2.heap.size = w1.heap.size + 1 := by rw [← hw2, World.size_alloc]
  have hn3 := heap_alloc_new w2 (.cells #[.slice (some ⟨w1.heap.size, 0, none⟩) 2 2] 23)
  rw [hw2s] at hn3
  have HL3 := Lib.hid (one_list hn3 (hk2.below hba2))
  have HB3 := Lib.hid (hb2.trans (hba2.mono hs2))
  have HS3 := Lib.hid (Nat.le_trans hs2 hba2.size)
  have HW2 := Lib.hid hw2
  clear hb1 hs1 hba hk2 hb2 hs2 hba2 hw2 hn3 hw2s
  go_wp2_with fail
  rw [HW2.out]
  refine (Merge_any _ [baL] _ HL3.out (by simp [baL]) (by simp)).mono ?_
  rw [ba_code]
  rintro e w4 ⟨v4, m4, rfl, -, -, hb4⟩
  have HB4 := Lib.hid (HB3.out.trans (hb4.mono HS3.out))
  have HS4 := Lib.hid (Nat.le_trans HS3.out hb4.size)
  clear hb4
  go_wp2_with fail
  refine (Merge_any _ [] _ (HasI.nil _) (by simp) (by simp)).mono ?_
  rw [nil_code]
  rintro e w5 ⟨v5, m5, rfl, ho5, hm5, hb5⟩
  obtain rfl := nil_merged hm5
  obtain ⟨p5, c5, rfl, -, -⟩ := ho5.sl
  have HB5 := Lib.hid (HB4.out.trans (hb5.mono HS4.out))
  have HS5 := Lib.hid (Nat.le_trans HS4.out hb5.size)
  rw [show ([] : List Itm).length = 0 from rfl]
  clear hb5 ho5 hm5
  go_wp2_with fail
  refine (Sample_any _).mono ?_
  rintro e w6 ⟨p6, c6, rfl, hk6, hb6⟩
  have HK6 := Lib.hid hk6
  have HB6 := Lib.hid (HB5.out.trans (hb6.mono HS5.out))
  have HS6 := Lib.hid (Nat.le_trans HS5.out hb6.size)
  clear hk6 hb6
  go_wp2_with fail
  refine (Seen_any _ _ 4 _ HK6.out (by decide) sample_keys).mono ?_
  rintro e w7 ⟨v7, rfl, ho7, hb7⟩
  rw [sample_seen4] at ho7
  obtain ⟨g7, c7, rfl, -, hg7, -, hm7, hc7, -⟩ := ho7.form (by decide)
  have q0 : w7.cell? ⟨g7, 3, none⟩ = some (.string ⟨#[120]⟩) := hc7 0 (by decide) 3 _ rfl
  have q1 : w7.cell? ⟨g7, 7, none⟩ = some (.string ⟨#[122]⟩) := hc7 1 (by decide) 3 _ rfl
  have HB7 := Lib.hid (HB6.out.trans (hb7.mono HS6.out))
  have HS7 := Lib.hid (Nat.le_trans HS6.out hb7.size)
  have hbb := (Below.refl w7.heap.size w7).alloc (Nat.le_refl _) (.cells #[.string ⟨#[98]⟩, .int .u64 0, .bool false, .string ⟨#[]⟩, .string ⟨#[97]⟩, .int .u64 0, .bool false, .string ⟨#[]⟩] 29)
  have HK8 := Lib.hid (ba_row (heap_alloc_new w7 (.cells #[.string ⟨#[98]⟩, .int .u64 0, .bool false, .string ⟨#[]⟩, .string ⟨#[97]⟩, .int .u64 0, .bool false, .string ⟨#[]⟩] 29)))
  have HB8 := Lib.hid (HB7.out.trans (hbb.mono HS7.out))
  have HS8 := Lib.hid (Nat.le_trans HS7.out hbb.size)
  rw [show ([⟨⟨#[97]⟩, 3, false, ⟨#[120]⟩⟩, ⟨⟨#[98]⟩, 2, false, ⟨#[122]⟩⟩] : List Itm).length = 2 from rfl]
  have hcc7 : (2 : Int) ≤ 9223372036854775807 := by decide
  clear ho7 hc7 hb7 hbb
  go_wp2_with fail
  refine (Thin_any _ _ _ [] false _ HK8.out (HasK.nil _ _) (by decide) (by decide)).mono ?_
  rintro e w9 ⟨v9, rfl, ho9, hb9⟩
  obtain ⟨p9, c9, rfl, -, -⟩ := ho9.sl
  rw [ba_thin]
  have HB9 := Lib.hid (HB8.out.trans (hb9.mono HS8.out))
  clear ho9 hb9 q0 q1
  go_wp2
  go_ret
  exact ⟨rfl, HB9.out⟩
end Go.Proofs.Ytfdafoibclfpgaa
