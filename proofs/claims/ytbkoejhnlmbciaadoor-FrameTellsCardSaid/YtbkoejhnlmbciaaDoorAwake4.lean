/-
  What the document tells of a frame (rolodexlaw4.awake).
-/
import Derived.Test.YtbkoejhnlmbciaaDoorSame
import Derived.Lib.SlBytesConst
namespace Go.Proofs.YtbkoejhnlmbciaaDoor
open Go.ChangeShapes Go.WideShapes Go.ChangeAt Go.RowKit Go.Deep
set_option linter.unusedVariables false
set_option linter.unusedSimpArgs false

theorem scan_a : fScan (frameOf [97]) = ([[97]], 9, 0) := by
  have h := fScan_frame [97] [] (by simp)
  rw [List.append_nil, fScan_nil (b := []) rfl] at h
  exact h
theorem has_lit (w : World) (T : TypeId) (f : Nat × Nat) (x : UInt8) : Has (w.alloc (.cells #[.int .u8 (x.toNat : Int)] T f)) (.slice (some ⟨w.heap.size, 0, none⟩) 1 1) [x] := by
  refine .inr ⟨w.heap.size, 0, 1, rfl, Nat.le_refl _, by unfold maxLen; omega, lt_of_block (heap_alloc_new _ _), fun j hj => ?_⟩
  obtain rfl : j = 0 := by simpa using hj
  have h := heap_alloc_new w (.cells #[.int .u8 (x.toNat : Int)] T f)
  rw [Nat.zero_add]
  unfold World.cell?
  rw [h]
  rfl
theorem scan_a3 : fScan ((frameOf [97]).take 3) = ([], 0, 1) := by
  have h := fHow_torn [97] 3 (by simp) (by simp) []
  rw [List.append_nil] at h
  have hl := frameOf_len [97]
  rw [fScan_end (by simp; omega) (by rw [h]; omega), h]
theorem HasA.cells {w : World} {v : Value} {l : List UInt8} (h : HasA w v l) (h0 : 0 < l.length) : ∃ b o cap, v = .slice (some ⟨b, o, none⟩) l.length cap ∧ l.length ≤ cap ∧ cap ≤ maxLen ∧ ∀ j (h : j < l.length), w.cell? ⟨b, o + j, none⟩ = some (.int .u8 (l[j].toNat : Int)) := by
  obtain ⟨p, cap, b, o, rfl, h1, h2, h3, h4⟩ := h
  exact ⟨b, o, cap, by rw [(h3 h0).1], h1, h2, h4⟩
set_option maxRecDepth 100000 in
set_option maxHeartbeats 4000000 in
theorem awake_any (w : World) (hN : Nib w) :
    Calls Tryd.prog 8 #[] w fun e w' => e = .returned (.bool true) ∧ Below w.heap.size w w' := by
  have HN := Lib.hid hN
  clear hN
  have hz1 : ∀ o, w.heap.size ≤ (w.alloc o).heap.size := fun o => ((Below.refl w.heap.size w).alloc (Nat.le_refl _) o).size
  have hb1 : ∀ o, Below w.heap.size w (w.alloc o) := fun o => (Below.refl w.heap.size w).alloc (Nat.le_refl _) o
  go_enter Tryd.func8, Tryd.ntmps8
  have hcv := Lib.run_convert_bytes_const (P := Tryd.prog) w 23 5 #[.int .u8 97] 1 1 Tryd.underlying23 Tryd.underlying5
  simp only [List.size_toArray, List.length_cons, List.length_nil, Nat.zero_add, Nat.reduceAdd] at hcv
  go_wp2_with fail
  have hb0 := hb1 (Obj.cells #[.int .u8 97] 5 (1, 2))
  have ha : Has (w.alloc (Obj.cells #[.int .u8 97] 5 (1, 2))) (.slice (some ⟨w.heap.size, 0, none⟩) 1 1) [97] := has_lit w 5 (1, 2) 97
  generalize w.alloc (Obj.cells #[.int .u8 97] 5 (1, 2)) = w1 at *
  have hz0 := hb0.size
  have HB0 := Lib.hid hb0
  have HN1 := Lib.hid (HN.out.below hb0)
  have HA := Lib.hid ha
  clear hb0 hb1 hz1 ha
  refine (Append_any _ [] _ [97] w1 (HasA.nil _) HA.out.wide HN1.out (by simp) (by simp)).mono ?_
  rintro e w2 ⟨v2, rfl, ho2, hb2⟩
  rw [List.nil_append] at ho2
  obtain ⟨g2, o2, c2, rfl, hk2, hm2, hc2⟩ := ho2.has.wide.cells (by rw [frameOf_len]; omega)
  have e0 : (frameOf [97])[0]'(by rw [frameOf_len]; omega) = 1 := rfl
  have e8 : (frameOf [97])[8]'(by rw [frameOf_len]; simp) = 97 := rfl
  have c0 := hc2 0 (by rw [frameOf_len]; omega)
  have c8 := hc2 8 (by rw [frameOf_len]; simp)
  rw [e0] at c0
  rw [e8] at c8
  have c0 : w2.cell? ⟨g2, o2, none⟩ = some (.int .u8 1) := c0
  have c8 : w2.cell? ⟨g2, o2 + 8, none⟩ = some (.int .u8 97) := c8
  have h9 : (frameOf [97]).length = 9 := by rw [frameOf_len]; rfl
  rw [h9] at ho2 hk2 ⊢
  have hm2' : (c2 : Int) ≤ 9223372036854775807 := by unfold maxLen at hm2; omega
  have hz2 := hb2.size
  have HM2 := Lib.hid hm2
  have HO2 := Lib.hid ho2.has.wide
  have HB2 := Lib.hid (HB0.out.trans (hb2.mono hz0))
  have HN2 := Lib.hid (HN1.out.below hb2)
  clear ho2 hb2 hc2 e0 e8 h9 hm2
  obtain ⟨p3, c3, r3, g3⟩ := HO2.out.head 3 (by rw [frameOf_len]; simp)
  have r3 : ∀ W, (Instr.slice 23 (.slice (some ⟨g2, o2, none⟩) 9 c2) none (some (.int .i64 3)) none).run Tryd.prog W = .ok (.slice p3 3 c3) W := r3
  have G3 := Lib.hid g3
  clear g3
  go_wp2_with fail
  refine (Scan_any _ (frameOf [97]) w2 HO2.out HN2.out (by rw [frameOf_len]; simp)).mono ?_
  rintro e w3 ⟨v3, rfl, ho3, hb3⟩
  rw [scan_a] at ho3 ⊢
  obtain ⟨b3, o3, k3, q3, rfl, hk3, hm3, HP3, HC3⟩ := ho3.has.open
  have hq3 := (HP3.out (by simp)).1
  subst hq3
  have hm3' : (k3 : Int) ≤ 9223372036854775807 := by unfold maxLen at hm3; omega
  have HO3 := Lib.hid ho3
  have hb3' := HB2.out.trans (hb3.mono (Nat.le_trans hz0 hz2))
  have hz3 := hb3.size
  have HB3 := Lib.hid hb3'
  have HN3 := Lib.hid (HN2.out.below hb3)
  have HA3 := Lib.hid ((G3.out w2 HO2.out).below hb3)
  clear ho3 hb3 hb3' hm3
  go_wp2_with fail
  refine (Scan_any _ ((frameOf [97]).take 3) w3 HA3.out HN3.out (by rw [List.length_take]; omega)).mono ?_
  rintro e w4 ⟨v4, rfl, ho4, hb4⟩
  rw [scan_a3] at ho4 ⊢
  obtain ⟨x, hx, hxa⟩ := HC3.out 0 (by simp)
  obtain ⟨b3', ⟨⟩⟩ : ∃ b : Nat, b = b3 := ⟨_, rfl⟩
  have hlt3 := (HP3.out (by simp)).2
  have hx4 : w4.cell? ⟨b3, o3, none⟩ = some x := (hb4.cell (p := ⟨b3, o3 + 0, none⟩) hlt3).trans hx
  have hc4 : (convert 23 9 x).run Tryd.prog w4 = .ok (.string ⟨#[97]⟩) w4 := HasA.string (w := w4) (hxa.below hb4) 0
  obtain ⟨p4, c4, rfl, _⟩ := ho4.form
  have HB4 := Lib.hid (HB3.out.trans (hb4.mono (Nat.le_trans hz0 (Nat.le_trans hz2 hz3))))
  clear ho4 hb4 hx hxa
  go_wp2_with fail
  go_ret
  exact ⟨rfl, HB4.out⟩
end Go.Proofs.YtbkoejhnlmbciaaDoor
