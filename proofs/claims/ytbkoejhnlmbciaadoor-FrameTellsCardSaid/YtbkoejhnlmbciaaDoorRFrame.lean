/-
  The document's own frame (rolodexref3.Frame).
-/
import Derived.Test.YtbkoejhnlmbciaaDoorAppend
namespace Go.Proofs.YtbkoejhnlmbciaaDoor
open Go.ChangeShapes Go.WideShapes Go.ChangeAt Go.RowKit Go.Deep
set_option linter.unusedVariables false

theorem own_empty (w : World) (B : Nat) (T : TypeId) (hB : B ≤ w.heap.size) : Own (w.alloc (.cells #[] T)) B T (.slice (some ⟨w.heap.size, 0, none⟩) 0 0) [] :=
  ⟨rfl, .inr ⟨w.heap.size, 0, _, rfl, hB, heap_alloc_new _ _, Nat.le_refl _, Nat.zero_le _, rfl, rfl⟩⟩
set_option maxRecDepth 100000 in
set_option maxHeartbeats 4000000 in
theorem RFrame_any (pv : Value) (p : List UInt8) (w : World) (hp : HasA w pv p) (hsmall : p.length ≤ 65536) :
    Calls Tryd.prog 11 #[pv] w fun e w' => ∃ v, e = .returned v ∧ Own w' w.heap.size 5 v (frameOf p) ∧ Below w.heap.size w w' := by
  obtain ⟨q, cap, rfl, hc1, hc2⟩ := hp.form
  have hmod : (p.length : Int) % 4294967296 = (p.length : Int) := by omega
  have HP := Lib.hid hp
  have hml : (cap : Int) ≤ 9223372036854775807 := by unfold maxLen at hc2; omega
  have H1 := Lib.hid hc2
  clear hp hc2
  generalize hn : p.length = n at *
  have HNn := Lib.hid hn
  clear hn
  go_enter Tryd.func11, Tryd.ntmps11
  go_wp2_with fail
  refine (Rfour_any n (by omega) w).mono ?_
  rintro e w1 ⟨v1, rfl, ho1, hb1⟩
  have hz1 := hb1.size
  obtain ⟨p1, c1, hv, _⟩ := ho1.has.form
  rw [le4_len] at hv
  subst hv
  have HO1 := Lib.hid ho1
  have HB1 := Lib.hid hb1
  have hz2 : ∀ o, w1.heap.size ≤ (w1.alloc o).heap.size := fun o => ((Below.refl w1.heap.size w1).alloc (Nat.le_refl _) o).size
  clear ho1 hb1
  go_wp2_with (at_builtin; refine wpList_append_has rfl _ _ 23 rfl w1.heap.size 5 Tryd.underlying23 info_u8 _ [] rfl (own_empty w1 _ _ (Nat.le_refl _)) _ (le4 n) _ rfl (HO1.out.alloc _).has rfl (by simp [le4_len]) (hz2 _) w1 ((Below.refl _ _).alloc (Nat.le_refl _) _) ?_)
  intro v3 w3 ho hb3
  have hz3 := hb3.size
  have HO3 := Lib.hid ho
  have HB3 := Lib.hid hb3
  have hz4 : ∀ o, w3.heap.size ≤ (w3.alloc o).heap.size := fun o => ((Below.refl w3.heap.size w3).alloc (Nat.le_refl _) o).size
  clear ho hb3
  go_wp2_with (at_builtin; refine wpList_append_has rfl _ _ 23 rfl w3.heap.size 5 Tryd.underlying23 info_u8 _ [] rfl (own_empty w3 _ _ (Nat.le_refl _)) _ (le4 n) _ rfl ((HO1.out.below HB3.out).alloc _).has rfl (by simp [le4_len]) (hz4 _) w3 ((Below.refl _ _).alloc (Nat.le_refl _) _) ?_)
  intro v5 w5 ho hb5
  have hz5 := hb5.size
  have HO5 := Lib.hid ho
  have HB5 := Lib.hid hb5
  clear ho hb5
  go_wp2_with (at_builtin; refine wpList_append_hasA rfl _ _ 23 rfl w3.heap.size 5 Tryd.underlying23 info_u8 _ _ rfl HO5.out _ p (le4 n ++ p) rfl (((HP.out.below HB1.out).below HB3.out).below HB5.out) rfl (by have := HNn.out; simp [le4_len]; omega) hz5 w3 HB5.out ?_)
  intro v6 w6 ho hb6
  have hz6 := hb6.size
  have HO6 := Lib.hid ho
  have HB6 := Lib.hid hb6
  clear ho hb6
  go_wp2_with fail
  refine (RefSum_any _ (le4 n ++ p) w6 HO6.out.has.wide).mono ?_
  rintro e w7 ⟨rfl, hw7⟩
  rw [hw7]
  clear hw7 w7
  obtain ⟨s, es⟩ : ∃ s, crcSum (le4 n ++ p) = s := ⟨_, rfl⟩
  have hs : s < 4294967296 := by rw [← es]; exact crcMore_lt _ _
  have HE : Hid (s = fSum p) := Lib.hid (by rw [← es, ← HNn.out, fSum_ref])
  rw [es]
  clear es
  go_wp2_with fail
  refine (Rfour_any s hs w6).mono ?_
  rintro e w8 ⟨v8, rfl, ho8, hb8⟩
  have hz8 := hb8.size
  have HO8 := Lib.hid ho8
  have hb8' : Below w3.heap.size w3 w8 := HB6.out.trans (hb8.mono hz6)
  have HB8 := Lib.hid hb8'
  clear ho8 hb8 hb8'
  go_wp2_with (at_builtin; refine wpList_append_has rfl _ _ 23 rfl w1.heap.size 5 Tryd.underlying23 info_u8 _ _ rfl (HO3.out.below HB8.out) _ (le4 s) _ rfl HO8.out.has rfl (by simp [le4_len]) (by omega) w1 (HB3.out.trans (HB8.out.mono hz3)) ?_)
  intro v9 w9 ho hb9
  have hz9 := hb9.size
  have HO9 := Lib.hid ho
  have HB9 := Lib.hid hb9
  clear ho hb9
  go_wp2_with (at_builtin; refine wpList_append_hasA rfl _ _ 23 rfl w1.heap.size 5 Tryd.underlying23 info_u8 _ _ rfl HO9.out _ p (frameOf p) rfl ((HP.out.below HB1.out).below HB9.out) (by unfold frameOf; rw [HNn.out, HE.out]; simp only [List.append_assoc]) (by have := HNn.out; simp [le4_len]; omega) hz9 w1 HB9.out ?_)
  intro v10 w10 ho hb10
  obtain ⟨p10, c10, hv, _⟩ := ho.has.form
  subst hv
  have HO10 := Lib.hid ho
  have HB10 := Lib.hid hb10
  clear ho hb10
  go_wp2
  go_ret
  exact ⟨_, rfl, HO10.out.mono hz1, HB1.out.trans (HB10.out.mono hz1)⟩
end Go.Proofs.YtbkoejhnlmbciaaDoor
