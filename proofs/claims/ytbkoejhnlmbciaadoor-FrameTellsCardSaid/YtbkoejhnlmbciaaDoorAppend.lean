/-
  Package frame lays a frame; the document's own frame (rolodexref3.Frame).
-/
import Derived.Test.YtbkoejhnlmbciaaDoorFour
import Derived.Test.YtbkoejhnlmbciaaDoorRowsOf
namespace Go.Proofs.YtbkoejhnlmbciaaDoor
open Go.ChangeShapes Go.WideShapes Go.ChangeAt Go.RowKit Go.Deep
set_option linter.unusedVariables false

theorem Nib.below {w w' : World} (h : Nib w) (hb : Below w.heap.size w w') : Nib w' := by
  have h1 : w.var? Tryd.prog "rolodex/crc.nibbles" = w'.var? Tryd.prog "rolodex/crc.nibbles" := by
    have hc := h.at 0 (by omega)
    have hlt : 0 < w.heap.size := by
      rcases Nat.lt_or_ge 0 w.heap.size with h' | h'
      · exact h'
      · simp [World.cell?, Array.getElem?_eq_none h'] at hc
    have := hb.block 0 hlt
    simp only [World.var?, gN, Option.bind_some]
    simp [this]
  unfold Nib Lib.TabIs at *
  rw [← h1]; exact h
theorem four_at (n : Nat) (hn : n < 4294967296) (w : World) :
    Calls Tryd.prog 14 #[.int .u32 (n : Int)] w fun e w' => ∃ a b c d : UInt8, le4 n = [a, b, c, d] ∧ e = .returned (.agg #[.int .u8 (a.toNat : Int), .int .u8 (b.toNat : Int), .int .u8 (c.toNat : Int), .int .u8 (d.toNat : Int)]) ∧ Below w.heap.size w w' :=
  (four_any n hn w).mono fun e w' ⟨he, hb⟩ => ⟨_, _, _, _, rfl, he, hb⟩
theorem has_four {w : World} {g : Nat} {T : TypeId} {f : Nat × Nat} {a b c d : UInt8} (h : w.heap[g]? = some (.cells #[.int .u8 (a.toNat : Int), .int .u8 (b.toNat : Int), .int .u8 (c.toNat : Int), .int .u8 (d.toNat : Int)] T f)) :
    Has w (.slice (some ⟨g, 0, none⟩) 4 4) [a, b, c, d] := by
  refine .inr ⟨g, 0, 4, rfl, Nat.le_refl _, by unfold maxLen; omega, lt_of_block h, fun j hj => ?_⟩
  rw [Nat.zero_add]
  match j, hj with
  | 0, _ => simp [World.cell?, h]
  | 1, _ => simp [World.cell?, h]
  | 2, _ => simp [World.cell?, h]
  | 3, _ => simp [World.cell?, h]

set_option maxRecDepth 100000 in
set_option maxHeartbeats 4000000 in
theorem Append_big (bv : Value) (b : List UInt8) (pv : Value) (p : List UInt8) (w : World) (hb : HasA w bv b) (hp : HasA w pv p) (hbig : 65536 < p.length) :
    Calls Tryd.prog 9 #[bv, pv] w fun e w' => e = .returned (.tuple #[.slice none 0 0, .int .i64 2]) ∧ w' = w := by
  obtain ⟨q, cap, rfl, hc1, hc2⟩ := hp.form
  have hbig' : (65536 : Int) < (p.length : Int) := by omega
  clear hp hb hbig
  go_enter Tryd.func9, Tryd.ntmps9
  go_wp2_with fail
  go_ret2
  exact ⟨rfl, rfl⟩
set_option maxRecDepth 100000 in
set_option maxHeartbeats 4000000 in
theorem Append_any (bv : Value) (b : List UInt8) (pv : Value) (p : List UInt8) (w : World) (hb : HasA w bv b) (hp : HasA w pv p) (hN : Nib w) (hsmall : p.length ≤ 65536) (hlim : b.length ≤ 1099511627776) :
    Calls Tryd.prog 9 #[bv, pv] w fun e w' => ∃ v, e = .returned (.tuple #[v, .int .i64 0]) ∧ Own w' w.heap.size 5 v (b ++ frameOf p) ∧ Below w.heap.size w w' := by
  obtain ⟨q, cap, rfl, hc1, hc2⟩ := hp.form
  obtain ⟨qb, capb, rfl, hd1, hd2⟩ := hb.form
  have hs' : ¬ (65536 : Int) < (p.length : Int) := by omega
  have hmod : (p.length : Int) % 4294967296 = (p.length : Int) := by omega
  have HB := Lib.hid hb
  have HP := Lib.hid hp
  have HN := Lib.hid hN
  have hml : (cap : Int) ≤ 9223372036854775807 := by unfold maxLen at hc2; omega
  have hmlb : (capb : Int) ≤ 9223372036854775807 := by unfold maxLen at hd2; omega
  have H1 := Lib.hid hc2
  have H2 := Lib.hid hd2
  have HL := Lib.hid hlim
  clear hp hb hN hc2 hd2
  generalize hn : p.length = n at *
  have HNn := Lib.hid hn
  clear hn
  go_enter Tryd.func9, Tryd.ntmps9
  go_wp2_with fail
  refine (four_at n (by omega) w).mono ?_
  rintro e w1 ⟨a0, a1, a2, a3, h4, rfl, hb1⟩
  have hw1 := hb1.size
  have HB1 := Lib.hid hb1
  have H4 := Lib.hid h4
  clear hb1 h4
  go_wp2_with fail
  obtain ⟨W2, hW2⟩ : ∃ W2, W2 = w1.alloc (Obj.cells #[.int .u8 (a0.toNat : Int), .int .u8 (a1.toNat : Int), .int .u8 (a2.toNat : Int), .int .u8 (a3.toNat : Int)] 39) := ⟨_, rfl⟩
  rw [← hW2]
  have hb2 : Below w.heap.size w W2 := by rw [hW2]; exact HB1.out.alloc hw1 _
  have hf2 : Has W2 (.slice (some ⟨w1.heap.size, 0, none⟩) 4 4) (le4 n) := by rw [hW2, H4.out]; exact has_four (heap_alloc_new _ _)
  have hw2 := hb2.size
  have HB2 := Lib.hid hb2
  have HF2 := Lib.hid hf2
  have hg2 : w1.heap.size < W2.heap.size := by rw [hW2]; exact lt_of_block (heap_alloc_new _ _)
  clear hW2 hb2 hf2
  refine (Sum_any _ (le4 n) W2 HF2.out.wide (HN.out.below HB2.out)).mono ?_
  rintro e w3 ⟨rfl, hw3⟩
  rw [hw3]
  clear hw3 w3
  obtain ⟨s1, e1⟩ : ∃ s1, crcSum (le4 n) = s1 := ⟨_, rfl⟩
  have hs1 : s1 < 4294967296 := by rw [← e1]; exact crcMore_lt _ _
  have HE1 := Lib.hid e1
  rw [e1]
  clear e1
  go_wp2_with fail
  refine (More_any s1 hs1 _ p W2 (HP.out.below HB2.out) (HN.out.below HB2.out)).mono ?_
  rintro e w4 ⟨rfl, hw4⟩
  rw [hw4]
  clear hw4 w4
  obtain ⟨s2, e2⟩ : ∃ s2, crcMore s1 p = s2 := ⟨_, rfl⟩
  have hs2 : s2 < 4294967296 := by rw [← e2]; exact crcMore_lt _ _
  have HE2 : Hid (s2 = fSum p) := Lib.hid (by rw [← e2, ← HE1.out, ← HNn.out]; rfl)
  rw [e2]
  clear e2
  go_wp2_with fail
  refine (four_at s2 hs2 W2).mono ?_
  rintro e w5 ⟨c0, c1, c2, c3, h5, rfl, hb5⟩
  have hw5 := hb5.size
  have hb5' : Below w.heap.size w w5 := HB2.out.trans (hb5.mono hw2)
  have HF5 := Lib.hid (HF2.out.below hb5)
  have HB5 := Lib.hid hb5'
  have H5 := Lib.hid h5
  clear hb5 h5 hb5'
  obtain ⟨W6, hW6⟩ : ∃ W6, W6 = w5.alloc (Obj.cells #[.int .u8 (c0.toNat : Int), .int .u8 (c1.toNat : Int), .int .u8 (c2.toNat : Int), .int .u8 (c3.toNat : Int)] 39) := ⟨_, rfl⟩
  have HM5 : Hid ((b.length : Int) + 8 + (n : Int) = ((b.length + 8 + n : Nat) : Int)) := Lib.hid (by omega)
  have HB6 : Hid (Below w.heap.size w W6) := Lib.hid (by rw [hW6]; exact HB5.out.alloc (by omega) _)
  have hz6 := HB6.out.size
  have HF6 : Hid (Has W6 (.slice (some ⟨w1.heap.size, 0, none⟩) 4 4) (le4 n)) := Lib.hid (by rw [hW6]; exact HF5.out.below ((Below.refl _ _).alloc (Nat.le_refl _) _))
  have HG6 : Hid (Has W6 (.slice (some ⟨w5.heap.size, 0, none⟩) 4 4) (le4 s2)) := Lib.hid (by rw [hW6, H5.out]; exact has_four (heap_alloc_new _ _))
  have HW6 := Lib.hid hW6
  clear hW6
  go_wp2_with (at_make; refine wpList_make_part rfl _ _ 23 rfl W6.heap.size 5 Tryd.underlying23 info_u8 _ _ _ _ 0 (b.length + 8 + n) rfl rfl rfl HM5.out (by omega) (by have := HL.out; omega) (by rw [HW6.out]; exact Nat.le_refl _) W6 (by rw [HW6.out]; exact Below.refl _ _) ?_)
  intro zs w7 hz ho hb7
  obtain rfl : zs = [] := by
    have h := hz.out
    first | exact h | exact List.eq_nil_of_length_eq_zero h
  have hle7 := hb7.size
  have HO7 := Lib.hid ho
  have HB7 := Lib.hid hb7
  clear hz ho hb7
  go_wp2_with (at_builtin; refine wpList_append_hasA rfl _ _ 23 rfl W6.heap.size 5 Tryd.underlying23 info_u8 _ [] rfl HO7.out _ b b rfl ((HB.out.below HB6.out).below HB7.out) rfl (by have := HL.out; simp; omega) hle7 W6 HB7.out ?_)
  intro v8 w8 ho hb8
  have hle8 := hb8.size
  have HO8 := Lib.hid ho
  have HB8 := Lib.hid hb8
  clear ho hb8
  go_wp2_with (at_builtin; refine wpList_append_has rfl _ _ 23 rfl W6.heap.size 5 Tryd.underlying23 info_u8 _ b rfl HO8.out _ (le4 n) _ rfl (HF6.out.below HB8.out) rfl (by have := HL.out; simp [le4_len]; omega) hle8 W6 HB8.out ?_)
  intro v9 w9 ho hb9
  have hle9 := hb9.size
  have HO9 := Lib.hid ho
  have HB9 := Lib.hid hb9
  clear ho hb9
  go_wp2_with (at_builtin; refine wpList_append_has rfl _ _ 23 rfl W6.heap.size 5 Tryd.underlying23 info_u8 _ _ rfl HO9.out _ (le4 s2) _ rfl (HG6.out.below HB9.out) rfl (by have := HL.out; simp [le4_len]; omega) hle9 W6 HB9.out ?_)
  intro v10 w10 ho hb10
  have hle10 := hb10.size
  have HO10 := Lib.hid ho
  have HB10 := Lib.hid hb10
  clear ho hb10
  go_wp2_with (at_builtin; refine wpList_append_hasA rfl _ _ 23 rfl W6.heap.size 5 Tryd.underlying23 info_u8 _ _ rfl HO10.out _ p (b ++ frameOf p) rfl ((HP.out.below HB6.out).below HB10.out) (by unfold frameOf; rw [HNn.out, HE2.out]; simp only [List.append_assoc]) (by have := HL.out; have := HNn.out; simp [le4_len]; omega) hle10 W6 HB10.out ?_)
  intro v11 w11 ho hb11
  obtain ⟨p11, c11, hv, _⟩ := ho.has.form
  subst hv
  have HO11 := Lib.hid ho
  have HB11 := Lib.hid hb11
  clear ho hb11
  go_wp2
  go_ret2
  exact ⟨_, rfl, HO11.out.mono hz6, HB6.out.trans (HB11.out.mono hz6)⟩
end Go.Proofs.YtbkoejhnlmbciaaDoor
