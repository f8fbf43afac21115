/-
  Package sha: what a hash has taken, padded and told.
-/
import Derived.Test.YtjopfhmloklhdaaDoorAlloc
namespace Go.Proofs.YtjopfhmloklhdaaDoor
open Go.ChangeShapes Go.WideShapes Go.ChangeAt Go.RowKit Go.Deep
set_option linter.unusedVariables false
set_option linter.unusedSimpArgs false

theorem setCells_size (b : Nat) : ∀ (vs : List Value) (o : Nat) (w : World), (w.setCells b o vs).heap.size = w.heap.size
  | [], _, _ => rfl
  | v :: r, o, w => by unfold World.setCells; rw [setCells_size b r (o + 1) _, World.size_setCell]
theorem setCells_other (b k : Nat) (hn : k ≠ b) : ∀ (vs : List Value) (o : Nat) (w : World), (w.setCells b o vs).heap[k]? = w.heap[k]?
  | [], _, _ => rfl
  | v :: r, o, w => by unfold World.setCells; rw [setCells_other b k hn r (o + 1) _]; exact Below.heap_setCell _ _ _ _ hn
theorem there_of {w : World} {g : Nat} {C : Array Value} {t : TypeId} (h : w.heap[g]? = some (.cells C t (0, 0))) (n : Nat) (hn : n ≤ C.size) : w.there g 0 n := fun j hj => by
  rw [Nat.zero_add]
  have h2 : j < C.size := by omega
  exact ⟨by unfold World.cell?; rw [h]; simp [h2], by unfold World.frozen?; rw [h]; simp⟩
/-- The two arrays of the walk. -/
def TwoNew (w : World) (B : Nat) (v3 v4 : Value) (st : Wk) (X : List UInt8) (wz : World) : Prop :=
  ∃ g1 g2 : Nat, v3 = .pointer (some ⟨g1, 0, none⟩) ∧ v4 = .pointer (some ⟨g2, 0, none⟩) ∧ g1 ≠ g2 ∧ B ≤ g1 ∧ B ≤ g2 ∧ WRow8 wz g1 st ∧ BRow wz 48 g2 X ∧ X.length = 64 ∧ Below B w wz
/-- The last block but for its length. -/
structure LastBlock (l : List UInt8) (w1 w3 : World) (g1 g2 : Nat) (st : Wk) (X : List UInt8) (wz : World) : Prop where
  row1 : WRow8 wz g1 st
  row2 : BRow wz 48 g2 X
  len : X.length = 64
  lt : st.Lt
  sha : shaOf l = wordsOut (mixW shaK st (X.take 56 ++ be8 (l.length * 8 % 18446744073709551616)))
  below : Below w1.heap.size w1 wz
  size : w3.heap.size ≤ wz.heap.size
def HasLast (l : List UInt8) (w1 w3 : World) (g1 g2 : Nat) (wz : World) : Prop := ∃ st X, LastBlock l w1 w3 g1 g2 st X wz
/-- A number laid in the last eight bytes, the least first: k bytes of it. -/
def layN (X : List UInt8) (L : Nat) : Nat → List UInt8
  | 0 => X
  | k + 1 => (layN X L k).set (63 - k) (UInt8.ofNat (L / 256 ^ k))
theorem layN_len (X : List UInt8) (L : Nat) : ∀ k, (layN X L k).length = X.length
  | 0 => rfl
  | k + 1 => by rw [layN, List.length_set, layN_len X L k]
theorem layN_all (A : List UInt8) (a b c d e f g h : UInt8) (L : Nat) (hA : A.length = 56) : layN (A ++ [a, b, c, d, e, f, g, h]) L 8 = A ++ be8 L := by
  simp only [layN]
  rw [List.set_append_right _ _ (by omega), List.set_append_right _ _ (by omega), List.set_append_right _ _ (by omega), List.set_append_right _ _ (by omega), List.set_append_right _ _ (by omega), List.set_append_right _ _ (by omega), List.set_append_right _ _ (by omega), List.set_append_right _ _ (by omega), hA]
  simp [be8]
theorem eight_of {X : List UInt8} (h : X.length = 8) : ∃ a b c d e f g i, X = [a, b, c, d, e, f, g, i] := by
  match X, h with
  | [a, b, c, d, e, f, g, i], _ => exact ⟨a, b, c, d, e, f, g, i, rfl⟩
theorem layN_end (X : List UInt8) (L : Nat) (h : X.length = 64) : layN X L 8 = X.take 56 ++ be8 L := by
  obtain ⟨a, b, c, d, e, f, g, i, he⟩ := eight_of (X := X.drop 56) (by rw [List.length_drop, h])
  have hx : X = X.take 56 ++ [a, b, c, d, e, f, g, i] := by rw [← he, List.take_append_drop]
  rw [hx, layN_all _ _ _ _ _ _ _ _ _ _ (by rw [List.length_take, h]; rfl), List.take_left' (by rw [List.length_take, h]; rfl)]
theorem shift_byte (L k : Nat) : ((L : Int) / 2 ^ (8 * k) % 256) = ((UInt8.ofNat (L / 256 ^ k)).toNat : Int) := by
  have e : (2 : Int) ^ (8 * k) = ((256 ^ k : Nat) : Int) := by rw [Int.natCast_pow, Int.pow_mul]; rfl
  rw [e, UInt8.toNat_ofNat', Int.natCast_emod, Int.natCast_ediv]
  rfl
theorem byte_24 (x : Nat) : ((x : Int) / 16777216 % 256) = ((UInt8.ofNat (x / 16777216)).toNat : Int) := by rw [UInt8.toNat_ofNat']; omega
theorem byte_16 (x : Nat) : ((x : Int) / 65536 % 256) = ((UInt8.ofNat (x / 65536)).toNat : Int) := by rw [UInt8.toNat_ofNat']; omega
theorem byte_8 (x : Nat) : ((x : Int) / 256 % 256) = ((UInt8.ofNat (x / 256)).toNat : Int) := by rw [UInt8.toNat_ofNat']; omega
theorem byte_0 (x : Nat) : ((x : Int) % 256) = ((UInt8.ofNat x).toNat : Int) := by rw [UInt8.toNat_ofNat']; omega
def outN (s : Wk) (k : Nat) : List UInt8 := (s.list.take k).flatMap be4 ++ zeros (32 - 4 * k)
theorem outN_len (s : Wk) (k : Nat) (hk : k ≤ 8) : (outN s k).length = 32 := by
  obtain ⟨a, b, c, d, e, f, g, h⟩ := s
  rcases (by omega : k = 0 ∨ k = 1 ∨ k = 2 ∨ k = 3 ∨ k = 4 ∨ k = 5 ∨ k = 6 ∨ k = 7 ∨ k = 8) with rfl | rfl | rfl | rfl | rfl | rfl | rfl | rfl | rfl <;> rfl
theorem outN_step (s : Wk) (k : Nat) (hk : k < 8) : ((((outN s k).set (4 * k) (UInt8.ofNat (s.list.getD k 0 / 16777216))).set (4 * k + 1) (UInt8.ofNat (s.list.getD k 0 / 65536))).set (4 * k + 2) (UInt8.ofNat (s.list.getD k 0 / 256))).set (4 * k + 3) (UInt8.ofNat (s.list.getD k 0)) = outN s (k + 1) := by
  obtain ⟨a, b, c, d, e, f, g, h⟩ := s
  rcases (by omega : k = 0 ∨ k = 1 ∨ k = 2 ∨ k = 3 ∨ k = 4 ∨ k = 5 ∨ k = 6 ∨ k = 7) with rfl | rfl | rfl | rfl | rfl | rfl | rfl | rfl <;> rfl
theorem outN_end (s : Wk) : outN s 8 = wordsOut s := by
  obtain ⟨a, b, c, d, e, f, g, h⟩ := s
  rfl
theorem last_one {l : List UInt8} {st : Wk} {rest : List UInt8} {at_ : Nat} (h : Took l st rest at_) (hs : at_ ≤ 55) : shaOf l = wordsOut (mixW shaK st ((rest.take at_ ++ (128 :: zeros (63 - at_))).take 56 ++ be8 (l.length * 8 % 18446744073709551616))) := by
  rw [h.one (by omega)]
  congr 2
  have hl : (rest.take at_).length = at_ := by rw [List.length_take, h.size]; omega
  rw [List.take_append, hl, (List.take_of_length_le (by omega) : (rest.take at_).take 56 = rest.take at_), List.append_assoc]
  congr 1
  rw [show 56 - at_ = (55 - at_) + 1 by omega, List.take_succ_cons, List.cons_append]
  congr 2
  unfold zeros
  rw [List.take_replicate]
  congr 1
  omega
theorem last_two {l : List UInt8} {st : Wk} {rest : List UInt8} {at_ : Nat} (h : Took l st rest at_) (hs : 55 < at_) : shaOf l = wordsOut (mixW shaK (mixW shaK st (rest.take at_ ++ (128 :: zeros (63 - at_)))) ((zeros 64).take 56 ++ be8 (l.length * 8 % 18446744073709551616))) := by
  rw [h.two (by omega)]
  rfl
set_option maxRecDepth 100000 in
set_option maxHeartbeats 8000000 in
theorem finished_any (w : World) (R : Nat) (h : HashV) (hi : HashIs w R h) (l : List UInt8) (ht : Took l h.st h.rest (l.length % 64)) (hlen : h.len = l.length) (hbd : l.length ≤ 1125899906842624) (hK : Rnd w shaK) (hgl : 1 < w.heap.size) :
    Calls Tryd.prog 26 #[.pointer (some ⟨R, 0, none⟩)] w fun e w' => e = .returned (.agg (Lib.byteCells (shaOf l)).toArray) ∧ Below w.heap.size w w' := by
  have hRl : R < w.heap.size := lt_of_block hi.1
  have hi8 := info8
  have hi64 := info64
  have hy8 : (words h.st.list).toArray.size = 8 := by rw [List.size_toArray, words_len]
  have hy64 : (Lib.byteCells h.rest).toArray.size = 64 := by rw [List.size_toArray, bytes_len, hi.2.1]
  have hj8 : (Tryd.prog.info? 47).map (·.size) = some (words h.st.list).toArray.size := by rw [hy8]; exact hi8
  have hj64 : (Tryd.prog.info? 48).map (·.size) = some (Lib.byteCells h.rest).toArray.size := by rw [hy64]; exact hi64
  have ho8 : (words h.st.list).toArray.all (·.oneCell') = true := all_oneCell_toArray (fun v hv => by
    obtain ⟨x, _, rfl⟩ := List.mem_map.1 hv
    rfl)
  have ho64 : (Lib.byteCells h.rest).toArray.all (·.oneCell') = true := all_oneCell_toArray (Lib.byteCells_one _)
  have hl8 : (Tryd.prog.info? 47).map (·.size) = some (words h.st.list).length := by rw [words_len]; exact hi8
  have hl64 : (Tryd.prog.info? 48).map (·.size) = some (Lib.byteCells h.rest).length := by rw [bytes_len, hi.2.1]; exact hi64
  have HI8 := Lib.hid hj8
  have HI64 := Lib.hid hj64
  have HY8 := Lib.hid hy8
  have HY64 := Lib.hid hy64
  have HO8 := Lib.hid ho8
  have HO64 := Lib.hid ho64
  have HL8 := Lib.hid hl8
  have HL64 := Lib.hid hl64
  have HRL := Lib.hid hi.2.1
  have HT := Lib.hid ht
  have HLEN := Lib.hid hlen
  have HKR := Lib.hid hK
  have HRES := Lib.hid (heap_alloc_new w (.cells (noBytes 32).toArray 23))
  have HBEL := Lib.hid ((Below.refl w.heap.size w).alloc (Nat.le_refl _) (.cells (noBytes 32).toArray 23))
  have hz1 : (w.alloc (.cells (noBytes 32).toArray 23)).heap.size = w.heap.size + 1 := size_alloc1 _ _
  have HI1 := Lib.hid (hi.below HBEL.out)
  clear hi ht hlen hK hi8 hi64 hy8 hy64 hj8 hj64 ho8 ho64 hl8 hl64
  go_enter Tryd.func26, Tryd.ntmps26
  go_wp2_with (refine wpList_alloc_of rfl 23 (noBytes 32).toArray rfl made32 ?_)
  generalize (w.alloc (.cells (noBytes 32).toArray 23)) = w1 at *
  try simp only [Act.put, List.setIfInBounds_toArray, List.set_cons_zero, List.set_cons_succ, List.getElem_toArray, List.getElem_cons_zero, List.getElem_cons_succ]
  go_cut [3, 4] (fun v3 v4 wz => TwoNew w1 w1.heap.size v3 v4 h.st h.rest wz)
  case first =>
    refine wp_region_held_drew (S := fun w' => HashIs w' R h) (by kernel_rfl) HI1.out (fun hHeld => ?_)
    refine wpAnyH_take (i := 0) (oi := _) (v := ?_) rfl (by kernel_rfl) (by kernel_rfl) (by kernel_rfl) (fun _ _ _ h => h) (Or.inl ⟨by rfl, ?hy1⟩) (by assumption) ?_
    case hy1 =>
      intro w9 hSw
      try dsimp only at hSw
      try simp only [List.getElem_toArray, List.getElem_cons_zero, List.getElem_cons_succ]
      go_simp
      try with_reducible rfl
    try simp only [Act.put, List.setIfInBounds_toArray, List.set_cons_zero, List.set_cons_succ, List.getElem_toArray, List.getElem_cons_zero, List.getElem_cons_succ]
    refine wpAnyH_take (i := 1) (oi := _) (v := ?_) rfl (by kernel_rfl) (by kernel_rfl) (by kernel_rfl) (fun _ _ _ h => h) (Or.inl ⟨by rfl, ?hy2⟩) (by assumption) ?_
    case hy2 =>
      intro w9 hSw
      try dsimp only at hSw
      try simp only [List.getElem_toArray, List.getElem_cons_zero, List.getElem_cons_succ]
      go_simp
      try with_reducible rfl
    try simp only [Act.put, List.setIfInBounds_toArray, List.set_cons_zero, List.set_cons_succ, List.getElem_toArray, List.getElem_cons_zero, List.getElem_cons_succ]
    refine wpAnyH_take (i := 2) (oi := _) (v := ?_) rfl (by kernel_rfl) (by kernel_rfl) (by kernel_rfl) (fun _ _ _ h => h) (Or.inl ⟨by rfl, ?hy3⟩) (by assumption) ?_
    case hy3 =>
      intro w9 hSw
      try dsimp only at hSw
      try simp only [List.getElem_toArray, List.getElem_cons_zero, List.getElem_cons_succ]
      go_simp
      try with_reducible rfl
    try simp only [Act.put, List.setIfInBounds_toArray, List.set_cons_zero, List.set_cons_succ, List.getElem_toArray, List.getElem_cons_zero, List.getElem_cons_succ]
    refine wpAnyH_take (i := 3) (oi := _) (v := ?_) rfl (by kernel_rfl) (by kernel_rfl) (by kernel_rfl) (fun _ _ _ h => h) ?hl4 (by assumption) ?_
    case hl4 => refine yieldsIf_load_mid ?_ 47 (.tmp 13) ?_ R 0 ?_ (words h.st.list) _ ?_ Tryd.underlying47 rfl HL8.out <;> first | rfl | exact fun _ hw => HashIs.word hw
    try simp only [Act.put, List.setIfInBounds_toArray, List.set_cons_zero, List.set_cons_succ, List.getElem_toArray, List.getElem_cons_zero, List.getElem_cons_succ]
    refine wpAnyH_take (i := 4) (oi := _) (v := ?_) rfl (by kernel_rfl) (by kernel_rfl) (by kernel_rfl) (fun _ _ _ h => h) (Or.inl ⟨by rfl, ?hy5⟩) (by assumption) ?_
    case hy5 =>
      intro w9 hSw
      try dsimp only at hSw
      try simp only [List.getElem_toArray, List.getElem_cons_zero, List.getElem_cons_succ]
      go_simp
      try with_reducible rfl
    try simp only [Act.put, List.setIfInBounds_toArray, List.set_cons_zero, List.set_cons_succ, List.getElem_toArray, List.getElem_cons_zero, List.getElem_cons_succ]
    refine wpAnyH_take (i := 5) (oi := _) (v := ?_) rfl (by kernel_rfl) (by kernel_rfl) (by kernel_rfl) (fun _ _ _ h => h) (Or.inl ⟨by rfl, ?hy6⟩) (by assumption) ?_
    case hy6 =>
      intro w9 hSw
      try dsimp only at hSw
      try simp only [List.getElem_toArray, List.getElem_cons_zero, List.getElem_cons_succ]
      go_simp
      try with_reducible rfl
    try simp only [Act.put, List.setIfInBounds_toArray, List.set_cons_zero, List.set_cons_succ, List.getElem_toArray, List.getElem_cons_zero, List.getElem_cons_succ]
    refine wpAnyH_take (i := 6) (oi := _) (v := ?_) rfl (by kernel_rfl) (by kernel_rfl) (by kernel_rfl) (fun _ _ _ h => h) (Or.inl ⟨by rfl, ?hy7⟩) (by assumption) ?_
    case hy7 =>
      intro w9 hSw
      try dsimp only at hSw
      try simp only [List.getElem_toArray, List.getElem_cons_zero, List.getElem_cons_succ]
      go_simp
      try with_reducible rfl
    try simp only [Act.put, List.setIfInBounds_toArray, List.set_cons_zero, List.set_cons_succ, List.getElem_toArray, List.getElem_cons_zero, List.getElem_cons_succ]
    refine wpAnyH_take (i := 7) (oi := _) (v := ?_) rfl (by kernel_rfl) (by kernel_rfl) (by kernel_rfl) (fun _ _ _ h => h) ?hl8 (by assumption) ?_
    case hl8 => refine yieldsIf_load_mid ?_ 48 (.tmp 17) ?_ R 8 ?_ (Lib.byteCells h.rest) _ ?_ Tryd.underlying48 rfl HL64.out <;> first | rfl | exact fun _ hw => HashIs.byte hw
    try simp only [Act.put, List.setIfInBounds_toArray, List.set_cons_zero, List.set_cons_succ, List.getElem_toArray, List.getElem_cons_zero, List.getElem_cons_succ]
    have hlv : Below w1.heap.size w1 w1.drew := (Below.refl _ _).drew
    have hzv : w1.drew.heap.size = w1.heap.size + 0 := rfl
    generalize w1.drew = v at *
    refine wpAnyH_ready (rs := [8, 9]) (by kernel_rfl) (by simp) (AllReadyH.cons (o := _) rfl (fun K hK => ?_) (AllReadyH.cons (o := _) rfl (fun K hK => ?_) AllReadyH.nil))
    · rw [if_pos (by rfl)]
      refine wp_alloc_of 47 noWords.toArray (by rfl) made8 ?_
      have hlv8 : Below w1.heap.size w1 (v.alloc (.cells noWords.toArray 47)) := hlv.alloc (by omega) _
      have hzv8 : (v.alloc (.cells noWords.toArray 47)).heap.size = w1.heap.size + 1 := by rw [size_alloc1]; omega
      have hnv8 : (v.alloc (.cells noWords.toArray 47)).heap[w1.heap.size + 0]? = some (.cells noWords.toArray 47 (0, 0)) := by have q := heap_alloc_new v (.cells noWords.toArray 47); rw [show v.heap.size = w1.heap.size + 0 by omega] at q; exact q
      have hav8 := hnv8
      rw [show v.heap.size = w1.heap.size + 0 by omega]
      have hsv8 := HI1.out.below hlv8
      generalize (v.alloc (.cells noWords.toArray 47)) = v8 at *
      refine hK.out _ _ hsv8 (fun hHeld => ?_)
      clear hK K
      try simp only [Act.put, List.setIfInBounds_toArray, List.set_cons_zero, List.set_cons_succ, List.getElem_toArray, List.getElem_cons_zero, List.getElem_cons_succ]
      refine wpAnyH_ready (rs := [9]) (by kernel_rfl) (by simp) (AllReadyH.cons (o := _) rfl (fun K hK => ?_) AllReadyH.nil)
      · rw [if_pos (by rfl)]
        refine wp_alloc_of 48 (noBytes 64).toArray (by rfl) made64 ?_
        have hlv89 : Below w1.heap.size w1 (v8.alloc (.cells (noBytes 64).toArray 48)) := hlv8.alloc (by omega) _
        have hzv89 : (v8.alloc (.cells (noBytes 64).toArray 48)).heap.size = w1.heap.size + 2 := by rw [size_alloc1]; omega
        have hnv89 : (v8.alloc (.cells (noBytes 64).toArray 48)).heap[w1.heap.size + 1]? = some (.cells (noBytes 64).toArray 48 (0, 0)) := by have q := heap_alloc_new v8 (.cells (noBytes 64).toArray 48); rw [show v8.heap.size = w1.heap.size + 1 by omega] at q; exact q
        have hav89 := ((Below.refl v8.heap.size v8).alloc (Nat.le_refl _) (.cells (noBytes 64).toArray 48)).block (w1.heap.size + 0) (by omega) |>.trans hav8
        have hbv89 := hnv89
        rw [show v8.heap.size = w1.heap.size + 1 by omega]
        have hsv89 := HI1.out.below hlv89
        generalize (v8.alloc (.cells (noBytes 64).toArray 48)) = v89 at *
        refine hK.out _ _ hsv89 (fun hHeld => ?_)
        clear hK K
        try simp only [Act.put, List.setIfInBounds_toArray, List.set_cons_zero, List.set_cons_succ, List.getElem_toArray, List.getElem_cons_zero, List.getElem_cons_succ]
        refine wpAnyH_ready (rs := [10]) (by kernel_rfl) (by simp) (AllReadyH.cons (o := _) rfl (fun K hK => ?_) AllReadyH.nil)
        · rw [if_pos (by rfl)]
          refine wp_store_mid 47 (.tmp 3) (.tmp 14) (by rfl) (w1.heap.size + 0) 0 (words h.st.list).toArray (by rfl) (by rfl) (there_of hav89 _ (by rw [HY8.out]; exact Nat.le_refl _)) HI8.out HO8.out ?_
          have hlv8910 : Below w1.heap.size w1 (v89.setCells (w1.heap.size + 0) 0 (words h.st.list).toArray.toList) := below_setCellsC (by omega) _ _ _ hlv89
          have hzv8910 : (v89.setCells (w1.heap.size + 0) 0 (words h.st.list).toArray.toList).heap.size = w1.heap.size + 2 := by rw [setCells_size]; omega
          have hav8910 := heap_setCells_whole (ws := (words h.st.list).toArray) hav89 (by rw [HY8.out]; rfl)
          have hbv8910 := (setCells_other (w1.heap.size + 0) (w1.heap.size + 1) (by omega) (words h.st.list).toArray.toList 0 v89).trans hbv89
          have hsv8910 := HI1.out.below hlv8910
          generalize (v89.setCells (w1.heap.size + 0) 0 (words h.st.list).toArray.toList) = v8910 at *
          refine hK.out _ _ hsv8910 (fun hHeld => ?_)
          clear hK K
          try simp only [Act.put, List.setIfInBounds_toArray, List.set_cons_zero, List.set_cons_succ, List.getElem_toArray, List.getElem_cons_zero, List.getElem_cons_succ]
          refine wpAnyH_ready (rs := [11]) (by kernel_rfl) (by simp) (AllReadyH.cons (o := _) rfl (fun K hK => ?_) AllReadyH.nil)
          · rw [if_pos (by rfl)]
            refine wp_store_mid 48 (.tmp 4) (.tmp 18) (by rfl) (w1.heap.size + 1) 0 (Lib.byteCells h.rest).toArray (by rfl) (by rfl) (there_of hbv8910 _ (by rw [HY64.out]; decide)) HI64.out HO64.out ?_
            have hlv891011 : Below w1.heap.size w1 (v8910.setCells (w1.heap.size + 1) 0 (Lib.byteCells h.rest).toArray.toList) := below_setCellsC (by omega) _ _ _ hlv8910
            have hzv891011 : (v8910.setCells (w1.heap.size + 1) 0 (Lib.byteCells h.rest).toArray.toList).heap.size = w1.heap.size + 2 := by rw [setCells_size]; omega
            have hbv891011 := heap_setCells_whole (ws := (Lib.byteCells h.rest).toArray) hbv8910 (by rw [HY64.out]; rfl)
            have hav891011 := (setCells_other (w1.heap.size + 1) (w1.heap.size + 0) (by omega) (Lib.byteCells h.rest).toArray.toList 0 v8910).trans hav8910
            have hsv891011 := HI1.out.below hlv891011
            generalize (v8910.setCells (w1.heap.size + 1) 0 (Lib.byteCells h.rest).toArray.toList) = v891011 at *
            refine hK.out _ _ hsv891011 (fun hHeld => ?_)
            clear hK K
            try simp only [Act.put, List.setIfInBounds_toArray, List.set_cons_zero, List.set_cons_succ, List.getElem_toArray, List.getElem_cons_zero, List.getElem_cons_succ]
            refine wpAnyH_done (by kernel_rfl) ?_ _
            go_wp2
            go_meet
            exact ⟨(w1.heap.size + 0), (w1.heap.size + 1), rfl, rfl, by omega, by omega, by omega, hav891011, hbv891011, HRL.out, hlv891011⟩
    · rw [if_pos (by rfl)]
      refine wp_alloc_of 48 (noBytes 64).toArray (by rfl) made64 ?_
      have hlv9 : Below w1.heap.size w1 (v.alloc (.cells (noBytes 64).toArray 48)) := hlv.alloc (by omega) _
      have hzv9 : (v.alloc (.cells (noBytes 64).toArray 48)).heap.size = w1.heap.size + 1 := by rw [size_alloc1]; omega
      have hnv9 : (v.alloc (.cells (noBytes 64).toArray 48)).heap[w1.heap.size + 0]? = some (.cells (noBytes 64).toArray 48 (0, 0)) := by have q := heap_alloc_new v (.cells (noBytes 64).toArray 48); rw [show v.heap.size = w1.heap.size + 0 by omega] at q; exact q
      have hbv9 := hnv9
      rw [show v.heap.size = w1.heap.size + 0 by omega]
      have hsv9 := HI1.out.below hlv9
      generalize (v.alloc (.cells (noBytes 64).toArray 48)) = v9 at *
      refine hK.out _ _ hsv9 (fun hHeld => ?_)
      clear hK K
      try simp only [Act.put, List.setIfInBounds_toArray, List.set_cons_zero, List.set_cons_succ, List.getElem_toArray, List.getElem_cons_zero, List.getElem_cons_succ]
      refine wpAnyH_ready (rs := [8]) (by kernel_rfl) (by simp) (AllReadyH.cons (o := _) rfl (fun K hK => ?_) AllReadyH.nil)
      · rw [if_pos (by rfl)]
        refine wp_alloc_of 47 noWords.toArray (by rfl) made8 ?_
        have hlv98 : Below w1.heap.size w1 (v9.alloc (.cells noWords.toArray 47)) := hlv9.alloc (by omega) _
        have hzv98 : (v9.alloc (.cells noWords.toArray 47)).heap.size = w1.heap.size + 2 := by rw [size_alloc1]; omega
        have hnv98 : (v9.alloc (.cells noWords.toArray 47)).heap[w1.heap.size + 1]? = some (.cells noWords.toArray 47 (0, 0)) := by have q := heap_alloc_new v9 (.cells noWords.toArray 47); rw [show v9.heap.size = w1.heap.size + 1 by omega] at q; exact q
        have hbv98 := ((Below.refl v9.heap.size v9).alloc (Nat.le_refl _) (.cells noWords.toArray 47)).block (w1.heap.size + 0) (by omega) |>.trans hbv9
        have hav98 := hnv98
        rw [show v9.heap.size = w1.heap.size + 1 by omega]
        have hsv98 := HI1.out.below hlv98
        generalize (v9.alloc (.cells noWords.toArray 47)) = v98 at *
        refine hK.out _ _ hsv98 (fun hHeld => ?_)
        clear hK K
        try simp only [Act.put, List.setIfInBounds_toArray, List.set_cons_zero, List.set_cons_succ, List.getElem_toArray, List.getElem_cons_zero, List.getElem_cons_succ]
        refine wpAnyH_ready (rs := [10]) (by kernel_rfl) (by simp) (AllReadyH.cons (o := _) rfl (fun K hK => ?_) AllReadyH.nil)
        · rw [if_pos (by rfl)]
          refine wp_store_mid 47 (.tmp 3) (.tmp 14) (by rfl) (w1.heap.size + 1) 0 (words h.st.list).toArray (by rfl) (by rfl) (there_of hav98 _ (by rw [HY8.out]; exact Nat.le_refl _)) HI8.out HO8.out ?_
          have hlv9810 : Below w1.heap.size w1 (v98.setCells (w1.heap.size + 1) 0 (words h.st.list).toArray.toList) := below_setCellsC (by omega) _ _ _ hlv98
          have hzv9810 : (v98.setCells (w1.heap.size + 1) 0 (words h.st.list).toArray.toList).heap.size = w1.heap.size + 2 := by rw [setCells_size]; omega
          have hav9810 := heap_setCells_whole (ws := (words h.st.list).toArray) hav98 (by rw [HY8.out]; rfl)
          have hbv9810 := (setCells_other (w1.heap.size + 1) (w1.heap.size + 0) (by omega) (words h.st.list).toArray.toList 0 v98).trans hbv98
          have hsv9810 := HI1.out.below hlv9810
          generalize (v98.setCells (w1.heap.size + 1) 0 (words h.st.list).toArray.toList) = v9810 at *
          refine hK.out _ _ hsv9810 (fun hHeld => ?_)
          clear hK K
          try simp only [Act.put, List.setIfInBounds_toArray, List.set_cons_zero, List.set_cons_succ, List.getElem_toArray, List.getElem_cons_zero, List.getElem_cons_succ]
          refine wpAnyH_ready (rs := [11]) (by kernel_rfl) (by simp) (AllReadyH.cons (o := _) rfl (fun K hK => ?_) AllReadyH.nil)
          · rw [if_pos (by rfl)]
            refine wp_store_mid 48 (.tmp 4) (.tmp 18) (by rfl) (w1.heap.size + 0) 0 (Lib.byteCells h.rest).toArray (by rfl) (by rfl) (there_of hbv9810 _ (by rw [HY64.out]; decide)) HI64.out HO64.out ?_
            have hlv981011 : Below w1.heap.size w1 (v9810.setCells (w1.heap.size + 0) 0 (Lib.byteCells h.rest).toArray.toList) := below_setCellsC (by omega) _ _ _ hlv9810
            have hzv981011 : (v9810.setCells (w1.heap.size + 0) 0 (Lib.byteCells h.rest).toArray.toList).heap.size = w1.heap.size + 2 := by rw [setCells_size]; omega
            have hbv981011 := heap_setCells_whole (ws := (Lib.byteCells h.rest).toArray) hbv9810 (by rw [HY64.out]; rfl)
            have hav981011 := (setCells_other (w1.heap.size + 0) (w1.heap.size + 1) (by omega) (Lib.byteCells h.rest).toArray.toList 0 v9810).trans hav9810
            have hsv981011 := HI1.out.below hlv981011
            generalize (v9810.setCells (w1.heap.size + 0) 0 (Lib.byteCells h.rest).toArray.toList) = v981011 at *
            refine hK.out _ _ hsv981011 (fun hHeld => ?_)
            clear hK K
            try simp only [Act.put, List.setIfInBounds_toArray, List.set_cons_zero, List.set_cons_succ, List.getElem_toArray, List.getElem_cons_zero, List.getElem_cons_succ]
            refine wpAnyH_done (by kernel_rfl) ?_ _
            go_wp2
            go_meet
            exact ⟨(w1.heap.size + 1), (w1.heap.size + 0), rfl, rfl, by omega, by omega, by omega, hav981011, hbv981011, HRL.out, hlv981011⟩
  case rest =>
    obtain ⟨g1, g2, rfl, rfl, hg12, hB1, hB2, hr1, hr2, hX, hb1⟩ := hcut
    have hat := HT.out.lt
    have hat0 : 0 ≤ l.length % 64 := Nat.zero_le _
    have hz2 := hb1.size
    have hiw := HI1.out.below hb1
    have c72 := hiw.len
    rw [HLEN.out] at c72
    obtain ⟨n, hn⟩ : ∃ n, l.length = n := ⟨_, rfl⟩
    obtain ⟨at_, hat_⟩ : ∃ a, n % 64 = a := ⟨_, rfl⟩
    rw [hn] at hat hbd c72
    rw [hat_] at hat
    have hmod : ((n : Int) % 64) = (at_ : Int) := by omega
    have cat := hr2.cell at_ (by omega)
    have fat := hr2.free at_
    have hset := hr2.set at_ 128
    have hse1 : WRow8 (wc.setCell ⟨g2, at_, none⟩ (.int .u8 128)) g1 h.st := (Below.heap_setCell _ _ _ _ hg12).trans hr1
    have hsb : Below w1.heap.size w1 (wc.setCell ⟨g2, at_, none⟩ (.int .u8 128)) := hb1.setCell hB2 _
    have HN := Lib.hid hn
    have HAT := Lib.hid hat_
    have HX := Lib.hid hX
    have HSET : Hid (BRow (wc.setCell ⟨g2, at_, none⟩ (.int .u8 128)) 48 g2 (h.rest.set at_ 128)) := Lib.hid hset
    have HSE1 := Lib.hid hse1
    have HSB := Lib.hid hsb
    have hati : (0 : Int) ≤ (at_ : Int) ∧ (at_ : Int) < 64 := by omega
    clear hr1 hr2 hb1 hiw hat0 hn hat_ hX hset hse1 hsb
    go_upto_region 3 with fail
    simp only [hmod]
    clear hmod c72
    go_upto_region 4 with fail
    generalize (wc.setCell ⟨g2, at_, none⟩ (.int .u8 128)) = w3 at *
    clear cat fat
    have hsl3 : (h.rest.set at_ 128).length = 64 := by rw [List.length_set]; exact HX.out
    have htk : (h.rest.set at_ 128).take (at_ + 1) = h.rest.take at_ ++ [128] := by
      have := HX.out
      rw [List.take_succ_eq_append_getElem (by rw [hsl3]; omega), List.take_set, List.getElem_set_self, List.set_eq_of_length_le (by rw [List.length_take]; omega)]
    go_cut [5] (fun v5 wz => v5 = .int .i64 (at_ : Int) ∧ WRow8 wz g1 h.st ∧ BRow wz 48 g2 (h.rest.take at_ ++ (128 :: zeros (63 - at_))) ∧ Below w1.heap.size w1 wz ∧ w3.heap.size ≤ wz.heap.size)
    case first =>
      rcases Nat.lt_or_ge at_ 63 with h63 | h63
      · have hcl : ∀ ty, (Builtin.clear_ #[31] ty #[.slice (some ⟨g2, at_ + 1, none⟩) (64 - (at_ + 1)) (64 - (at_ + 1))]).run Tryd.prog w3 = .ok (.tuple #[]) (w3.setCells g2 (at_ + 1) (List.replicate (64 - (at_ + 1)) (.int .u8 0))) := fun ty =>
          run_clear_bytes w3 ty g2 (at_ + 1) (64 - (at_ + 1)) (64 - (at_ + 1)) (by omega) (fun j hj => by rw [HSET.out.cell (at_ + 1 + j) (by omega)]; rfl) (fun j hj => HSET.out.free _)
        have hc2 := HSET.out.clear (at_ + 1) (64 - (at_ + 1)) (by omega)
        have hc1 : WRow8 (w3.setCells g2 (at_ + 1) (List.replicate (64 - (at_ + 1)) (.int .u8 0))) g1 h.st := (setCells_other g2 g1 hg12 _ _ _).trans HSE1.out
        have hcb : Below w1.heap.size w1 (w3.setCells g2 (at_ + 1) (List.replicate (64 - (at_ + 1)) (.int .u8 0))) := below_setCellsC hB2 _ _ _ HSB.out
        have hcz : w3.heap.size ≤ (w3.setCells g2 (at_ + 1) (List.replicate (64 - (at_ + 1)) (.int .u8 0))).heap.size := by rw [setCells_size]; exact Nat.le_refl _
        rw [htk, List.drop_eq_nil_of_le (by omega), List.append_nil, List.append_assoc, show 64 - (at_ + 1) = 63 - at_ by omega] at hc2
        rw [show 64 - (at_ + 1) = 63 - at_ by omega] at hcl hc1 hcb hcz
        have HC2 := Lib.hid hc2
        have HC1 := Lib.hid hc1
        have HCB := Lib.hid hcb
        have HCZ := Lib.hid hcz
        have hs1 : ∀ W, (Instr.sliceAt 48 (.pointer (some ⟨g2, 0, none⟩)) (some (.int .i64 ((at_ : Int) + 1))) none none).run Tryd.prog W = .ok (.slice (some ⟨g2, at_ + 1, none⟩) (63 - at_) (63 - at_)) W := fun W => by
          rw [run_part64 g2 (at_ + 1) _ (by omega) (by omega) W, if_neg (by omega), show 64 - (at_ + 1) = 63 - at_ by omega]
        generalize w3.setCells g2 (at_ + 1) (List.replicate (63 - at_) (.int .u8 0)) = w4 at *
        clear hc1 hc2 hcb hcz hsl3 htk
        go_wp2
        go_meet
        exact ⟨rfl, HC1.out, HC2.out, HCB.out, HCZ.out⟩
      · obtain rfl : at_ = 63 := by omega
        have hs1 : ∀ W, (Instr.sliceAt 48 (.pointer (some ⟨g2, 0, none⟩)) (some (.int .i64 64)) none none).run Tryd.prog W = .ok (.slice (some ⟨g2, 0, none⟩) 0 0) W := fun W => by
          rw [run_part64 g2 64 _ (by omega) (by omega) W, if_pos rfl]
        have hcl : ∀ ty, (Builtin.clear_ #[31] ty #[.slice (some ⟨g2, 0, none⟩) 0 0]).run Tryd.prog w3 = .ok (.tuple #[]) w3 := fun ty => run_clear_none w3 _ 5 ty Tryd.underlying31 _ _
        rw [List.take_of_length_le (by rw [hsl3]; exact Nat.le_refl _)] at htk
        have HTK := Lib.hid htk
        clear hsl3 htk
        go_wp2
        go_meet
        refine ⟨rfl, HSE1.out, ?_, HSB.out, Nat.le_refl _⟩
        have q := HSET.out
        rw [HTK.out] at q
        exact q
    case rest =>
      obtain ⟨rfl, hr1, hr2, hb1, hz3⟩ := hcut
      obtain ⟨X, hXe⟩ : ∃ X, h.rest.take at_ ++ (128 :: zeros (63 - at_)) = X := ⟨_, rfl⟩
      rw [hXe] at hr2
      have HXE := Lib.hid hXe
      have hxl : X.length = 64 := by
        have := HX.out
        rw [← hXe]
        simp only [List.length_append, List.length_cons, List.length_take, zeros, List.length_replicate]
        omega
      have HXL := Lib.hid hxl
      have HR1 := Lib.hid hr1
      have HR2 := Lib.hid hr2
      have HB1 := Lib.hid hb1
      clear hXe hxl hr1 hr2 hb1 hsl3 htk
      go_upto_if 31 with fail
      go_cut [5] (fun v5 wz => v5 = .int .i64 (at_ : Int) ∧ HasLast l w1 w3 g1 g2 wz)
      case first =>
        have htk : Took l h.st h.rest at_ := by have q := HT.out; rw [HN.out, HAT.out] at q; exact q
        rcases Nat.lt_or_ge 55 at_ with h55 | h55
        · have h55' : (56 : Int) < (at_ : Int) + 1 := by omega
          have HSTL := Lib.hid htk.st_lt
          have hla := last_two htk h55
          rw [HXE.out] at hla
          have HLA := Lib.hid hla
          obtain ⟨st2, hst2⟩ : ∃ s, mixW shaK h.st X = s := ⟨_, rfl⟩
          have hst2l : st2.Lt := by rw [← hst2]; exact mixW_lt _ _ _
          have HST2 := Lib.hid hst2
          have HST2L := Lib.hid hst2l
          have hblk := HR2.out.blk HXL.out
          have HBLK := Lib.hid hblk
          have hz8 := HB1.out.size
          have hz9 : w.heap.size ≤ wc.heap.size := by omega
          have hkw : Rnd wc shaK := fun i hi => ((HBEL.out.trans (HB1.out.mono (by omega))).cell (p := ⟨1, i, none⟩) hgl).trans (HKR.out i hi)
          have hg2l := HR2.out.lt
          have HKW := Lib.hid hkw
          clear htk hla hst2 hst2l hblk hkw
          go_wp2_with (first | (refine wpList_load_mid rfl 47 (.tmp 3) rfl g1 0 rfl (words h.st.list) _ HR1.out.range Tryd.underlying47 rfl HL8.out ?_))
          refine (mixed_any wc shaK h.st HSTL.out g2 0 X hg2l HBLK.out HKW.out shaK_lt (by omega)).mono ?_
          rw [HST2.out]
          rintro e w5 ⟨rfl, hb5⟩
          have hm8 : (Tryd.prog.info? 47).map (·.size) = some (words st2.list).toArray.size := by rw [List.size_toArray, words_len]; exact info8
          have hmo : (words st2.list).toArray.all (·.oneCell') = true := all_oneCell_toArray (fun v hv => by
            obtain ⟨x, _, rfl⟩ := List.mem_map.1 hv
            rfl)
          have HM8 := Lib.hid hm8
          have HMO := Lib.hid hmo
          have h51 := HR1.out.below hb5 HR1.out.lt
          have h52 := HR2.out.below hb5 HR2.out.lt
          have h5w : WRow8 (w5.setCells g1 0 (words st2.list).toArray.toList) g1 st2 := heap_setCells_whole (ws := (words st2.list).toArray) h51 (by rw [List.size_toArray, List.size_toArray, words_len, words_len])
          have h5x : BRow (w5.setCells g1 0 (words st2.list).toArray.toList) 48 g2 X := (setCells_other g1 g2 (by omega) _ 0 _).trans h52
          have hzb := hb5.size
          have h5b : Below w1.heap.size w1 (w5.setCells g1 0 (words st2.list).toArray.toList) := below_setCellsC hB1 _ _ _ (HB1.out.trans (hb5.mono (by omega)))
          have h5z : w3.heap.size ≤ (w5.setCells g1 0 (words st2.list).toArray.toList).heap.size := by rw [setCells_size]; omega
          have HT1 := Lib.hid (h51.there _ (Nat.le_of_eq (show (words st2.list).toArray.size = 8 by rw [List.size_toArray, words_len])))
          have H5W := Lib.hid h5w
          have H5X := Lib.hid h5x
          have H5B := Lib.hid h5b
          have H5Z := Lib.hid h5z
          clear hb5 hm8 hmo h51 h52 h5w h5x h5b h5z
          go_upto_region 7 with (refine wpList_store_mid rfl 47 (.tmp 3) (.tmp 33) rfl g1 0 (words st2.list).toArray rfl rfl HT1.out HM8.out HMO.out ?_)
          generalize w5.setCells g1 0 (words st2.list).toArray.toList = w6 at *
          have hcl : ∀ ty, (Builtin.clear_ #[31] ty #[.slice (some ⟨g2, 0, none⟩) 64 64]).run Tryd.prog w6 = .ok (.tuple #[]) (w6.setCells g2 0 (List.replicate 64 (.int .u8 0))) := fun ty =>
            run_clear_bytes w6 ty g2 0 64 64 (by omega) (fun j hj => by rw [Nat.zero_add, H5X.out.cell j (by rw [HXL.out]; exact hj)]; rfl) (fun j hj => H5X.out.free _)
          have hc2 := H5X.out.clear 0 64 (by rw [HXL.out]; exact Nat.le_refl _)
          rw [List.take_zero, List.nil_append, List.drop_eq_nil_of_le (by rw [HXL.out]; exact Nat.le_refl _), List.append_nil] at hc2
          have hc1 : WRow8 (w6.setCells g2 0 (List.replicate 64 (.int .u8 0))) g1 st2 := (setCells_other g2 g1 hg12 _ _ _).trans H5W.out
          have hcb : Below w1.heap.size w1 (w6.setCells g2 0 (List.replicate 64 (.int .u8 0))) := below_setCellsC hB2 _ _ _ H5B.out
          have hcz : w3.heap.size ≤ (w6.setCells g2 0 (List.replicate 64 (.int .u8 0))).heap.size := by rw [setCells_size]; exact H5Z.out
          have hs1 : ∀ W, (Instr.sliceAt 48 (.pointer (some ⟨g2, 0, none⟩)) none none none).run Tryd.prog W = .ok (.slice (some ⟨g2, 0, none⟩) 64 64) W := fun W => run_all64 g2 W
          have HC2 := Lib.hid hc2
          have HC1 := Lib.hid hc1
          have HCB := Lib.hid hcb
          have HCZ := Lib.hid hcz
          generalize w6.setCells g2 0 (List.replicate 64 (.int .u8 0)) = w7 at *
          clear hc1 hc2 hcb hcz
          go_wp2
          go_meet
          exact ⟨rfl, st2, zeros 64, HC1.out, HC2.out, rfl, HST2L.out, by rw [← HST2.out]; exact HLA.out, HCB.out, HCZ.out⟩
        · have h55' : ¬ (56 : Int) < (at_ : Int) + 1 := by omega
          have hla := last_one htk h55
          rw [HXE.out] at hla
          have HLA := Lib.hid hla
          have HTL := Lib.hid htk.st_lt
          clear htk hla
          go_wp2
          go_meet
          exact ⟨rfl, h.st, X, HR1.out, HR2.out, HXL.out, HTL.out, HLA.out, HB1.out, hz3⟩
      case rest =>
        obtain ⟨rfl, st, X2, hlb⟩ := hcut
        have c72 := (HI1.out.below hlb.below).len
        rw [HLEN.out, HN.out] at c72
        obtain ⟨L, hL⟩ : ∃ L, n * 8 = L := ⟨_, rfl⟩
        have hLI : (n : Int) * 8 = (L : Int) := by omega
        have hLb : L ≤ 9007199254740992 := by omega
        have hsh := hlb.sha
        rw [HN.out, hL, Nat.mod_eq_of_lt (by omega)] at hsh
        have HSH := Lib.hid hsh
        have HLB := Lib.hid hlb
        clear hsh hlb hL hz3
        go_upto_region 9 with fail
        try simp only [hLI]
        clear hLI c72
        go_wp2_with fail
        go_loopw [7, 41] (fun v7 v41 wr => ∃ k : Nat, v41 = .int .i64 k ∧ k ≤ 8 ∧ BRow wr 48 g2 (layN X2 L k) ∧ WRow8 wr g1 st ∧ Below w1.heap.size w1 wr) (fun _ v41 _ => 8 - (intOf v41).toNat)
        case atStart => exact ⟨0, rfl, Nat.zero_le _, HLB.out.row2, HLB.out.row1, HLB.out.below⟩
        case round =>
          obtain ⟨k, rfl, hk, hr2, hr1, hb⟩ := hrel
          have hxl : (layN X2 L k).length = 64 := by rw [layN_len, HLB.out.len]
          rcases Nat.lt_or_ge k 8 with hlt | hge
          · have hlt' : (k : Int) < 8 := by omega
            have hk0 : (0 : Int) ≤ (k : Int) := by omega
            have ck := hr2.cell (63 - k) (by omega)
            have fk := hr2.free (63 - k)
            have h63 : (63 : Int) - (k : Int) = ((63 - k : Nat) : Int) := by omega
            have hb63 : 63 - k < 64 := by omega
            have HR2 := Lib.hid hr2
            have HR1 := Lib.hid hr1
            have HB := Lib.hid hb
            clear hr2 hr1 hb
            have hset := HR2.out.set (63 - k) (UInt8.ofNat (L / 256 ^ k))
            rw [← shift_byte] at hset
            have HSET := Lib.hid hset
            clear hset
            go_wp2
            go_roundw
            case rel => exact ⟨k + 1, by go_num, hlt, HSET.out, (Below.heap_setCell _ _ _ _ hg12).trans HR1.out, HB.out.setCell hB2 _⟩
            case measure => simp [intOf]; omega
          · obtain rfl : k = 8 := by omega
            have hX8 : layN X2 L 8 = X2.take 56 ++ be8 L := layN_end X2 L HLB.out.len
            rw [← hX8] at HSH
            generalize layN X2 L 8 = X8 at *
            have HXL8 := Lib.hid hxl
            obtain ⟨st3, hst3⟩ : ∃ s, mixW shaK st X8 = s := ⟨_, rfl⟩
            have hsh := HSH.out
            rw [hst3] at hsh
            have HS3 := Lib.hid hst3
            have HFIN := Lib.hid hsh
            have HSTL := Lib.hid HLB.out.lt
            have hblk := hr2.blk hxl
            have HBLK := Lib.hid hblk
            have hz8 := hb.size
            have hkw : Rnd wr shaK := fun i hi => ((HBEL.out.trans (hb.mono (by omega))).cell (p := ⟨1, i, none⟩) hgl).trans (HKR.out i hi)
            have HKW := Lib.hid hkw
            have hl8s : (Tryd.prog.info? 47).map (·.size) = some (words st.list).length := by rw [words_len]; exact info8
            have HL8S := Lib.hid hl8s
            have hl8t : (Tryd.prog.info? 47).map (·.size) = some (words st3.list).length := by rw [words_len]; exact info8
            have HL8T := Lib.hid hl8t
            have HR2 := Lib.hid hr2
            have HR1 := Lib.hid hr1
            have HB := Lib.hid hb
            have hg2l := hr2.lt
            have h8 : ¬ ((8 : Nat) : Int) < 8 := by decide
            clear hX8 hsh hst3 hblk hkw hr2 hr1 hb hl8s hl8t hxl
            go_wp2_with (first | (refine wpList_load_mid rfl 47 (.tmp 3) rfl g1 0 rfl (words st.list) _ HR1.out.range Tryd.underlying47 rfl HL8S.out ?_))
            refine (mixed_any wr shaK st HSTL.out g2 0 X8 hg2l HBLK.out HKW.out shaK_lt (by omega)).mono ?_
            rw [HS3.out]
            rintro e w5 ⟨rfl, hb5⟩
            have hm8 : (Tryd.prog.info? 47).map (·.size) = some (words st3.list).toArray.size := by rw [List.size_toArray, words_len]; exact info8
            have hmo : (words st3.list).toArray.all (·.oneCell') = true := all_oneCell_toArray (fun v hv => by
              obtain ⟨x, _, rfl⟩ := List.mem_map.1 hv
              rfl)
            have HM8 := Lib.hid hm8
            have HMO := Lib.hid hmo
            have h51 := HR1.out.below hb5 HR1.out.lt
            have h5w : WRow8 (w5.setCells g1 0 (words st3.list).toArray.toList) g1 st3 := heap_setCells_whole (ws := (words st3.list).toArray) h51 (by rw [List.size_toArray, List.size_toArray, words_len, words_len])
            have hzb := hb5.size
            have h5b : Below w1.heap.size w1 (w5.setCells g1 0 (words st3.list).toArray.toList) := below_setCellsC hB1 _ _ _ (HB.out.trans (hb5.mono (by omega)))
            have HT1 := Lib.hid (h51.there _ (Nat.le_of_eq (show (words st3.list).toArray.size = 8 by rw [List.size_toArray, words_len])))
            have H5W := Lib.hid h5w
            have H5B := Lib.hid h5b
            clear hb5 hm8 hmo h51 h5w h5b
            go_upto_region 15 with (refine wpList_store_mid rfl 47 (.tmp 3) (.tmp 54) rfl g1 0 (words st3.list).toArray rfl rfl HT1.out HM8.out HMO.out ?_)
            generalize w5.setCells g1 0 (words st3.list).toArray.toList = w6 at *
            have hn7 : BRow (w6.alloc (.cells (noBytes 32).toArray 23)) 23 w6.heap.size (outN st3 0) := heap_alloc_new _ _
            have hz6 := H5W.out.lt
            have hz61 := H5B.out.size
            have hb7 : Below w1.heap.size w1 (w6.alloc (.cells (noBytes 32).toArray 23)) := H5B.out.alloc (by omega) _
            have h71 : WRow8 (w6.alloc (.cells (noBytes 32).toArray 23)) g1 st3 := H5W.out.below ((Below.refl w6.heap.size w6).alloc (Nat.le_refl _) _) hz6
            have HN7 := Lib.hid hn7
            have HB7 := Lib.hid hb7
            have H71 := Lib.hid h71
            clear hn7 hb7 h71
            go_upto_region 16 with (refine wpList_alloc_of rfl 23 (noBytes 32).toArray rfl made32 ?_)
            generalize (w6.alloc (.cells (noBytes 32).toArray 23)) = w7 at *
            go_wp2_with (refine wpList_load_mid rfl 47 (.tmp 3) rfl g1 0 rfl (words st3.list) _ H71.out.range Tryd.underlying47 rfl HL8T.out ?_)
            generalize w6.heap.size = g8 at *
            go_loopw [9, 10, 56] (fun v9 v10 v56 wr => ∃ k : Nat, v56 = .int .i64 k ∧ k ≤ 8 ∧ BRow wr 23 g8 (outN st3 k) ∧ Below w1.heap.size w1 wr) (fun _ _ v56 _ => 8 - (intOf v56).toNat)
            case atStart => exact ⟨0, rfl, Nat.zero_le _, HN7.out, HB7.out⟩
            case round =>
              obtain ⟨j, rfl, hj, hr, hb⟩ := hrel
              rcases Nat.lt_or_ge j 8 with hlt | hge
              · have hlt' : (j : Int) < 8 := by omega
                have hj0 : (0 : Int) ≤ (j : Int) := by omega
                have HIX := Lib.hid (fun W => index_eight st3 j hlt W)
                obtain ⟨x, hx⟩ : ∃ x, st3.list.getD j 0 = x := ⟨_, rfl⟩
                have HX1 := Lib.hid hx
                have hol := outN_len st3 j hj
                have c0 := hr.cell (4 * j) (by omega)
                have c1 := hr.cell (4 * j + 1) (by omega)
                have c2 := hr.cell (4 * j + 2) (by omega)
                have c3 := hr.cell (4 * j + 3) (by omega)
                have f0 := hr.free (4 * j)
                have f1 := hr.free (4 * j + 1)
                have f2 := hr.free (4 * j + 2)
                have f3 := hr.free (4 * j + 3)
                have HR := Lib.hid hr
                have HBJ := Lib.hid hb
                clear hr hb hx hol
                go_wp2_with (refine wpList_index_eight rfl (.tmp 55) (.tmp 56) rfl st3 j hlt rfl rfl x HX1.out ?_)
                go_roundw
                case rel =>
                  refine ⟨j + 1, by go_num, hlt, ?_, (((HBJ.out.setCell (by omega) _).setCell (by omega) _).setCell (by omega) _).setCell (by omega) _⟩
                  rw [byte_24, byte_16, byte_8, byte_0, ← outN_step st3 j hlt, HX1.out]
                  exact (((HR.out.set _ _).set _ _).set _ _).set _ _
                case measure => simp [intOf]; omega
              · obtain rfl : j = 8 := by omega
                have hol := outN_len st3 8 (Nat.le_refl _)
                obtain ⟨D, hD⟩ : ∃ D, outN st3 8 = D := ⟨_, rfl⟩
                rw [hD] at hr hol
                have hDs : D = shaOf l := by rw [← hD, outN_end, ← HFIN.out]
                have HDS := Lib.hid hDs
                have hdl : D.length = 32 := hol
                clear hDs hol hD
                have hh : ¬ ((8 : Nat) : Int) < 8 := by decide
                have hl32 : (Tryd.prog.info? 23).map (·.size) = some (Lib.byteCells D).length := by rw [bytes_len, hdl]; exact info32
                have hi32 : (Tryd.prog.info? 23).map (·.size) = some (Lib.byteCells D).toArray.size := by rw [List.size_toArray]; exact hl32
                have ho32 : (Lib.byteCells D).toArray.all (·.oneCell') = true := all_oneCell_toArray (Lib.byteCells_one _)
                have hres : BRow wr 23 w.heap.size (zeros 32) := (hb.block w.heap.size (by omega)).trans HRES.out
                have HBJ := Lib.hid hb
                have HL32 := Lib.hid hl32
                have hth := hres.there (Lib.byteCells D).toArray.size (by rw [List.size_toArray, bytes_len, hdl]; exact Nat.le_refl _)
                have hfin : BRow (wr.setCells w.heap.size 0 (Lib.byteCells D).toArray.toList) 23 w.heap.size D := heap_setCells_whole (ws := (Lib.byteCells D).toArray) hres (by rw [List.size_toArray, List.size_toArray, bytes_len, bytes_len, hdl]; rfl)
                have hbf : Below w.heap.size w (wr.setCells w.heap.size 0 (Lib.byteCells D).toArray.toList) := below_setCellsC (Nat.le_refl _) _ _ _ (HBEL.out.trans (hb.mono (by omega)))
                unfold BRow at hfin hr
                obtain ⟨C, hC⟩ : ∃ C, (Lib.byteCells D).toArray = C := ⟨_, rfl⟩
                rw [hC] at hi32 ho32 hth hfin hbf hr
                have HI32 := Lib.hid hi32
                have HO32 := Lib.hid ho32
                have HTH := Lib.hid hth
                have HFN := Lib.hid hfin
                have HBF := Lib.hid hbf
                have HC := Lib.hid hC
                have HR := Lib.hid hr
                clear hr hb hdl hl32 hi32 ho32 hres hfin hbf hth hC
                go_upto_region 21 with fail
                go_cut [2] (fun v2 wz => v2 = .pointer (some ⟨w.heap.size, 0, none⟩) ∧ wz.heap[w.heap.size]? = some (.cells C 23 (0, 0)) ∧ Below w.heap.size w wz)
                case first =>
                  go_wp2_with (first | (refine wpList_load_row rfl 23 (.tmp 8) rfl g8 rfl 23 C (0, 0) _ HR.out Tryd.underlying23 rfl HI32.out ?_) | (refine wpList_store_mid rfl 23 (.tmp 2) (.tmp 87) rfl w.heap.size 0 C rfl rfl HTH.out HI32.out HO32.out ?_))
                  go_meet
                  exact ⟨rfl, HFN.out, HBF.out⟩
                case rest =>
                  obtain ⟨rfl, h1, h2⟩ := hcut
                  refine (‹∀ (a : Act) (w : World), Code.wp Tryd.prog Code.ret _ a w → _› : ∀ (a : Act) (w : World), Code.wp Tryd.prog Code.ret _ a w → _) _ _ ?_
                  apply wp_ret
                  exact bodyPost_ret (v := .agg C) (results_cell_row rfl _ _ w.heap.size 23 _ (0, 0) _ rfl h1 Tryd.underlying23 rfl HI32.out) rfl ⟨by rw [← HC.out, HDS.out], h2⟩
end Go.Proofs.YtjopfhmloklhdaaDoor
