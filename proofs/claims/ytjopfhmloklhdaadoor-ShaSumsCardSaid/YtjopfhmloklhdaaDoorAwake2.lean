/-
  Package sha: the closed run that all statements of the layer begin with.
-/
import Derived.Test.YtjopfhmloklhdaaDoorMac
import Derived.Test.YtjopfhmloklhdaaDoorShaRead
import Derived.Test.YtjopfhmloklhdaaDoorShaEq
import Derived.Test.YtjopfhmloklhdaaDoorEqArr
namespace Go.Proofs.YtjopfhmloklhdaaDoor
open Go.ChangeShapes Go.WideShapes Go.ChangeAt Go.RowKit Go.Deep
set_option linter.unusedVariables false
set_option linter.unusedSimpArgs false

/-- A literal of bytes, as the program lays it. -/
theorem conv_lit (C : Array Value) (n : Nat) (hn : C.size = n) (W : World) : (convert 31 31 (.slice (some ⟨W.heap.size, 0, none⟩) n n)).run Tryd.prog (W.alloc (.cells C 5)) = .ok (.slice (some ⟨W.heap.size, 0, none⟩) n n) (W.alloc (.cells C 5 (n, n + 1))) := by
  subst hn
  exact Lib.run_convert_bytes_const (P := Tryd.prog) W 31 5 C C.size C.size Tryd.underlying31 Tryd.underlying5
theorem has_lits (W : World) (l : List UInt8) (C : Array Value) (hC : (Lib.byteCells l).toArray = C) (t : TypeId) (f : Nat × Nat) (n : Nat) (hn : n = l.length) (hm : n ≤ 1000000) : HasA (W.alloc (.cells C t f)) (.slice (some ⟨W.heap.size, 0, none⟩) n n) l ∧ Below W.heap.size W (W.alloc (.cells C t f)) := by
  subst hn hC
  refine ⟨⟨_, l.length, W.heap.size, 0, rfl, Nat.le_refl _, by unfold maxLen; omega, fun _ => ⟨rfl, by rw [size_alloc1]; omega⟩, fun j hj => ?_⟩, (Below.refl _ _).alloc (Nat.le_refl _) _⟩
  unfold World.cell?
  rw [heap_alloc_new, Nat.zero_add]
  show (Lib.byteCells l).toArray[j]? = _
  rw [List.getElem?_toArray, byteCells_get hj]
/-- What stays in the last region. -/
structure AwS (w0 : World) (R g3 g4 : Nat) (D : List UInt8) (W : World) : Prop where
  r3 : BRow W 23 g3 D
  r4 : BRow W 23 g4 D
  h : HDone W R [97, 98, 99]
  g : Grnd W
  bel : Below R w0 W
  le : R ≤ W.heap.size
theorem AwS.below {w0 : World} {R g3 g4 : Nat} {D : List UInt8} {W W' : World} (h : AwS w0 R g3 g4 D W) (hb : Below W.heap.size W W') : AwS w0 R g3 g4 D W' :=
  ⟨h.r3.below hb h.r3.lt, h.r4.below hb h.r4.lt, h.h.below hb, h.g.below hb, h.bel.trans (hb.mono h.le), Nat.le_trans h.le hb.size⟩
theorem digB_hexD (n : Nat) (h : n < 16) : digB (hexD n).toNat = true ∧ digV (hexD n).toNat = n := by
  rcases (by omega : n = 0 ∨ n = 1 ∨ n = 2 ∨ n = 3 ∨ n = 4 ∨ n = 5 ∨ n = 6 ∨ n = 7 ∨ n = 8 ∨ n = 9 ∨ n = 10 ∨ n = 11 ∨ n = 12 ∨ n = 13 ∨ n = 14 ∨ n = 15) with rfl | rfl | rfl | rfl | rfl | rfl | rfl | rfl | rfl | rfl | rfl | rfl | rfl | rfl | rfl | rfl <;> decide
theorem hexOf_digs (l : List UInt8) : digAll (hexOf l) = true := by
  induction l with
  | nil => rfl
  | cons a r ih =>
    show (hexB a ++ hexOf r).all _ = true
    rw [List.all_append, show (hexOf r).all (fun c => digB c.toNat) = true from ih, Bool.and_true]
    have h1 := (digB_hexD (a.toNat / 16) (by have := a.toNat_lt; omega)).1
    have h2 := (digB_hexD (a.toNat % 16) (by omega)).1
    simp [hexB, h1, h2]
theorem hexOf_get (l : List UInt8) : ∀ i, i < l.length → (hexOf l).getD (2 * i) 0 = hexD ((l.getD i 0).toNat / 16) ∧ (hexOf l).getD (2 * i + 1) 0 = hexD ((l.getD i 0).toNat % 16) := by
  induction l with
  | nil => intro i hi; exact absurd hi (Nat.not_lt_zero _)
  | cons a r ih =>
    intro i hi
    have e : hexOf (a :: r) = hexD (a.toNat / 16) :: hexD (a.toNat % 16) :: hexOf r := rfl
    rw [e]
    cases i with
    | zero => exact ⟨rfl, rfl⟩
    | succ j =>
      have hj : j < r.length := by simpa using hi
      obtain ⟨h1, h2⟩ := ih j hj
      refine ⟨?_, ?_⟩
      · rw [show 2 * (j + 1) = 2 * j + 1 + 1 by omega, List.getD_cons_succ, List.getD_cons_succ, h1, List.getD_cons_succ]
      · rw [show 2 * (j + 1) + 1 = (2 * j + 1) + 1 + 1 by omega, List.getD_cons_succ, List.getD_cons_succ, h2, List.getD_cons_succ]
theorem unB_hexOf (l : List UInt8) (i : Nat) (hi : i < l.length) : unB (hexOf l) i = l.getD i 0 := by
  obtain ⟨h1, h2⟩ := hexOf_get l i hi
  unfold unB
  have hx := (l.getD i 0).toNat_lt
  rw [h1, h2, (digB_hexD _ (by omega)).2, (digB_hexD _ (by omega)).2, show (l.getD i 0).toNat / 16 * 16 + (l.getD i 0).toNat % 16 = (l.getD i 0).toNat by omega]
  exact UInt8.ofNat_toNat
theorem read_hex (l : List UInt8) (hl : l.length = 32) : readV (hexOf l) = (l, 0) := by
  unfold readV
  rw [if_pos ⟨by rw [hexOf_len, hl], hexOf_digs l⟩]
  congr 1
  apply List.ext_getElem?
  intro i
  by_cases hi : i < 32
  · have hl2 : i < l.length := by omega
    unfold unN
    rw [List.getElem?_map, List.getElem?_range hi, Option.map_some, unB_hexOf l i hl2, List.getElem?_eq_getElem hl2, List.getD_eq_getElem?_getD, List.getElem?_eq_getElem hl2]
    rfl
  · rw [List.getElem?_eq_none (by rw [unN_len]; omega), List.getElem?_eq_none (by omega)]
set_option maxRecDepth 100000 in
theorem hex_none : hexOf (shaOf []) = [101, 51, 98, 48, 99, 52, 52, 50, 57, 56, 102, 99, 49, 99, 49, 52, 57, 97, 102, 98, 102, 52, 99, 56, 57, 57, 54, 102, 98, 57, 50, 52, 50, 55, 97, 101, 52, 49, 101, 52, 54, 52, 57, 98, 57, 51, 52, 99, 97, 52, 57, 53, 57, 57, 49, 98, 55, 56, 53, 50, 98, 56, 53, 53] := by rw [sha_none]; kernel_rfl
set_option maxRecDepth 100000 in
theorem hex_abc : (hexOf (shaOf [97, 98, 99])).take 8 = [98, 97, 55, 56, 49, 54, 98, 102] := by rw [sha_abc]; kernel_rfl
set_option maxRecDepth 100000 in
theorem hex_fox : (hexOf (macOf [107, 101, 121] [84, 104, 101, 32, 113, 117, 105, 99, 107, 32, 98, 114, 111, 119, 110, 32, 102, 111, 120, 32, 106, 117, 109, 112, 115, 32, 111, 118, 101, 114, 32, 116, 104, 101, 32, 108, 97, 122, 121, 32, 100, 111, 103])).take 8 = [102, 55, 98, 99, 56, 51, 102, 52] := by kernel_rfl
theorem drewB (W : World) (n : Nat) : Below W.heap.size W (W.drewN n) := ⟨rfl, rfl, rfl, Nat.le_refl _, fun _ _ => rfl⟩
theorem extract_take (l : List UInt8) (n : Nat) : ((⟨l.toArray⟩ : ByteArray).extract 0 n).data.toList = l.take n := by
  rw [ByteArray.data_extract]
  simp
set_option maxRecDepth 100000 in
set_option maxHeartbeats 8000000 in
theorem awake_any (w : World) (hG : Grnd w) :
    Calls Tryd.prog 9 #[] w fun e w' => e = .returned (.bool true) ∧ Below w.heap.size w w' := by
  have HG := Lib.hid hG
  have hgs := hG.s
  have hgr := hG.r
  clear hG
  go_enter Tryd.func9, Tryd.ntmps9
  go_wp2_with fail
  refine (New_std w HG.out).mono ?_
  rintro e w1 ⟨rfl, hs1, hb1⟩
  have HS1 := Lib.hid hs1
  have HB1 := Lib.hid hb1
  have HG1 := Lib.hid (HG.out.below hb1)
  have hz1 := hs1.lt
  clear hs1 hb1
  generalize hRE : w.heap.size = R at *
  have HRE := Lib.hid hRE
  clear hRE
  have hc2 := conv_lit #[.int .u8 97, .int .u8 98] 2 rfl w1
  have hl2 := has_lits w1 [97, 98] #[.int .u8 97, .int .u8 98] rfl 5 (2, 3) 2 rfl (by decide)
  have hb12 := HB1.out.trans (hl2.2.mono (by omega))
  have HG2 := Lib.hid (HG1.out.below hl2.2)
  have HS2 := Lib.hid (HS1.out.below hl2.2)
  have HA2 := Lib.hid hl2.1
  have HB2 := Lib.hid hb12
  clear hl2 hb12
  go_wp2_with fail
  generalize w1.alloc (Obj.cells #[Value.int IntKind.u8 97, Value.int IntKind.u8 98] 5 (2, 3)) = w2 at *
  clear hc2
  refine (Write_std w2 R [] HS2.out _ [97, 98] HA2.out (fun _ => by show some w1.heap.size ≠ some R; rw [Ne, Option.some.injEq]; omega) (by decide) HG2.out (by omega)).mono ?_
  rintro e w3 ⟨rfl, hk3, hs3⟩
  have HS3 : Hid (HStd w3 R [97, 98]) := Lib.hid hs3
  have HG3 := Lib.hid (HG2.out.kp hk3 (by omega) (by omega))
  have hb3 : Below R w w3 := HB2.out.trans (hk3.below (Nat.le_refl _) (by have := HB2.out.size; have := HS2.out.lt; omega))
  have HB3 := Lib.hid hb3
  have hz3 := hs3.lt
  clear hk3 hs3 hb3
  have hc1 := conv_lit #[.int .u8 99] 1 rfl w3
  have hl1 := has_lits w3 [99] #[.int .u8 99] rfl 5 (1, 2) 1 rfl (by decide)
  have hb13 := HB3.out.trans (hl1.2.mono (by omega))
  have HG4 := Lib.hid (HG3.out.below hl1.2)
  have HS4 := Lib.hid (HS3.out.below hl1.2)
  have HA4 := Lib.hid hl1.1
  have HB4 := Lib.hid hb13
  clear hl1 hb13
  go_wp2_with fail
  generalize w3.alloc (Obj.cells #[Value.int IntKind.u8 99] 5 (1, 2)) = w4 at *
  clear hc1
  refine (Write_std w4 R [97, 98] HS4.out _ [99] HA4.out (fun _ => by show some w3.heap.size ≠ some R; rw [Ne, Option.some.injEq]; omega) (by decide) HG4.out (by omega)).mono ?_
  rintro e w5 ⟨rfl, hk5, hs5⟩
  have HS5 : Hid (HStd w5 R [97, 98, 99]) := Lib.hid hs5
  have HG5 := Lib.hid (HG4.out.kp hk5 (by omega) (by omega))
  have hb5 : Below R w w5 := HB4.out.trans (hk5.below (Nat.le_refl _) (by have := HB4.out.size; have := HS4.out.lt; omega))
  have HB5 := Lib.hid hb5
  have hz5 := hs5.lt
  clear hk5 hs5 hb5
  go_wp2_with fail
  refine (Sum_std w5 R [97, 98, 99] HS5.out (by decide) HG5.out (by omega)).mono ?_
  rintro e w6 ⟨rfl, hd6, hk6⟩
  have HG6 := Lib.hid (HG5.out.kp hk6 (by omega) (by omega))
  have hb6 : Below R w w6 := HB5.out.trans (hk6.below (Nat.le_refl _) (by omega))
  have hdl := shaOf_len [97, 98, 99]
  have hrh := read_hex (shaOf [97, 98, 99]) hdl
  have hx8 := hex_abc
  obtain ⟨D, hD⟩ : ∃ D, shaOf [97, 98, 99] = D := ⟨_, rfl⟩
  rw [hD] at hdl hrh hx8
  rw [hD]
  have HD := Lib.hid hD
  have hz6 := hd6.lt
  obtain ⟨a1, a2, a3⟩ := arr32' D hdl
  obtain ⟨hd7, hb7⟩ := laid_row w6 (noBytes 32).toArray (Lib.byteCells D).toArray 23 (by rw [a3]; rfl)
  have hd7' : BRow ((w6.alloc (.cells (noBytes 32).toArray 23)).setCells w6.heap.size 0 (Lib.byteCells D).toArray.toList) 23 w6.heap.size D := hd7
  have HDN := Lib.hid (hd6.below hb7)
  have HG7 := Lib.hid (HG6.out.below hb7)
  have HB7 := Lib.hid (hb6.trans (hb7.mono (by omega)))
  have HD7 := Lib.hid hd7'
  have A1 := Lib.hid a1
  have A2 := Lib.hid a2
  have A3 := Lib.hid a3
  have HDL := Lib.hid hdl
  have HRH := Lib.hid hrh
  have HX8 := Lib.hid hx8
  have HTH := Lib.hid (there_alloc w6 (noBytes 32).toArray 23 (Lib.byteCells D).toArray.size (by rw [a3]; decide))
  clear hk6 hd6 hb6 hdl hrh hx8 hD a1 a2 a3 hd7 hb7 hd7'
  go_upto_region 7 with (first | (refine wpList_alloc_of rfl 23 (noBytes 32).toArray rfl made32 ?_) | (refine wpList_store_mid rfl 23 (.tmp 3) (.tmp 18) rfl w6.heap.size 0 (Lib.byteCells D).toArray rfl rfl HTH.out A1.out A2.out ?_))
  generalize ((w6.alloc (.cells (noBytes 32).toArray 23)).setCells w6.heap.size 0 (Lib.byteCells D).toArray.toList) = w7 at *
  have hz7 := HD7.out.lt
  generalize w6.heap.size = g3 at *
  go_wp2_with (refine wpList_load_row rfl 23 (.tmp 3) rfl g3 rfl 23 (Lib.byteCells D).toArray (0, 0) _ HD7.out Tryd.underlying23 rfl A1.out ?_)
  refine (Hex_any w7 D HDL.out).mono ?_
  rintro e w8 ⟨rfl, hb8⟩
  have HDN8 := Lib.hid (HDN.out.below hb8)
  have HG8 := Lib.hid (HG7.out.below hb8)
  have HB8 := Lib.hid (HB7.out.trans (hb8.mono (by omega)))
  have HD8 := Lib.hid (HD7.out.below hb8 hz7)
  have hz8 := hb8.size
  clear hb8
  go_wp2_with fail
  refine (Read_any w8 _ (by show (hexOf D).toArray.size ≤ maxLen; rw [List.size_toArray, hexOf_len, HDL.out]; unfold maxLen; decide)).mono ?_
  rintro e w9 ⟨rfl, hb9⟩
  rw [show (readV ((⟨(hexOf D).toArray⟩ : ByteArray).data.toList)) = (D, 0) from HRH.out]
  have HDN9 := Lib.hid (HDN8.out.below hb9)
  have HG9 := Lib.hid (HG8.out.below hb9)
  have HB9 := Lib.hid (HB8.out.trans (hb9.mono (by omega)))
  have HD9 := Lib.hid (HD8.out.below hb9 (by omega))
  have hz9 := hb9.size
  clear hb9
  obtain ⟨hd10, hb10⟩ := laid_row w9 (noBytes 32).toArray (Lib.byteCells D).toArray 23 (by rw [A3.out]; rfl)
  have hd10' : BRow ((w9.alloc (.cells (noBytes 32).toArray 23)).setCells w9.heap.size 0 (Lib.byteCells D).toArray.toList) 23 w9.heap.size D := hd10
  have hS10 : AwS w R g3 w9.heap.size D ((w9.alloc (.cells (noBytes 32).toArray 23)).setCells w9.heap.size 0 (Lib.byteCells D).toArray.toList) := by
    have hz4 := hd10'.lt
    refine ⟨HD9.out.below hb10 (by omega), hd10', HDN9.out.below hb10, HG9.out.below hb10, HB9.out.trans (hb10.mono (by omega)), by omega⟩
  have HS10 := Lib.hid hS10
  have HTH2 := Lib.hid (there_alloc w9 (noBytes 32).toArray 23 (Lib.byteCells D).toArray.size (by rw [A3.out]; decide))
  clear hd10 hb10 hd10' hS10
  go_upto_region 8 with (first | (refine wpList_alloc_of rfl 23 (noBytes 32).toArray rfl made32 ?_) | (refine wpList_store_mid rfl 23 (.tmp 4) (.tmp 23) rfl w9.heap.size 0 (Lib.byteCells D).toArray rfl rfl HTH2.out A1.out A2.out ?_))
  generalize ((w9.alloc (.cells (noBytes 32).toArray 23)).setCells w9.heap.size 0 (Lib.byteCells D).toArray.toList) = w10 at *
  generalize w9.heap.size = g4 at *
  have hll : (Tryd.prog.info? 23).map (·.size) = some (Lib.byteCells D).length := by rw [bytes_len, HDL.out]; exact info32
  have HLL := Lib.hid hll
  clear hll
  obtain ⟨M, hM⟩ : ∃ M, macOf [107, 101, 121] [84, 104, 101, 32, 113, 117, 105, 99, 107, 32, 98, 114, 111, 119, 110, 32, 102, 111, 120, 32, 106, 117, 109, 112, 115, 32, 111, 118, 101, 114, 32, 116, 104, 101, 32, 108, 97, 122, 121, 32, 100, 111, 103] = M := ⟨_, rfl⟩
  have hml : M.length = 32 := by rw [← hM]; exact shaOf_len _
  have hfx := hex_fox
  rw [hM] at hfx
  have HM := Lib.hid hM
  have HML := Lib.hid hml
  have HE18 : Hid (decide (((⟨(hexOf D).toArray⟩ : ByteArray).extract 0 8).data.toList = (⟨#[98, 97, 55, 56, 49, 54, 98, 102]⟩ : ByteArray).data.toList) = true) := Lib.hid (decide_eq_true (by rw [extract_take]; exact HX8.out))
  have HE37 : Hid (decide (((⟨(hexOf M).toArray⟩ : ByteArray).extract 0 8).data.toList = (⟨#[102, 55, 98, 99, 56, 51, 102, 52]⟩ : ByteArray).data.toList) = true) := Lib.hid (decide_eq_true (by rw [extract_take]; exact hfx))
  have HSZ8 : Hid (8 ≤ (⟨(hexOf D).toArray⟩ : ByteArray).size) := Lib.hid (by show 8 ≤ (hexOf D).toArray.size; rw [List.size_toArray, hexOf_len, HDL.out]; decide)
  have HSZM : Hid (8 ≤ (⟨(hexOf M).toArray⟩ : ByteArray).size) := Lib.hid (by show 8 ≤ (hexOf M).toArray.size; rw [List.size_toArray, hexOf_len, hml]; decide)
  clear hM hml hfx
  refine wp_region_held_drew (S := AwS w R g3 g4 D) (by kernel_rfl) (HS10.out.below ((Below.refl _ _).drew)) (fun hHeld => ?_)
  have hG := hHeld.g
  refine wpAnyH_ready (rs := [0]) (by kernel_rfl) (by simp) (AllReadyH.cons (o := _) rfl (fun K hK => ?_) AllReadyH.nil)
  try simp only [List.getElem_toArray, List.getElem_cons_zero, List.getElem_cons_succ]
  go_simp
  refine (Sum_any _ _ [] (HasA.nil _) (by decide) hG).mono ?_
  rintro e wa ⟨rfl, hb0⟩
  refine hK.out _ _ ((hHeld.below hb0)) (fun hHeld => ?_)
  clear hK K
  try simp only [Act.put, List.setIfInBounds_toArray, List.set_cons_zero, List.set_cons_succ, List.getElem_toArray, List.getElem_cons_zero, List.getElem_cons_succ]
  refine wpAnyH_ready (rs := [1]) (by kernel_rfl) (by simp) (AllReadyH.cons (o := _) rfl (fun K hK => ?_) AllReadyH.nil)
  try simp only [List.getElem_toArray, List.getElem_cons_zero, List.getElem_cons_succ]
  go_simp
  refine (Hex_any _ (shaOf []) (shaOf_len _)).mono ?_
  rintro e wb ⟨rfl, hb1⟩
  refine hK.out _ _ ((hHeld.below hb1)) (fun hHeld => ?_)
  clear hK K
  try simp only [Act.put, List.setIfInBounds_toArray, List.set_cons_zero, List.set_cons_succ, List.getElem_toArray, List.getElem_cons_zero, List.getElem_cons_succ]
  rw [hex_none]
  refine wpAnyH_take (i := 2) (oi := _) (v := ?_) rfl (by kernel_rfl) (by kernel_rfl) (by kernel_rfl) (fun _ _ _ h => h) ?hl1 (by assumption) ?_
  case hl1 => refine yieldsIf_eqS ?_ (.tmp 26) (.const (.string (⟨#[101, 51, 98, 48, 99, 52, 52, 50, 57, 56, 102, 99, 49, 99, 49, 52, 57, 97, 102, 98, 102, 52, 99, 56, 57, 57, 54, 102, 98, 57, 50, 52, 50, 55, 97, 101, 52, 49, 101, 52, 54, 52, 57, 98, 57, 51, 52, 99, 97, 52, 57, 53, 57, 57, 49, 98, 55, 56, 53, 50, 98, 56, 53, 53]⟩ : ByteArray))) 9 ?_ (⟨#[101, 51, 98, 48, 99, 52, 52, 50, 57, 56, 102, 99, 49, 99, 49, 52, 57, 97, 102, 98, 102, 52, 99, 56, 57, 57, 54, 102, 98, 57, 50, 52, 50, 55, 97, 101, 52, 49, 101, 52, 54, 52, 57, 98, 57, 51, 52, 99, 97, 52, 57, 53, 57, 57, 49, 98, 55, 56, 53, 50, 98, 56, 53, 53]⟩ : ByteArray) (⟨#[101, 51, 98, 48, 99, 52, 52, 50, 57, 56, 102, 99, 49, 99, 49, 52, 57, 97, 102, 98, 102, 52, 99, 56, 57, 57, 54, 102, 98, 57, 50, 52, 50, 55, 97, 101, 52, 49, 101, 52, 54, 52, 57, 98, 57, 51, 52, 99, 97, 52, 57, 53, 57, 57, 49, 98, 55, 56, 53, 50, 98, 56, 53, 53]⟩ : ByteArray) ?_ ?_ true (decide_eq_true rfl) <;> kernel_rfl
  try simp only [Act.put, List.setIfInBounds_toArray, List.set_cons_zero, List.set_cons_succ, List.getElem_toArray, List.getElem_cons_zero, List.getElem_cons_succ]
  refine wpAnyH_take (i := 3) (oi := _) (v := ?_) rfl (by kernel_rfl) (by kernel_rfl) (by kernel_rfl) (fun _ _ _ h => h) (Or.inl ⟨by kernel_rfl, ?hy2⟩) (by assumption) ?_
  case hy2 =>
    intro w9 hSw
    try dsimp only at hSw
    try simp only [List.getElem_toArray, List.getElem_cons_zero, List.getElem_cons_succ]
    go_simp
    try with_reducible rfl
  try simp only [Act.put, List.setIfInBounds_toArray, List.set_cons_zero, List.set_cons_succ, List.getElem_toArray, List.getElem_cons_zero, List.getElem_cons_succ]
  refine wpAnyH_take (i := 4) (oi := _) (v := ?_) rfl (by kernel_rfl) (by kernel_rfl) (by kernel_rfl) (fun _ _ _ h => h) (Or.inl ⟨by kernel_rfl, ?hy3⟩) (by assumption) ?_
  case hy3 =>
    intro w9 hSw
    try dsimp only at hSw
    try simp only [List.getElem_toArray, List.getElem_cons_zero, List.getElem_cons_succ]
    go_simp
    try with_reducible rfl
  try simp only [Act.put, List.setIfInBounds_toArray, List.set_cons_zero, List.set_cons_succ, List.getElem_toArray, List.getElem_cons_zero, List.getElem_cons_succ]
  refine wpAnyH_take (i := 5) (oi := _) (v := ?_) rfl (by kernel_rfl) (by kernel_rfl) (by kernel_rfl) (fun _ _ _ h => h) (Or.inl ⟨by kernel_rfl, ?hy4⟩) (by assumption) ?_
  case hy4 =>
    intro w9 hSw
    try dsimp only at hSw
    try simp only [List.getElem_toArray, List.getElem_cons_zero, List.getElem_cons_succ]
    go_simp
    try with_reducible rfl
  try simp only [Act.put, List.setIfInBounds_toArray, List.set_cons_zero, List.set_cons_succ, List.getElem_toArray, List.getElem_cons_zero, List.getElem_cons_succ]
  refine wpAnyH_take (i := 6) (oi := _) (v := ?_) rfl (by kernel_rfl) (by kernel_rfl) (by kernel_rfl) (fun _ _ _ h => h) (Or.inl ⟨by kernel_rfl, ?hy5⟩) (by assumption) ?_
  case hy5 =>
    intro w9 hSw
    try dsimp only at hSw
    try simp only [List.getElem_toArray, List.getElem_cons_zero, List.getElem_cons_succ]
    go_simp
    try with_reducible rfl
  try simp only [Act.put, List.setIfInBounds_toArray, List.set_cons_zero, List.set_cons_succ, List.getElem_toArray, List.getElem_cons_zero, List.getElem_cons_succ]
  refine wpAnyH_take (i := 7) (oi := _) (v := ?_) rfl (by kernel_rfl) (by kernel_rfl) (by kernel_rfl) (fun _ _ _ h => h) (Or.inl ⟨by kernel_rfl, ?hy6⟩) (by assumption) ?_
  case hy6 =>
    intro w9 hSw
    try dsimp only at hSw
    try simp only [List.getElem_toArray, List.getElem_cons_zero, List.getElem_cons_succ]
    go_simp
    try with_reducible rfl
  try simp only [Act.put, List.setIfInBounds_toArray, List.set_cons_zero, List.set_cons_succ, List.getElem_toArray, List.getElem_cons_zero, List.getElem_cons_succ]
  refine wpAnyH_take (i := 8) (oi := _) (v := ?_) rfl (by kernel_rfl) (by kernel_rfl) (by kernel_rfl) (fun _ _ _ h => h) ?hl7 (by assumption) ?_
  case hl7 => refine yieldsIf_load_mid ?_ 23 (.tmp 3) ?_ g3 0 ?_ (Lib.byteCells D) _ ?_ Tryd.underlying23 rfl HLL.out <;> first | exact fun _ hw => hw.r3.range | kernel_rfl
  try simp only [Act.put, List.setIfInBounds_toArray, List.set_cons_zero, List.set_cons_succ, List.getElem_toArray, List.getElem_cons_zero, List.getElem_cons_succ]
  refine lit_one 9 10 _ _ 34 35 31 5 (Lib.byteCells [97, 98, 99]).toArray 3 Tryd.underlying31 Tryd.underlying5 rfl rfl rfl rfl (fun _ _ => by kernel_rfl) rfl (by kernel_rfl) (by kernel_rfl) (by kernel_rfl) (by simp) (by kernel_rfl) (by kernel_rfl) (fun _ hb9 => hHeld.below hb9) [97, 98, 99] rfl rfl (by decide) (fun gg W1 hg1W1 hA1W1 hBW1 hHeld => ?_)
  try simp only [Act.put, List.setIfInBounds_toArray, List.set_cons_zero, List.set_cons_succ, List.getElem_toArray, List.getElem_cons_zero, List.getElem_cons_succ]
  refine wpAnyH_ready (rs := [11]) (by kernel_rfl) (by simp) (AllReadyH.cons (o := _) rfl (fun K hK => ?_) AllReadyH.nil)
  try simp only [List.getElem_toArray, List.getElem_cons_zero, List.getElem_cons_succ]
  go_simp
  refine (Sum_any _ _ [97, 98, 99] hA1W1 (by decide) hHeld.g).mono ?_
  rw [HD.out]
  rintro e wa ⟨rfl, hb0⟩
  refine hK.out _ _ ((hHeld.below hb0)) (fun hHeld => ?_)
  clear hK K
  try simp only [Act.put, List.setIfInBounds_toArray, List.set_cons_zero, List.set_cons_succ, List.getElem_toArray, List.getElem_cons_zero, List.getElem_cons_succ]
  refine wpAnyH_take (i := 12) (oi := _) (v := ?_) rfl (by kernel_rfl) (by kernel_rfl) (by kernel_rfl) (fun _ _ _ h => h) ?hl8 (by assumption) ?_
  case hl8 => refine yieldsIf_eq32 ?_ (.tmp 33) (.tmp 36) 23 ?_ D D ?_ ?_ HDL.out HDL.out true (decide_eq_true rfl) <;> kernel_rfl
  try simp only [Act.put, List.setIfInBounds_toArray, List.set_cons_zero, List.set_cons_succ, List.getElem_toArray, List.getElem_cons_zero, List.getElem_cons_succ]
  refine wpAnyH_take (i := 13) (oi := _) (v := ?_) rfl (by kernel_rfl) (by kernel_rfl) (by kernel_rfl) (fun _ _ _ h => h) (Or.inl ⟨by kernel_rfl, ?hy9⟩) (by assumption) ?_
  case hy9 =>
    intro w9 hSw
    try dsimp only at hSw
    try simp only [List.getElem_toArray, List.getElem_cons_zero, List.getElem_cons_succ]
    go_simp
    try with_reducible rfl
  try simp only [Act.put, List.setIfInBounds_toArray, List.set_cons_zero, List.set_cons_succ, List.getElem_toArray, List.getElem_cons_zero, List.getElem_cons_succ]
  refine wpAnyH_take (i := 14) (oi := _) (v := ?_) rfl (by kernel_rfl) (by kernel_rfl) (by kernel_rfl) (fun _ _ _ h => h) (Or.inl ⟨by kernel_rfl, ?hy10⟩) (by assumption) ?_
  case hy10 =>
    intro w9 hSw
    try dsimp only at hSw
    try simp only [List.getElem_toArray, List.getElem_cons_zero, List.getElem_cons_succ]
    go_simp
    try with_reducible rfl
  try simp only [Act.put, List.setIfInBounds_toArray, List.set_cons_zero, List.set_cons_succ, List.getElem_toArray, List.getElem_cons_zero, List.getElem_cons_succ]
  refine wpAnyH_take (i := 15) (oi := _) (v := ?_) rfl (by kernel_rfl) (by kernel_rfl) (by kernel_rfl) (fun _ _ _ h => h) ?hl11 (by assumption) ?_
  case hl11 => refine yieldsIf_load_mid ?_ 23 (.tmp 3) ?_ g3 0 ?_ (Lib.byteCells D) _ ?_ Tryd.underlying23 rfl HLL.out <;> first | exact fun _ hw => hw.r3.range | kernel_rfl
  try simp only [Act.put, List.setIfInBounds_toArray, List.set_cons_zero, List.set_cons_succ, List.getElem_toArray, List.getElem_cons_zero, List.getElem_cons_succ]
  refine wpAnyH_ready (rs := [16]) (by kernel_rfl) (by simp) (AllReadyH.cons (o := _) rfl (fun K hK => ?_) AllReadyH.nil)
  try simp only [List.getElem_toArray, List.getElem_cons_zero, List.getElem_cons_succ]
  go_simp
  refine (Hex_any _ D HDL.out).mono ?_
  rintro e wa ⟨rfl, hb0⟩
  refine hK.out _ _ ((hHeld.below hb0)) (fun hHeld => ?_)
  clear hK K
  try simp only [Act.put, List.setIfInBounds_toArray, List.set_cons_zero, List.set_cons_succ, List.getElem_toArray, List.getElem_cons_zero, List.getElem_cons_succ]
  refine wpAnyH_take (i := 17) (oi := _) (v := ?_) rfl (by kernel_rfl) (by kernel_rfl) (by kernel_rfl) (fun _ _ _ h => h) ?hl12 (by assumption) ?_
  case hl12 => refine yieldsIf_headS ?_ (.tmp 41) 8 8 rfl ?_ ⟨(hexOf D).toArray⟩ ?_ HSZ8.out <;> kernel_rfl
  try simp only [Act.put, List.setIfInBounds_toArray, List.set_cons_zero, List.set_cons_succ, List.getElem_toArray, List.getElem_cons_zero, List.getElem_cons_succ]
  refine wpAnyH_take (i := 18) (oi := _) (v := ?_) rfl (by kernel_rfl) (by kernel_rfl) (by kernel_rfl) (fun _ _ _ h => h) ?hl13 (by assumption) ?_
  case hl13 => refine yieldsIf_eqS ?_ (.tmp 42) (.const (.string ⟨#[98, 97, 55, 56, 49, 54, 98, 102]⟩)) 9 ?_ _ ⟨#[98, 97, 55, 56, 49, 54, 98, 102]⟩ ?_ ?_ true HE18.out <;> kernel_rfl
  try simp only [Act.put, List.setIfInBounds_toArray, List.set_cons_zero, List.set_cons_succ, List.getElem_toArray, List.getElem_cons_zero, List.getElem_cons_succ]
  refine wpAnyH_take (i := 19) (oi := _) (v := ?_) rfl (by kernel_rfl) (by kernel_rfl) (by kernel_rfl) (fun _ _ _ h => h) (Or.inl ⟨by kernel_rfl, ?hy14⟩) (by assumption) ?_
  case hy14 =>
    intro w9 hSw
    try dsimp only at hSw
    try simp only [List.getElem_toArray, List.getElem_cons_zero, List.getElem_cons_succ]
    go_simp
    try with_reducible rfl
  try simp only [Act.put, List.setIfInBounds_toArray, List.set_cons_zero, List.set_cons_succ, List.getElem_toArray, List.getElem_cons_zero, List.getElem_cons_succ]
  refine wpAnyH_take (i := 20) (oi := _) (v := ?_) rfl (by kernel_rfl) (by kernel_rfl) (by kernel_rfl) (fun _ _ _ h => h) (Or.inl ⟨by kernel_rfl, ?hy15⟩) (by assumption) ?_
  case hy15 =>
    intro w9 hSw
    try dsimp only at hSw
    try simp only [List.getElem_toArray, List.getElem_cons_zero, List.getElem_cons_succ]
    go_simp
    try with_reducible rfl
  try simp only [Act.put, List.setIfInBounds_toArray, List.set_cons_zero, List.set_cons_succ, List.getElem_toArray, List.getElem_cons_zero, List.getElem_cons_succ]
  refine wpAnyH_take (i := 21) (oi := _) (v := ?_) rfl (by kernel_rfl) (by kernel_rfl) (by kernel_rfl) (fun _ _ _ h => h) (Or.inl ⟨by kernel_rfl, ?hy16⟩) (by assumption) ?_
  case hy16 =>
    intro w9 hSw
    try dsimp only at hSw
    try simp only [List.getElem_toArray, List.getElem_cons_zero, List.getElem_cons_succ]
    go_simp
    try with_reducible rfl
  try simp only [Act.put, List.setIfInBounds_toArray, List.set_cons_zero, List.set_cons_succ, List.getElem_toArray, List.getElem_cons_zero, List.getElem_cons_succ]
  refine wpAnyH_take (i := 22) (oi := _) (v := ?_) rfl (by kernel_rfl) (by kernel_rfl) (by kernel_rfl) (fun _ _ _ h => h) (Or.inl ⟨by kernel_rfl, ?hy17⟩) (by assumption) ?_
  case hy17 =>
    intro w9 hSw
    try dsimp only at hSw
    try simp only [List.getElem_toArray, List.getElem_cons_zero, List.getElem_cons_succ]
    go_simp
    try with_reducible rfl
  try simp only [Act.put, List.setIfInBounds_toArray, List.set_cons_zero, List.set_cons_succ, List.getElem_toArray, List.getElem_cons_zero, List.getElem_cons_succ]
  refine wpAnyH_take (i := 23) (oi := _) (v := ?_) rfl (by kernel_rfl) (by kernel_rfl) (by kernel_rfl) (fun _ _ _ h => h) (Or.inl ⟨by kernel_rfl, ?hy18⟩) (by assumption) ?_
  case hy18 =>
    intro w9 hSw
    try dsimp only at hSw
    try simp only [List.getElem_toArray, List.getElem_cons_zero, List.getElem_cons_succ]
    go_simp
    try with_reducible rfl
  try simp only [Act.put, List.setIfInBounds_toArray, List.set_cons_zero, List.set_cons_succ, List.getElem_toArray, List.getElem_cons_zero, List.getElem_cons_succ]
  refine wpAnyH_take (i := 24) (oi := _) (v := ?_) rfl (by kernel_rfl) (by kernel_rfl) (by kernel_rfl) (fun _ _ _ h => h) (Or.inl ⟨by kernel_rfl, ?hy19⟩) (by assumption) ?_
  case hy19 =>
    intro w9 hSw
    try dsimp only at hSw
    try simp only [List.getElem_toArray, List.getElem_cons_zero, List.getElem_cons_succ]
    go_simp
    try with_reducible rfl
  try simp only [Act.put, List.setIfInBounds_toArray, List.set_cons_zero, List.set_cons_succ, List.getElem_toArray, List.getElem_cons_zero, List.getElem_cons_succ]
  refine wpAnyH_take (i := 25) (oi := _) (v := ?_) rfl (by kernel_rfl) (by kernel_rfl) (by kernel_rfl) (fun _ _ _ h => h) ?hl20 (by assumption) ?_
  case hl20 => refine yieldsIf_load_mid ?_ 23 (.tmp 4) ?_ g4 0 ?_ (Lib.byteCells D) _ ?_ Tryd.underlying23 rfl HLL.out <;> first | exact fun _ hw => hw.r4.range | kernel_rfl
  try simp only [Act.put, List.setIfInBounds_toArray, List.set_cons_zero, List.set_cons_succ, List.getElem_toArray, List.getElem_cons_zero, List.getElem_cons_succ]
  refine wpAnyH_take (i := 26) (oi := _) (v := ?_) rfl (by kernel_rfl) (by kernel_rfl) (by kernel_rfl) (fun _ _ _ h => h) ?hl21 (by assumption) ?_
  case hl21 => refine yieldsIf_load_mid ?_ 23 (.tmp 3) ?_ g3 0 ?_ (Lib.byteCells D) _ ?_ Tryd.underlying23 rfl HLL.out <;> first | exact fun _ hw => hw.r3.range | kernel_rfl
  try simp only [Act.put, List.setIfInBounds_toArray, List.set_cons_zero, List.set_cons_succ, List.getElem_toArray, List.getElem_cons_zero, List.getElem_cons_succ]
  refine wpAnyH_take (i := 27) (oi := _) (v := ?_) rfl (by kernel_rfl) (by kernel_rfl) (by kernel_rfl) (fun _ _ _ h => h) ?hl22 (by assumption) ?_
  case hl22 => refine yieldsIf_eq32 ?_ (.tmp 50) (.tmp 51) 23 ?_ D D ?_ ?_ HDL.out HDL.out true (decide_eq_true rfl) <;> kernel_rfl
  try simp only [Act.put, List.setIfInBounds_toArray, List.set_cons_zero, List.set_cons_succ, List.getElem_toArray, List.getElem_cons_zero, List.getElem_cons_succ]
  refine wpAnyH_take (i := 28) (oi := _) (v := ?_) rfl (by kernel_rfl) (by kernel_rfl) (by kernel_rfl) (fun _ _ _ h => h) (Or.inl ⟨by kernel_rfl, ?hy23⟩) (by assumption) ?_
  case hy23 =>
    intro w9 hSw
    try dsimp only at hSw
    try simp only [List.getElem_toArray, List.getElem_cons_zero, List.getElem_cons_succ]
    go_simp
    try with_reducible rfl
  try simp only [Act.put, List.setIfInBounds_toArray, List.set_cons_zero, List.set_cons_succ, List.getElem_toArray, List.getElem_cons_zero, List.getElem_cons_succ]
  refine wpAnyH_take (i := 29) (oi := _) (v := ?_) rfl (by kernel_rfl) (by kernel_rfl) (by kernel_rfl) (fun _ _ _ h => h) (Or.inl ⟨by kernel_rfl, ?hy24⟩) (by assumption) ?_
  case hy24 =>
    intro w9 hSw
    try dsimp only at hSw
    try simp only [List.getElem_toArray, List.getElem_cons_zero, List.getElem_cons_succ]
    go_simp
    try with_reducible rfl
  try simp only [Act.put, List.setIfInBounds_toArray, List.set_cons_zero, List.set_cons_succ, List.getElem_toArray, List.getElem_cons_zero, List.getElem_cons_succ]
  refine lit_pair 30 31 32 33 _ _ _ _ 55 56 57 58 31 5 (Lib.byteCells [107, 101, 121]).toArray (Lib.byteCells [84, 104, 101, 32, 113, 117, 105, 99, 107, 32, 98, 114, 111, 119, 110, 32, 102, 111, 120, 32, 106, 117, 109, 112, 115, 32, 111, 118, 101, 114, 32, 116, 104, 101, 32, 108, 97, 122, 121, 32, 100, 111, 103]).toArray 3 43 Tryd.underlying31 Tryd.underlying5 rfl rfl rfl rfl rfl rfl rfl rfl (fun _ _ => by kernel_rfl) (fun _ _ => by kernel_rfl) rfl rfl (by kernel_rfl) (by kernel_rfl) (by kernel_rfl) (by kernel_rfl) (by kernel_rfl) (by decide) (by simp) (by simp) (by kernel_rfl) (by kernel_rfl) (by kernel_rfl) (by kernel_rfl) (by kernel_rfl) (by kernel_rfl) (by kernel_rfl) (by kernel_rfl) (fun _ hb9 => hHeld.below hb9) [107, 101, 121] [84, 104, 101, 32, 113, 117, 105, 99, 107, 32, 98, 114, 111, 119, 110, 32, 102, 111, 120, 32, 106, 117, 109, 112, 115, 32, 111, 118, 101, 114, 32, 116, 104, 101, 32, 108, 97, 122, 121, 32, 100, 111, 103] rfl rfl rfl rfl (by decide) (by decide) (fun ga gb W2 hg1W2 hg2W2 hA1W2 hA2W2 hBW2 hHeld => ?_)
  try simp only [Act.put, List.setIfInBounds_toArray, List.set_cons_zero, List.set_cons_succ, List.getElem_toArray, List.getElem_cons_zero, List.getElem_cons_succ]
  refine wpAnyH_ready (rs := [34]) (by kernel_rfl) (by simp) (AllReadyH.cons (o := _) rfl (fun K hK => ?_) AllReadyH.nil)
  try simp only [List.getElem_toArray, List.getElem_cons_zero, List.getElem_cons_succ]
  go_simp
  refine (Mac_any _ _ _ [107, 101, 121] [84, 104, 101, 32, 113, 117, 105, 99, 107, 32, 98, 114, 111, 119, 110, 32, 102, 111, 120, 32, 106, 117, 109, 112, 115, 32, 111, 118, 101, 114, 32, 116, 104, 101, 32, 108, 97, 122, 121, 32, 100, 111, 103] hA1W2 hA2W2 (by decide) (by decide) hHeld.g).mono ?_
  rw [HM.out]
  rintro e wa ⟨rfl, hb0⟩
  refine hK.out _ _ ((hHeld.below hb0)) (fun hHeld => ?_)
  clear hK K
  try simp only [Act.put, List.setIfInBounds_toArray, List.set_cons_zero, List.set_cons_succ, List.getElem_toArray, List.getElem_cons_zero, List.getElem_cons_succ]
  refine wpAnyH_ready (rs := [35]) (by kernel_rfl) (by simp) (AllReadyH.cons (o := _) rfl (fun K hK => ?_) AllReadyH.nil)
  try simp only [List.getElem_toArray, List.getElem_cons_zero, List.getElem_cons_succ]
  go_simp
  refine (Hex_any _ M HML.out).mono ?_
  rintro e wa ⟨rfl, hb0⟩
  refine hK.out _ _ ((hHeld.below hb0)) (fun hHeld => ?_)
  clear hK K
  try simp only [Act.put, List.setIfInBounds_toArray, List.set_cons_zero, List.set_cons_succ, List.getElem_toArray, List.getElem_cons_zero, List.getElem_cons_succ]
  refine wpAnyH_take (i := 36) (oi := _) (v := ?_) rfl (by kernel_rfl) (by kernel_rfl) (by kernel_rfl) (fun _ _ _ h => h) ?hl25 (by assumption) ?_
  case hl25 => refine yieldsIf_headS ?_ (.tmp 60) 8 8 rfl ?_ ⟨(hexOf M).toArray⟩ ?_ HSZM.out <;> kernel_rfl
  try simp only [Act.put, List.setIfInBounds_toArray, List.set_cons_zero, List.set_cons_succ, List.getElem_toArray, List.getElem_cons_zero, List.getElem_cons_succ]
  refine wpAnyH_take (i := 37) (oi := _) (v := ?_) rfl (by kernel_rfl) (by kernel_rfl) (by kernel_rfl) (fun _ _ _ h => h) ?hl26 (by assumption) ?_
  case hl26 => refine yieldsIf_eqS ?_ (.tmp 61) (.const (.string ⟨#[102, 55, 98, 99, 56, 51, 102, 52]⟩)) 9 ?_ _ ⟨#[102, 55, 98, 99, 56, 51, 102, 52]⟩ ?_ ?_ true HE37.out <;> kernel_rfl
  try simp only [Act.put, List.setIfInBounds_toArray, List.set_cons_zero, List.set_cons_succ, List.getElem_toArray, List.getElem_cons_zero, List.getElem_cons_succ]
  refine wpAnyH_take (i := 38) (oi := _) (v := ?_) rfl (by kernel_rfl) (by kernel_rfl) (by kernel_rfl) (fun _ _ _ h => h) (Or.inl ⟨by kernel_rfl, ?hy27⟩) (by assumption) ?_
  case hy27 =>
    intro w9 hSw
    try dsimp only at hSw
    try simp only [List.getElem_toArray, List.getElem_cons_zero, List.getElem_cons_succ]
    go_simp
    try with_reducible rfl
  try simp only [Act.put, List.setIfInBounds_toArray, List.set_cons_zero, List.set_cons_succ, List.getElem_toArray, List.getElem_cons_zero, List.getElem_cons_succ]
  refine wpAnyH_take (i := 39) (oi := _) (v := ?_) rfl (by kernel_rfl) (by kernel_rfl) (by kernel_rfl) (fun _ _ _ h => h) (Or.inl ⟨by kernel_rfl, ?hy28⟩) (by assumption) ?_
  case hy28 =>
    intro w9 hSw
    try dsimp only at hSw
    try simp only [List.getElem_toArray, List.getElem_cons_zero, List.getElem_cons_succ]
    go_simp
    try with_reducible rfl
  try simp only [Act.put, List.setIfInBounds_toArray, List.set_cons_zero, List.set_cons_succ, List.getElem_toArray, List.getElem_cons_zero, List.getElem_cons_succ]
  refine lit_pair 40 41 42 43 _ _ _ _ 65 66 67 68 31 5 (Lib.byteCells [97]).toArray (Lib.byteCells [97]).toArray 1 1 Tryd.underlying31 Tryd.underlying5 rfl rfl rfl rfl rfl rfl rfl rfl (fun _ _ => by kernel_rfl) (fun _ _ => by kernel_rfl) rfl rfl (by kernel_rfl) (by kernel_rfl) (by kernel_rfl) (by kernel_rfl) (by kernel_rfl) (by decide) (by simp) (by simp) (by kernel_rfl) (by kernel_rfl) (by kernel_rfl) (by kernel_rfl) (by kernel_rfl) (by kernel_rfl) (by kernel_rfl) (by kernel_rfl) (fun _ hb9 => hHeld.below hb9) [97] [97] rfl rfl rfl rfl (by decide) (by decide) (fun ga gb W3 hg1W3 hg2W3 hA1W3 hA2W3 hBW3 hHeld => ?_)
  try simp only [Act.put, List.setIfInBounds_toArray, List.set_cons_zero, List.set_cons_succ, List.getElem_toArray, List.getElem_cons_zero, List.getElem_cons_succ]
  refine wpAnyH_ready (rs := [44]) (by kernel_rfl) (by simp) (AllReadyH.cons (o := _) rfl (fun K hK => ?_) AllReadyH.nil)
  try simp only [List.getElem_toArray, List.getElem_cons_zero, List.getElem_cons_succ]
  go_simp
  refine (Equal_any _ _ [97] [97] _ hA1W3 hA2W3).mono ?_
  rw [show decide (([97] : List UInt8) = [97]) = true from by decide]
  rintro e wa ⟨rfl, nn, rfl⟩
  have hb0 := drewB W3 nn
  refine hK.out _ _ ((hHeld.below hb0)) (fun hHeld => ?_)
  clear hK K
  try simp only [Act.put, List.setIfInBounds_toArray, List.set_cons_zero, List.set_cons_succ, List.getElem_toArray, List.getElem_cons_zero, List.getElem_cons_succ]
  refine wpAnyH_take (i := 45) (oi := _) (v := ?_) rfl (by kernel_rfl) (by kernel_rfl) (by kernel_rfl) (fun _ _ _ h => h) (Or.inl ⟨by kernel_rfl, ?hy29⟩) (by assumption) ?_
  case hy29 =>
    intro w9 hSw
    try dsimp only at hSw
    try simp only [List.getElem_toArray, List.getElem_cons_zero, List.getElem_cons_succ]
    go_simp
    try with_reducible rfl
  try simp only [Act.put, List.setIfInBounds_toArray, List.set_cons_zero, List.set_cons_succ, List.getElem_toArray, List.getElem_cons_zero, List.getElem_cons_succ]
  refine wpAnyH_take (i := 46) (oi := _) (v := ?_) rfl (by kernel_rfl) (by kernel_rfl) (by kernel_rfl) (fun _ _ _ h => h) (Or.inl ⟨by kernel_rfl, ?hy30⟩) (by assumption) ?_
  case hy30 =>
    intro w9 hSw
    try dsimp only at hSw
    try simp only [List.getElem_toArray, List.getElem_cons_zero, List.getElem_cons_succ]
    go_simp
    try with_reducible rfl
  try simp only [Act.put, List.setIfInBounds_toArray, List.set_cons_zero, List.set_cons_succ, List.getElem_toArray, List.getElem_cons_zero, List.getElem_cons_succ]
  refine lit_pair 47 48 49 50 _ _ _ _ 72 73 74 75 31 5 (Lib.byteCells [97]).toArray (Lib.byteCells [98]).toArray 1 1 Tryd.underlying31 Tryd.underlying5 rfl rfl rfl rfl rfl rfl rfl rfl (fun _ _ => by kernel_rfl) (fun _ _ => by kernel_rfl) rfl rfl (by kernel_rfl) (by kernel_rfl) (by kernel_rfl) (by kernel_rfl) (by kernel_rfl) (by decide) (by simp) (by simp) (by kernel_rfl) (by kernel_rfl) (by kernel_rfl) (by kernel_rfl) (by kernel_rfl) (by kernel_rfl) (by kernel_rfl) (by kernel_rfl) (fun _ hb9 => hHeld.below hb9) [97] [98] rfl rfl rfl rfl (by decide) (by decide) (fun ga gb W4 hg1W4 hg2W4 hA1W4 hA2W4 hBW4 hHeld => ?_)
  try simp only [Act.put, List.setIfInBounds_toArray, List.set_cons_zero, List.set_cons_succ, List.getElem_toArray, List.getElem_cons_zero, List.getElem_cons_succ]
  refine wpAnyH_ready (rs := [51]) (by kernel_rfl) (by simp) (AllReadyH.cons (o := _) rfl (fun K hK => ?_) AllReadyH.nil)
  try simp only [List.getElem_toArray, List.getElem_cons_zero, List.getElem_cons_succ]
  go_simp
  refine (Equal_any _ _ [97] [98] _ hA1W4 hA2W4).mono ?_
  rw [show decide (([97] : List UInt8) = [98]) = false from by decide]
  rintro e wa ⟨rfl, nn, rfl⟩
  have hb0 := drewB W4 nn
  refine hK.out _ _ ((hHeld.below hb0)) (fun hHeld => ?_)
  clear hK K
  try simp only [Act.put, List.setIfInBounds_toArray, List.set_cons_zero, List.set_cons_succ, List.getElem_toArray, List.getElem_cons_zero, List.getElem_cons_succ]
  refine wpAnyH_take (i := 52) (oi := _) (v := ?_) rfl (by kernel_rfl) (by kernel_rfl) (by kernel_rfl) (fun _ _ _ h => h) (Or.inl ⟨by kernel_rfl, ?hy31⟩) (by assumption) ?_
  case hy31 =>
    intro w9 hSw
    try dsimp only at hSw
    try simp only [List.getElem_toArray, List.getElem_cons_zero, List.getElem_cons_succ]
    go_simp
    try with_reducible rfl
  try simp only [Act.put, List.setIfInBounds_toArray, List.set_cons_zero, List.set_cons_succ, List.getElem_toArray, List.getElem_cons_zero, List.getElem_cons_succ]
  refine wpAnyH_take (i := 53) (oi := _) (v := ?_) rfl (by kernel_rfl) (by kernel_rfl) (by kernel_rfl) (fun _ _ _ h => h) (Or.inl ⟨by kernel_rfl, ?hy32⟩) (by assumption) ?_
  case hy32 =>
    intro w9 hSw
    try dsimp only at hSw
    try simp only [List.getElem_toArray, List.getElem_cons_zero, List.getElem_cons_succ]
    go_simp
    try with_reducible rfl
  try simp only [Act.put, List.setIfInBounds_toArray, List.set_cons_zero, List.set_cons_succ, List.getElem_toArray, List.getElem_cons_zero, List.getElem_cons_succ]
  refine wpAnyH_take (i := 54) (oi := _) (v := ?_) rfl (by kernel_rfl) (by kernel_rfl) (by kernel_rfl) (fun _ _ _ h => h) (Or.inl ⟨by kernel_rfl, ?hy33⟩) (by assumption) ?_
  case hy33 =>
    intro w9 hSw
    try dsimp only at hSw
    try simp only [List.getElem_toArray, List.getElem_cons_zero, List.getElem_cons_succ]
    go_simp
    try with_reducible rfl
  try simp only [Act.put, List.setIfInBounds_toArray, List.set_cons_zero, List.set_cons_succ, List.getElem_toArray, List.getElem_cons_zero, List.getElem_cons_succ]
  refine wpAnyH_take (i := 55) (oi := _) (v := ?_) rfl (by kernel_rfl) (by kernel_rfl) (by kernel_rfl) (fun _ _ _ h => h) (Or.inl ⟨by kernel_rfl, ?hy34⟩) (by assumption) ?_
  case hy34 =>
    intro w9 hSw
    try dsimp only at hSw
    try simp only [List.getElem_toArray, List.getElem_cons_zero, List.getElem_cons_succ]
    go_simp
    try with_reducible rfl
  try simp only [Act.put, List.setIfInBounds_toArray, List.set_cons_zero, List.set_cons_succ, List.getElem_toArray, List.getElem_cons_zero, List.getElem_cons_succ]
  refine wpAnyH_ready (rs := [56]) (by kernel_rfl) (by simp) (AllReadyH.cons (o := _) rfl (fun K hK => ?_) AllReadyH.nil)
  try simp only [List.getElem_toArray, List.getElem_cons_zero, List.getElem_cons_succ]
  go_simp
  refine (Len_done _ R [97, 98, 99] hHeld.h).mono ?_
  rintro e wa ⟨rfl, rfl⟩
  refine hK.out _ _ (hHeld) (fun hHeld => ?_)
  clear hK K
  try simp only [Act.put, List.setIfInBounds_toArray, List.set_cons_zero, List.set_cons_succ, List.getElem_toArray, List.getElem_cons_zero, List.getElem_cons_succ]
  refine wpAnyH_take (i := 57) (oi := _) (v := ?_) rfl (by kernel_rfl) (by kernel_rfl) (by kernel_rfl) (fun _ _ _ h => h) (Or.inl ⟨by kernel_rfl, ?hy35⟩) (by assumption) ?_
  case hy35 =>
    intro w9 hSw
    try dsimp only at hSw
    try simp only [List.getElem_toArray, List.getElem_cons_zero, List.getElem_cons_succ]
    go_simp
    try with_reducible rfl
  try simp only [Act.put, List.setIfInBounds_toArray, List.set_cons_zero, List.set_cons_succ, List.getElem_toArray, List.getElem_cons_zero, List.getElem_cons_succ]
  refine wpAnyH_take (i := 58) (oi := _) (v := ?_) rfl (by kernel_rfl) (by kernel_rfl) (by kernel_rfl) (fun _ _ _ h => h) (Or.inl ⟨by kernel_rfl, ?hy36⟩) (by assumption) ?_
  case hy36 =>
    intro w9 hSw
    try dsimp only at hSw
    try simp only [List.getElem_toArray, List.getElem_cons_zero, List.getElem_cons_succ]
    go_simp
    try with_reducible rfl
  try simp only [Act.put, List.setIfInBounds_toArray, List.set_cons_zero, List.set_cons_succ, List.getElem_toArray, List.getElem_cons_zero, List.getElem_cons_succ]
  refine wpAnyH_take (i := 59) (oi := _) (v := ?_) rfl (by kernel_rfl) (by kernel_rfl) (by kernel_rfl) (fun _ _ _ h => h) (Or.inl ⟨by kernel_rfl, ?hy37⟩) (by assumption) ?_
  case hy37 =>
    intro w9 hSw
    try dsimp only at hSw
    try simp only [List.getElem_toArray, List.getElem_cons_zero, List.getElem_cons_succ]
    go_simp
    try with_reducible rfl
  try simp only [Act.put, List.setIfInBounds_toArray, List.set_cons_zero, List.set_cons_succ, List.getElem_toArray, List.getElem_cons_zero, List.getElem_cons_succ]
  refine wpAnyH_take (i := 60) (oi := _) (v := ?_) rfl (by kernel_rfl) (by kernel_rfl) (by kernel_rfl) (fun _ _ _ h => h) (Or.inl ⟨by kernel_rfl, ?hy38⟩) (by assumption) ?_
  case hy38 =>
    intro w9 hSw
    try dsimp only at hSw
    try simp only [List.getElem_toArray, List.getElem_cons_zero, List.getElem_cons_succ]
    go_simp
    try with_reducible rfl
  try simp only [Act.put, List.setIfInBounds_toArray, List.set_cons_zero, List.set_cons_succ, List.getElem_toArray, List.getElem_cons_zero, List.getElem_cons_succ]
  refine lit_one 61 62 _ _ 86 87 31 5 (Lib.byteCells [100]).toArray 1 Tryd.underlying31 Tryd.underlying5 rfl rfl rfl rfl (fun _ _ => by kernel_rfl) rfl (by kernel_rfl) (by kernel_rfl) (by kernel_rfl) (by simp) (by kernel_rfl) (by kernel_rfl) (fun _ hb9 => hHeld.below hb9) [100] rfl rfl (by decide) (fun gg W5 hg1W5 hA1W5 hBW5 hHeld => ?_)
  try simp only [Act.put, List.setIfInBounds_toArray, List.set_cons_zero, List.set_cons_succ, List.getElem_toArray, List.getElem_cons_zero, List.getElem_cons_succ]
  refine wpAnyH_ready (rs := [63]) (by kernel_rfl) (by simp) (AllReadyH.cons (o := _) rfl (fun K hK => ?_) AllReadyH.nil)
  try simp only [List.getElem_toArray, List.getElem_cons_zero, List.getElem_cons_succ]
  go_simp
  refine (Write_done _ R [97, 98, 99] hHeld.h _).mono ?_
  rintro e wa ⟨rfl, rfl⟩
  refine hK.out _ _ (hHeld) (fun hHeld => ?_)
  clear hK K
  try simp only [Act.put, List.setIfInBounds_toArray, List.set_cons_zero, List.set_cons_succ, List.getElem_toArray, List.getElem_cons_zero, List.getElem_cons_succ]
  refine wpAnyH_take (i := 64) (oi := _) (v := ?_) rfl (by kernel_rfl) (by kernel_rfl) (by kernel_rfl) (fun _ _ _ h => h) (Or.inl ⟨by kernel_rfl, ?hy39⟩) (by assumption) ?_
  case hy39 =>
    intro w9 hSw
    try dsimp only at hSw
    try simp only [List.getElem_toArray, List.getElem_cons_zero, List.getElem_cons_succ]
    go_simp
    try with_reducible rfl
  try simp only [Act.put, List.setIfInBounds_toArray, List.set_cons_zero, List.set_cons_succ, List.getElem_toArray, List.getElem_cons_zero, List.getElem_cons_succ]
  refine wpAnyH_take (i := 65) (oi := _) (v := ?_) rfl (by kernel_rfl) (by kernel_rfl) (by kernel_rfl) (fun _ _ _ h => h) (Or.inl ⟨by kernel_rfl, ?hy40⟩) (by assumption) ?_
  case hy40 =>
    intro w9 hSw
    try dsimp only at hSw
    try simp only [List.getElem_toArray, List.getElem_cons_zero, List.getElem_cons_succ]
    go_simp
    try with_reducible rfl
  try simp only [Act.put, List.setIfInBounds_toArray, List.set_cons_zero, List.set_cons_succ, List.getElem_toArray, List.getElem_cons_zero, List.getElem_cons_succ]
  refine wpAnyH_take (i := 66) (oi := _) (v := ?_) rfl (by kernel_rfl) (by kernel_rfl) (by kernel_rfl) (fun _ _ _ h => h) (Or.inl ⟨by kernel_rfl, ?hy41⟩) (by assumption) ?_
  case hy41 =>
    intro w9 hSw
    try dsimp only at hSw
    try simp only [List.getElem_toArray, List.getElem_cons_zero, List.getElem_cons_succ]
    go_simp
    try with_reducible rfl
  try simp only [Act.put, List.setIfInBounds_toArray, List.set_cons_zero, List.set_cons_succ, List.getElem_toArray, List.getElem_cons_zero, List.getElem_cons_succ]
  refine wpAnyH_done (by kernel_rfl) ?_ _
  have HFIN := Lib.hid hHeld.bel
  go_wp2
  go_ret
  exact ⟨rfl, by rw [HRE.out]; exact HFIN.out⟩
end Go.Proofs.YtjopfhmloklhdaaDoor
