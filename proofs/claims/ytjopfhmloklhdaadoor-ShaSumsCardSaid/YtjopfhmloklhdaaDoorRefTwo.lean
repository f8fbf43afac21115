/-
  What the document's own digest goes through, as lists.
  The document's own digest (rolodexref2.Sum): SHA-256 of the bytes.
  The document's own key, made as long as a block and masked (rolodexref2.pad).
  The document's own keyed digest (rolodexref2.Mac).
-/
import Derived.Test.YtjopfhmloklhdaaDoorRefBlock
import Derived.Test.YtjopfhmloklhdaaDoorFin
import Derived.Test.YtjopfhmloklhdaaDoorShaEqualW
import Derived.Test.YtjopfhmloklhdaaDoorRefConAll
import Derived.Test.YtjopfhmloklhdaaDoorShaKeysW
import Derived.Deep.CutBlock
import Derived.Test.YtjopfhmloklhdaaDoorMac
namespace Go.Proofs.YtjopfhmloklhdaaDoor.Ref
open Go.ChangeShapes Go.WideShapes Go.ChangeAt Go.RowKit Go.Deep
set_option linter.unusedVariables false
set_option linter.unusedSimpArgs false
def slLen : Value → Nat
  | .slice _ n _ => n
  | _ => 0
theorem own_at {w : World} {B : Nat} {e : TypeId} {v : Value} {l : List UInt8} (h : Own w B e v l) (h0 : 0 < l.length) : ∃ g cap, v = .slice (some ⟨g, 0, none⟩) l.length cap ∧ B ≤ g ∧ g < w.heap.size ∧ l.length ≤ cap ∧ cap ≤ maxLen ∧ ∀ j, j < l.length → w.cell? ⟨g, j, none⟩ = some (.int .u8 ((l.getD j 0).toNat : Int)) := by
  have h' := h
  rcases h.2 with ⟨_, hz⟩ | ⟨g, cap, cur, rfl, h2, h3, h4, h5, _⟩
  · omega
  · refine ⟨g, cap, rfl, h2, lt_of_block h3, h4, h5, fun j hj => ?_⟩
    rw [World.ownsRow.cellAt h' j (by omega), byteCells_get hj, List.getD_eq_getElem?_getD, List.getElem?_eq_getElem hj]
    rfl
theorem be8_step (N i : Nat) (hi : i < 8) : (be8 N).take (8 - i) = (be8 N).take (8 - (i + 1)) ++ [UInt8.ofNat (N / 256 ^ i)] := by
  rcases (by omega : i = 0 ∨ i = 1 ∨ i = 2 ∨ i = 3 ∨ i = 4 ∨ i = 5 ∨ i = 6 ∨ i = 7) with rfl | rfl | rfl | rfl | rfl | rfl | rfl | rfl <;> simp [be8]
theorem mix_step (P : List UInt8) (j : Nat) : mixMany shaStart (j + 1) P = mixW shaK (mixMany shaStart j P) ((P.drop (64 * j)).take 64) := by
  rw [mixMany_add]
  rfl
theorem blk_at {w : World} {g j n : Nat} {P : List UInt8} (hP : P.length = 64 * n) (hj : j < n) (hc : ∀ i, i < P.length → w.cell? ⟨g, i, none⟩ = some (.int .u8 ((P.getD i 0).toNat : Int))) : Blk w g (64 * j) ((P.drop (64 * j)).take 64) := fun i hi => by
  rw [hc (64 * j + i) (by omega)]
  congr 4
  rw [List.getD_eq_getElem?_getD, List.getD_eq_getElem?_getD, List.getElem?_take_of_lt hi, List.getElem?_drop]
def outB (L : List UInt8) (i : Nat) : List UInt8 := L.take i ++ zeros (32 - i)
theorem outB_len (L : List UInt8) (hL : L.length = 32) (i : Nat) (hi : i ≤ 32) : (outB L i).length = 32 := by
  unfold outB zeros
  rw [List.length_append, List.length_take, List.length_replicate]
  omega
theorem outB_step (L : List UInt8) (hL : L.length = 32) (i : Nat) (hi : i < 32) (x : UInt8) (hx : L.getD i 0 = x) : (outB L i).set i x = outB L (i + 1) := by
  subst hx
  unfold outB
  have hl : (L.take i).length = i := by rw [List.length_take]; omega
  rw [List.set_append_right _ _ (by omega), hl, Nat.sub_self, List.take_succ_eq_append_getElem (by omega), show 32 - i = (32 - (i + 1)) + 1 by omega, List.getD_eq_getElem?_getD, List.getElem?_eq_getElem (by omega)]
  unfold zeros
  rw [List.replicate_succ, List.set_cons_zero, List.append_assoc]
  rfl
theorem outB_end (L : List UInt8) (hL : L.length = 32) : outB L 32 = L := by
  unfold outB
  rw [List.take_of_length_le (by omega)]
  simp [zeros]
theorem words_len32 (s : Wk) : (wordsOut s).length = 32 := rfl
theorem word_byte (s : Wk) (a b : Nat) (ha : a < 8) (hb : b < 4) : (wordsOut s).getD (4 * a + b) 0 = UInt8.ofNat (s.list.getD a 0 / 2 ^ (24 - 8 * b)) := by
  rcases (by omega : a = 0 ∨ a = 1 ∨ a = 2 ∨ a = 3 ∨ a = 4 ∨ a = 5 ∨ a = 6 ∨ a = 7) with rfl | rfl | rfl | rfl | rfl | rfl | rfl | rfl <;>
    rcases (by omega : b = 0 ∨ b = 1 ∨ b = 2 ∨ b = 3) with rfl | rfl | rfl | rfl <;> simp [wordsOut, Wk.list, be4]
theorem pad_len (l : List UInt8) (n Z : Nat) (hn : l.length = n) (hZ : (119 - n % 64) % 64 = Z) : (l ++ 128 :: (zeros Z ++ be8 (n * 8))).length = 64 * ((n + 8) / 64 + 1) := by
  simp only [List.length_append, List.length_cons, be8, List.length_nil, zeros, List.length_replicate]
  omega
theorem pad_sha (l : List UInt8) (n Z : Nat) (hn : l.length = n) (hZ : (119 - n % 64) % 64 = Z) (hb : n ≤ 1000000) : shaOf l = wordsOut (mixMany shaStart ((n + 8) / 64 + 1) (l ++ 128 :: (zeros Z ++ be8 (n * 8)))) := by
  unfold shaOf padBy zeros
  rw [hn, hZ, Nat.mod_eq_of_lt (by omega)]
theorem run_sub64 (gm q cm lo : Nat) (h1 : lo + 64 ≤ q) (h2 : q ≤ cm) (h3 : cm ≤ maxLen) (hi : Int) (hhi : hi = (lo : Int) + 64) (W : World) :
    (Instr.slice 31 (.slice (some ⟨gm, 0, none⟩) q cm) (some (.int .i64 (lo : Int))) (some (.int .i64 hi)) none).run Tryd.prog W = .ok (.slice (some ⟨gm, lo, none⟩) 64 (cm - lo)) W := by
  subst hhi
  rw [run_slice_lh (P := Tryd.prog) (w := W) (t := 31) (a := some ⟨gm, 0, none⟩) (len := q) (cap := cm) Tryd.underlying31 .i64 .i64 (lo : Int) ((lo : Int) + 64) (by omega) (by omega) (by omega), size_one]
  simp only [Result.andThen, sliced]
  rw [if_neg (by omega)]
  simp [add_plain]
  omega
end Go.Proofs.YtjopfhmloklhdaaDoor.Ref
namespace Go.Proofs.YtjopfhmloklhdaaDoor.Ref
open Go.ChangeShapes Go.WideShapes Go.ChangeAt Go.RowKit Go.Deep
set_option linter.unusedVariables false
set_option linter.unusedSimpArgs false
set_option maxRecDepth 100000 in
set_option maxHeartbeats 8000000 in
theorem Sum_any (v : Value) (l : List UInt8) (w : World) (hv : HasA w v l) (hl : l.length ≤ 4000) :
    Calls Tryd.prog 17 #[v] w fun e w' => e = .returned (.agg (Lib.byteCells (shaOf l)).toArray) ∧ Below w.heap.size w w' := by
  obtain ⟨q, cap, rfl, hc1, hc2⟩ := hv.form
  obtain ⟨n, hn⟩ : ∃ n, l.length = n := ⟨_, rfl⟩
  obtain ⟨Z, hZ⟩ : ∃ Z, (119 - n % 64) % 64 = Z := ⟨_, rfl⟩
  have hpl := pad_len l n Z hn hZ
  have hsp := pad_sha l n Z hn hZ (by omega)
  have hZ63 : Z ≤ 63 := by omega
  have hz1 : (n + 1 + Z) % 64 = 56 := by omega
  have hz2 : ∀ z, z < Z → (n + 1 + z) % 64 ≠ 56 := fun z hz => by omega
  have hccI : (cap : Int) ≤ 9223372036854775807 := by unfold maxLen at hc2; omega
  have hlb : l.length ≤ 4000 := hl
  rw [hn] at hv hc1 hl ⊢
  have HPL := Lib.hid hpl
  have HSP := Lib.hid hsp
  have HZ1 := Lib.hid hz1
  have HZ2 := Lib.hid hz2
  have HV := Lib.hid hv
  have HN := Lib.hid hn
  clear hpl hsp hz1 hz2 hv hc2 hn hZ
  have HRES := Lib.hid (heap_alloc_new w (.cells (noBytes 32).toArray 23))
  have HBEL := Lib.hid ((Below.refl w.heap.size w).alloc (Nat.le_refl _) (.cells (noBytes 32).toArray 23))
  have hzw1 : (w.alloc (.cells (noBytes 32).toArray 23)).heap.size = w.heap.size + 1 := size_alloc1 _ _
  have HZW := Lib.hid hzw1
  clear hzw1
  go_enter Tryd.func17, Tryd.ntmps17
  go_wp2_with (refine wpList_alloc_of rfl 23 (noBytes 32).toArray rfl made32 ?_)
  generalize (w.alloc (.cells (noBytes 32).toArray 23)) = w1 at *
  refine (Consts_any w1).mono ?_
  rintro e w2 ⟨v1, v2, rfl, ho1, ho2, hb2⟩
  obtain ⟨gk, ck, rfl, hgk1, hgk2, hgk3, hgk4, hck⟩ := ho2.form (by decide)
  rw [show shaK.length = 64 from rfl] at *
  have hzw1 := HZW.out
  have hzw2 := hb2.size
  have HCK := Lib.hid hck
  have HO1 := Lib.hid ho1
  have HB2 := Lib.hid (HBEL.out.trans (hb2.mono (by omega)))
  have HB12 := Lib.hid hb2
  have HE := Lib.hid (own_empty w2 5)
  have hbe := (Below.refl w2.heap.size w2).alloc (Nat.le_refl _) (.cells #[] 5)
  have HVE := Lib.hid (HV.out.below (HB2.out.trans (hbe.mono HB2.out.size)))
  have HBE := Lib.hid hbe
  clear ho1 ho2 hck hb2 hbe
  go_wp2_with (at_builtin; first | (refine wpList_append_hasA rfl (.tmp 15) (.tmp 16) 31 rfl w2.heap.size 5 Tryd.underlying31 info_u8 _ [] rfl HE.out _ l l rfl HVE.out rfl (by show 0 + l.length ≤ _; omega) HBE.out.size w2 HBE.out (fun v17 w17 ho17 hb17 => ?_)) | (refine wpList_append_hasA rfl (.tmp 17) (.tmp 18) 31 rfl w2.heap.size 5 Tryd.underlying31 info_u8 _ l rfl (ho17.alloc _) _ [128] (l ++ [128]) rfl (has_lits w17 [128] #[.int .u8 128] rfl 5 (0, 0) 1 rfl (by decide)).1 rfl (by show l.length + 1 ≤ _; omega) (hb17.alloc hb17.size _).size w2 (hb17.alloc hb17.size _) (fun v19 w19 ho19 hb19 => ?_)))
  have HO5 := Lib.hid ho19
  have HB5 := Lib.hid hb19
  clear ho17 hb17 ho19 hb19
  go_loopw [5] (fun v5 wr => ∃ z : Nat, z ≤ Z ∧ Own wr w2.heap.size 5 v5 (l ++ 128 :: zeros z) ∧ Below w2.heap.size w2 wr) (fun v5 _ => 5000 - slLen v5)
  case atStart => exact ⟨0, Nat.zero_le _, HO5.out, HB5.out⟩
  case round =>
    obtain ⟨z, hz, ho, hb⟩ := hrel
    have hml : (l ++ 128 :: zeros z).length = n + 1 + z := by rw [List.length_append, HN.out, List.length_cons]; simp [zeros]; omega
    have hms : l ++ 128 :: zeros (z + 1) = (l ++ 128 :: zeros z) ++ [0] := by rw [zeros_succ]; simp
    obtain ⟨p9, c9, rfl, r1, r2⟩ := ho.has.form
    have hc9 : (c9 : Int) ≤ 9223372036854775807 := by unfold maxLen at r2; omega
    obtain ⟨m, hm⟩ : ∃ m, n + 1 + z = m := ⟨_, rfl⟩
    have hm0 : (0 : Int) ≤ (m : Int) := by omega
    have hmb : m ≤ 4100 := by omega
    rcases Nat.lt_or_ge z Z with hlt | hge
    · have hne : m % 64 ≠ 56 := by rw [← hm]; exact HZ2.out z hlt
      have hne1 : ¬ ((m : Int) % 64) = 56 := by omega
      have hne2 : ((m : Int) % 64 == 56) = false := by simp only [beq_eq_false_iff_ne, ne_eq]; exact hne1
      have hne3 : ((m : Int) % 64 != 56) = true := by simp only [bne_iff_ne, ne_eq]; exact hne1
      obtain ⟨M, hM⟩ : ∃ M, l ++ 128 :: zeros z = M := ⟨_, rfl⟩
      rw [hM] at ho hml hms r1
      rw [hM]
      rw [hml, hm] at r1
      rw [hml, hm]
      have HMS := Lib.hid hms
      have HML := Lib.hid (hml.trans hm)
      have HOX := Lib.hid (ho.alloc (.cells #[.int .u8 0] 5))
      have HBX := Lib.hid (hb.alloc hb.size (.cells #[.int .u8 0] 5))
      have HAX := Lib.hid (has_lits wr [0] #[.int .u8 0] rfl 5 (0, 0) 1 rfl (by decide)).1
      rw [hml, hm] at HOX
      have hmm : M.length ≤ 4100 := by omega
      clear ho hb hM hml hms hm hne r2
      go_wp2_with (at_builtin; refine wpList_append_hasA rfl (.tmp 24) (.tmp 25) 31 rfl w2.heap.size 5 Tryd.underlying31 info_u8 _ M rfl (by have q := HOX.out; exact q) _ [0] (M ++ [0]) rfl HAX.out rfl (by show M.length + 1 ≤ _; omega) HBX.out.size w2 HBX.out (fun v26 w26 ho26 hb26 => ?_))
      obtain ⟨p8, c8, rfl, -, -⟩ := ho26.has.form
      have HO26 := Lib.hid ho26
      have HB26 := Lib.hid hb26
      have hm1 : (M ++ [0]).length = m + 1 := by rw [List.length_append, HML.out]; rfl
      have HM1 := Lib.hid hm1
      clear ho26 hb26 hm1
      go_roundw
      case rel => exact ⟨z + 1, hlt, by rw [HMS.out]; exact HO26.out, HB26.out⟩
      case measure => have := HM1.out; simp only [slLen]; omega
    · obtain rfl : z = Z := by omega
      have heq : m % 64 = 56 := by rw [← hm]; exact HZ1.out
      have heq1 : ((m : Int) % 64) = 56 := by omega
      have HML := Lib.hid (hml.trans hm)
      obtain ⟨M, hM⟩ : ∃ M, l ++ 128 :: zeros z = M := ⟨_, rfl⟩
      have hpl := HPL.out
      have hsp := HSP.out
      have hass : l ++ 128 :: (zeros z ++ be8 (n * 8)) = M ++ be8 (n * 8) := by rw [← hM]; simp
      rw [hass] at hpl hsp
      rw [hml, hm] at r1
      rw [hM] at ho HML
      rw [hml, hm]
      have HPL2 := Lib.hid hpl
      have HSP2 := Lib.hid hsp
      have HO := Lib.hid ho
      have HB := Lib.hid hb
      have hmm : M.length ≤ 4100 := by have := HML.out; omega
      obtain ⟨W3, rfl⟩ : ∃ W3, W3 = wr := ⟨wr, rfl⟩
      obtain ⟨N, hNN⟩ : ∃ N, n * 8 = N := ⟨_, rfl⟩
      have hNI : (n : Int) * 8 = (N : Int) := by omega
      have hNb : (N : Int) ≤ 40000 := by omega
      rw [hNN] at HPL2 HSP2
      clear ho hb hM hml hms hm r2 hpl hsp hass HPL HSP HZ1 HZ2 hNN heq
      go_upto_region 6 with fail
      try simp only [hNI]
      clear hNI heq1
      go_wp2_with fail
      go_loopw [5, 7] (fun v5 v7 wr => ∃ j : Nat, j ≤ 8 ∧ v7 = .int .i64 ((j : Int) - 1) ∧ Own wr w2.heap.size 5 v5 (M ++ (be8 N).take (8 - j)) ∧ Below w2.heap.size w2 wr) (fun _ v7 _ => (intOf v7 + 1).toNat)
      case atStart => exact ⟨8, Nat.le_refl _, rfl, by rw [show (be8 N).take (8 - 8) = [] from rfl, List.append_nil]; have q := HO.out; rw [HML.out] at q; exact q, HB.out⟩
      case round =>
        obtain ⟨j, hj, rfl, ho, hb⟩ := hrel
        cases j with
        | succ i =>
          have hi8 : i < 8 := by omega
          have hst := be8_step N i hi8
          have hiI : ((i + 1 : Nat) : Int) - 1 = (i : Int) := by omega
          have hi0 : (0 : Int) ≤ (i : Int) ∧ (i : Int) ≤ 7 := by omega
          rw [hiI]
          have hxl : (M ++ (be8 N).take (8 - (i + 1))).length ≤ 4108 := by rw [List.length_append, List.length_take]; simp only [be8, List.length_cons, List.length_nil]; omega
          have hbs := shift_byte N i
          obtain ⟨x, hx⟩ : ∃ x, UInt8.ofNat (N / 256 ^ i) = x := ⟨_, rfl⟩
          rw [hx] at hst hbs
          have hfin : M ++ (be8 N).take (8 - i) = (M ++ (be8 N).take (8 - (i + 1))) ++ [x] := by rw [hst, List.append_assoc]
          have HFI := Lib.hid hfin
          generalize M ++ (be8 N).take (8 - (i + 1)) = X at *
          have hax := (has_lits wr [x] #[.int .u8 (x.toNat : Int)] rfl 5 (0, 0) 1 rfl (by decide)).1
          rw [← hbs] at hax
          have HAX := Lib.hid hax
          have HOX := Lib.hid (ho.alloc (.cells #[.int .u8 ((N : Int) / 2 ^ (8 * i) % 256)] 5))
          have HBX := Lib.hid (hb.alloc hb.size (.cells #[.int .u8 ((N : Int) / 2 ^ (8 * i) % 256)] 5))
          clear ho hb hax hbs hx hst hiI hfin
          go_wp2_with (at_builtin; refine wpList_append_hasA rfl (.tmp 35) (.tmp 42) 31 rfl w2.heap.size 5 Tryd.underlying31 info_u8 _ X rfl HOX.out _ [x] (X ++ [x]) rfl HAX.out rfl (by show X.length + 1 ≤ _; omega) HBX.out.size w2 HBX.out (fun v26 w26 ho26 hb26 => ?_))
          have HO26 := Lib.hid ho26
          have HB26 := Lib.hid hb26
          clear ho26 hb26
          go_roundw
          case rel => exact ⟨i, by omega, by first | rfl | go_num, by rw [HFI.out]; exact HO26.out, HB26.out⟩
          case measure => simp [intOf] <;> omega
        | zero =>
          rw [show (be8 N).take (8 - 0) = be8 N from rfl] at ho
          rw [show (((0 : Nat) : Int) - 1) = -1 from rfl]
          obtain ⟨P, hP⟩ : ∃ P, M ++ be8 N = P := ⟨_, rfl⟩
          rw [hP] at ho
          rw [hP] at HPL2 HSP2
          obtain ⟨nb, hnb⟩ : ∃ nb, (n + 8) / 64 + 1 = nb := ⟨_, rfl⟩
          have hnb64 : nb ≤ 64 := by omega
          rw [hnb] at HPL2 HSP2
          have hp0 : 0 < P.length := by have := HPL2.out; omega
          obtain ⟨gm, cm, rfl, hgm1, hgm2, hcm1, hcm2, hcm⟩ := own_at ho hp0
          obtain ⟨qm, hqm⟩ : ∃ qm, 64 * nb = qm := ⟨_, rfl⟩
          have hplq : P.length = qm := HPL2.out.trans hqm
          rw [hplq] at hcm1 hcm ⊢
          obtain ⟨W4, rfl⟩ : ∃ W4, W4 = wr := ⟨wr, rfl⟩
          have HCM := Lib.hid hcm
          have hz4 := hb.size
          have hcm4 : (cm : Int) ≤ 9223372036854775807 := by unfold maxLen at hcm2; omega
          have hqm4 : qm ≤ 4096 := by omega
          have HO4 := Lib.hid (HO1.out.below hb)
          have HB4 := Lib.hid (HB2.out.trans (hb.mono (by omega)))
          have HB14 := Lib.hid (HB12.out.trans (hb.mono hzw2))
          have HCK4 : Hid (∀ j, j < 64 → W4.cell? ⟨gk, j, none⟩ = some (.int .u32 ((shaK.getD j 0 : Nat) : Int))) := Lib.hid (fun j hj => (hb.cell (p := ⟨gk, j, none⟩) hgk2).trans (HCK.out j hj))
          have HQM := Lib.hid hqm
          have HMXC : (cm : Nat) ≤ maxLen := hcm2
          have HPLQ := Lib.hid hplq
          clear ho hb hcm hP hnb hqm hplq hp0
          go_wp2_with fail
          go_loopw [3, 8] (fun v3 v8 wr => ∃ j : Nat, v8 = .int .i64 ((64 * j : Nat) : Int) ∧ j ≤ nb ∧ OwnN wr w1.heap.size 46 .u32 v3 (mixMany shaStart j P).list ∧ Below W4.heap.size W4 wr) (fun _ v8 _ => 64 * nb - (intOf v8).toNat)
          case atStart => exact ⟨0, rfl, Nat.zero_le _, HO4.out, Below.refl _ _⟩
          case round =>
            obtain ⟨j, rfl, hj, ho, hb⟩ := hrel
            have hz5 := hb.size
            obtain ⟨gh, ch, rfl, hgh1, hgh2, hch1, hch2, hchc⟩ := ho.form (by show 0 < 8; decide)
            rw [show (mixMany shaStart j P).list.length = 8 from rfl] at *
            rcases Nat.lt_or_ge j nb with hlt | hge
            · obtain ⟨lo, hlo⟩ : ∃ lo, 64 * j = lo := ⟨_, rfl⟩
              rw [hlo]
              have hq64 := HQM.out
              have hltI : ((lo : Nat) : Int) < ((qm : Nat) : Int) := by omega
              have hlo4 : lo ≤ 4096 := by omega
              have hlo0 : (0 : Int) ≤ (lo : Int) := by omega
              have hSl := mixMany_lt shaStart_lt j P
              have hms := mix_step P j
              have hbk := blk_at (w := wr) (g := gm) (P := P) HPL2.out hlt (fun i hi => (hb.cell (p := ⟨gm, i, none⟩) hgm2).trans (HCM.out i (by rw [← HPLQ.out]; exact hi)))
              rw [hlo] at hbk hms
              generalize (P.drop lo).take 64 = B at *
              generalize mixMany shaStart j P = S at *
              have hsub := fun W => run_sub64 gm qm cm lo (by omega) hcm1 HMXC ((lo : Int) + 64) rfl W
              have HSL := Lib.hid hSl
              have HMS := Lib.hid hms
              have HBK := Lib.hid hbk
              have HCC := Lib.hid hchc
              have HB := Lib.hid hb
              have HLO := Lib.hid hlo
              have HKC := Lib.hid (fun j hj => (hb.cell (p := ⟨gk, j, none⟩) (by show gk < W4.heap.size; omega)).trans (HCK4.out j hj))
              clear hSl hms hbk hchc hb hlo ho hq64
              go_wp2_with fail
              refine (block_any wr S HSL.out gh ch gk ck gm lo (cm - lo) B (by omega) (by omega) (by omega) HCC.out HKC.out HBK.out).mono ?_
              rintro e w6 ⟨v6, rfl, ho6, hb6⟩
              have HO6 := Lib.hid (ho6.mono (B' := w1.heap.size) (by omega))
              have HB6 := Lib.hid (HB.out.trans (hb6.mono hz5))
              clear ho6 hb6
              go_wp2
              go_roundw
              case rel => exact ⟨j + 1, by have := HLO.out; exact congrArg (Value.int .i64) (by omega), hlt, by rw [HMS.out]; exact HO6.out, HB6.out⟩
              case measure => have := HLO.out; simp [intOf]; omega
            · obtain rfl : j = nb := by omega
              rw [HQM.out]
              obtain ⟨W6, rfl⟩ : ∃ W6, W6 = wr := ⟨wr, rfl⟩
              have hsp := HSP2.out
              have hD := words_len32 (mixMany shaStart j P)
              have hwb := word_byte (mixMany shaStart j P)
              generalize mixMany shaStart j P = S at *
              obtain ⟨D, hDD⟩ : ∃ D, wordsOut S = D := ⟨_, rfl⟩
              rw [hDD] at hsp hD hwb
              have HD := Lib.hid hD
              have HWB := Lib.hid hwb
              have HSP3 := Lib.hid hsp
              have HCC := Lib.hid hchc
              have HB16 := Lib.hid (HB14.out.trans (hb.mono (by omega)))
              have hn7 : BRow (W6.alloc (.cells (noBytes 32).toArray 23)) 23 W6.heap.size (outB D 0) := heap_alloc_new _ _
              have hb7 := (Below.refl W6.heap.size W6).alloc (Nat.le_refl _) (.cells (noBytes 32).toArray 23)
              have HN7 := Lib.hid hn7
              have HB7 := Lib.hid hb7
              have hnq : ¬ ((qm : Nat) : Int) < ((qm : Nat) : Int) := by omega
              clear hsp hD hwb hchc hb ho hn7 hb7 hDD
              go_wp2_with (refine wpList_alloc_of rfl 23 (noBytes 32).toArray rfl made32 ?_)
              generalize (W6.alloc (.cells (noBytes 32).toArray 23)) = w7 at *
              go_loopw [10] (fun v10 wr => ∃ i : Nat, v10 = .int .i64 i ∧ i ≤ 32 ∧ BRow wr 23 W6.heap.size (outB D i) ∧ Below W6.heap.size W6 wr) (fun v10 _ => 32 - (intOf v10).toNat)
              case atStart => exact ⟨0, rfl, Nat.zero_le _, HN7.out, HB7.out⟩
              case round =>
                obtain ⟨i, rfl, hi, hr, hb⟩ := hrel
                have HB := Lib.hid hb
                rcases Nat.lt_or_ge i 32 with hlt | hge2
                · have hltI : (i : Int) < 32 := by omega
                  have hi0 : (0 : Int) ≤ (i : Int) := by omega
                  obtain ⟨a, b, hia, ha, hb4⟩ : ∃ a b, i = 4 * a + b ∧ a < 8 ∧ b < 4 := ⟨i / 4, i % 4, by omega, by omega, by omega⟩
                  have hq : ((i : Int) / 4) = (a : Int) := by omega
                  have hx := HWB.out a b ha hb4
                  rw [← hia] at hx
                  have cw := (hb.cell (p := ⟨gh, a, none⟩) (by show gh < W6.heap.size; omega)).trans (HCC.out a ha)
                  generalize S.list.getD a 0 = x at *
                  have fk := hr.free i
                  have ck := hr.cell i (by rw [outB_len D HD.out i hi]; omega)
                  have ha8 : (0 : Int) ≤ (a : Int) ∧ (a : Int) < 8 := by omega
                  clear hb
                  rcases (by omega : b = 0 ∨ b = 1 ∨ b = 2 ∨ b = 3) with rfl | rfl | rfl | rfl
                  · have hr4 : ((i : Int) % 4) = 0 := by omega
                    have hxx : D.getD i 0 = UInt8.ofNat (x / 16777216) := by rw [hx]
                    have hst := hr.set i (UInt8.ofNat (x / 16777216))
                    rw [← byte_24, outB_step D HD.out i hlt _ hxx] at hst
                    have HST := Lib.hid hst
                    clear hst hxx hx hr hia
                    go_wp2
                    go_roundw
                    case rel => exact ⟨i + 1, by go_num, hlt, HST.out, HB.out.setCell (Nat.le_refl _) _⟩
                    case measure => simp [intOf]; omega
                  · have hr4 : ((i : Int) % 4) = 1 := by omega
                    have hxx : D.getD i 0 = UInt8.ofNat (x / 65536) := by rw [hx]
                    have hst := hr.set i (UInt8.ofNat (x / 65536))
                    rw [← byte_16, outB_step D HD.out i hlt _ hxx] at hst
                    have HST := Lib.hid hst
                    clear hst hxx hx hr hia
                    go_wp2
                    go_roundw
                    case rel => exact ⟨i + 1, by go_num, hlt, HST.out, HB.out.setCell (Nat.le_refl _) _⟩
                    case measure => simp [intOf]; omega
                  · have hr4 : ((i : Int) % 4) = 2 := by omega
                    have hxx : D.getD i 0 = UInt8.ofNat (x / 256) := by rw [hx]
                    have hst := hr.set i (UInt8.ofNat (x / 256))
                    rw [← byte_8, outB_step D HD.out i hlt _ hxx] at hst
                    have HST := Lib.hid hst
                    clear hst hxx hx hr hia
                    go_wp2
                    go_roundw
                    case rel => exact ⟨i + 1, by go_num, hlt, HST.out, HB.out.setCell (Nat.le_refl _) _⟩
                    case measure => simp [intOf]; omega
                  · have hr4 : ((i : Int) % 4) = 3 := by omega
                    have hxx : D.getD i 0 = UInt8.ofNat x := by rw [hx]; simp
                    have hst := hr.set i (UInt8.ofNat x)
                    rw [← byte_0, outB_step D HD.out i hlt _ hxx] at hst
                    have HST := Lib.hid hst
                    clear hst hxx hx hr hia
                    go_wp2
                    go_roundw
                    case rel => exact ⟨i + 1, by go_num, hlt, HST.out, HB.out.setCell (Nat.le_refl _) _⟩
                    case measure => simp [intOf]; omega
                · obtain rfl : i = 32 := by omega
                  rw [outB_end D HD.out] at hr
                  have hh : ¬ ((32 : Nat) : Int) < 32 := by decide
                  have hdl := HD.out
                  have hl32 : (Tryd.prog.info? 23).map (·.size) = some (Lib.byteCells D).length := by rw [bytes_len, hdl]; exact info32
                  have hi32 : (Tryd.prog.info? 23).map (·.size) = some (Lib.byteCells D).toArray.size := by rw [List.size_toArray]; exact hl32
                  have ho32 : (Lib.byteCells D).toArray.all (·.oneCell') = true := all_oneCell_toArray (Lib.byteCells_one _)
                  have hres : BRow wr 23 w.heap.size (zeros 32) := ((HB16.out.trans (hb.mono (by have := HB16.out.size; omega))).block w.heap.size (by omega)).trans HRES.out
                  have hth := hres.there (Lib.byteCells D).toArray.size (by rw [List.size_toArray, bytes_len, hdl]; exact Nat.le_refl _)
                  have hfin : BRow (wr.setCells w.heap.size 0 (Lib.byteCells D).toArray.toList) 23 w.heap.size D := heap_setCells_whole (ws := (Lib.byteCells D).toArray) hres (by rw [List.size_toArray, List.size_toArray, bytes_len, bytes_len, hdl]; rfl)
                  have hbf : Below w.heap.size w (wr.setCells w.heap.size 0 (Lib.byteCells D).toArray.toList) := below_setCellsC (Nat.le_refl _) _ _ _ (HBEL.out.trans ((HB16.out.trans (hb.mono (by have := HB16.out.size; omega))).mono (by omega)))
                  unfold BRow at hfin hr
                  obtain ⟨C, hC⟩ : ∃ C, (Lib.byteCells D).toArray = C := ⟨_, rfl⟩
                  rw [hC] at hi32 ho32 hth hfin hbf hr
                  have HI32 := Lib.hid hi32
                  have HO32 := Lib.hid ho32
                  have HTH := Lib.hid hth
                  have HFN := Lib.hid hfin
                  have HBF := Lib.hid hbf
                  have HC := Lib.hid hC
                  have HR := Lib.hid hr
                  clear hr hb hdl hl32 hi32 ho32 hres hfin hbf hth hC
                  go_upto_region 19 with fail
                  go_cut [2] (fun v2 wz => v2 = .pointer (some ⟨w.heap.size, 0, none⟩) ∧ wz.heap[w.heap.size]? = some (.cells C 23 (0, 0)) ∧ Below w.heap.size w wz)
                  case first =>
                    go_wp2_with (first | (refine wpList_load_row rfl 23 (.tmp 9) rfl W6.heap.size rfl 23 C (0, 0) _ HR.out Tryd.underlying23 rfl HI32.out ?_) | (refine wpList_store_mid rfl 23 (.tmp 2) (.tmp 76) rfl w.heap.size 0 C rfl rfl HTH.out HI32.out HO32.out ?_))
                    go_meet
                    exact ⟨rfl, HFN.out, HBF.out⟩
                  case rest =>
                    obtain ⟨rfl, h1, h2⟩ := hcut
                    refine (‹∀ (a : Act) (w : World), Code.wp Tryd.prog Code.ret _ a w → _› : ∀ (a : Act) (w : World), Code.wp Tryd.prog Code.ret _ a w → _) _ _ ?_
                    apply wp_ret
                    exact bodyPost_ret (v := .agg C) (results_cell_row rfl _ _ w.heap.size 23 _ (0, 0) _ rfl h1 Tryd.underlying23 rfl HI32.out) rfl ⟨by rw [← HC.out, HSP3.out], h2⟩
end Go.Proofs.YtjopfhmloklhdaaDoor.Ref
namespace Go.Proofs.YtjopfhmloklhdaaDoor.Ref
open Go.ChangeShapes Go.WideShapes Go.ChangeAt Go.RowKit Go.Deep
set_option linter.unusedVariables false
set_option linter.unusedSimpArgs false
theorem own_free {w : World} {B : Nat} {e : TypeId} {g n c : Nat} {L : List UInt8} (h : Own w B e (.slice (some ⟨g, 0, none⟩) n c) L) (j : Nat) : w.frozen? ⟨g, j, none⟩ = false := by
  rcases h.2 with ⟨hv, _⟩ | ⟨g', cap, cur, hv, _, hh, _⟩
  · cases hv
  · simp only [Value.slice.injEq, Option.some.injEq, Addr.mk.injEq, and_true] at hv
    obtain ⟨rfl, _⟩ := hv
    simp [World.frozen?, hh]
theorem own_set {w : World} {B : Nat} {e : TypeId} {g n c : Nat} {L : List UInt8} (h : Own w B e (.slice (some ⟨g, 0, none⟩) n c) L) (i : Nat) (x : UInt8) (hi : i < L.length) : Own (w.setCell ⟨g, i, none⟩ (.int .u8 (x.toNat : Int))) B e (.slice (some ⟨g, 0, none⟩) n c) (L.set i x) := by
  obtain ⟨hl, hr⟩ := h
  rcases hr with ⟨hv, _⟩ | ⟨g', cap, cur, hv, h2, h3, h4, h5, h6, h7⟩
  · cases hv
  · simp only [Value.slice.injEq, Option.some.injEq, Addr.mk.injEq, and_true] at hv
    obtain ⟨rfl, rfl, rfl⟩ := hv
    refine ⟨by simp [Lib.byteCells_length], .inr ⟨g, c, _, by rw [List.length_set], h2, heap_setCell_same _ _ _ _ _ _ h3, by rw [List.length_set]; exact h4, h5, by simpa using h6, ?_⟩⟩
    rw [Array.toList_setIfInBounds, List.length_set, List.take_set, h7]
    unfold Lib.byteCells
    rw [List.map_set]
theorem own_cell {w : World} {B : Nat} {e : TypeId} {g n c : Nat} {L : List UInt8} (h : Own w B e (.slice (some ⟨g, 0, none⟩) n c) L) (j : Nat) (hj : j < L.length) : w.cell? ⟨g, j, none⟩ = some (.int .u8 ((L.getD j 0).toNat : Int)) := by
  obtain ⟨g', cap, hv, _, _, _, _, hc⟩ := own_at h (by omega)
  simp only [Value.slice.injEq, Option.some.injEq, Addr.mk.injEq, and_true] at hv
  obtain ⟨rfl, _⟩ := hv
  exact hc j hj
set_option maxRecDepth 100000 in
set_option maxHeartbeats 8000000 in
theorem pad_any (v : Value) (l : List UInt8) (w : World) (hv : HasA w v l) (hl : l.length ≤ 2000) (by_ : UInt8) :
    Calls Tryd.prog 31 #[v, .int .u8 (by_.toNat : Int)] w fun e w' => ∃ v', e = .returned v' ∧ Own w' w.heap.size 5 v' (maskOf (keyB l) by_) ∧ Below w.heap.size w w' := by
  obtain ⟨q, cap, rfl, hc1, hc2⟩ := hv.form
  obtain ⟨n, hn⟩ : ∃ n, l.length = n := ⟨_, rfl⟩
  have hccI : (cap : Int) ≤ 9223372036854775807 := by unfold maxLen at hc2; omega
  have hlb : l.length ≤ 2000 := hl
  rw [hn] at hv hc1 hl ⊢
  have hm := by_.toNat_lt
  have HE := Lib.hid (own_empty w 5)
  have hbe := (Below.refl w.heap.size w).alloc (Nat.le_refl _) (.cells #[] 5)
  have HVE := Lib.hid (hv.below hbe)
  have HBE := Lib.hid hbe
  have HN := Lib.hid hn
  clear hv hc2 hn hbe
  go_enter Tryd.func31, Tryd.ntmps31
  go_upto_region 2 with (at_builtin; refine wpList_append_hasA rfl (.tmp 8) (.tmp 9) 31 rfl w.heap.size 5 Tryd.underlying31 info_u8 _ [] rfl HE.out _ l l rfl HVE.out rfl (by show 0 + l.length ≤ _; omega) HBE.out.size w HBE.out (fun v10 w10 ho10 hb10 => ?_))
  obtain ⟨p9, c9, rfl, r1, r2⟩ := ho10.has.form
  have hc9 : (c9 : Int) ≤ 9223372036854775807 := by unfold maxLen at r2; omega
  have HO := Lib.hid ho10
  have HB := Lib.hid hb10
  have hz10 := hb10.size
  rw [HN.out] at HO r1
  try rw [HN.out]
  clear ho10 hb10 r2
  go_upto_if 13 with fail
  go_cut [5] (fun v5 wz => ∃ X, Own wz w.heap.size 5 v5 X ∧ X.length ≤ 64 ∧ X ++ zeros (64 - X.length) = keyB l ∧ Below w.heap.size w wz)
  case first =>
    rcases Nat.lt_or_ge 64 n with hlt | hge
    · have hltI : (64 : Int) < (n : Int) := by omega
      have HV2 := Lib.hid HO.out.has.wide
      go_wp2_with fail
      refine (Sum_any _ l _ (by have q := HV2.out; exact q) (by omega)).mono ?_
      rintro e w3 ⟨rfl, hb3⟩
      have hdl := shaOf_len l
      have hkbe : keyB l = shaOf l ++ zeros 32 := by unfold keyB; rw [if_neg (by have := HN.out; omega)]
      generalize shaOf l = D at *
      have HKBE := Lib.hid hkbe
      have HDL := Lib.hid hdl
      have hz3 := hb3.size
      obtain ⟨a1, a2, a3⟩ := arr32' D hdl
      obtain ⟨hd4, hb4⟩ := laid_row w3 (noBytes 32).toArray (Lib.byteCells D).toArray 23 (by rw [a3]; rfl)
      have hd4' : BRow ((w3.alloc (.cells (noBytes 32).toArray 23)).setCells w3.heap.size 0 (Lib.byteCells D).toArray.toList) 23 w3.heap.size D := hd4
      have HD4 := Lib.hid hd4'
      have D1 := Lib.hid a1
      have D2 := Lib.hid a2
      have HTH2 := Lib.hid (there_alloc w3 (noBytes 32).toArray 23 (Lib.byteCells D).toArray.size (by rw [a3]; decide))
      have hb04 := (HB.out.trans (hb3.mono hz10)).trans (hb4.mono (by omega))
      have HB4 := Lib.hid hb04
      clear hb3 hdl hkbe a1 a2 a3 hd4 hb4 hd4' hb04
      go_upto_region 4 with (first | (refine wpList_alloc_of rfl 23 (noBytes 32).toArray rfl made32 ?_) | (refine wpList_store_mid rfl 23 (.tmp 6) (.tmp 15) rfl w3.heap.size 0 (Lib.byteCells D).toArray rfl rfl HTH2.out D1.out D2.out ?_))
      generalize ((w3.alloc (.cells (noBytes 32).toArray 23)).setCells w3.heap.size 0 (Lib.byteCells D).toArray.toList) = w5 at *
      generalize w3.heap.size = g8 at *
      have hs8 : ∀ W, (Instr.sliceAt 23 (.pointer (some ⟨g8, 0, none⟩)) none none none).run Tryd.prog W = .ok (.slice (some ⟨g8, 0, none⟩) 32 32) W := fun W => run_all32 _ W
      have HE5 := Lib.hid ((own_empty w5 5).mono HB4.out.size)
      have hbe5 := (Below.refl w5.heap.size w5).alloc (Nat.le_refl _) (.cells #[] 5)
      have HBE5 := Lib.hid (HB4.out.trans (hbe5.mono HB4.out.size))
      have HAD := Lib.hid ((HD4.out.hasA 32 HDL.out.symm (by decide)).below hbe5)
      clear hbe5
      go_wp2_with (at_builtin; refine wpList_append_hasA rfl (.tmp 16) (.tmp 17) 31 rfl w.heap.size 5 Tryd.underlying31 info_u8 _ [] rfl HE5.out _ D D rfl HAD.out rfl (by show 0 + D.length ≤ _; rw [HDL.out]; decide) HBE5.out.size w HBE5.out (fun v6 w6 ho6 hb6 => ?_))
      have HO6 := Lib.hid ho6
      have HB6 := Lib.hid hb6
      clear ho6 hb6
      go_meet
      exact ⟨D, HO6.out, by rw [HDL.out]; decide, by rw [HDL.out, HKBE.out], HB6.out⟩
    · have hgeI : ¬ (64 : Int) < (n : Int) := by omega
      go_wp2
      go_meet
      refine ⟨l, ?_, by rw [HN.out]; exact hge, ?_, HB.out⟩
      · have q := HO.out
        exact q
      · unfold keyB
        rw [if_pos (by rw [HN.out]; exact hge)]
  case rest =>
    obtain ⟨X, ho, hxl, hxk, hb⟩ := hcut
    have HXK := Lib.hid hxk
    have HO := Lib.hid ho
    have HB := Lib.hid hb
    clear hxk ho hb
    go_wp2_with fail
    go_loopw [5] (fun v5 wr => ∃ z : Nat, X.length + z ≤ 64 ∧ Own wr w.heap.size 5 v5 (X ++ zeros z) ∧ Below w.heap.size w wr) (fun v5 _ => 64 - slLen v5)
    case atStart => exact ⟨0, hxl, by rw [show zeros 0 = [] from rfl, List.append_nil]; exact HO.out, HB.out⟩
    case round =>
      obtain ⟨z, hz, ho, hb⟩ := hrel
      have hml : (X ++ zeros z).length = X.length + z := by rw [List.length_append]; simp [zeros]
      have hms : X ++ zeros (z + 1) = (X ++ zeros z) ++ [0] := by rw [zeros_succ]; simp
      obtain ⟨p8, c8, rfl, r1, r2⟩ := ho.has.form
      have hc8 : (c8 : Int) ≤ 9223372036854775807 := by unfold maxLen at r2; omega
      obtain ⟨m, hmm⟩ : ∃ m, X.length + z = m := ⟨_, rfl⟩
      rcases Nat.lt_or_ge m 64 with hlt | hge
      · have hltI : (m : Int) < 64 := by omega
        obtain ⟨M, hM⟩ : ∃ M, X ++ zeros z = M := ⟨_, rfl⟩
        rw [hM] at ho hml hms r1
        rw [hM]
        rw [hml, hmm] at r1
        rw [hml, hmm]
        have HMS := Lib.hid hms
        have HML := Lib.hid (hml.trans hmm)
        have HMM := Lib.hid hmm
        have HOX := Lib.hid (ho.alloc (.cells #[.int .u8 0] 5))
        have HBX := Lib.hid (hb.alloc hb.size (.cells #[.int .u8 0] 5))
        have HAX := Lib.hid (has_lits wr [0] #[.int .u8 0] rfl 5 (0, 0) 1 rfl (by decide)).1
        rw [hml, hmm] at HOX
        have hmb : M.length ≤ 4100 := by omega
        clear ho hb hM hml hms hmm r2
        go_wp2_with (at_builtin; refine wpList_append_hasA rfl (.tmp 22) (.tmp 23) 31 rfl w.heap.size 5 Tryd.underlying31 info_u8 _ M rfl (by have q := HOX.out; exact q) _ [0] (M ++ [0]) rfl HAX.out rfl (by show M.length + 1 ≤ _; omega) HBX.out.size w HBX.out (fun v26 w26 ho26 hb26 => ?_))
        obtain ⟨p7, c7, rfl, -, -⟩ := ho26.has.form
        have HO26 := Lib.hid ho26
        have HB26 := Lib.hid hb26
        have hm1 : (M ++ [0]).length = m + 1 := by rw [List.length_append, HML.out]; rfl
        have HM1 := Lib.hid hm1
        clear ho26 hb26 hm1
        go_roundw
        case rel => exact ⟨z + 1, by have := HMM.out; omega, by rw [HMS.out]; exact HO26.out, HB26.out⟩
        case measure => have := HM1.out; simp only [slLen]; omega
      · obtain rfl : m = 64 := by omega
        have hK : X ++ zeros z = keyB l := by rw [← HXK.out, show 64 - X.length = z by omega]
        rw [hK] at ho hml r1
        rw [hK]
        rw [hml, hmm] at r1
        rw [hml, hmm]
        have hkl := keyB_len l
        have hoo := own_at ho (by omega)
        obtain ⟨gm, cm, hve, hgm1, hgm2, -, -, -⟩ := hoo
        simp only [Value.slice.injEq, true_and] at hve
        obtain ⟨rfl, rfl⟩ : p8 = some ⟨gm, 0, none⟩ ∧ c8 = cm := by first | exact hve | exact ⟨hve.1, hve.2⟩
        obtain ⟨Y, hY⟩ : ∃ Y, keyB l = Y := ⟨_, rfl⟩
        rw [hY] at ho hkl
        have HYE := Lib.hid hY
        clear hY
        have HYL := Lib.hid hkl
        have HO7 : Hid (Own wr w.heap.size 5 (.slice (some ⟨gm, 0, none⟩) 64 c8) (maskN Y by_ 0)) := Lib.hid (by
          have q := ho
          rw [hkl] at q
          exact q)
        have HB7 := Lib.hid hb
        have hn64 : ¬ ((64 : Nat) : Int) < 64 := by decide
        clear ho hb hK hml hmm r2 hkl
        go_wp2_with fail
        go_loopw [7] (fun v7 wr => ∃ k : Nat, v7 = .int .i64 k ∧ k ≤ 64 ∧ Own wr w.heap.size 5 (.slice (some ⟨gm, 0, none⟩) 64 c8) (maskN Y by_ k) ∧ Below w.heap.size w wr) (fun v7 _ => 64 - (intOf v7).toNat)
        case atStart => exact ⟨0, rfl, Nat.zero_le _, HO7.out, HB7.out⟩
        case round =>
          obtain ⟨k, rfl, hk, hr, hb⟩ := hrel
          rcases Nat.lt_or_ge k 64 with hlt | hge2
          · have hlt' : (k : Int) < 64 := by omega
            have hlk : k < Y.length := by rw [HYL.out]; exact hlt
            have ck := own_cell hr k (by rw [maskN_len]; exact hlk)
            rw [maskN_get _ _ _ hlk] at ck
            have fk := own_free hr k
            have hset := own_set hr k (Y.getD k 0 ^^^ by_) (by rw [maskN_len]; exact hlk)
            rw [maskN_set _ _ _ hlk] at hset
            have hx : bits .xor .u8 ((Y.getD k 0).toNat : Int) (by_.toNat : Int) = ((Y.getD k 0 ^^^ by_).toNat : Int) := by
              rw [u8_xor_nat _ _ (Y.getD k 0).toNat_lt hm, UInt8.toNat_xor]
            have hxl := (Y.getD k 0).toNat_lt
            generalize Y.getD k 0 = x at *
            have HSET := Lib.hid hset
            have HBK := Lib.hid hb
            clear hr hb hset hlk
            go_wp2
            go_roundw
            case rel => exact ⟨k + 1, by go_num, hlt, HSET.out, HBK.out.setCell hgm1 _⟩
            case measure => simp [intOf]; omega
          · obtain rfl : k = 64 := by omega
            rw [maskN_end _ _ _ (Nat.le_of_eq HYL.out), ← HYE.out] at hr
            have h8 : ¬ ((64 : Nat) : Int) < 64 := by decide
            have HR := Lib.hid hr
            have HBK := Lib.hid hb
            clear hr hb
            go_wp2
            go_ret
            exact ⟨_, rfl, HR.out, HBK.out⟩
theorem pad_54 (v : Value) (l : List UInt8) (w : World) (hv : HasA w v l) (hl : l.length ≤ 2000) :
    Calls Tryd.prog 31 #[v, .int .u8 54] w fun e w' => ∃ v', e = .returned v' ∧ Own w' w.heap.size 5 v' (maskOf (keyB l) 54) ∧ Below w.heap.size w w' := pad_any v l w hv hl 54
theorem pad_92 (v : Value) (l : List UInt8) (w : World) (hv : HasA w v l) (hl : l.length ≤ 2000) :
    Calls Tryd.prog 31 #[v, .int .u8 92] w fun e w' => ∃ v', e = .returned v' ∧ Own w' w.heap.size 5 v' (maskOf (keyB l) 92) ∧ Below w.heap.size w w' := pad_any v l w hv hl 92
end Go.Proofs.YtjopfhmloklhdaaDoor.Ref
namespace Go.Proofs.YtjopfhmloklhdaaDoor.Ref
open Go.ChangeShapes Go.WideShapes Go.ChangeAt Go.RowKit Go.Deep
set_option linter.unusedVariables false
set_option linter.unusedSimpArgs false
/-- What stays through the second half. -/
structure MIn (w : World) (key D : List UInt8) (u : Value) (g5 : Nat) (W : World) : Prop where
  has : HasA W u key
  row : BRow W 23 g5 D
  res : BRow W 23 w.heap.size (zeros 32)
  bel : Below w.heap.size w W
  old : w.heap.size + 1 ≤ g5
theorem MIn.below {w W W' : World} {key D : List UInt8} {u : Value} {g5 : Nat} (h : MIn w key D u g5 W) (hb : Below W.heap.size W W') : MIn w key D u g5 W' :=
  ⟨h.has.below hb, h.row.below hb h.row.lt, h.res.below hb h.res.lt, h.bel.trans (hb.mono h.bel.size), h.old⟩
set_option maxRecDepth 100000 in
set_option maxHeartbeats 8000000 in
theorem Mac_any (v u : Value) (key b : List UInt8) (w : World) (hv : HasA w v key) (hu : HasA w u b) (hk : key.length ≤ 2000) (hb : b.length ≤ 3000) :
    Calls Tryd.prog 19 #[v, u] w fun e w' => e = .returned (.agg (Lib.byteCells (macOf key b)).toArray) ∧ Below w.heap.size w w' := by
  have hlk := maskOf_len (keyB key) 54
  have hlk2 := maskOf_len (keyB key) 92
  rw [keyB_len] at hlk hlk2
  have hmac : macOf key b = shaOf (maskOf (keyB key) 92 ++ shaOf (maskOf (keyB key) 54 ++ b)) := rfl
  obtain ⟨kp, kc, rfl, k1, k2⟩ := hv.form
  obtain ⟨bp, bc, rfl, b1, b2⟩ := hu.form
  obtain ⟨n, hn⟩ : ∃ n, key.length = n := ⟨_, rfl⟩
  obtain ⟨m, hm⟩ : ∃ m, b.length = m := ⟨_, rfl⟩
  have hbI : b.length ≤ 3000 := hb
  rw [hn] at hv k1 ⊢
  rw [hm] at hu b1 ⊢
  have HN := Lib.hid hn
  have HM := Lib.hid hm
  have hr1 : BRow (w.alloc (.cells (noBytes 32).toArray 23)) 23 w.heap.size (zeros 32) := heap_alloc_new _ _
  have hb1 := (Below.refl w.heap.size w).alloc (Nat.le_refl _) (.cells (noBytes 32).toArray 23)
  have hz1 := size_alloc1 w (.cells (noBytes 32).toArray 23)
  have HR1 := Lib.hid hr1
  have HB1 := Lib.hid hb1
  have HZ1 := Lib.hid hz1
  have HV1 := Lib.hid (hv.below hb1)
  have HU1 := Lib.hid (hu.below hb1)
  have HLK := Lib.hid hlk
  have HLK2 := Lib.hid hlk2
  have HMAC := Lib.hid hmac
  clear hr1 hb1 hz1 hv hu hn hm hlk hlk2 hmac k2 b2
  go_enter Tryd.func19, Tryd.ntmps19
  go_wp2_with (refine wpList_alloc_of rfl 23 (noBytes 32).toArray rfl made32 ?_)
  generalize w.alloc (.cells (noBytes 32).toArray 23) = w1 at *
  refine (pad_54 _ key w1 (by have q := HV1.out; exact q) hk).mono ?_
  rintro e w2 ⟨v2, rfl, ho2, hb2⟩
  have hz1 := HZ1.out
  have hz2 := hb2.size
  have HO2 := Lib.hid ho2
  have HU2 := Lib.hid (HU1.out.below hb2)
  have HB2 := Lib.hid hb2
  clear ho2 hb2
  go_wp2_with (at_builtin; refine wpList_append_hasA rfl (.tmp 7) (.tmp 8) 31 rfl w1.heap.size 5 Tryd.underlying31 info_u8 _ (maskOf (keyB key) 54) rfl HO2.out _ b (maskOf (keyB key) 54 ++ b) rfl (by have q := HU2.out; exact q) rfl (by rw [HLK.out]; omega) hz2 w1 HB2.out (fun v3 w3 ho3 hb3 => ?_))
  have hml : (maskOf (keyB key) 54 ++ b).length ≤ 4000 := by rw [List.length_append, HLK.out]; omega
  refine (Sum_any _ _ w3 ho3.has.wide hml).mono ?_
  rintro e w4 ⟨rfl, hb4⟩
  have hdl := shaOf_len (maskOf (keyB key) 54 ++ b)
  have hmac := HMAC.out
  generalize shaOf (maskOf (keyB key) 54 ++ b) = D at *
  have hz3 := hb3.size
  have hz4 := hb4.size
  obtain ⟨a1, a2, a3⟩ := arr32' D hdl
  obtain ⟨hd5, hb5⟩ := laid_row w4 (noBytes 32).toArray (Lib.byteCells D).toArray 23 (by rw [a3]; rfl)
  have hd5' : BRow ((w4.alloc (.cells (noBytes 32).toArray 23)).setCells w4.heap.size 0 (Lib.byteCells D).toArray.toList) 23 w4.heap.size D := hd5
  have hb14 := hb3.trans (hb4.mono hz3)
  have hb15 := hb14.trans (hb5.mono (by omega))
  have hin : MIn w key D (.slice kp n kc) w4.heap.size ((w4.alloc (.cells (noBytes 32).toArray 23)).setCells w4.heap.size 0 (Lib.byteCells D).toArray.toList) :=
    ⟨HV1.out.below hb15, hd5', HR1.out.below hb15 (by omega), HB1.out.trans (hb15.mono (by omega)), by omega⟩
  have HIN := Lib.hid hin
  have HDL := Lib.hid hdl
  have HMAC2 := Lib.hid hmac
  have D1 := Lib.hid a1
  have D2 := Lib.hid a2
  have HTH2 := Lib.hid (there_alloc w4 (noBytes 32).toArray 23 (Lib.byteCells D).toArray.size (by rw [a3]; decide))
  clear hml ho3 hb3 hb4 hdl hmac a1 a2 a3 hd5 hb5 hd5' hb14 hb15 hin HMAC HB2 HO2 HU2
  go_upto_region 2 with (first | (refine wpList_alloc_of rfl 23 (noBytes 32).toArray rfl made32 ?_) | (refine wpList_store_mid rfl 23 (.tmp 5) (.tmp 10) rfl w4.heap.size 0 (Lib.byteCells D).toArray rfl rfl HTH2.out D1.out D2.out ?_))
  generalize ((w4.alloc (.cells (noBytes 32).toArray 23)).setCells w4.heap.size 0 (Lib.byteCells D).toArray.toList) = w5 at *
  generalize w4.heap.size = g5 at *
  have hs8 : ∀ W, (Instr.sliceAt 23 (.pointer (some ⟨g5, 0, none⟩)) none none none).run Tryd.prog W = .ok (.slice (some ⟨g5, 0, none⟩) 32 32) W := fun W => run_all32 _ W
  try simp only [Act.put, List.setIfInBounds_toArray, List.set_cons_zero, List.set_cons_succ, List.getElem_toArray, List.getElem_cons_zero, List.getElem_cons_succ]
  go_cut [4] (fun v4 wz => v4 = .pointer (some ⟨w.heap.size, 0, none⟩) ∧ BRow wz 23 w.heap.size (macOf key b) ∧ Below w.heap.size w wz)
  case first =>
    refine AnyL.begin (S := MIn w key D (.slice kp n kc) g5) 5 (by kernel_rfl) (HIN.out.below ((Below.refl _ _).drew)) (fun hHeld => ?_)
    have hS0 := hHeld
    refine AnyL.take (i := 0) (oi := _) (v := ?_) 30 rfl (by kernel_rfl) (by kernel_rfl) (by kernel_rfl) (by kernel_rfl) (by kernel_rfl) (fun _ _ _ h => h) (Or.inl ⟨by rfl, ?hy1⟩) (by assumption) ?_
    case hy1 =>
      intro w9 hSw
      try dsimp only at hSw
      try simp only [List.getElem_toArray, List.getElem_cons_zero, List.getElem_cons_succ]
      go_simp
      try with_reducible rfl
    try simp only [Act.put, List.setIfInBounds_toArray, List.set_cons_zero, List.set_cons_succ, List.getElem_toArray, List.getElem_cons_zero, List.getElem_cons_succ]
    refine AnyL.take (i := 2) (oi := _) (v := ?_) 30 rfl (by kernel_rfl) (by kernel_rfl) (by kernel_rfl) (by kernel_rfl) (by kernel_rfl) (fun _ _ _ h => h) (Or.inl ⟨by rfl, ?hy2⟩) (by assumption) ?_
    case hy2 =>
      intro w9 hSw
      try dsimp only at hSw
      try simp only [List.getElem_toArray, List.getElem_cons_zero, List.getElem_cons_succ]
      go_simp
      try with_reducible rfl
    try simp only [Act.put, List.setIfInBounds_toArray, List.set_cons_zero, List.set_cons_succ, List.getElem_toArray, List.getElem_cons_zero, List.getElem_cons_succ]
    refine AnyL.one (i := 1) (o := _) (by kernel_rfl) rfl (fun K hK => ?_)
    try simp only [List.getElem_toArray, List.getElem_cons_zero, List.getElem_cons_succ]
    go_simp
    refine (pad_92 _ key _ hHeld.has hk).mono ?_
    rintro e w6 ⟨v6, rfl, ho6, hb6⟩
    refine hK.out _ _ (fun _ => (hHeld.below hb6)) (fun hHeld => ?_)
    replace hHeld := hHeld (by decide)
    clear hK K
    try simp only [Act.put, List.setIfInBounds_toArray, List.set_cons_zero, List.set_cons_succ, List.getElem_toArray, List.getElem_cons_zero, List.getElem_cons_succ]
    have hHas := hHeld.row.hasA 32 HDL.out.symm (by decide)
    refine AnyL.one (i := 3) (o := _) (by kernel_rfl) rfl (fun K hK => ?_)
    refine step_append_has (by kernel_rfl) (.tmp 12) (.tmp 13) 31 rfl w5.drew.heap.size 5 Tryd.underlying31 info_u8 _ (maskOf (keyB key) 92) rfl ho6 _ D rfl hHas (by rw [HLK2.out, HDL.out]; decide) hb6.size w5.drew hb6 (fun v7 w7 ho7 hb7 => ?_)
    refine hK.out _ _ (fun _ => (hS0.below hb7)) (fun hHeld => ?_)
    replace hHeld := hHeld (by decide)
    clear hK K
    try simp only [Act.put, List.setIfInBounds_toArray, List.set_cons_zero, List.set_cons_succ, List.getElem_toArray, List.getElem_cons_zero, List.getElem_cons_succ]
    refine AnyL.one (i := 4) (o := _) (by kernel_rfl) rfl (fun K hK => ?_)
    try simp only [List.getElem_toArray, List.getElem_cons_zero, List.getElem_cons_succ]
    go_simp
    refine (Sum_any _ _ w7 ho7.has.wide (by rw [List.length_append, HLK2.out, HDL.out]; decide)).mono ?_
    rintro e w8 ⟨rfl, hb8⟩
    refine hK.out _ _ (fun _ => (hHeld.below hb8)) (fun hHeld => ?_)
    replace hHeld := hHeld (by decide)
    clear hK K
    try simp only [Act.put, List.setIfInBounds_toArray, List.set_cons_zero, List.set_cons_succ, List.getElem_toArray, List.getElem_cons_zero, List.getElem_cons_succ]
    have hdm := shaOf_len (maskOf (keyB key) 92 ++ D)
    have hmc := HMAC2.out
    generalize shaOf (maskOf (keyB key) 92 ++ D) = D2 at *
    have HMC2 := Lib.hid hmc
    obtain ⟨b1, b2, b3⟩ := arr32' D2 hdm
    have hl := lay_row' (E := D2) hHeld.res (by rw [hdm]; rfl) (Nat.le_refl _) hHeld.bel
    have HL := Lib.hid hl
    have B1 := Lib.hid b1
    have B2 := Lib.hid b2
    have HTH3 := Lib.hid (hHeld.res.there (Lib.byteCells D2).toArray.size (by rw [b3]; decide))
    clear hmc hdm b1 b2 b3 hl
    refine AnyL.one (i := 5) (o := _) (by kernel_rfl) rfl (fun K hK => ?_)
    rw [if_pos (by rfl)]
    refine wp_store_mid 23 (.tmp 4) (.tmp 15) (by rfl) w.heap.size 0 (Lib.byteCells D2).toArray (by rfl) (by rfl) HTH3.out B1.out B2.out ?_
    refine hK.out _ _ (fun h => absurd rfl h) (fun _ => ?_)
    clear hK K
    try simp only [Act.put, List.setIfInBounds_toArray, List.set_cons_zero, List.set_cons_succ, List.getElem_toArray, List.getElem_cons_zero, List.getElem_cons_succ]
    refine AnyL.done (by kernel_rfl) ?_ _
    go_wp2
    go_meet
    exact ⟨rfl, by rw [HMC2.out]; exact HL.out.1, HL.out.2⟩
  case rest =>
    obtain ⟨rfl, h1, h2⟩ := hcut
    have hl := shaOf_len (maskOf (keyB key) 92 ++ shaOf (maskOf (keyB key) 54 ++ b))
    rw [show shaOf (maskOf (keyB key) 92 ++ shaOf (maskOf (keyB key) 54 ++ b)) = macOf key b from rfl] at hl
    refine (‹∀ (a : Act) (w : World), Code.wp Tryd.prog Code.ret _ a w → _› : ∀ (a : Act) (w : World), Code.wp Tryd.prog Code.ret _ a w → _) _ _ ?_
    apply wp_ret
    refine bodyPost_ret (v := .agg (Lib.byteCells (macOf key b)).toArray) ?_ rfl ⟨rfl, h2⟩
    generalize macOf key b = DD at *
    exact results_cell_row rfl _ _ w.heap.size 23 _ (0, 0) _ rfl h1 Tryd.underlying23 rfl (by rw [List.size_toArray, bytes_len, hl]; exact info32)
end Go.Proofs.YtjopfhmloklhdaaDoor.Ref
