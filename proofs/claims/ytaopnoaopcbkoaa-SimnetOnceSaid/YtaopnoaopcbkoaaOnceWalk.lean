/-
  The walk of SimnetOnce.
-/
import Derived.Test.YtaopnoaopcbkoaaNetAwake
import Derived.Test.YtaopnoaopcbkoaaTexts
import Derived.Deep.Cut
namespace Go.Proofs.Ytaopnoaopcbkoaa
open Go.ChangeShapes Go.WideShapes Go.ChangeAt Go.RowKit Go.Deep
set_option linter.unusedVariables false
set_option linter.unusedSimpArgs false

theorem text_len (s : ByteArray) : s.data.toList.length = s.size := by rw [Array.length_toList]; rfl
def pkOf (S : Nat → ByteArray) (j : Nat) : Pk := ⟨j + 1, (j : Int), (j : Int) + 1, (S j).data.toList⟩
def left (S : Nat → ByteArray) (n : Nat) (D : Nat → Bool) : List Pk := ((List.range n).filter fun j => !D j).map (pkOf S)
def onceN (S : Nat → ByteArray) (n : Nat) (D : Nat → Bool) (m : Nat) : NetV := ⟨left S n D, m, 0, [], 0⟩
def noneYet : Nat → Bool := fun _ => false
def also (D : Nat → Bool) (j : Nat) : Nat → Bool := fun k => D k || decide (k = j)
theorem left_none (S : Nat → ByteArray) (n : Nat) : left S n noneYet = (List.range n).map (pkOf S) := by
  unfold left noneYet
  rw [List.filter_eq_self.2 (by simp)]
theorem once_send (S : Nat → ByteArray) (i : Nat) : sendV (onceN S i noneYet i) (i : Int) ((i : Int) + 1) (S i).data.toList = onceN S (i + 1) noneYet (i + 1) := by
  unfold sendV onceN
  simp only [left_none, List.range_succ, List.map_append, List.map_cons, List.map_nil]
  rfl
theorem left_sorted (S : Nat → ByteArray) (n : Nat) (D : Nat → Bool) : Sorted (left S n D) := by
  unfold Sorted left
  rw [List.pairwise_map]
  refine (List.Pairwise.filter _ List.pairwise_lt_range).imp ?_
  intro a b h
  simp only [pkOf]
  omega
theorem left_mem {S : Nat → ByteArray} {n : Nat} {D : Nat → Bool} {p : Pk} (h : p ∈ left S n D) : ∃ j, j < n ∧ D j = false ∧ p = pkOf S j := by
  unfold left at h
  obtain ⟨j, hj, rfl⟩ := List.mem_map.1 h
  obtain ⟨h1, h2⟩ := List.mem_filter.1 hj
  exact ⟨j, List.mem_range.1 h1, by simpa using h2, rfl⟩
theorem left_gone {S : Nat → ByteArray} {n : Nat} {D : Nat → Bool} {t : Int} (h : ∀ j, j < n → D j = false → (j : Int) + 1 ≠ t) : ∀ p ∈ left S n D, (p.id : Int) ≠ t := by
  intro p hp
  obtain ⟨j, h1, h2, rfl⟩ := left_mem hp
  have := h j h1 h2
  simp only [pkOf]
  omega
theorem left_find {S : Nat → ByteArray} {n : Nat} {D : Nat → Bool} {j : Nat} (hj : j < n) (hd : D j = false) : ∃ i, ∃ h : i < (left S n D).length, (left S n D)[i] = pkOf S j := by
  have hm : pkOf S j ∈ left S n D := List.mem_map.2 ⟨j, List.mem_filter.2 ⟨List.mem_range.2 hj, by simpa using hd⟩, rfl⟩
  obtain ⟨i, h, e⟩ := List.getElem_of_mem hm
  exact ⟨i, h, e⟩
theorem left_at {S : Nat → ByteArray} {n : Nat} {D : Nat → Bool} {j : Nat} (hj : j < n) (hd : D j = false) : pkAt (left S n D) ((j : Int) + 1) = some (pkOf S j) := by
  obtain ⟨i, h, e⟩ := left_find (S := S) hj hd
  rw [pkAt_some (left_sorted S n D) h (by rw [e]; simp [pkOf]), e]
theorem left_take (S : Nat → ByteArray) (n : Nat) (D : Nat → Bool) (j : Nat) : without (left S n D) ((j : Int) + 1) = left S n (also D j) := by
  unfold without left also
  rw [List.filter_map, List.filter_filter]
  congr 1
  apply List.filter_congr
  intro k _
  by_cases hk : k = j
  · subst hk; simp [Function.comp, pkOf]
  · have h1 : ¬ (((pkOf S k).id : Int) = (j : Int) + 1) := by simp only [pkOf]; omega
    simp only [Function.comp, decide_eq_false h1, decide_eq_false hk, Bool.or_false, Bool.not_false, Bool.true_and]
theorem left_len {S : Nat → ByteArray} {n : Nat} {D : Nat → Bool} {j : Nat} (hj : j < n) (hd : D j = false) : (left S n (also D j)).length + 1 = (left S n D).length := by
  obtain ⟨i, h, e⟩ := left_find (S := S) hj hd
  rw [← left_take, without_some (left_sorted S n D) h (by rw [e]; simp [pkOf]), List.length_eraseIdx, if_pos h]
  omega
theorem left_le (S : Nat → ByteArray) (n : Nat) (D : Nat → Bool) : (left S n D).length ≤ n := by
  unfold left
  rw [List.length_map]
  exact Nat.le_trans (List.length_filter_le _ _) (by simp)
theorem info_bool : (Try.prog.info? 4).map (fun i => (i.zero, i.size, i.bytes)) = some (some (.bool false), 1, 1) := by kernel_rfl
/-- The table of those that are done. -/
def Table (w : World) (g n : Nat) (D : Nat → Bool) : Prop := ∃ cur, w.heap[g]? = some (.cells cur 4 (0, 0)) ∧ ∀ j, j < n → cur[j]? = some (.bool (D j))
theorem Table.keeps {w w' : World} {g n : Nat} {D : Nat → Bool} {F : Nat → Prop} (h : Table w g n D) (hk : Keeps F w w') (hF : ¬ F g) : Table w' g n D := by
  obtain ⟨cur, hh, hc⟩ := h
  exact ⟨cur, (hk.block g (lt_of_block hh) hF).trans hh, hc⟩
theorem Table.cell {w : World} {g n : Nat} {D : Nat → Bool} (h : Table w g n D) (j : Nat) (hj : j < n) : w.cell? ⟨g, j, none⟩ = some (.bool (D j)) ∧ w.frozen? ⟨g, j, none⟩ = false := by
  obtain ⟨cur, hh, hc⟩ := h
  exact ⟨by simp [World.cell?, hh, hc j hj], by simp [World.frozen?, hh]⟩
theorem Table.put {w : World} {g n : Nat} {D : Nat → Bool} (h : Table w g n D) (j : Nat) (hj : j < n) : Table (w.setCell ⟨g, j, none⟩ (.bool true)) g n (also D j) := by
  obtain ⟨cur, hh, hc⟩ := h
  refine ⟨_, heap_setCell_same _ _ _ _ _ _ hh, fun k hk => ?_⟩
  have hs : j < cur.size := by
    rcases Nat.lt_or_ge j cur.size with h | h
    · exact h
    · have := hc j hj; rw [Array.getElem?_eq_none h] at this; cases this
  unfold also
  by_cases hkj : k = j
  · subst hkj
    simp [hs]
  · rw [Array.getElem?_setIfInBounds_ne (by omega), hc k hk, decide_eq_false hkj, Bool.or_false]
theorem table_new {w : World} {B g n : Nat} (h : w.ownsRow B 4 1 (.slice (some ⟨g, 0, none⟩) n n) n (madeCells #[Value.bool false] n).toList) : Table w g n noneYet := by
  rcases h.2 with ⟨hv, _⟩ | ⟨g', cap, cur, hv, _, hh, _, _, hs, ht⟩
  · simp at hv
  · simp only [Value.slice.injEq, Option.some.injEq, Addr.mk.injEq, true_and, and_true] at hv
    obtain ⟨rfl, _⟩ := hv
    refine ⟨cur, hh, fun j hj => ?_⟩
    have h1 : (cur.toList.take (n * 1))[j]? = cur[j]? := by rw [List.getElem?_take_of_lt (by omega), Array.getElem?_toList]
    rw [← h1, ht, Array.getElem?_toList]
    unfold madeCells
    rw [Array.getElem?_map, Array.getElem?_range]
    simp [hj, noneYet, Nat.mod_one]
set_option maxRecDepth 100000 in
set_option maxHeartbeats 8000000 in
theorem once_any (w : World) (p : Option Addr) (n c b o : Nat) (S : Nat → ByteArray) (p' : Option Addr) (m c' b' o' : Nat) (Z : Nat → Int) (hl : n ≤ c) (hm : c ≤ maxLen) (hr : c * 16 ≤ 140737488351232) (hp : 0 < n → p = some ⟨b, o, none⟩ ∧ b < w.heap.size)
    (hS : ∀ i, i < n → w.cell? ⟨b, o + i, none⟩ = some (.string (S i)) ∧ (S i).size ≤ 140737488351232) (hl' : m ≤ c') (hm' : c' ≤ maxLen) (hr' : c' * 8 ≤ 140737488351232) (hp' : 0 < m → p' = some ⟨b', o', none⟩ ∧ b' < w.heap.size)
    (hZ : ∀ i, i < m → w.cell? ⟨b', o' + i, none⟩ = some (.int .i64 (Z i)) ∧ (Lit.int .i64 (Z i)).wf = true) :
    Calls Try.prog 5 #[.slice p n c, .slice p' m c'] w fun e w' => e = .returned (.bool true) ∧ Below w.heap.size w w' := by
  have hmi : (c : Int) ≤ 9223372036854775807 := by unfold maxLen at hm; omega
  have hmi' : (c' : Int) ≤ 9223372036854775807 := by unfold maxLen at hm'; omega
  have HP := Lib.hid hp
  have HS := Lib.hid hS
  have HP' := Lib.hid hp'
  have HZ := Lib.hid hZ
  have HM := Lib.hid hm
  have HM' := Lib.hid hm'
  clear hp hS hp' hZ hm hm'
  go_enter Try.func5, Try.ntmps5
  go_wp2_with fail
  refine (awake_any w).mono ?_
  rintro e w0 ⟨rfl, hb0⟩
  have hz0 := hb0.size
  have HB0 := Lib.hid hb0
  clear hb0
  by_cases g1 : (50 : Int) < (n : Int)
  · go_wp2
    go_ret
    exact ⟨rfl, HB0.out⟩
  by_cases g2 : (200 : Int) < (m : Int)
  · go_wp2
    go_ret
    exact ⟨rfl, HB0.out⟩
  have hn50 : n ≤ 50 := by omega
  have hm200 : m ≤ 200 := by omega
  go_wp2_with fail
  refine (New_any w0).mono ?_
  rintro e w1 ⟨R, F1, rfl, hn1, hb1⟩
  have hz1 := hb1.size
  have HN1 := Lib.hid hn1
  have HB1 := Lib.hid (HB0.out.trans (hb1.mono hz0))
  clear hn1 hb1
  go_wp2_with fail
  go_loopw [6] (fun vi wr => ∃ (i : Nat) (F : Nat → Prop), vi = .int .i64 i ∧ i ≤ n ∧ Net wr w0.heap.size R (onceN S i noneYet i) F ∧ Below w.heap.size w wr ∧ w0.heap.size ≤ wr.heap.size) (fun vi _ => n - (intOf vi).toNat)
  case atStart => exact ⟨0, F1, rfl, Nat.zero_le _, HN1.out, HB1.out, hz1⟩
  case round =>
    obtain ⟨i, F, rfl, hin, hnet, hb, hsz⟩ := hrel
    have HNET := Lib.hid hnet
    have HB := Lib.hid hb
    clear hnet hb
    rcases Nat.lt_or_ge i n with hlt | hge
    · have hlt' : (i : Int) < (n : Int) := by omega
      obtain ⟨rfl, hbl⟩ := HP.out (by omega)
      obtain ⟨hc, hsl⟩ := HS.out i hlt
      have hcr : wr.cell? ⟨b, o + i, none⟩ = some (.string (S i)) := (HB.out.cell (p := ⟨b, o + i, none⟩) hbl).trans hc
      have hcv := Lib.run_convert_string_bytes (P := Try.prog) wr 9 25 5 (S i) Try.underlying9 Try.underlying25 Try.underlying5
      have hcb := conv_below wr 5 (S i)
      have hch := conv_has wr 5 (S i) hsl
      have hdl : (S i).data.toList.length ≤ 140737488355328 := by
        have : (S i).data.toList.length = (S i).size := by rw [Array.length_toList]; rfl
        omega
      generalize Lib.bytesWorld wr 5 (S i) = w2 at hcv hcb hch
      have hz2 := hcb.size
      have HSEND := Lib.hid (Send_any w2 w0.heap.size R (onceN S i noneYet i) F (HNET.out.below hcb) (i : Int) ((i : Int) + 1) _ (S i).data.toList hch (by show i ≤ _; omega) (by show (left S i noneYet).length ≤ _; have := left_le S i noneYet; omega) hdl)
      have HCB := Lib.hid (HB.out.trans (hcb.mono (by omega)))
      rw [once_send, show (((onceN S i noneYet i).sent + 1 : Nat) : Int) = (i : Int) + 1 from rfl] at HSEND
      obtain ⟨sd, hsd⟩ : ∃ sd, S i = sd := ⟨_, rfl⟩
      rw [hsd] at hcr hcv HSEND
      clear hc hsl hcb hch hdl hsd
      go_wp2_with fail
      refine HSEND.out.mono ?_
      rintro e w3 ⟨F3, rfl, hn3, hk3, hf3⟩
      have hz3 := hk3.size
      have HN3 := Lib.hid hn3
      have HB3 := Lib.hid (HCB.out.trans ((hk3.below HNET.out.base (by omega)).mono hz0))
      clear hn3 hk3 hf3
      go_wp2
      go_roundw
      case rel => exact ⟨i + 1, F3, by go_num, hlt, HN3.out, HB3.out, by omega⟩
      case measure => simp [intOf]; omega
    · have hge' : ¬ (i : Int) < (n : Int) := by omega
      obtain rfl : n = i := by omega
      obtain ⟨ki, hi, hz', hz1, hz2⟩ := info_parts info_bool
      have HI := Lib.hid hi
      have HZ' := Lib.hid hz'
      have HZ1 := Lib.hid hz1
      have hkn : ki.bytes * n ≤ 281474976710656 := by rw [hz2]; omega
      have HKN := Lib.hid hkn
      clear hi hz' hz1 hz2 hkn
      have hDL : ∀ D, ∀ p ∈ (onceN S n D n).wait, p.data.length ≤ 140737488355328 := fun D p hp => by
        obtain ⟨j, hj, _, rfl⟩ := left_mem hp
        have h1 := (HS.out j hj).2
        have h2 : (pkOf S j).data.length = (S j).size := by show (S j).data.toList.length = _; rw [Array.length_toList]; rfl
        omega
      have HDL := Lib.hid hDL
      have hgF : ¬ F wr.heap.size := fun hf => by
        obtain ⟨_, _, _, _, hF, _⟩ := HNET.out
        have := hF _ hf
        omega
      have HGF := Lib.hid hgF
      obtain ⟨gd, hgd⟩ : ∃ gd, wr.heap.size = gd := ⟨_, rfl⟩
      rw [hgd] at HGF
      have HGD := Lib.hid hgd
      have hwgd : w.heap.size ≤ gd := by omega
      clear hDL hgF
      go_wp2_with (refine wpList_make_full _ rfl (.tmp 46) (.tmp 46) 58 rfl w0.heap.size 4 ki (.bool false) 1 Try.underlying58 HI.out HZ'.out HZ1.out .i64 .i64 (n : Int) (n : Int) n rfl rfl rfl rfl HKN.out (by unfold maxLen; omega) hsz ?_)
      intro w2 ho2 hg2
      have hT2 := table_new ho2
      have hb2 : Below wr.heap.size wr w2 := ⟨hg2.os, hg2.tape, hg2.output, hg2.size, fun k hk => hg2.block k hk (by simp)⟩
      have hz2 := hb2.size
      have HN2 := Lib.hid (HNET.out.below hb2)
      have HB2 := Lib.hid (HB.out.trans (hb2.mono (by omega)))
      have HT2 := Lib.hid hT2
      clear ho2 hg2 hT2 hb2
      go_wp2_with fail
      go_loopw [9, 8] (fun vi vl wr => ∃ (i : Nat) (D : Nat → Bool), vi = .int .i64 i ∧ vl = .int .i64 ((left S n D).length : Int) ∧ i ≤ m ∧ Net wr w0.heap.size R (onceN S n D n) F ∧ Table wr gd n D ∧ Below w.heap.size w wr ∧ w0.heap.size ≤ wr.heap.size) (fun vi _ _ => m - (intOf vi).toNat)
      case atStart => exact ⟨0, noneYet, rfl, by rw [left_none, List.length_map, List.length_range], Nat.zero_le _, HN2.out, HT2.out, HB2.out, by omega⟩
      case round =>
        obtain ⟨i, D, rfl, rfl, him, hnet, htab, hb, hsz⟩ := hrel
        have HNET := Lib.hid hnet
        have HTAB := Lib.hid htab
        have HB := Lib.hid hb
        clear hnet htab hb
        rcases Nat.lt_or_ge i m with hlt | hge
        · have hlt' : (i : Int) < (m : Int) := by omega
          obtain ⟨rfl, hbl'⟩ := HP'.out (by omega)
          obtain ⟨hc, hw⟩ := HZ.out i hlt
          have hcr : wr.cell? ⟨b', o' + i, none⟩ = some (.int .i64 (Z i)) := (HB.out.cell (p := ⟨b', o' + i, none⟩) hbl').trans hc
          simp only [Lit.wf, Bool.and_eq_true, decide_eq_true_eq] at hw
          have hz : -9223372036854775808 ≤ Z i ∧ Z i ≤ 9223372036854775807 := hw
          obtain ⟨z, hzz⟩ : ∃ z, Z i = z := ⟨_, rfl⟩
          rw [hzz] at hcr hz
          clear hc hw hzz
          clear hz
          have HDEL := Lib.hid (Deliver_any wr w0.heap.size R (onceN S n D n) F HNET.out z (-1) (by show (left S n D).length ≤ _; have := left_le S n D; omega) (left_sorted S n D) (HDL.out D))
          by_cases h1 : z < 1
          · skip
            have hno : ∀ p ∈ left S n D, (p.id : Int) ≠ z := left_gone (fun j _ _ => by omega)
            have hz1 : takeV (onceN S n D n) z = onceN S n D n := takeV_none hno
            have hz2 : pkAt (onceN S n D n).wait z = none := pkAt_none hno
            have HZ1 := Lib.hid hz1
            have HZ2 := Lib.hid hz2
            clear hno hz1 hz2
            go_wp2_with fail
            refine HDEL.out.mono ?_
            rintro e w3 ⟨hn3, hk3, hd3⟩
            rw [HZ1.out] at hn3
            unfold DeliverE at hd3
            rw [HZ2.out] at hd3
            subst hd3
            have hz3 := hk3.size
            have HN3 := Lib.hid hn3
            have HT3 := Lib.hid (HTAB.out.keeps hk3 HGF.out)
            have HB3 := Lib.hid (HB.out.trans ((hk3.below HNET.out.base hsz).mono hz0))
            clear hn3 hk3
            go_wp2
            go_roundw
            case rel => exact ⟨i + 1, D, by go_num, rfl, hlt, HN3.out, HT3.out, HB3.out, by omega⟩
            case measure => simp [intOf]; omega
          · by_cases h2 : (n : Int) < z
            · skip
              have hno : ∀ p ∈ left S n D, (p.id : Int) ≠ z := left_gone (fun j _ _ => by omega)
              have hz1 : takeV (onceN S n D n) z = onceN S n D n := takeV_none hno
              have hz2 : pkAt (onceN S n D n).wait z = none := pkAt_none hno
              have HZ1 := Lib.hid hz1
              have HZ2 := Lib.hid hz2
              clear hno hz1 hz2
              go_wp2_with fail
              refine HDEL.out.mono ?_
              rintro e w3 ⟨hn3, hk3, hd3⟩
              rw [HZ1.out] at hn3
              unfold DeliverE at hd3
              rw [HZ2.out] at hd3
              subst hd3
              have hz3 := hk3.size
              have HN3 := Lib.hid hn3
              have HT3 := Lib.hid (HTAB.out.keeps hk3 HGF.out)
              have HB3 := Lib.hid (HB.out.trans ((hk3.below HNET.out.base hsz).mono hz0))
              clear hn3 hk3
              go_wp2
              go_roundw
              case rel => exact ⟨i + 1, D, by go_num, rfl, hlt, HN3.out, HT3.out, HB3.out, by omega⟩
              case measure => simp [intOf]; omega
            · obtain ⟨j, rfl⟩ : ∃ j : Nat, z = (j : Int) + 1 := ⟨(z - 1).toNat, by omega⟩
              have hjn : j < n := by omega
              have hjn' : (j : Int) < (n : Int) := by omega
              cases hD : D j with
              | true =>
                have hno : ∀ p ∈ left S n D, (p.id : Int) ≠ (j : Int) + 1 := left_gone (fun k _ hk e => absurd hk (by rw [show k = j by omega, hD]; simp))
                have hz1 : takeV (onceN S n D n) ((j : Int) + 1) = onceN S n D n := takeV_none hno
                have hz2 : pkAt (onceN S n D n).wait ((j : Int) + 1) = none := pkAt_none hno
                have HZ1 := Lib.hid hz1
                have HZ2 := Lib.hid hz2
                clear hno hz1 hz2
                have HDD := Lib.hid hD
                clear hD
                go_wp2_with fail
                refine HDEL.out.mono ?_
                rintro e w3 ⟨hn3, hk3, hd3⟩
                rw [HZ1.out] at hn3
                unfold DeliverE at hd3
                rw [HZ2.out] at hd3
                subst hd3
                have hz3 := hk3.size
                have HN3 := Lib.hid hn3
                have HT3 := Lib.hid (HTAB.out.keeps hk3 HGF.out)
                have HB3 := Lib.hid (HB.out.trans ((hk3.below HNET.out.base hsz).mono hz0))
                obtain ⟨ht1, ht2⟩ := HT3.out.cell j hjn
                rw [HDD.out] at ht1
                clear hn3 hk3
                go_wp2
                go_roundw
                case rel => exact ⟨i + 1, D, by go_num, rfl, hlt, HN3.out, HT3.out, HB3.out, by omega⟩
                case measure => simp [intOf]; omega
              | false =>
                have HAT := Lib.hid (left_at (S := S) hjn hD)
                obtain ⟨q, hq⟩ : ∃ q, (left S n (also D j)).length = q := ⟨_, rfl⟩
                have hq1 : (left S n D).length = q + 1 := by rw [← hq]; exact (left_len hjn hD).symm
                have hqn : q + 1 ≤ n := by rw [← hq1]; exact left_le S n D
                rw [hq1, show (((q + 1 : Nat)) : Int) = (q : Int) + 1 from rfl]
                have HQ := Lib.hid hq
                have HDD := Lib.hid hD
                clear hq hq1 hD
                obtain ⟨rfl, hbl⟩ := HP.out (by omega)
                obtain ⟨hc, -⟩ := HS.out j hjn
                have HSC := Lib.hid hc
                clear hc
                go_wp2_with fail
                refine HDEL.out.mono ?_
                rintro e w3 ⟨hn3, hk3, hd3⟩
                rw [show takeV (onceN S n D n) ((j : Int) + 1) = onceN S n (also D j) n from by unfold takeV onceN; simp only; rw [left_take]] at hn3
                unfold DeliverE at hd3
                rw [show pkAt (onceN S n D n).wait ((j : Int) + 1) = some (pkOf S j) from HAT.out] at hd3
                obtain ⟨bv, rfl, ha, -, -⟩ := hd3
                replace ha : HasA w3 bv (S j).data.toList := by
                  have h := ha
                  unfold cutV at h
                  rw [if_neg (by omega)] at h
                  exact h
                have hs3 : (convert 25 9 bv).run Try.prog w3 = .ok (.string (S j)) w3 := HasA.string (w := w3) ha 0
                have hs3d : (convert 25 9 bv).run Try.prog w3.drew = .ok (.string (S j)) w3.drew := HasA.string (w := w3) ha 1
                obtain ⟨bp, bc, hbv, -⟩ := ha.form
                subst hbv
                have hz3 := hk3.size
                have hb3 : Below w.heap.size w w3 := HB.out.trans ((hk3.below HNET.out.base hsz).mono hz0)
                have hc3 : w3.cell? ⟨b, o + j, none⟩ = some (.string (S j)) := (hb3.cell (p := ⟨b, o + j, none⟩) hbl).trans HSC.out
                have HN3 := Lib.hid hn3
                have HT3 := Lib.hid (HTAB.out.keeps hk3 HGF.out)
                have HB3 := Lib.hid hb3
                obtain ⟨ht1, ht2⟩ := HT3.out.cell j hjn
                rw [HDD.out] at ht1
                rw [show (pkOf S j).fr = (j : Int) from rfl, show (pkOf S j).to = (j : Int) + 1 from rfl]
                have hsl : (S j).data.toList.length ≤ 140737488351232 := by rw [text_len]; exact (HS.out j hjn).2
                obtain ⟨_, _, hbe, hb1, hb2⟩ := ha.form
                simp only [Value.slice.injEq, true_and] at hbe
                obtain ⟨rfl, rfl⟩ := hbe
                have hbc' : (bc : Int) ≤ 9223372036854775807 := by unfold maxLen at hb2; omega
                clear hb2
                generalize (S j).data.toList.length = sl at hs3 hs3d hsl hb1 ⊢
                obtain ⟨sd, hsd⟩ : ∃ sd, S j = sd := ⟨_, rfl⟩
                rw [hsd] at hs3 hs3d hc3
                have HS3 : Hid ((convert 25 9 (.slice bp sl bc)).run Try.prog w3.drew = .ok (.string sd) w3.drew) := Lib.hid hs3d
                clear hn3 hk3 hb3 ha hsd hs3d hs3
                go_upto_region 21 with fail
                refine wp_region_held_drew (S := fun w' => w'.cell? ⟨b, o + j, none⟩ = some (.string sd) ∧ (convert 25 9 (.slice bp sl bc)).run Try.prog w' = .ok (.string sd) w') (by kernel_rfl) ⟨hc3, HS3.out⟩ (fun hHeld => ?_)
                refine wpAnyH_take (i := 0) (oi := _) (v := ?_) rfl (by kernel_rfl) (by kernel_rfl) (by kernel_rfl) (fun _ _ _ h => h) (Or.inl ⟨by rfl, ?hy⟩) (by assumption) ?rest
                case hy =>
                  intro w9 hSw
                  try dsimp only at hSw
                  try simp only [List.getElem_toArray, List.getElem_cons_zero, List.getElem_cons_succ]
                  go_simp
                  try with_reducible rfl
                case rest =>
                  try simp only [Act.put, List.setIfInBounds_toArray, List.set_cons_zero, List.set_cons_succ, List.getElem_toArray, List.getElem_cons_zero, List.getElem_cons_succ]
                  refine wpAnyH_take (i := 1) (oi := _) (v := ?_) rfl (by kernel_rfl) (by kernel_rfl) (by kernel_rfl) (fun _ _ _ h => h) (Or.inl ⟨by rfl, ?hy⟩) (by assumption) ?rest
                  case hy =>
                    intro w9 hSw
                    try dsimp only at hSw
                    try simp only [List.getElem_toArray, List.getElem_cons_zero, List.getElem_cons_succ]
                    go_simp
                    try with_reducible rfl
                  case rest =>
                    try simp only [Act.put, List.setIfInBounds_toArray, List.set_cons_zero, List.set_cons_succ, List.getElem_toArray, List.getElem_cons_zero, List.getElem_cons_succ]
                    refine wpAnyH_take (i := 2) (oi := _) (v := ?_) rfl (by kernel_rfl) (by kernel_rfl) (by kernel_rfl) (fun _ _ _ h => h) (Or.inl ⟨by rfl, ?hy⟩) (by assumption) ?rest
                    case hy =>
                      intro w9 hSw
                      try dsimp only at hSw
                      try simp only [List.getElem_toArray, List.getElem_cons_zero, List.getElem_cons_succ]
                      go_simp
                      try with_reducible rfl
                    case rest =>
                      try simp only [Act.put, List.setIfInBounds_toArray, List.set_cons_zero, List.set_cons_succ, List.getElem_toArray, List.getElem_cons_zero, List.getElem_cons_succ]
                      refine wpAnyH_take (i := 3) (oi := _) (v := ?_) rfl (by kernel_rfl) (by kernel_rfl) (by kernel_rfl) (fun _ _ _ h => h) (Or.inl ⟨by rfl, ?hy⟩) (by assumption) ?rest
                      case hy =>
                        intro w9 hSw
                        try dsimp only at hSw
                        try simp only [List.getElem_toArray, List.getElem_cons_zero, List.getElem_cons_succ]
                        go_simp
                        try with_reducible rfl
                      case rest =>
                        try simp only [Act.put, List.setIfInBounds_toArray, List.set_cons_zero, List.set_cons_succ, List.getElem_toArray, List.getElem_cons_zero, List.getElem_cons_succ]
                        refine wpAnyH_take (i := 4) (oi := _) (v := ?_) rfl (by kernel_rfl) (by kernel_rfl) (by kernel_rfl) (fun _ _ _ h => h) (Or.inl ⟨by rfl, ?hy⟩) (by assumption) ?rest
                        case hy =>
                          intro w9 hSw
                          try dsimp only at hSw
                          try simp only [List.getElem_toArray, List.getElem_cons_zero, List.getElem_cons_succ]
                          go_simp
                          try with_reducible rfl
                        case rest =>
                          try simp only [Act.put, List.setIfInBounds_toArray, List.set_cons_zero, List.set_cons_succ, List.getElem_toArray, List.getElem_cons_zero, List.getElem_cons_succ]
                          refine wpAnyH_take (i := 5) (oi := _) (v := (.int .i64 (j : Int))) rfl (by kernel_rfl) (by kernel_rfl) (by kernel_rfl) (fun _ _ _ h => h) (Or.inl ⟨by rfl, ?hy⟩) (by assumption) ?rest
                          case hy =>
                            intro w9 hSw
                            try dsimp only at hSw
                            try simp only [List.getElem_toArray, List.getElem_cons_zero, List.getElem_cons_succ]
                            go_simp
                            all_goals (first | (with_reducible rfl) | (rw [IntKind.wrap_i64]; omega))
                          case rest =>
                            try simp only [Act.put, List.setIfInBounds_toArray, List.set_cons_zero, List.set_cons_succ, List.getElem_toArray, List.getElem_cons_zero, List.getElem_cons_succ]
                            refine wpAnyH_take (i := 6) (oi := _) (v := ?_) rfl (by kernel_rfl) (by kernel_rfl) (by kernel_rfl) (fun _ _ _ h => h) (Or.inl ⟨by rfl, ?hy⟩) (by assumption) ?rest
                            case hy =>
                              intro w9 hSw
                              try dsimp only at hSw
                              try simp only [List.getElem_toArray, List.getElem_cons_zero, List.getElem_cons_succ]
                              go_simp
                              try with_reducible rfl
                            case rest =>
                              try simp only [Act.put, List.setIfInBounds_toArray, List.set_cons_zero, List.set_cons_succ, List.getElem_toArray, List.getElem_cons_zero, List.getElem_cons_succ]
                              refine wpAnyH_take (i := 7) (oi := _) (v := ?_) rfl (by kernel_rfl) (by kernel_rfl) (by kernel_rfl) (fun _ _ _ h => h) (Or.inl ⟨by rfl, ?hy⟩) (by assumption) ?rest
                              case hy =>
                                intro w9 hSw
                                try dsimp only at hSw
                                try simp only [List.getElem_toArray, List.getElem_cons_zero, List.getElem_cons_succ]
                                go_simp
                                try with_reducible rfl
                              case rest =>
                                try simp only [Act.put, List.setIfInBounds_toArray, List.set_cons_zero, List.set_cons_succ, List.getElem_toArray, List.getElem_cons_zero, List.getElem_cons_succ]
                                refine wpAnyH_take (i := 8) (oi := _) (v := ?_) rfl (by kernel_rfl) (by kernel_rfl) (by kernel_rfl) (fun _ _ _ h => h) (Or.inl ⟨by rfl, ?hy⟩) (by assumption) ?rest
                                case hy =>
                                  intro w9 hSw
                                  try dsimp only at hSw
                                  try simp only [List.getElem_toArray, List.getElem_cons_zero, List.getElem_cons_succ]
                                  go_simp
                                  try with_reducible rfl
                                case rest =>
                                  try simp only [Act.put, List.setIfInBounds_toArray, List.set_cons_zero, List.set_cons_succ, List.getElem_toArray, List.getElem_cons_zero, List.getElem_cons_succ]
                                  refine wpAnyH_take (i := 9) (oi := _) (v := ?_) rfl (by kernel_rfl) (by kernel_rfl) (by kernel_rfl) (fun _ _ _ h => h) (Or.inl ⟨by rfl, ?hy⟩) (by assumption) ?rest
                                  case hy =>
                                    intro w9 hSw
                                    try dsimp only at hSw
                                    try simp only [List.getElem_toArray, List.getElem_cons_zero, List.getElem_cons_succ]
                                    go_simp
                                    try with_reducible rfl
                                  case rest =>
                                    try simp only [Act.put, List.setIfInBounds_toArray, List.set_cons_zero, List.set_cons_succ, List.getElem_toArray, List.getElem_cons_zero, List.getElem_cons_succ]
                                    refine wpAnyH_take (i := 10) (oi := _) (v := ?_) rfl (by kernel_rfl) (by kernel_rfl) (by kernel_rfl) (fun _ _ _ h => h) (Or.inl ⟨by rfl, ?hy⟩) (by assumption) ?rest
                                    case hy =>
                                      intro w9 hSw
                                      try dsimp only at hSw
                                      try simp only [List.getElem_toArray, List.getElem_cons_zero, List.getElem_cons_succ]
                                      go_simp
                                      try with_reducible rfl
                                    case rest =>
                                      try simp only [Act.put, List.setIfInBounds_toArray, List.set_cons_zero, List.set_cons_succ, List.getElem_toArray, List.getElem_cons_zero, List.getElem_cons_succ]
                                      refine wpAnyH_take (i := 11) (oi := _) (v := ?_) rfl (by kernel_rfl) (by kernel_rfl) (by kernel_rfl) (fun _ _ _ h => h) (Or.inl ⟨by rfl, ?hy⟩) (by assumption) ?rest
                                      case hy =>
                                        intro w9 hSw
                                        try dsimp only at hSw
                                        try simp only [List.getElem_toArray, List.getElem_cons_zero, List.getElem_cons_succ]
                                        go_simp
                                        try with_reducible rfl
                                      case rest =>
                                        try simp only [Act.put, List.setIfInBounds_toArray, List.set_cons_zero, List.set_cons_succ, List.getElem_toArray, List.getElem_cons_zero, List.getElem_cons_succ]
                                        refine wpAnyH_take (i := 12) (oi := _) (v := ?_) rfl (by kernel_rfl) (by kernel_rfl) (by kernel_rfl) (fun _ _ _ h => h) (Or.inl ⟨by rfl, ?hy⟩) (by assumption) ?rest
                                        case hy =>
                                          intro w9 hSw
                                          try dsimp only at hSw
                                          try simp only [List.getElem_toArray, List.getElem_cons_zero, List.getElem_cons_succ]
                                          go_simp
                                          try with_reducible rfl
                                        case rest =>
                                          try simp only [Act.put, List.setIfInBounds_toArray, List.set_cons_zero, List.set_cons_succ, List.getElem_toArray, List.getElem_cons_zero, List.getElem_cons_succ]
                                          refine wpAnyH_take (i := 13) (oi := _) (v := ?_) rfl (by kernel_rfl) (by kernel_rfl) (by kernel_rfl) (fun _ _ _ h => h) (Or.inl ⟨by rfl, ?hy⟩) (by assumption) ?rest
                                          case hy =>
                                            intro w9 hSw
                                            try dsimp only at hSw
                                            try simp only [List.getElem_toArray, List.getElem_cons_zero, List.getElem_cons_succ]
                                            go_simp
                                            try with_reducible rfl
                                          case rest =>
                                            try simp only [Act.put, List.setIfInBounds_toArray, List.set_cons_zero, List.set_cons_succ, List.getElem_toArray, List.getElem_cons_zero, List.getElem_cons_succ]
                                            refine wpAnyH_take (i := 14) (oi := _) (v := ?_) rfl (by kernel_rfl) (by kernel_rfl) (by kernel_rfl) (fun _ _ _ h => h) (Or.inl ⟨by rfl, ?hy⟩) (by assumption) ?rest
                                            case hy =>
                                              intro w9 hSw
                                              try dsimp only at hSw
                                              try simp only [List.getElem_toArray, List.getElem_cons_zero, List.getElem_cons_succ]
                                              go_simp
                                              try with_reducible rfl
                                            case rest =>
                                              try simp only [Act.put, List.setIfInBounds_toArray, List.set_cons_zero, List.set_cons_succ, List.getElem_toArray, List.getElem_cons_zero, List.getElem_cons_succ]
                                              refine wpAnyH_take (i := 15) (oi := _) (v := ?_) rfl (by kernel_rfl) (by kernel_rfl) (by kernel_rfl) (fun _ _ _ h => h) (Or.inl ⟨by rfl, ?hy⟩) (by assumption) ?rest
                                              case hy =>
                                                intro w9 hSw
                                                try dsimp only at hSw
                                                try simp only [List.getElem_toArray, List.getElem_cons_zero, List.getElem_cons_succ]
                                                go_simp
                                                try with_reducible rfl
                                              case rest =>
                                                try simp only [Act.put, List.setIfInBounds_toArray, List.set_cons_zero, List.set_cons_succ, List.getElem_toArray, List.getElem_cons_zero, List.getElem_cons_succ]
                                                refine wpAnyH_take (i := 16) (oi := _) (v := ?_) rfl (by kernel_rfl) (by kernel_rfl) (by kernel_rfl) (fun _ _ _ h => h) (Or.inl ⟨by rfl, ?hy⟩) (by assumption) ?rest
                                                case hy =>
                                                  intro w9 hSw
                                                  try dsimp only at hSw
                                                  try simp only [List.getElem_toArray, List.getElem_cons_zero, List.getElem_cons_succ]
                                                  go_simp
                                                  try with_reducible rfl
                                                case rest =>
                                                  try simp only [Act.put, List.setIfInBounds_toArray, List.set_cons_zero, List.set_cons_succ, List.getElem_toArray, List.getElem_cons_zero, List.getElem_cons_succ]
                                                  refine wpAnyH_take (i := 17) (oi := _) (v := ?_) rfl (by kernel_rfl) (by kernel_rfl) (by kernel_rfl) (fun _ _ _ h => h) (Or.inl ⟨by rfl, ?hy⟩) (by assumption) ?rest
                                                  case hy =>
                                                    intro w9 hSw
                                                    try dsimp only at hSw
                                                    try simp only [List.getElem_toArray, List.getElem_cons_zero, List.getElem_cons_succ]
                                                    go_simp
                                                    try with_reducible rfl
                                                  case rest =>
                                                    try simp only [Act.put, List.setIfInBounds_toArray, List.set_cons_zero, List.set_cons_succ, List.getElem_toArray, List.getElem_cons_zero, List.getElem_cons_succ]
                                                    refine wpAnyH_take (i := 18) (oi := _) (v := (.int .i64 (j : Int))) rfl (by kernel_rfl) (by kernel_rfl) (by kernel_rfl) (fun _ _ _ h => h) (Or.inl ⟨by rfl, ?hy⟩) (by assumption) ?rest
                                                    case hy =>
                                                      intro w9 hSw
                                                      try dsimp only at hSw
                                                      try simp only [List.getElem_toArray, List.getElem_cons_zero, List.getElem_cons_succ]
                                                      go_simp
                                                      all_goals (first | (with_reducible rfl) | (rw [IntKind.wrap_i64]; omega))
                                                    case rest =>
                                                      try simp only [Act.put, List.setIfInBounds_toArray, List.set_cons_zero, List.set_cons_succ, List.getElem_toArray, List.getElem_cons_zero, List.getElem_cons_succ]
                                                      refine wpAnyH_take (i := 19) (oi := _) (v := ?_) rfl (by kernel_rfl) (by kernel_rfl) (by kernel_rfl) (fun _ _ _ h => h) (Or.inl ⟨by rfl, ?hy⟩) (by assumption) ?rest
                                                      case hy =>
                                                        intro w9 hSw
                                                        try dsimp only at hSw
                                                        try simp only [List.getElem_toArray, List.getElem_cons_zero, List.getElem_cons_succ]
                                                        go_simp
                                                        try with_reducible rfl
                                                      case rest =>
                                                        try simp only [Act.put, List.setIfInBounds_toArray, List.set_cons_zero, List.set_cons_succ, List.getElem_toArray, List.getElem_cons_zero, List.getElem_cons_succ]
                                                        refine wpAnyH_take (i := 20) (oi := _) (v := ?_) rfl (by kernel_rfl) (by kernel_rfl) (by kernel_rfl) (fun _ _ _ h => h) (Or.inl ⟨by rfl, ?hy⟩) (by assumption) ?rest
                                                        case hy =>
                                                          intro w9 hSw
                                                          try dsimp only at hSw
                                                          try simp only [List.getElem_toArray, List.getElem_cons_zero, List.getElem_cons_succ]
                                                          go_simp
                                                          try with_reducible rfl
                                                        case rest =>
                                                          try simp only [Act.put, List.setIfInBounds_toArray, List.set_cons_zero, List.set_cons_succ, List.getElem_toArray, List.getElem_cons_zero, List.getElem_cons_succ]
                                                          refine wpAnyH_take (i := 21) (oi := _) (v := ?_) rfl (by kernel_rfl) (by kernel_rfl) (by kernel_rfl) (fun _ _ _ h => h) (Or.inl ⟨by rfl, ?hy⟩) (by assumption) ?rest
                                                          case hy =>
                                                            intro w9 hSw
                                                            try dsimp only at hSw
                                                            try simp only [List.getElem_toArray, List.getElem_cons_zero, List.getElem_cons_succ]
                                                            go_simp
                                                            try with_reducible rfl
                                                          case rest =>
                                                            try simp only [Act.put, List.setIfInBounds_toArray, List.set_cons_zero, List.set_cons_succ, List.getElem_toArray, List.getElem_cons_zero, List.getElem_cons_succ]
                                                            refine wpAnyH_take (i := 22) (oi := _) (v := ?_) rfl (by kernel_rfl) (by kernel_rfl) (by kernel_rfl) (fun _ _ _ h => h) (Or.inl ⟨by rfl, ?hy⟩) (by assumption) ?rest
                                                            case hy =>
                                                              intro w9 hSw
                                                              try dsimp only at hSw
                                                              try simp only [List.getElem_toArray, List.getElem_cons_zero, List.getElem_cons_succ]
                                                              go_simp
                                                              try with_reducible rfl
                                                            case rest =>
                                                              try simp only [Act.put, List.setIfInBounds_toArray, List.set_cons_zero, List.set_cons_succ, List.getElem_toArray, List.getElem_cons_zero, List.getElem_cons_succ]
                                                              refine wpAnyH_done (by kernel_rfl) ?_ _
                                                              have hw : IntKind.i64.wrap (j : Int) = (j : Int) := by rw [IntKind.wrap_i64]; omega
                                                              have hn4 : Net (w3.setCell ⟨gd, j, none⟩ (.bool true)).drew w0.heap.size R (onceN S n (also D j) n) F := HN3.out.stay (by show _ ≤ (w3.setCell ⟨gd, j, none⟩ (.bool true)).heap.size; rw [World.size_setCell]; exact Nat.le_refl _) (fun k _ hk => Below.heap_setCell _ _ _ _ (fun e => HGF.out (by rw [e] at hk; exact hk)))
                                                              have hT4 : Table (w3.setCell ⟨gd, j, none⟩ (.bool true)).drew gd n (also D j) := HT3.out.put j hjn
                                                              have hb4 : Below w.heap.size w (w3.setCell ⟨gd, j, none⟩ (.bool true)).drew := ((HB3.out).setCell hwgd _).drew
                                                              have hz4 : (w3.setCell ⟨gd, j, none⟩ (.bool true)).drew.heap.size = w3.heap.size := World.size_setCell _ _ _
                                                              have HN4 := Lib.hid hn4
                                                              have HT4 := Lib.hid hT4
                                                              have HB4 := Lib.hid hb4
                                                              have HZ4 := Lib.hid hz4
                                                              clear hn4 hT4 hb4 hz4
                                                              go_wp2_with fail
                                                              refine (Packets_any _ w0.heap.size R (onceN S n (also D j) n) F HN4.out (by show (left S n (also D j)).length ≤ _; have := left_le S n (also D j); omega)).mono ?_
                                                              rintro e w5 ⟨lv, rfl, ht5, hb5⟩
                                                              obtain ⟨lp, lc, hlv⟩ : ∃ p c, lv = .slice p q c := by
                                                                have hlq : (onceN S n (also D j) n).wait.length = q := HQ.out
                                                                rcases ht5.2 with ⟨hv, h0⟩ | ⟨g, cap, cur, hv, _⟩
                                                                · exact ⟨none, 0, by rw [hv, ← hlq, h0]⟩
                                                                · exact ⟨_, _, by rw [hv, hlq]⟩
                                                              subst hlv
                                                              have HN5 := Lib.hid (HN4.out.below hb5)
                                                              have HT5 : Hid (Table w5 gd n (also D j)) := Lib.hid (by
                                                                obtain ⟨cur, hh, hcc⟩ := HT4.out
                                                                exact ⟨cur, (hb5.block gd (lt_of_block hh)).trans hh, hcc⟩)
                                                              have HB5 := Lib.hid (HB4.out.trans (hb5.mono (by have := HZ4.out; have := HB3.out.size; omega)))
                                                              have hz5 := hb5.size
                                                              have HZ5 : Hid (w0.heap.size ≤ w5.heap.size) := Lib.hid (by have := HZ4.out; omega)
                                                              clear ht5 hb5 hz5
                                                              go_wp2
                                                              go_roundw
                                                              case rel => exact ⟨i + 1, also D j, by go_num, by rw [HQ.out], hlt, HN5.out, HT5.out, HB5.out, HZ5.out⟩
                                                              case measure => simp [intOf]; omega
        · have hge' : ¬ (i : Int) < (m : Int) := by omega
          go_wp2
          go_ret
          exact ⟨rfl, HB.out⟩
end Go.Proofs.Ytaopnoaopcbkoaa
