/-
  The document's own answer: lists merged.
-/
import Derived.Test.YtfdafoibclfpgaaMRefPut
namespace Go.Proofs.Ytfdafoibclfpgaa
open Go.ChangeShapes Go.WideShapes Go.ChangeAt Go.RowKit Go.Deep
set_option linter.unusedVariables false
set_option linter.unusedSimpArgs false
theorem flat_succ (L : List (List Itm)) (i : Nat) (h : i < L.length) : (L.take (i + 1)).flatten = (L.take i).flatten ++ L[i] := by
  rw [List.take_succ_eq_append_getElem h, List.flatten_append]
  simp
theorem flat_succ_le (L : List (List Itm)) (i : Nat) (h : i < L.length) : (L.take i).flatten.length + L[i].length ≤ L.flatten.length := by
  have e : L.flatten = (L.take (i + 1)).flatten ++ (L.drop (i + 1)).flatten := by rw [← List.flatten_append, List.take_append_drop]
  rw [e, flat_succ L i h]
  simp only [List.length_append]
  omega
theorem putAll_len (l : List Itm) : (putAll [] l).length ≤ l.length := by
  have := (putAll_all l [] List.Pairwise.nil).2.2
  simpa using this
theorem putAll_snoc (a x : List Itm) (k : Nat) (h : k < x.length) : putAll [] (a ++ x.take (k + 1)) = putL x[k] (putAll [] (a ++ x.take k)) := by
  rw [List.take_succ_eq_append_getElem h, ← List.append_assoc, putAll_append]
  rfl
set_option maxRecDepth 100000 in
set_option maxHeartbeats 64000000 in
theorem RefMerge_any (v : Value) (L : List (List Itm)) (w : World) (hv : HasI w v L) (hf : L.flatten.length ≤ 1000000) (hl : L.length ≤ 1000000) :
    Calls Try.prog 17 #[v] w fun e w' => ∃ v', e = .returned v' ∧ HasK w' encI v' (mergeL L) ∧ Below w.heap.size w w' := by
  obtain ⟨p, cap, rfl, h1, h2⟩ := hv.form
  obtain ⟨N, hN⟩ : ∃ N, L.length = N := ⟨_, rfl⟩
  have HV := Lib.hid hv
  have HN := Lib.hid hN
  have HF := Lib.hid hf
  rw [hN] at h1 hl HV ⊢
  obtain ⟨B, hB⟩ : ∃ B, w.heap.size = B := ⟨_, rfl⟩
  have HBB := Lib.hid hB
  rw [hB]
  have hcI : (cap : Int) ≤ 9223372036854775807 := by unfold maxLen at h2; omega
  clear hv hf hN h2 hB
  go_enter Try.func17, Try.ntmps17
  go_wp2_with (at_make; refine wpList_make_k rfl _ _ 23 rfl B 29 encI _ 48 Try.underlying23 info_item rfl (by decide) 0 0 rfl rfl rfl (by decide) (by rw [HBB.out]; exact Nat.le_refl _) w (by rw [← HBB.out]; exact Below.refl _ _) (fun v1 w1 ho1 hb1 => ?_); have HO1 := Lib.hid ho1.has; have HB1 := Lib.hid hb1; clear ho1 hb1)
  go_loopw [3, 4] (fun vo vi wr => ∃ i : Nat, vi = .int .i64 (i : Int) ∧ i ≤ N ∧ HasK wr encI vo (putAll [] (L.take i).flatten) ∧ Below B w wr) (fun _ vi _ => N - (intOf vi).toNat)
  case atStart => exact ⟨0, by first | rfl | go_num, Nat.zero_le _, HO1.out, HB1.out⟩
  case round =>
    obtain ⟨i, rfl, hi, ho, hb⟩ := hrel
    obtain ⟨W0, rfl⟩ : ∃ W0, W0 = wr := ⟨wr, rfl⟩
    have HO := Lib.hid ho
    have HB := Lib.hid hb
    have HV0 := Lib.hid (HV.out.below (hb.mono (by rw [HBB.out]; exact Nat.le_refl _)))
    have HS0 := Lib.hid (show B ≤ W0.heap.size by have := hb.size; rw [HBB.out] at this; exact this)
    clear ho hb
    rcases Nat.lt_or_ge i N with hlt | hge
    · have hI : (i : Int) < (N : Int) := by omega
      have hi0 : (0 : Int) ≤ (i : Int) := by omega
      have hil : i < L.length := by rw [HN.out]; exact hlt
      obtain ⟨b, o, y, rfl, hbl, hy, hk⟩ := HV0.out.elem i hil
      have HFT := Lib.hid (flat_succ L i hil)
      have HFL := Lib.hid (Nat.le_trans (flat_succ_le L i hil) HF.out)
      obtain ⟨x, hx⟩ : ∃ x, L[i] = x := ⟨_, rfl⟩
      rw [hx] at hk HFT HFL
      obtain ⟨py, cy, rfl, hc1, hc2⟩ := hk.form
      obtain ⟨m, hm⟩ : ∃ m, x.length = m := ⟨_, rfl⟩
      have HM := Lib.hid hm
      have HK := Lib.hid hk
      rw [hm] at hy hc1 HK
      have hcK : (cy : Int) ≤ 9223372036854775807 := by unfold maxLen at hc2; omega
      have HY := Lib.hid hy
      clear hk hx hm hc2 hil hy
      obtain ⟨F0, hF0⟩ : ∃ F, (L.take i).flatten = F := ⟨_, rfl⟩
      rw [hF0] at HFT HFL HO
      clear hF0
      go_wp2_with fail
      go_loopw [3, 5] (fun vo vk wr => ∃ k : Nat, vk = .int .i64 (k : Int) ∧ k ≤ m ∧ HasK wr encI vo (putAll [] (F0 ++ x.take k)) ∧ Below W0.heap.size W0 wr) (fun _ vk _ => m - (intOf vk).toNat)
      case atStart => exact ⟨0, by first | rfl | go_num, Nat.zero_le _, by rw [List.take_zero, List.append_nil]; exact HO.out, Below.refl _ _⟩
      case round =>
        obtain ⟨k, rfl, hk, ho, hb⟩ := hrel
        obtain ⟨W1, rfl⟩ : ∃ W1, W1 = wr := ⟨wr, rfl⟩
        have HO1' := Lib.hid ho
        have HB1' := Lib.hid hb
        have HK1 := Lib.hid (HK.out.below hb)
        have hy1 := (hb.cell (cell_lt HY.out)).trans HY.out
        clear ho hb
        rcases Nat.lt_or_ge k m with hkm | hkm
        · have hkI : (k : Int) < (m : Int) := by omega
          have hk0 : (0 : Int) ≤ (k : Int) := by omega
          have hkl : k < x.length := by rw [HM.out]; exact hkm
          obtain ⟨bx, ox, cap3, p3, hpe, -, -, HPP, HC⟩ := HK1.out.open
          simp only [Value.slice.injEq] at hpe
          obtain ⟨rfl, -, rfl⟩ := hpe
          obtain ⟨rfl, hbx⟩ := HPP.out (by rw [HM.out]; omega)
          have hxc := HasK.itAt HC.out k hkl
          have HPS := Lib.hid (putAll_snoc F0 x k hkl)
          obtain ⟨z, hz⟩ : ∃ z, x[k] = z := ⟨_, rfl⟩
          rw [hz] at hxc HPS
          obtain ⟨c0, c1, c2, c3⟩ := hxc
          have HLE := Lib.hid (show (putAll [] (F0 ++ x.take k)).length ≤ 1000000 by
            have z1 := putAll_len (F0 ++ x.take k)
            have z2 := HFL.out
            rw [List.length_append, List.length_take] at z1
            omega)
          clear hz HPP HC hkl
          go_wp2_with fail
          have hpu := RefPut_any _ _ z W1 HO1'.out HLE.out
          unfold Itm.v at hpu
          refine hpu.mono ?_
          clear hpu c0 c1 c2 c3 hy1
          rintro e w3 ⟨⟨v3, b3, rfl, hk3⟩, hb3⟩
          rw [← HPS.out] at hk3
          have HK3 := Lib.hid hk3
          have HB3 := Lib.hid (HB1'.out.trans (hb3.mono HB1'.out.size))
          clear hk3 hb3
          go_wp2
          go_roundw
          case rel => exact ⟨k + 1, by go_num, by omega, HK3.out, HB3.out⟩
          case measure => simp [intOf] <;> omega
        · have hkI : ¬ (k : Int) < (m : Int) := by omega
          have HE := Lib.hid (show putAll [] (F0 ++ x.take k) = putAll [] (L.take (i + 1)).flatten by rw [HFT.out, List.take_of_length_le (by rw [HM.out]; exact hkm)])
          go_wp2
          go_roundw
          case rel => exact ⟨i + 1, by go_num, by omega, by rw [← HE.out]; exact HO1'.out, HB.out.trans (HB1'.out.mono HS0.out)⟩
          case measure => simp [intOf] <;> omega
    · have hI : ¬ (i : Int) < (N : Int) := by omega
      have HE := Lib.hid (show putAll [] (L.take i).flatten = mergeL L by rw [List.take_of_length_le (by rw [HN.out]; exact hge)]; rfl)
      go_wp2
      go_ret
      exact ⟨_, rfl, by rw [← HE.out]; exact HO.out, HB.out⟩
end Go.Proofs.Ytfdafoibclfpgaa
