/-
  Package merge: Merge, and the value that Walk gives.
-/
import Derived.Test.YtfdafoibclfpgaaMJoined
namespace Go.Proofs.Ytfdafoibclfpgaa
open Go.ChangeShapes Go.WideShapes Go.ChangeAt Go.RowKit Go.Deep
set_option linter.unusedVariables false
set_option linter.unusedSimpArgs false
def mergedOf (L : List (List Itm)) (m : List Itm) : Prop := (L.all sortedB = true → Merged L m) ∧ (L.all sortedB = false → m = [])
def mergeCode (L : List (List Itm)) : Int := if L.all sortedB then 0 else 15
theorem all_go (L : List (List Itm)) (h : ∀ j (hj : j < L.length), sortedB L[j] = true) : L.all sortedB = true := by
  rw [List.all_eq_true]
  intro x hx
  obtain ⟨j, hj, rfl⟩ := List.getElem_of_mem hx
  exact h j hj
theorem all_stop (L : List (List Itm)) (i : Nat) (hi : i < L.length) (h : sortedB L[i] = false) : L.all sortedB = false := by
  rw [List.all_eq_false]
  exact ⟨L[i], List.getElem_mem hi, by rw [h]; decide⟩
theorem all_sorted {L : List (List Itm)} (h : L.all sortedB = true) : allSorted L := fun l hl => (sortedB_iff l).1 (List.all_eq_true.1 h l hl)
theorem len_flat {l : List Itm} : ∀ L : List (List Itm), l ∈ L → l.length ≤ L.flatten.length
  | [], h => nomatch h
  | x :: r, h => by
    rw [List.flatten_cons, List.length_append]
    rcases List.mem_cons.1 h with rfl | h
    · omega
    · have := len_flat r h; omega
set_option maxRecDepth 100000 in
set_option maxHeartbeats 16000000 in
theorem Merge_any (v : Value) (L : List (List Itm)) (w : World) (hv : HasI w v L) (hf : L.flatten.length ≤ 1000000) (hl : L.length ≤ 1000000) :
    Calls Try.prog 10 #[v] w fun e w' => ∃ v' m, e = .returned (.tuple #[v', .int .i64 (mergeCode L)]) ∧ OwnK w' w.heap.size 29 encI v' m ∧ mergedOf L m ∧ Below w.heap.size w w' := by
  obtain ⟨p, cap, rfl, h1, h2⟩ := hv.form
  obtain ⟨N, hN⟩ : ∃ N, L.length = N := ⟨_, rfl⟩
  have hlen : ∀ j (hj : j < L.length), L[j].length ≤ 1000000 := fun j hj => Nat.le_trans (len_flat L (List.getElem_mem hj)) hf
  have HV := Lib.hid hv
  have HN := Lib.hid hN
  have HF := Lib.hid hf
  have HL := Lib.hid hl
  have HLN := Lib.hid hlen
  rw [hN] at h1 hl HV ⊢
  have hcI : (cap : Int) ≤ 9223372036854775807 := by unfold maxLen at h2; omega
  obtain ⟨mc, hmc⟩ : ∃ m, mergeCode L = m := ⟨_, rfl⟩
  rw [hmc]
  have HMC := Lib.hid hmc
  clear hv hf hlen hN hmc h2
  go_enter Try.func10, Try.ntmps10
  go_wp2_with fail
  go_loopw [8] (fun vi wr => ∃ i : Nat, vi = .int .i64 (i : Int) ∧ i ≤ N ∧ (∀ j (hj : j < L.length), j < i → sortedB L[j] = true) ∧ Below w.heap.size w wr) (fun vi _ => N - (intOf vi).toNat)
  case atStart => exact ⟨0, rfl, Nat.zero_le _, fun j _ h => absurd h (Nat.not_lt_zero _), Below.refl _ _⟩
  case round =>
    obtain ⟨i, rfl, hi, hgo, hb⟩ := hrel
    obtain ⟨W0, rfl⟩ : ∃ W0, W0 = wr := ⟨wr, rfl⟩
    have HGO := Lib.hid hgo
    have HB := Lib.hid hb
    clear hgo hb
    rcases Nat.lt_or_ge i N with hlt | hge
    · have hI : (i : Int) < (N : Int) := by omega
      have hi0 : (0 : Int) ≤ (i : Int) := by omega
      have hil : i < L.length := by rw [HN.out]; exact hlt
      obtain ⟨b, o, y, rfl, hb, hy, hk⟩ := (HV.out.below HB.out).elem i hil
      have hst := all_stop L i hil
      have hnx : ∀ h : sortedB L[i] = true, ∀ j (h : j < L.length), j < i + 1 → sortedB L[j] = true := fun h j hj hji => by
        rcases Nat.lt_or_ge j i with h' | h'
        · exact HGO.out j hj h'
        · obtain rfl : j = i := by omega
          exact h
      have HNX := Lib.hid hnx
      have HST := Lib.hid hst
      have HK := Lib.hid hk
      have HLI := Lib.hid (HLN.out i hil)
      clear hnx hst hk
      obtain ⟨x, hx⟩ : ∃ x, L[i] = x := ⟨_, rfl⟩
      rw [hx] at HNX HST HK HLI
      clear hx hil
      go_wp2_with fail
      refine (Sorted_any y x W0 HK.out HLI.out).mono ?_
      obtain ⟨sb, hsb⟩ : ∃ s, sortedB x = s := ⟨_, rfl⟩
      rw [hsb] at HNX HST ⊢
      clear hsb
      rintro e w9 ⟨rfl, hb9⟩
      have HB9 := Lib.hid (HB.out.trans (hb9.mono HB.out.size))
      clear hb9 hy
      cases sb with
      | true =>
        have HN2 := Lib.hid (HNX.out rfl)
        go_wp2
        go_roundw
        case rel => exact ⟨i + 1, by go_num, by omega, HN2.out, HB9.out⟩
        case measure => simp [intOf] <;> omega
      | false =>
        have HS := Lib.hid (HST.out rfl)
        have HC := Lib.hid (show mc = 15 by rw [← HMC.out]; unfold mergeCode; rw [HS.out]; rfl)
        go_wp2
        go_ret2
        exact ⟨.slice none 0 0, [], by rw [HC.out]; rfl, OwnK.nil _ _ _ _, ⟨fun h => absurd h (by rw [HS.out]; decide), fun _ => rfl⟩, HB9.out⟩
    · have hI : ¬ (i : Int) < (N : Int) := by omega
      have hs : L.all sortedB = true := all_go L fun j hj => HGO.out j hj (by rw [HN.out] at hj; omega)
      have HS := Lib.hid hs
      have HC := Lib.hid (show mc = 0 by rw [← HMC.out]; unfold mergeCode; rw [hs]; rfl)
      clear hs
      go_wp2_with fail
      refine (Joined_any L.length _ L W0 (Nat.le_refl _) (HV.out.below HB.out) (all_sorted HS.out) HF.out HL.out).mono ?_
      rintro e w9 ⟨v9, m9, rfl, ho9, hm9, hb9⟩
      have HO9 := Lib.hid (ho9.mono HB.out.size)
      have HM9 := Lib.hid hm9
      have HB9 := Lib.hid (HB.out.trans (hb9.mono HB.out.size))
      clear ho9 hm9 hb9
      go_wp2
      go_ret2
      exact ⟨v9, m9, by rw [HC.out]; rfl, HO9.out, ⟨fun _ => HM9.out, fun h => absurd h (by rw [HS.out]; decide)⟩, HB9.out⟩
set_option maxRecDepth 100000 in
set_option maxHeartbeats 16000000 in
theorem Walk_any (v : Value) (L : List (List Itm)) (w : World) (hv : HasI w v L) (hf : L.flatten.length ≤ 1000000) (hl : L.length ≤ 1000000) :
    Calls Try.prog 15 #[v] w fun e w' => ∃ g v' m, e = .returned (.func (.func 25) #[] #[.pointer (some ⟨g, 0, none⟩)]) ∧ w'.heap[g]? = some (.cells #[v'] 23 (0, 0)) ∧ w.heap.size ≤ g ∧ OwnK w' w.heap.size 29 encI v' m ∧ mergedOf L m ∧ Below w.heap.size w w' := by
  have HV := Lib.hid hv
  have HF := Lib.hid hf
  have HL := Lib.hid hl
  clear hv hf hl
  go_enter Try.func15, Try.ntmps15
  go_wp2_with fail
  refine (Merge_any v L w HV.out HF.out HL.out).mono ?_
  rintro e w9 ⟨v9, m9, rfl, ho9, hm9, hb9⟩
  have hba := (Below.refl w9.heap.size w9).alloc (Nat.le_refl _) (.cells #[v9] 23)
  have HO9 := Lib.hid (ho9.below hba)
  have HM9 := Lib.hid hm9
  have HB9 := Lib.hid (hb9.trans (hba.mono hb9.size))
  have HS9 := Lib.hid hb9.size
  obtain ⟨p9, c9, rfl, -, -⟩ := ho9.sl
  clear ho9 hm9 hb9 hba
  go_wp2
  go_ret
  exact ⟨w9.heap.size, _, m9, rfl, heap_alloc_new _ _, HS9.out, HO9.out, HM9.out, HB9.out⟩
end Go.Proofs.Ytfdafoibclfpgaa
