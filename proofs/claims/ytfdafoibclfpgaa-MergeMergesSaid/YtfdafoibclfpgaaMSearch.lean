/-
  The library's search in a row of numbers that goes up, alike ones among them too.
-/
import Derived.Test.YtfdafoibclfpgaaMSortE
namespace Go.Proofs.Ytfdafoibclfpgaa
open Go.ChangeShapes Go.WideShapes Go.ChangeAt Go.RowKit Go.Deep
set_option linter.unusedVariables false
set_option linter.unusedSimpArgs false
def upward (l : List Nat) : Prop := l.Pairwise fun x y => x ≤ y
theorem posN_up (x : Nat) : ∀ (l : List Nat), upward l → ∀ i, posN x l ≤ i → i < l.length → x ≤ l.getD i 0
  | [], _, i, _, h => absurd h (by simp)
  | y :: r, hu, i, h1, h2 => by
    have hu' := List.pairwise_cons.1 hu
    unfold posN at h1
    by_cases hy : y < x
    · rw [if_pos hy] at h1
      obtain ⟨j, rfl⟩ : ∃ j, i = j + 1 := ⟨i - 1, by omega⟩
      have := posN_up x r hu'.2 j (by omega) (by simpa using h2)
      simpa using this
    · cases i with
      | zero => simp; omega
      | succ j =>
        have hj : j < r.length := by simpa using h2
        have := hu'.1 r[j] (List.getElem_mem hj)
        rw [List.getD_cons_succ, List.getD_eq_getElem?_getD, List.getElem?_eq_getElem hj]
        simp only [Option.getD_some]
        omega
theorem sortN_up (l : List Nat) : upward (sortN l) := by
  have h : (sortN l).Pairwise fun x y => (!ltB y x) = true := List.pairwise_mergeSort (fun a b c h1 h2 => by
    unfold ltB at *
    simp only [Bool.not_eq_true', decide_eq_false_iff_not] at *
    omega) (fun a b => by
    unfold ltB
    simp only [Bool.or_eq_true, Bool.not_eq_true', decide_eq_false_iff_not]
    omega) l
  exact h.imp fun {a b} h => by
    unfold ltB at h
    simp only [Bool.not_eq_true', decide_eq_false_iff_not] at h
    omega
def FoundAt (n : Nat) (e : Ending) : Prop := ∃ r : Bool, e = .returned (.tuple #[.int .i64 (n : Int), .bool r])
theorem foundAt (n : Nat) (r : Bool) : FoundAt n (.returned (.tuple #[.int .i64 (n : Int), .bool r])) := ⟨r, rfl⟩
theorem mem_sortN (l : List Nat) (x : Nat) : x ∈ sortN l ↔ x ∈ l := List.mem_mergeSort
set_option maxRecDepth 100000 in
set_option maxHeartbeats 4000000 in
theorem SearchUp_any (v : Value) (l : List Nat) (x : Nat) (w : World) (hv : HasK w (encN .u64) v l) (hr : upward l) (hl : l.length ≤ 1000000000) :
    Calls Try.prog 32 #[v, .int .u64 (x : Int)] w fun e w' => FoundAt (posN x l) e ∧ w = w' := by
  obtain ⟨b, o, cap, p, rfl, h1, h2, HP, HC⟩ := hv.open
  obtain ⟨n, hn⟩ : ∃ n, l.length = n := ⟨_, rfl⟩
  have hcI : (cap : Int) ≤ 9223372036854775807 := by unfold maxLen at h2; omega
  have hple := posN_le x l
  have hlt := posN_lt x l
  have hge := posN_up x l hr
  rw [hn] at h1 hple hge hl
  have HN := Lib.hid hn
  have HLT := Lib.hid hlt
  have HGE := Lib.hid hge
  obtain ⟨ps, hps⟩ : ∃ ps, posN x l = ps := ⟨_, rfl⟩
  rw [hps] at hple HLT HGE ⊢
  rw [hn]
  clear hv h2 hlt hge hn hps hr
  go_enter Try.func32, Try.ntmps32
  go_wp2_with fail
  go_loop [7, 8, 9] (fun v7 v8 v9 => ∃ i j : Nat, v7 = .int .i64 (i : Int) ∧ v8 = .int .i64 (j : Int) ∧ i ≤ ps ∧ ps ≤ j ∧ j ≤ n) (fun v7 v8 _ => (intOf v8 - intOf v7).toNat)
  case atStart => exact ⟨0, n, rfl, rfl, Nat.zero_le _, hple, Nat.le_refl _⟩
  case round =>
    obtain ⟨i, j, rfl, rfl, hi, hj, hjn⟩ := hrel
    rcases Nat.lt_or_ge i j with hlt | hge
    · have hltI : (i : Int) < (j : Int) := by omega
      have hij0 : (0 : Int) ≤ (i : Int) + (j : Int) ∧ (i : Int) + (j : Int) ≤ 9223372036854775807 := by omega
      obtain ⟨h, hh⟩ : ∃ h, (i + j) / 2 = h := ⟨_, rfl⟩
      have hhI : ((i : Int) + (j : Int)) / 2 = (h : Int) := by omega
      have hhn : (h : Int) < (n : Int) := by omega
      have hh0 : (0 : Int) ≤ (h : Int) := by omega
      obtain ⟨rfl, hb⟩ := HP.out (by rw [HN.out]; omega)
      have hc := HasK.numAt HC.out h (by rw [HN.out]; omega)
      have hl1 := HLT.out h
      have hg1 := HGE.out h
      obtain ⟨y, hy⟩ : ∃ y, l.getD h 0 = y := ⟨_, rfl⟩
      rw [hy] at hc hl1 hg1
      clear hy hh
      go_wp2_with fail
      refine (cmpLess_any y x w).mono ?_
      rintro e w' ⟨rfl, rfl⟩
      rcases Nat.lt_or_ge y x with hyx | hyx
      · have hL : ltB y x = true := decide_eq_true hyx
        rw [hL]
        have hps1 : h < ps := by
          rcases Nat.lt_or_ge h ps with h | h'
          · exact h
          · have := hg1 h' (by omega); omega
        clear hL
        go_wp2
        go_round
        case rel => exact ⟨h + 1, j, by go_num, rfl, by omega, by omega, hjn⟩
        case measure => simp [intOf] <;> omega
      · have hL : ltB y x = false := decide_eq_false (by omega)
        rw [hL]
        have hps1 : ps ≤ h := by
          rcases Nat.lt_or_ge h ps with h' | h
          · have := hl1 h'; omega
          · exact h
        clear hL
        go_wp2
        go_round
        case rel => exact ⟨i, h, rfl, rfl, hi, by omega, by omega⟩
        case measure => simp [intOf] <;> omega
    · obtain rfl : i = ps := by omega
      obtain rfl : j = i := by omega
      have hnl : ¬ (j : Int) < (j : Int) := by omega
      rcases Nat.lt_or_ge j n with hlt | hge2
      · have hltI : (j : Int) < (n : Int) := by omega
        have hj0 : (0 : Int) ≤ (j : Int) := by omega
        obtain ⟨rfl, hb⟩ := HP.out (by rw [HN.out]; omega)
        have hc := HasK.numAt HC.out j (by rw [HN.out]; omega)
        obtain ⟨y, hy⟩ : ∃ y, l.getD j 0 = y := ⟨_, rfl⟩
        rw [hy] at hc
        rcases (by omega : (y : Int) = (x : Int) ∨ ¬ (y : Int) = (x : Int)) with he | he
        · obtain rfl : y = x := by omega
          clear hy he
          go_wp2
          go_ret2
          exact ⟨foundAt _ _, rfl⟩
        · have he2 : ((y : Int) == (x : Int)) = false := by simp only [beq_eq_false_iff_ne, ne_eq]; exact he
          clear hy
          go_wp2_with fail
          refine (isNaN2_any _ _).mono ?_
          rintro e w' ⟨rfl, rfl⟩
          go_wp2
          go_ret2
          exact ⟨foundAt _ _, rfl⟩
      · have hgeI : ¬ (j : Int) < (n : Int) := by omega
        go_wp2
        go_ret2
        exact ⟨foundAt _ _, rfl⟩
end Go.Proofs.Ytfdafoibclfpgaa
