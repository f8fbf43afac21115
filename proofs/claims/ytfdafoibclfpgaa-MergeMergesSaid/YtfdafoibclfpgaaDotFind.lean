/-
  The library's search in a rising row of numbers, and its copy of a row (slices.BinarySearch, slices.Clone at uint64).
-/
import Derived.Test.YtfdafoibclfpgaaDotSmall
import Derived.LoopTactic
import Derived.Deep.RegionHeld
import Derived.Lib.SliceRun
namespace Go.Proofs.Ytfdafoibclfpgaa
open Go.ChangeShapes Go.WideShapes Go.ChangeAt Go.RowKit Go.Deep
set_option linter.unusedVariables false
set_option linter.unusedSimpArgs false
/-- How many stand ahead of x. -/
def posN (x : Nat) : List Nat → Nat
  | [] => 0
  | y :: r => if y < x then posN x r + 1 else 0
theorem posN_le (x : Nat) : ∀ l : List Nat, posN x l ≤ l.length
  | [] => Nat.le_refl _
  | y :: r => by
    unfold posN
    have := posN_le x r
    split <;> simp <;> omega
theorem posN_lt (x : Nat) : ∀ (l : List Nat) (i : Nat), i < posN x l → l.getD i 0 < x
  | [], i, h => absurd h (Nat.not_lt_zero _)
  | y :: r, i, h => by
    unfold posN at h
    split at h
    · cases i with
      | zero => rw [List.getD_cons_zero]; assumption
      | succ i => rw [List.getD_cons_succ]; exact posN_lt x r i (by omega)
    · exact absurd h (Nat.not_lt_zero _)
theorem posN_ge (x : Nat) : ∀ (l : List Nat), rising l → ∀ i, posN x l ≤ i → i < l.length → x ≤ l.getD i 0
  | [], _, i, _, h => absurd h (Nat.not_lt_zero _)
  | y :: r, hr, i, h, hi => by
    unfold posN at h
    split at h
    · cases i with
      | zero => omega
      | succ i => rw [List.getD_cons_succ]; exact posN_ge x r hr.2 i (by omega) (by simpa using hi)
    · rename_i hy
      cases i with
      | zero => rw [List.getD_cons_zero]; omega
      | succ i =>
        have hl : i < r.length := by simpa using hi
        rw [List.getD_cons_succ, List.getD_eq_getElem?_getD, List.getElem?_eq_getElem hl]
        have := hr.1 _ (List.getElem_mem hl)
        show x ≤ r[i]
        omega
theorem mem_getD (l : List Nat) (i : Nat) (h : i < l.length) : l.getD i 0 ∈ l := by
  rw [List.getD_eq_getElem?_getD, List.getElem?_eq_getElem h]
  exact List.getElem_mem h
theorem posN_mem (x : Nat) (l : List Nat) (hr : rising l) : x ∈ l ↔ posN x l < l.length ∧ l.getD (posN x l) 0 = x := by
  constructor
  · intro h
    obtain ⟨i, hi, rfl⟩ := List.getElem_of_mem h
    have e : l.getD i 0 = l[i] := by rw [List.getD_eq_getElem?_getD, List.getElem?_eq_getElem hi]; rfl
    rcases Nat.lt_trichotomy i (posN l[i] l) with h1 | h1 | h1
    · have := posN_lt l[i] l i h1
      omega
    · exact ⟨by omega, by rw [← h1]; exact e⟩
    · have h2 := posN_ge l[i] l hr (posN l[i] l) (Nat.le_refl _) (by omega)
      have h3 := rising_get hr (posN l[i] l) i h1 hi
      omega
  · rintro ⟨h1, h2⟩
    rw [← h2]
    have := mem_getD l (posN x l) h1
    rw [h2] at this ⊢
    exact this
theorem insN_pos (x : Nat) : ∀ (l : List Nat), x ∉ l → insN x l = l.take (posN x l) ++ x :: l.drop (posN x l)
  | [], _ => rfl
  | y :: r, h => by
    have hne : x ≠ y := fun e => h (by rw [e]; exact List.mem_cons_self ..)
    unfold insN posN
    by_cases h1 : x < y
    · rw [if_pos h1, if_neg (by omega)]
      rfl
    · rw [if_neg h1, if_pos (by omega), insN_pos x r (fun hm => h (List.mem_cons_of_mem _ hm))]
      rfl
set_option maxRecDepth 100000 in
set_option maxHeartbeats 2000000 in
theorem cmpLess_any (x y : Nat) (w : World) : Calls Try.prog 40 #[.int .u64 (x : Int), .int .u64 (y : Int)] w fun e w' => e = .returned (.bool (ltB x y)) ∧ w = w' := by
  rcases (by omega : (x : Int) < (y : Int) ∨ ¬ (x : Int) < (y : Int)) with h | h
  · go_enter Try.func40, Try.ntmps40
    go_wp2_with fail
    refine (isNaN_any _ _).mono ?_
    rintro e w' ⟨rfl, rfl⟩
    go_wp2
    go_ret
    exact ⟨ret_bool (by unfold ltB; symm; rw [decide_eq_true_eq]; omega), rfl⟩
  · go_enter Try.func40, Try.ntmps40
    go_wp2_with fail
    refine (isNaN_any _ _).mono ?_
    rintro e w' ⟨rfl, rfl⟩
    go_wp2
    go_ret
    exact ⟨ret_bool (by unfold ltB; first | rfl | (symm; rw [decide_eq_false_iff_not]; omega)), rfl⟩
set_option maxRecDepth 100000 in
set_option maxHeartbeats 4000000 in
theorem Search_any (v : Value) (l : List Nat) (x : Nat) (w : World) (hv : HasK w (encN .u64) v l) (hr : rising l) (hl : l.length ≤ 1000000000) :
    Calls Try.prog 32 #[v, .int .u64 (x : Int)] w fun e w' => e = .returned (.tuple #[.int .i64 (posN x l : Int), .bool (decide (x ∈ l))]) ∧ w = w' := by
  obtain ⟨b, o, cap, p, rfl, h1, h2, HP, HC⟩ := hv.open
  obtain ⟨n, hn⟩ : ∃ n, l.length = n := ⟨_, rfl⟩
  have hcI : (cap : Int) ≤ 9223372036854775807 := by unfold maxLen at h2; omega
  have hple := posN_le x l
  have hlt := posN_lt x l
  have hge := posN_ge x l hr
  have hmem := posN_mem x l hr
  rw [hn] at h1 hple hge hmem hl ⊢
  have HN := Lib.hid hn
  have HLT := Lib.hid hlt
  have HGE := Lib.hid hge
  have HMEM := Lib.hid hmem
  obtain ⟨ps, hps⟩ : ∃ ps, posN x l = ps := ⟨_, rfl⟩
  rw [hps] at hple HLT HGE HMEM ⊢
  clear hv h2 hlt hge hmem hn hps hr
  obtain ⟨bl, hbl⟩ : ∃ bl, decide (x ∈ l) = bl := ⟨_, rfl⟩
  rw [hbl]
  have HBL := Lib.hid hbl
  clear hbl
  go_enter Try.func32, Try.ntmps32
  go_wp2_with fail
  go_loop [7, 8, 9] (fun v7 v8 v9 => ∃ i j : Nat, v7 = .int .i64 (i : Int) ∧ v8 = .int .i64 (j : Int) ∧ i ≤ ps ∧ ps ≤ j ∧ j ≤ n) (fun v7 v8 _ => (intOf v8 - intOf v7).toNat)
  case atStart => exact ⟨0, n, rfl, rfl, Nat.zero_le _, hple, Nat.le_refl _⟩
  case round =>
    obtain ⟨i, j, rfl, rfl, hi, hj, hjn⟩ := hrel
    rcases Nat.lt_or_ge i j with hlt | hge
    · have hltI : (i : Int) < (j : Int) := by omega
      have hij0 : (0 : Int) ≤ (i : Int) + (j : Int) ∧ (i : Int) + (j : Int) ≤ 9223372036854775807 := by omega
      obtain ⟨h, hh⟩ : ∃ h, (i + j) / 2 = h := ⟨_, rfl⟩
      have hhI : ((i : Int) + (j : Int)) / 2 = (h : Int) := by omega
      have hhn : (h : Int) < (n : Int) := by omega
      have hh0 : (0 : Int) ≤ (h : Int) := by omega
      obtain ⟨rfl, hb⟩ := HP.out (by rw [HN.out]; omega)
      have hc := HasK.numAt HC.out h (by rw [HN.out]; omega)
      have hl1 := HLT.out h
      have hg1 := HGE.out h
      obtain ⟨y, hy⟩ : ∃ y, l.getD h 0 = y := ⟨_, rfl⟩
      rw [hy] at hc hl1 hg1
      clear hy hh
      go_wp2_with fail
      refine (cmpLess_any y x w).mono ?_
      rintro e w' ⟨rfl, rfl⟩
      rcases Nat.lt_or_ge y x with hyx | hyx
      · have hL : ltB y x = true := decide_eq_true hyx
        rw [hL]
        have hps1 : h < ps := by
          rcases Nat.lt_or_ge h ps with h | h'
          · exact h
          · have := hg1 h' (by omega); omega
        clear hL
        go_wp2
        go_round
        case rel => exact ⟨h + 1, j, by go_num, rfl, by omega, by omega, hjn⟩
        case measure => simp [intOf] <;> omega
      · have hL : ltB y x = false := decide_eq_false (by omega)
        rw [hL]
        have hps1 : ps ≤ h := by
          rcases Nat.lt_or_ge h ps with h' | h
          · have := hl1 h'; omega
          · exact h
        clear hL
        go_wp2
        go_round
        case rel => exact ⟨i, h, rfl, rfl, hi, by omega, by omega⟩
        case measure => simp [intOf] <;> omega
    · obtain rfl : i = ps := by omega
      obtain rfl : j = i := by omega
      have hnl : ¬ (j : Int) < (j : Int) := by omega
      rcases Nat.lt_or_ge j n with hlt | hge2
      · have hltI : (j : Int) < (n : Int) := by omega
        have hj0 : (0 : Int) ≤ (j : Int) := by omega
        obtain ⟨rfl, hb⟩ := HP.out (by rw [HN.out]; omega)
        have hc := HasK.numAt HC.out j (by rw [HN.out]; omega)
        have hm := HMEM.out
        obtain ⟨y, hy⟩ : ∃ y, l.getD j 0 = y := ⟨_, rfl⟩
        rw [hy] at hc hm
        rcases (by omega : (y : Int) = (x : Int) ∨ ¬ (y : Int) = (x : Int)) with he | he
        · obtain rfl : y = x := by omega
          have hbt : bl = true := by rw [← HBL.out, decide_eq_true_eq]; exact hm.2 ⟨hlt, rfl⟩
          subst hbt
          clear hm hy he
          go_wp2
          go_ret2
          exact ⟨rfl, rfl⟩
        · have hbt : bl = false := by rw [← HBL.out, decide_eq_false_iff_not]; exact fun h => he (by have := (hm.1 h).2; omega)
          subst hbt
          have he2 : ((y : Int) == (x : Int)) = false := by simp only [beq_eq_false_iff_ne, ne_eq]; exact he
          clear hm hy
          go_wp2_with fail
          refine (isNaN2_any _ _).mono ?_
          rintro e w' ⟨rfl, rfl⟩
          go_wp2
          go_ret2
          exact ⟨rfl, rfl⟩
      · have hgeI : ¬ (j : Int) < (n : Int) := by omega
        have hbt : bl = false := by rw [← HBL.out, decide_eq_false_iff_not]; exact fun h => by have := (HMEM.out.1 h).1; omega
        subst hbt
        go_wp2
        go_ret2
        exact ⟨rfl, rfl⟩
theorem info_n64 : (Try.prog.info? 27).map (fun i => (i.zero, i.size, i.bytes)) = some (some (.int .u64 0), (encN .u64).k, 8) := by kernel_rfl
theorem OwnK.empty {α : Type} (w : World) (B : Nat) (e : TypeId) (E : Enc α) (hB : B ≤ w.heap.size) : OwnK (w.alloc (.cells #[] e)) B e E (.slice (some ⟨w.heap.size, 0, none⟩) 0 0) [] := by
  refine ⟨by simp [flatK], .inr ⟨w.heap.size, 0, #[], rfl, hB, heap_alloc_new _ _, Nat.le_refl _, Nat.zero_le _, by simp, by simp [flatK]⟩⟩
end Go.Proofs.Ytfdafoibclfpgaa
