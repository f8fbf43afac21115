/-
  Package merge: lists of lists of items; their halves, merged.
-/
import Derived.Test.YtfdafoibclfpgaaMPair
namespace Go.Proofs.Ytfdafoibclfpgaa
open Go.ChangeShapes Go.WideShapes Go.ChangeAt Go.RowKit Go.Deep
set_option linter.unusedVariables false
set_option linter.unusedSimpArgs false
/-- A slice of slices of items reads as a list of lists. -/
def HasI (w : World) (v : Value) (L : List (List Itm)) : Prop :=
  ∃ p cap b o, v = .slice p L.length cap ∧ L.length ≤ cap ∧ cap ≤ maxLen ∧ (0 < L.length → p = some ⟨b, o, none⟩ ∧ b < w.heap.size) ∧ ∀ j (h : j < L.length), ∃ y, w.cell? ⟨b, o + j, none⟩ = some y ∧ HasK w encI y L[j]
theorem HasI.below {w w' : World} {v : Value} {L : List (List Itm)} (h : HasI w v L) (hb : Below w.heap.size w w') : HasI w' v L := by
  obtain ⟨p, cap, b, o, hv, h1, h2, h3, h4⟩ := h
  refine ⟨p, cap, b, o, hv, h1, h2, fun h0 => ⟨(h3 h0).1, Nat.lt_of_lt_of_le (h3 h0).2 hb.size⟩, fun j hj => ?_⟩
  obtain ⟨y, hy, hk⟩ := h4 j hj
  exact ⟨y, (hb.cell (cell_lt hy)).trans hy, hk.below hb⟩
theorem HasI.drew {w : World} {v : Value} {L : List (List Itm)} (h : HasI w v L) : HasI w.drew v L := h
theorem HasI.nil (w : World) : HasI w (.slice none 0 0) [] := ⟨none, 0, 0, 0, rfl, Nat.le_refl _, Nat.zero_le _, fun h => absurd h (Nat.lt_irrefl _), fun j h => absurd h (Nat.not_lt_zero _)⟩
theorem HasI.form {w : World} {v : Value} {L : List (List Itm)} (h : HasI w v L) : ∃ p cap, v = .slice p L.length cap ∧ L.length ≤ cap ∧ cap ≤ maxLen := by
  obtain ⟨p, cap, _, _, hv, h1, h2, _⟩ := h
  exact ⟨p, cap, hv, h1, h2⟩
theorem HasI.elem {w : World} {p : Option Addr} {n c : Nat} {L : List (List Itm)} (h : HasI w (.slice p n c) L) (i : Nat) (hi : i < L.length) : ∃ b o y, p = some ⟨b, o, none⟩ ∧ b < w.heap.size ∧ w.cell? ⟨b, o + i, none⟩ = some y ∧ HasK w encI y L[i] := by
  obtain ⟨q, cap, b, o, hv, h1, h2, h3, h4⟩ := h
  simp only [Value.slice.injEq] at hv
  obtain ⟨rfl, -, -⟩ := hv
  obtain ⟨y, hy, hk⟩ := h4 i hi
  exact ⟨b, o, y, (h3 (by omega)).1, (h3 (by omega)).2, hy, hk⟩
theorem HasI.sub {w : World} {p : Option Addr} {n cap : Nat} {L : List (List Itm)} (h : HasI w (.slice p n cap) L) (lo hi : Nat) (h1 : lo ≤ hi) (h2 : hi ≤ L.length) : HasI w (sliced p lo hi cap 1) ((L.take hi).drop lo) := by
  obtain ⟨p', cap', b, o, he, k1, k2, k3, kc⟩ := h
  simp only [Value.slice.injEq] at he
  obtain ⟨rfl, rfl, rfl⟩ := he
  have hlen : ((L.take hi).drop lo).length = hi - lo := by simp; omega
  unfold sliced
  refine ⟨_, cap - lo, b, o + lo, by rw [hlen], by rw [hlen]; omega, by omega, fun h => ?_, fun j hj => ?_⟩
  · rw [hlen] at h
    obtain ⟨rfl, hb⟩ := k3 (by omega)
    rw [if_neg (by omega)]
    exact ⟨by simp [add_plain], hb⟩
  · rw [hlen] at hj
    obtain ⟨y, hy, hk⟩ := kc (lo + j) (by omega)
    refine ⟨y, by rw [Nat.add_assoc]; exact hy, ?_⟩
    rw [List.getElem_drop, List.getElem_take]
    exact hk
theorem size_lists (W : World) : (sizeOf (Try.prog.elem 30)).run Try.prog W = .ok 1 W := by kernel_rfl
set_option maxRecDepth 100000 in
theorem lists_tail {w : World} {v : Value} {l : List (List Itm)} (h : HasI w v l) (lo : Nat) (h1 : lo ≤ l.length) :
    ∃ p' c', (∀ W, (Instr.slice 30 v (some (.int .i64 (lo : Int))) none none).run Try.prog W = .ok (.slice p' (l.length - lo) c') W) ∧ ∀ W0, HasI W0 v l → HasI W0 (.slice p' (l.length - lo) c') (l.drop lo) := by
  obtain ⟨p, cap, rfl, k1, k2⟩ := h.form
  refine ⟨_, _, fun W => ?_, fun W0 h0 => by have := HasI.sub h0 lo l.length h1 (Nat.le_refl _); rw [List.take_length] at this; exact this⟩
  rw [run_slice_l (P := Try.prog) (w := W) (t := 30) (a := p) (len := l.length) (cap := cap) Try.underlying30 .i64 (lo : Int) (by omega) (by omega), size_lists]
  rfl
set_option maxRecDepth 100000 in
theorem lists_head {w : World} {v : Value} {l : List (List Itm)} (h : HasI w v l) (hi : Nat) (h2 : hi ≤ l.length) :
    ∃ p' c', (∀ W, (Instr.slice 30 v none (some (.int .i64 (hi : Int))) none).run Try.prog W = .ok (.slice p' hi c') W) ∧ ∀ W0, HasI W0 v l → HasI W0 (.slice p' hi c') (l.take hi) := by
  obtain ⟨p, cap, rfl, k1, k2⟩ := h.form
  refine ⟨_, _, fun W => ?_, fun W0 h0 => by have := HasI.sub h0 0 hi (Nat.zero_le _) h2; rw [List.drop_zero] at this; exact this⟩
  rw [run_slice_h (P := Try.prog) (w := W) (t := 30) (a := p) (len := l.length) (cap := cap) Try.underlying30 .i64 (hi : Int) (by omega) (by omega), size_lists]
  rfl
def allSorted (L : List (List Itm)) : Prop := ∀ l ∈ L, SortedI l
theorem flat_take (L : List (List Itm)) (k : Nat) : (L.take k).flatten.length + (L.drop k).flatten.length = L.flatten.length := by
  rw [← List.length_append, ← List.flatten_append, List.take_append_drop]
set_option maxRecDepth 100000 in
set_option maxHeartbeats 16000000 in
theorem Joined_any : ∀ (n : Nat) (v : Value) (L : List (List Itm)) (w : World), L.length ≤ n → HasI w v L → allSorted L → L.flatten.length ≤ 1000000 → L.length ≤ 1000000 →
    Calls Try.prog 21 #[v] w fun e w' => ∃ v' m, e = .returned v' ∧ OwnK w' w.heap.size 29 encI v' m ∧ Merged L m ∧ Below w.heap.size w w' := by
  intro n
  induction n with
  | zero =>
    intro v L w hn hv hs hf hl
    obtain rfl : L = [] := List.eq_nil_of_length_eq_zero (by omega)
    obtain ⟨p, cap, rfl, h1, h2⟩ := hv.form
    go_enter Try.func21, Try.ntmps21
    go_wp2
    go_ret
    exact ⟨_, [], rfl, OwnK.nil _ _ _ _, Merged.nil, Below.refl _ _⟩
  | succ n ih =>
    intro v L w hn hv hs hf hl
    obtain ⟨p, cap, rfl, h1, h2⟩ := hv.form
    rcases L with _ | ⟨l, L⟩
    · go_enter Try.func21, Try.ntmps21
      go_wp2
      go_ret
      exact ⟨_, [], rfl, OwnK.nil _ _ _ _, Merged.nil, Below.refl _ _⟩
    · rcases L with _ | ⟨l2, L⟩
      · obtain ⟨b, o, y, rfl, hb, hy, hk⟩ := hv.elem 0 (by simp)
        obtain ⟨m, hm⟩ : ∃ m, l.length = m := ⟨_, rfl⟩
        have hlm : l.length ≤ 1000000 := by simpa using hf
        have hsl : SortedI l := hs l (by simp)
        have HK := Lib.hid hk
        have HSL := Lib.hid hsl
        have HLM := Lib.hid hlm
        obtain ⟨one, hone⟩ : ∃ k : Nat, [l].length = k := ⟨_, rfl⟩
        have h1I : ((one : Nat) : Int) = 1 := by rw [← hone]; rfl
        rw [Nat.add_zero] at hy
        rw [hone] at h1 ⊢
        obtain rfl : one = 1 := by omega
        clear hk hsl hlm hv hs hf hl hn ih hm hone h1I
        go_enter Try.func21, Try.ntmps21
        go_wp2_with (at_builtin; refine wpList_append_ka rfl (.const (.slice none 0 0)) (.tmp 12) 23 rfl w.heap.size 29 encI _ 48 Try.underlying23 info_item rfl (by decide) _ [] rfl (OwnK.nil _ _ _ _) _ l rfl HK.out (by have := HLM.out; simp only [List.length_nil]; omega) (Nat.le_refl _) w (Below.refl _ _) (fun v7 w7 ho7 hb7 => ?_); have HO7 := Lib.hid ho7; have HB7 := Lib.hid hb7; clear ho7 hb7)
        go_ret
        exact ⟨_, l, rfl, by have z := HO7.out; rw [List.nil_append] at z; exact z, Merged.one HSL.out, HB7.out⟩
      · obtain ⟨k, hk⟩ : ∃ k, L.length = k := ⟨_, rfl⟩
        obtain ⟨M, hM⟩ : ∃ M, l :: l2 :: L = M := ⟨_, rfl⟩
        have hML : M.length = k + 2 := by rw [← hM]; simp [hk]
        rw [hM] at hv hs hf hl h1 hn ⊢
        obtain ⟨h, hh⟩ : ∃ h, M.length / 2 = h := ⟨_, rfl⟩
        have hh1 : h < M.length := by omega
        have hh0 : 0 < h := by omega
        obtain ⟨pt, ct, st, ht⟩ := lists_tail hv h (by omega)
        obtain ⟨ph, ch, sh, hhd⟩ := lists_head hv h (by omega)
        obtain ⟨N, hN⟩ : ∃ N, M.length = N := ⟨_, rfl⟩
        have hT := ht w hv
        have hH := hhd w hv
        have hft := flat_take M h
        have i1 := ih (.slice ph h ch) (M.take h)
        have i2 := ih (.slice pt (M.length - h) ct) (M.drop h)
        have l1 : (M.take h).length ≤ n := by rw [List.length_take]; omega
        have l2' : (M.drop h).length ≤ n := by rw [List.length_drop]; omega
        have l3 : (M.take h).length ≤ 1000000 := by rw [List.length_take]; omega
        have l4 : (M.drop h).length ≤ 1000000 := by rw [List.length_drop]; omega
        have s1 : allSorted (M.take h) := fun x hx => hs x (List.mem_of_mem_take hx)
        have s2 : allSorted (M.drop h) := fun x hx => hs x (List.mem_of_mem_drop hx)
        have I1 := Lib.hid (fun W (hb : Below w.heap.size w W) => i1 W l1 (hH.below hb) s1 (by omega) l3)
        have I2 := Lib.hid (fun W (hb : Below w.heap.size w W) => i2 W l2' (hT.below hb) s2 (by omega) l4)
        have HML : M = M.take h ++ M.drop h := (List.take_append_drop h M).symm
        have HTD := Lib.hid HML
        have HF1 := Lib.hid (show (M.take h).flatten.length ≤ 1000000 by omega)
        have HF2 := Lib.hid (show (M.drop h).flatten.length ≤ 1000000 by omega)
        rw [hN] at h1 st sh I2 hh hML hl ⊢
        have hN0 : ¬ (N : Int) = 0 := by omega
        have hN1 : ¬ (N : Int) = 1 := by omega
        have hNb0 : ((N : Int) == 0) = false := by simp only [beq_eq_false_iff_ne, ne_eq]; exact hN0
        have hNb1 : ((N : Int) == 1) = false := by simp only [beq_eq_false_iff_ne, ne_eq]; exact hN1
        have hdiv2 : (N : Int) / 2 = (h : Int) := by omega
        have hhc : (h : Int) ≤ (cap : Int) := by omega
        have hdiv : (N : Int).tdiv 2 = (h : Int) := by rw [Int.tdiv_eq_ediv_of_nonneg (by omega)]; omega
        have hNI : (0 : Int) ≤ (N : Int) ∧ (N : Int) ≤ 1000000 := by omega
        have hhI : (0 : Int) ≤ (h : Int) ∧ (h : Int) ≤ 1000000 := by omega
        clear hML hh hh1 hk HML hT hH ht hhd i1 i2 l1 l2' l3 l4 s1 s2 hv hs hf hl hn ih hft hM hN
        go_enter Try.func21, Try.ntmps21
        go_upto_region 7 with fail
        refine AnyL.begin (S := fun W => Below w.heap.size w W) 9 (by kernel_rfl) (Below.refl _ _).drew (fun hHeld => ?_)
        refine AnyL.take (i := 0) (oi := _) (v := ?_) 30 rfl (by kernel_rfl) (by kernel_rfl) (by kernel_rfl) (by kernel_rfl) (by kernel_rfl) (fun _ _ _ h => h) (Or.inl ⟨by kernel_rfl, ?hy1⟩) (by assumption) ?_
        case hy1 =>
          intro w9 hSw
          try dsimp only at hSw
          try simp only [List.getElem_toArray, List.getElem_cons_zero, List.getElem_cons_succ]
          go_simp
          try with_reducible rfl
        try simp only [Act.put, List.setIfInBounds_toArray, List.set_cons_zero, List.set_cons_succ, List.getElem_toArray, List.getElem_cons_zero, List.getElem_cons_succ]
        refine AnyL.take (i := 1) (oi := _) (v := ?_) 30 rfl (by kernel_rfl) (by kernel_rfl) (by kernel_rfl) (by kernel_rfl) (by kernel_rfl) (fun _ _ _ h => h) (Or.inl ⟨by kernel_rfl, ?hy2⟩) (by assumption) ?_
        case hy2 =>
          intro w9 hSw
          try dsimp only at hSw
          try simp only [List.getElem_toArray, List.getElem_cons_zero, List.getElem_cons_succ]
          go_simp
          try with_reducible rfl
        try simp only [Act.put, List.setIfInBounds_toArray, List.set_cons_zero, List.set_cons_succ, List.getElem_toArray, List.getElem_cons_zero, List.getElem_cons_succ]
        refine AnyL.take (i := 2) (oi := _) (v := ?_) 30 rfl (by kernel_rfl) (by kernel_rfl) (by kernel_rfl) (by kernel_rfl) (by kernel_rfl) (fun _ _ _ h => h) (Or.inl ⟨by kernel_rfl, ?hy3⟩) (by assumption) ?_
        case hy3 =>
          intro w9 hSw
          try dsimp only at hSw
          try simp only [List.getElem_toArray, List.getElem_cons_zero, List.getElem_cons_succ]
          go_simp
          try with_reducible rfl
        try simp only [Act.put, List.setIfInBounds_toArray, List.set_cons_zero, List.set_cons_succ, List.getElem_toArray, List.getElem_cons_zero, List.getElem_cons_succ]
        refine AnyL.take (i := 4) (oi := _) (v := ?_) 30 rfl (by kernel_rfl) (by kernel_rfl) (by kernel_rfl) (by kernel_rfl) (by kernel_rfl) (fun _ _ _ h => h) (Or.inl ⟨by kernel_rfl, ?hy4⟩) (by assumption) ?_
        case hy4 =>
          intro w9 hSw
          try dsimp only at hSw
          try simp only [List.getElem_toArray, List.getElem_cons_zero, List.getElem_cons_succ]
          go_simp
          try with_reducible rfl
        try simp only [Act.put, List.setIfInBounds_toArray, List.set_cons_zero, List.set_cons_succ, List.getElem_toArray, List.getElem_cons_zero, List.getElem_cons_succ]
        refine AnyL.take (i := 5) (oi := _) (v := ?_) 30 rfl (by kernel_rfl) (by kernel_rfl) (by kernel_rfl) (by kernel_rfl) (by kernel_rfl) (fun _ _ _ h => h) (Or.inl ⟨by kernel_rfl, ?hy5⟩) (by assumption) ?_
        case hy5 =>
          intro w9 hSw
          try dsimp only at hSw
          try simp only [List.getElem_toArray, List.getElem_cons_zero, List.getElem_cons_succ]
          go_simp
          try with_reducible rfl
        try simp only [Act.put, List.setIfInBounds_toArray, List.set_cons_zero, List.set_cons_succ, List.getElem_toArray, List.getElem_cons_zero, List.getElem_cons_succ]
        refine AnyL.take (i := 6) (oi := _) (v := ?_) 30 rfl (by kernel_rfl) (by kernel_rfl) (by kernel_rfl) (by kernel_rfl) (by kernel_rfl) (fun _ _ _ h => h) (Or.inl ⟨by kernel_rfl, ?hy6⟩) (by assumption) ?_
        case hy6 =>
          intro w9 hSw
          try dsimp only at hSw
          try simp only [List.getElem_toArray, List.getElem_cons_zero, List.getElem_cons_succ]
          go_simp
          try with_reducible rfl
        try simp only [Act.put, List.setIfInBounds_toArray, List.set_cons_zero, List.set_cons_succ, List.getElem_toArray, List.getElem_cons_zero, List.getElem_cons_succ]
        refine AnyL.one (i := 3) (o := _) (by kernel_rfl) rfl (fun K hK => ?_)
        try simp only [List.getElem_toArray, List.getElem_cons_zero, List.getElem_cons_succ]
        go_simp
        refine (I1.out _ hHeld).mono ?_
        rintro e w3 ⟨v3, m3, rfl, ho3, hm3, hb3⟩
        have HO3 := Lib.hid ho3
        have HM3 := Lib.hid hm3
        clear ho3 hm3
        refine hK.out _ _ (fun _ => (hHeld.trans (hb3.mono hHeld.size))) (fun hHeld => ?_)
        replace hHeld := hHeld (by decide)
        clear hK K
        try simp only [Act.put, List.setIfInBounds_toArray, List.set_cons_zero, List.set_cons_succ, List.getElem_toArray, List.getElem_cons_zero, List.getElem_cons_succ]
        refine AnyL.one (i := 7) (o := _) (by kernel_rfl) rfl (fun K hK => ?_)
        try simp only [List.getElem_toArray, List.getElem_cons_zero, List.getElem_cons_succ]
        go_simp
        refine (I2.out _ hHeld).mono ?_
        rintro e w7 ⟨v7, m7, rfl, ho7, hm7, hb7⟩
        have HO7 := Lib.hid ho7
        have HM7 := Lib.hid hm7
        have HO37 := Lib.hid (HO3.out.below hb7)
        have hlw := hHeld.size
        clear ho7 hm7
        refine hK.out _ _ (fun _ => (hHeld.trans (hb7.mono hHeld.size))) (fun hHeld => ?_)
        replace hHeld := hHeld (by decide)
        clear hK K
        try simp only [Act.put, List.setIfInBounds_toArray, List.set_cons_zero, List.set_cons_succ, List.getElem_toArray, List.getElem_cons_zero, List.getElem_cons_succ]
        refine AnyL.one (i := 8) (o := _) (by kernel_rfl) rfl (fun K hK => ?_)
        try simp only [List.getElem_toArray, List.getElem_cons_zero, List.getElem_cons_succ]
        go_simp
        refine (Pair_any v3 v7 m3 m7 _ HO37.out.has HO7.out.has (by have := HM3.out.len; have := HF1.out; omega) (by have := HM7.out.len; have := HF2.out; omega)).mono ?_
        rintro e w8 ⟨v8, rfl, ho8, hb8⟩
        have HO8 := Lib.hid (ho8.mono hHeld.size)
        clear ho8
        refine hK.out _ _ (fun _ => (hHeld.trans (hb8.mono hHeld.size))) (fun hHeld => ?_)
        replace hHeld := hHeld (by decide)
        clear hK K
        try simp only [Act.put, List.setIfInBounds_toArray, List.set_cons_zero, List.set_cons_succ, List.getElem_toArray, List.getElem_cons_zero, List.getElem_cons_succ]
        have HB8 := Lib.hid hHeld
        refine AnyL.one (i := 9) (o := _) (by kernel_rfl) rfl (fun K hK => ?_)
        try simp only [List.getElem_toArray, List.getElem_cons_zero, List.getElem_cons_succ]
        go_simp
        refine hK.out _ _ (fun h => absurd rfl h) (fun _ => ?_)
        clear hK K
        try simp only [Act.put, List.setIfInBounds_toArray, List.set_cons_zero, List.set_cons_succ, List.getElem_toArray, List.getElem_cons_zero, List.getElem_cons_succ]
        refine AnyL.done (by kernel_rfl) ?_ _
        go_wp2
        go_ret
        exact ⟨_, _, rfl, HO8.out, by rw [HTD.out]; exact Merged.two HM3.out HM7.out, HB8.out⟩
end Go.Proofs.Ytfdafoibclfpgaa
