/-
  The document's own answer: a sorted list with one more item.
-/
import Derived.Test.YtfdafoibclfpgaaMKeepsW
import Derived.Test.YtfdafoibclfpgaaMPutM
namespace Go.Proofs.Ytfdafoibclfpgaa
open Go.ChangeShapes Go.WideShapes Go.ChangeAt Go.RowKit Go.Deep
set_option linter.unusedVariables false
set_option linter.unusedSimpArgs false
def PutRes (w' : World) (m : List Itm) (e : Ending) : Prop := ∃ v' b, e = .returned (.tuple #[v', .bool b]) ∧ HasK w' encI v' m
/-- An item in a block of its own. -/
def PBox (W : World) (G : Nat) (x : Itm) : Prop := W.cell? ⟨G, 0, none⟩ = some (.string x.key) ∧ W.cell? ⟨G, 1, none⟩ = some (.int .u64 (x.seq : Int)) ∧ W.cell? ⟨G, 2, none⟩ = some (.bool x.gone) ∧ W.cell? ⟨G, 3, none⟩ = some (.string x.val)
theorem PBox.below {W W' : World} {G : Nat} {x : Itm} (h : PBox W G x) (hb : Below W.heap.size W W') : PBox W' G x := ⟨(hb.cell (cell_lt h.1)).trans h.1, (hb.cell (cell_lt h.2.1)).trans h.2.1, (hb.cell (cell_lt h.2.2.1)).trans h.2.2.1, (hb.cell (cell_lt h.2.2.2)).trans h.2.2.2⟩
theorem PBox.of {W : World} {G : Nat} {x : Itm} (h : W.heap[G]? = some (.cells #[.string x.key, .int .u64 (x.seq : Int), .bool x.gone, .string x.val] 29 (0, 0))) : PBox W G x := ⟨by simp [World.cell?, h], by simp [World.cell?, h], by simp [World.cell?, h], by simp [World.cell?, h]⟩
set_option maxRecDepth 100000 in
set_option maxHeartbeats 64000000 in
theorem RefPut_any (v : Value) (l : List Itm) (x : Itm) (w : World) (hv : HasK w encI v l) (hl : l.length ≤ 1000000) :
    Calls Try.prog 26 #[v, x.v] w fun e w' => PutRes w' (putL x l) e ∧ Below w.heap.size w w' := by
  obtain ⟨p, cap, rfl, h1, h2⟩ := hv.form
  obtain ⟨n, hn⟩ : ∃ n, l.length = n := ⟨_, rfl⟩
  have HN := Lib.hid hn
  have HV := Lib.hid hv
  have HL := Lib.hid hl
  rw [hn] at hl h1 HV ⊢
  have hcI : (cap : Int) ≤ 9223372036854775807 := by unfold maxLen at h2; omega
  clear hv hn h2
  have hba := (Below.refl w.heap.size w).alloc (Nat.le_refl _) (.cells #[.string x.key, .int .u64 (x.seq : Int), .bool x.gone, .string x.val] 29)
  have hna := PBox.of (heap_alloc_new w (.cells #[.string x.key, .int .u64 (x.seq : Int), .bool x.gone, .string x.val] 29))
  unfold Itm.v
  go_enter Try.func26, Try.ntmps26
  go_wp2_with fail
  obtain ⟨W, hW⟩ : ∃ W, w.alloc (.cells #[.string x.key, .int .u64 (x.seq : Int), .bool x.gone, .string x.val] 29) = W := ⟨_, rfl⟩
  obtain ⟨G, hG⟩ : ∃ G, w.heap.size = G := ⟨_, rfl⟩
  rw [hW] at hba hna ⊢
  have HV1 := Lib.hid (HV.out.below hba)
  rw [hG] at hba hna ⊢
  have HBA := Lib.hid hba
  have HNA := Lib.hid hna
  have HGG := Lib.hid hG
  clear hW hG hba hna
  go_loopw [6] (fun vi wr => ∃ i : Nat, vi = .int .i64 (i : Int) ∧ i ≤ n ∧ (∀ j (h : j < l.length), j < i → aheadI l[j] x = true) ∧ Below W.heap.size W wr) (fun vi _ => n - (intOf vi).toNat)
  case atStart => exact ⟨0, rfl, Nat.zero_le _, fun j _ h => absurd h (Nat.not_lt_zero _), Below.refl _ _⟩
  case round =>
    obtain ⟨i, rfl, hi, hgo, hb⟩ := hrel
    obtain ⟨W0, rfl⟩ : ∃ W0, W0 = wr := ⟨wr, rfl⟩
    have HGO := Lib.hid hgo
    have HB := Lib.hid hb
    have HV0 := Lib.hid (HV1.out.below hb)
    have HX0 := Lib.hid (HNA.out.below hb)
    have hi0 : (0 : Int) ≤ (i : Int) := by omega
    have hcase : ∃ c : Bool, (c = true → i < n ∧ ∀ h : i < l.length, aheadI l[i] x = true) ∧ (c = false → i < n → ∀ h : i < l.length, aheadI l[i] x = false) ∧ (i < n → ∀ h : i < l.length, aheadI l[i] x = c) ∧ (¬ i < n → c = false) := by
      rcases Nat.lt_or_ge i n with h | h
      · have hil : i < l.length := by rw [HN.out]; exact h
        exact ⟨aheadI l[i] x, fun e => ⟨h, fun _ => e⟩, fun e _ _ => e, fun _ _ => rfl, fun h' => absurd h h'⟩
      · exact ⟨false, fun e => absurd e (by decide), fun _ h' => absurd h' (by omega), fun h' => absurd h' (by omega), fun _ => rfl⟩
    obtain ⟨c, hc1, hc2, hc3, hc4⟩ := hcase
    have HC1 := Lib.hid hc1
    have HC2 := Lib.hid hc2
    have HC3 := Lib.hid hc3
    have HC4 := Lib.hid hc4
    clear hgo hb hc1 hc2 hc3 hc4
    go_upto_region 2 with fail
    go_cut [18] (fun b wz => b = .bool c ∧ ∃ W1, W1 = wz ∧ Below W0.heap.size W0 W1)
    case first =>
      rcases Nat.lt_or_ge i n with hlt | hge
      · have hI : (i : Int) < (n : Int) := by omega
        have hil : i < l.length := by rw [HN.out]; exact hlt
        obtain ⟨b, o, cap2, p2, hpe, -, -, HPP, HC⟩ := HV0.out.open
        simp only [Value.slice.injEq] at hpe
        obtain ⟨rfl, -, rfl⟩ := hpe
        obtain ⟨rfl, hbl⟩ := HPP.out (by rw [HN.out]; omega)
        have hy := HasK.itAt HC.out i hil
        have hyc := HC3.out hlt hil
        obtain ⟨y, hye⟩ : ∃ y, l[i] = y := ⟨_, rfl⟩
        rw [hye] at hy hyc
        have HY := Lib.hid hy
        have HYC := Lib.hid hyc
        clear hye HC HPP hy hyc hil
        refine AnyL.begin (S := fun W => ItC W b (o + i * 4) y ∧ PBox W G x) 11 (by kernel_rfl) ⟨HY.out.drew, HX0.out⟩ (fun hHeld => ?_)
        refine AnyL.take (i := 0) (oi := _) (v := ?_) 30 rfl (by kernel_rfl) (by kernel_rfl) (by kernel_rfl) (by kernel_rfl) (by kernel_rfl) (fun _ _ _ h => h) (Or.inl ⟨by kernel_rfl, ?hy1⟩) (by assumption) ?_
        case hy1 =>
          intro w9 hSw
          try dsimp only at hSw
          try simp only [List.getElem_toArray, List.getElem_cons_zero, List.getElem_cons_succ]
          go_simp
          try with_reducible rfl
        try simp only [Act.put, List.setIfInBounds_toArray, List.set_cons_zero, List.set_cons_succ, List.getElem_toArray, List.getElem_cons_zero, List.getElem_cons_succ]
        refine AnyL.take (i := 1) (oi := _) (v := ?_) 30 rfl (by kernel_rfl) (by kernel_rfl) (by kernel_rfl) (by kernel_rfl) (by kernel_rfl) (fun _ _ _ h => h) (Or.inl ⟨by kernel_rfl, ?hy2⟩) (by assumption) ?_
        case hy2 =>
          intro w9 hSw
          try dsimp only at hSw
          try simp only [List.getElem_toArray, List.getElem_cons_zero, List.getElem_cons_succ]
          go_simp
          try with_reducible rfl
        try simp only [Act.put, List.setIfInBounds_toArray, List.set_cons_zero, List.set_cons_succ, List.getElem_toArray, List.getElem_cons_zero, List.getElem_cons_succ]
        refine AnyL.take (i := 2) (oi := _) (v := ?_) 30 rfl (by kernel_rfl) (by kernel_rfl) (by kernel_rfl) (by kernel_rfl) (by kernel_rfl) (fun _ _ _ h => h) (Or.inl ⟨by kernel_rfl, ?hy3⟩) (by assumption) ?_
        case hy3 =>
          intro w9 hSw
          try dsimp only at hSw
          try simp only [List.getElem_toArray, List.getElem_cons_zero, List.getElem_cons_succ]
          go_simp
          try with_reducible rfl
        try simp only [Act.put, List.setIfInBounds_toArray, List.set_cons_zero, List.set_cons_succ, List.getElem_toArray, List.getElem_cons_zero, List.getElem_cons_succ]
        refine AnyL.take (i := 3) (oi := _) (v := ?_) 30 rfl (by kernel_rfl) (by kernel_rfl) (by kernel_rfl) (by kernel_rfl) (by kernel_rfl) (fun _ _ _ h => h) (Or.inl ⟨by kernel_rfl, ?hy4⟩) (by assumption) ?_
        case hy4 =>
          intro w9 hSw
          try dsimp only at hSw
          try simp only [List.getElem_toArray, List.getElem_cons_zero, List.getElem_cons_succ]
          go_simp
          try with_reducible rfl
        try simp only [Act.put, List.setIfInBounds_toArray, List.set_cons_zero, List.set_cons_succ, List.getElem_toArray, List.getElem_cons_zero, List.getElem_cons_succ]
        refine AnyL.take (i := 4) (oi := _) (v := ?_) 30 rfl (by kernel_rfl) (by kernel_rfl) (by kernel_rfl) (by kernel_rfl) (by kernel_rfl) (fun _ _ _ h => h) (Or.inl ⟨by kernel_rfl, ?hy5⟩) (by assumption) ?_
        case hy5 =>
          intro w9 hSw
          try dsimp only at hSw
          try simp only [List.getElem_toArray, List.getElem_cons_zero, List.getElem_cons_succ]
          go_simp
          try with_reducible rfl
        try simp only [Act.put, List.setIfInBounds_toArray, List.set_cons_zero, List.set_cons_succ, List.getElem_toArray, List.getElem_cons_zero, List.getElem_cons_succ]
        refine AnyL.take (i := 5) (oi := _) (v := ?_) 30 rfl (by kernel_rfl) (by kernel_rfl) (by kernel_rfl) (by kernel_rfl) (by kernel_rfl) (fun _ _ _ h => h) (Or.inl ⟨by kernel_rfl, ?hy6⟩) (by assumption) ?_
        case hy6 =>
          intro w9 hSw
          try dsimp only at hSw
          try simp only [List.getElem_toArray, List.getElem_cons_zero, List.getElem_cons_succ]
          go_simp
          try with_reducible rfl
        try simp only [Act.put, List.setIfInBounds_toArray, List.set_cons_zero, List.set_cons_succ, List.getElem_toArray, List.getElem_cons_zero, List.getElem_cons_succ]
        refine AnyL.take (i := 6) (oi := _) (v := ?_) 30 rfl (by kernel_rfl) (by kernel_rfl) (by kernel_rfl) (by kernel_rfl) (by kernel_rfl) (fun _ _ _ h => h) (Or.inl ⟨by kernel_rfl, ?hy7⟩) (by assumption) ?_
        case hy7 =>
          intro w9 hSw
          try dsimp only at hSw
          try simp only [List.getElem_toArray, List.getElem_cons_zero, List.getElem_cons_succ]
          go_simp
          try with_reducible rfl
        try simp only [Act.put, List.setIfInBounds_toArray, List.set_cons_zero, List.set_cons_succ, List.getElem_toArray, List.getElem_cons_zero, List.getElem_cons_succ]
        refine AnyL.take (i := 7) (oi := _) (v := ?_) 30 rfl (by kernel_rfl) (by kernel_rfl) (by kernel_rfl) (by kernel_rfl) (by kernel_rfl) (fun _ _ _ h => h) (Or.inl ⟨by kernel_rfl, ?hy8⟩) (by assumption) ?_
        case hy8 =>
          intro w9 hSw
          try dsimp only at hSw
          try simp only [List.getElem_toArray, List.getElem_cons_zero, List.getElem_cons_succ]
          go_simp
          try with_reducible rfl
        try simp only [Act.put, List.setIfInBounds_toArray, List.set_cons_zero, List.set_cons_succ, List.getElem_toArray, List.getElem_cons_zero, List.getElem_cons_succ]
        refine AnyL.take (i := 8) (oi := _) (v := y.v) 30 rfl (by kernel_rfl) (by kernel_rfl) (by kernel_rfl) (by kernel_rfl) (by kernel_rfl) (fun _ _ _ h => h) (Or.inl ⟨by kernel_rfl, ?hy9⟩) (by assumption) ?_
        case hy9 =>
          intro w9 hSw
          try dsimp only at hSw
          try simp only [List.getElem_toArray, List.getElem_cons_zero, List.getElem_cons_succ]
          go_simp
          obtain ⟨⟨a0, a1, a2, a3⟩, -⟩ := hSw
          try go_simp
          try rfl
        try simp only [Act.put, List.setIfInBounds_toArray, List.set_cons_zero, List.set_cons_succ, List.getElem_toArray, List.getElem_cons_zero, List.getElem_cons_succ]
        refine AnyL.take (i := 9) (oi := _) (v := x.v) 30 rfl (by kernel_rfl) (by kernel_rfl) (by kernel_rfl) (by kernel_rfl) (by kernel_rfl) (fun _ _ _ h => h) (Or.inl ⟨by kernel_rfl, ?hy10⟩) (by assumption) ?_
        case hy10 =>
          intro w9 hSw
          try dsimp only at hSw
          try simp only [List.getElem_toArray, List.getElem_cons_zero, List.getElem_cons_succ]
          go_simp
          obtain ⟨-, a0, a1, a2, a3⟩ := hSw
          try go_simp
          try rfl
        try simp only [Act.put, List.setIfInBounds_toArray, List.set_cons_zero, List.set_cons_succ, List.getElem_toArray, List.getElem_cons_zero, List.getElem_cons_succ]
        refine AnyL.one (i := 10) (o := _) (by kernel_rfl) rfl (fun K hK => ?_)
        try simp only [List.getElem_toArray, List.getElem_cons_zero, List.getElem_cons_succ]
        go_simp
        refine (RefAhead_any y x _).mono ?_
        rw [HYC.out]
        rintro e w9 ⟨rfl, hb9⟩
        have HB9 := Lib.hid (((Below.refl W0.heap.size W0).drew).trans hb9)
        refine hK.out _ _ (fun _ => ⟨hHeld.1.below hb9, hHeld.2.below hb9⟩) (fun hHeld => ?_)
        replace hHeld := hHeld (by decide)
        clear hK K
        try simp only [Act.put, List.setIfInBounds_toArray, List.set_cons_zero, List.set_cons_succ, List.getElem_toArray, List.getElem_cons_zero, List.getElem_cons_succ]
        refine AnyL.one (i := 11) (o := _) (by kernel_rfl) rfl (fun K hK => ?_)
        try simp only [List.getElem_toArray, List.getElem_cons_zero, List.getElem_cons_succ]
        go_simp
        refine hK.out _ _ (fun h => absurd rfl h) (fun _ => ?_)
        clear hK K
        try simp only [Act.put, List.setIfInBounds_toArray, List.set_cons_zero, List.set_cons_succ, List.getElem_toArray, List.getElem_cons_zero, List.getElem_cons_succ]
        refine AnyL.done (by kernel_rfl) ?_ _
        go_wp2
        go_meet
        exact ⟨rfl, _, rfl, HB9.out⟩
      · have hI : ¬ (i : Int) < (n : Int) := by omega
        obtain rfl := HC4.out (by omega)
        refine wp_region_held_drew (S := fun W => True) (by kernel_rfl) trivial (fun hHeld => ?_)
        refine wpAnyH_take (i := 0) (oi := _) (v := ?_) rfl (by kernel_rfl) (by kernel_rfl) (by kernel_rfl) (fun _ _ _ h => h) (Or.inl ⟨by kernel_rfl, ?hy11⟩) (by assumption) ?_
        case hy11 =>
          intro w9 hSw
          try dsimp only at hSw
          try simp only [List.getElem_toArray, List.getElem_cons_zero, List.getElem_cons_succ]
          go_simp
          try with_reducible rfl
        try simp only [Act.put, List.setIfInBounds_toArray, List.set_cons_zero, List.set_cons_succ, List.getElem_toArray, List.getElem_cons_zero, List.getElem_cons_succ]
        refine wpAnyH_take (i := 1) (oi := _) (v := ?_) rfl (by kernel_rfl) (by kernel_rfl) (by kernel_rfl) (fun _ _ _ h => h) (Or.inl ⟨by kernel_rfl, ?hy12⟩) (by assumption) ?_
        case hy12 =>
          intro w9 hSw
          try dsimp only at hSw
          try simp only [List.getElem_toArray, List.getElem_cons_zero, List.getElem_cons_succ]
          go_simp
          try with_reducible rfl
        try simp only [Act.put, List.setIfInBounds_toArray, List.set_cons_zero, List.set_cons_succ, List.getElem_toArray, List.getElem_cons_zero, List.getElem_cons_succ]
        refine wpAnyH_take (i := 2) (oi := _) (v := ?_) rfl (by kernel_rfl) (by kernel_rfl) (by kernel_rfl) (fun _ _ _ h => h) (Or.inl ⟨by kernel_rfl, ?hy13⟩) (by assumption) ?_
        case hy13 =>
          intro w9 hSw
          try dsimp only at hSw
          try simp only [List.getElem_toArray, List.getElem_cons_zero, List.getElem_cons_succ]
          go_simp
          try with_reducible rfl
        try simp only [Act.put, List.setIfInBounds_toArray, List.set_cons_zero, List.set_cons_succ, List.getElem_toArray, List.getElem_cons_zero, List.getElem_cons_succ]
        refine wpAnyH_take (i := 3) (oi := _) (v := ?_) rfl (by kernel_rfl) (by kernel_rfl) (by kernel_rfl) (fun _ _ _ h => h) (Or.inl ⟨by kernel_rfl, ?hy14⟩) (by assumption) ?_
        case hy14 =>
          intro w9 hSw
          try dsimp only at hSw
          try simp only [List.getElem_toArray, List.getElem_cons_zero, List.getElem_cons_succ]
          go_simp
          try with_reducible rfl
        try simp only [Act.put, List.setIfInBounds_toArray, List.set_cons_zero, List.set_cons_succ, List.getElem_toArray, List.getElem_cons_zero, List.getElem_cons_succ]
        refine wpAnyH_take (i := 4) (oi := _) (v := ?_) rfl (by kernel_rfl) (by kernel_rfl) (by kernel_rfl) (fun _ _ _ h => h) (Or.inl ⟨by kernel_rfl, ?hy15⟩) (by assumption) ?_
        case hy15 =>
          intro w9 hSw
          try dsimp only at hSw
          try simp only [List.getElem_toArray, List.getElem_cons_zero, List.getElem_cons_succ]
          go_simp
          try with_reducible rfl
        try simp only [Act.put, List.setIfInBounds_toArray, List.set_cons_zero, List.set_cons_succ, List.getElem_toArray, List.getElem_cons_zero, List.getElem_cons_succ]
        refine wpAnyH_take (i := 5) (oi := _) (v := undef) rfl (by kernel_rfl) (by kernel_rfl) (by kernel_rfl) (fun _ _ _ h => h) (Or.inr ⟨by rfl, rfl⟩) (by assumption) ?_
        try simp only [Act.put, List.setIfInBounds_toArray, List.set_cons_zero, List.set_cons_succ, List.getElem_toArray, List.getElem_cons_zero, List.getElem_cons_succ]
        refine wpAnyH_take (i := 6) (oi := _) (v := undef) rfl (by kernel_rfl) (by kernel_rfl) (by kernel_rfl) (fun _ _ _ h => h) (Or.inr ⟨by rfl, rfl⟩) (by assumption) ?_
        try simp only [Act.put, List.setIfInBounds_toArray, List.set_cons_zero, List.set_cons_succ, List.getElem_toArray, List.getElem_cons_zero, List.getElem_cons_succ]
        refine wpAnyH_take (i := 7) (oi := _) (v := undef) rfl (by kernel_rfl) (by kernel_rfl) (by kernel_rfl) (fun _ _ _ h => h) (Or.inr ⟨by rfl, rfl⟩) (by assumption) ?_
        try simp only [Act.put, List.setIfInBounds_toArray, List.set_cons_zero, List.set_cons_succ, List.getElem_toArray, List.getElem_cons_zero, List.getElem_cons_succ]
        refine wpAnyH_take (i := 8) (oi := _) (v := undef) rfl (by kernel_rfl) (by kernel_rfl) (by kernel_rfl) (fun _ _ _ h => h) (Or.inr ⟨by rfl, rfl⟩) (by assumption) ?_
        try simp only [Act.put, List.setIfInBounds_toArray, List.set_cons_zero, List.set_cons_succ, List.getElem_toArray, List.getElem_cons_zero, List.getElem_cons_succ]
        refine wpAnyH_take (i := 9) (oi := _) (v := undef) rfl (by kernel_rfl) (by kernel_rfl) (by kernel_rfl) (fun _ _ _ h => h) (Or.inr ⟨by rfl, rfl⟩) (by assumption) ?_
        try simp only [Act.put, List.setIfInBounds_toArray, List.set_cons_zero, List.set_cons_succ, List.getElem_toArray, List.getElem_cons_zero, List.getElem_cons_succ]
        refine wpAnyH_take (i := 10) (oi := _) (v := undef) rfl (by kernel_rfl) (by kernel_rfl) (by kernel_rfl) (fun _ _ _ h => h) (Or.inr ⟨by rfl, rfl⟩) (by assumption) ?_
        try simp only [Act.put, List.setIfInBounds_toArray, List.set_cons_zero, List.set_cons_succ, List.getElem_toArray, List.getElem_cons_zero, List.getElem_cons_succ]
        refine wpAnyH_take (i := 11) (oi := _) (v := ?_) rfl (by kernel_rfl) (by kernel_rfl) (by kernel_rfl) (fun _ _ _ h => h) (Or.inl ⟨by kernel_rfl, ?hy16⟩) (by assumption) ?_
        case hy16 =>
          intro w9 hSw
          try dsimp only at hSw
          try simp only [List.getElem_toArray, List.getElem_cons_zero, List.getElem_cons_succ]
          go_simp
          try with_reducible rfl
        try simp only [Act.put, List.setIfInBounds_toArray, List.set_cons_zero, List.set_cons_succ, List.getElem_toArray, List.getElem_cons_zero, List.getElem_cons_succ]
        refine wpAnyH_done (by kernel_rfl) ?_ _
        go_wp2
        go_meet
        exact ⟨rfl, _, rfl, (Below.refl W0.heap.size W0).drew⟩
    case rest =>
      obtain ⟨rfl, W1, rfl, hbr⟩ := hcut
      have HV1' := Lib.hid (HV0.out.below hbr)
      have HX1 := Lib.hid (HX0.out.below hbr)
      have HB1 := Lib.hid (HB.out.trans (hbr.mono HB.out.size))
      have HBG1 := Lib.hid (HBA.out.trans (HB1.out.mono (by have := HBA.out.size; rw [HGG.out] at this; exact this)))
      clear hbr
      cases c with
      | true =>
        obtain ⟨hlt, hah⟩ := HC1.out rfl
        have HST := Lib.hid (show ∀ j (h : j < l.length), j < i + 1 → aheadI l[j] x = true from fun j hj hji => by
          rcases Nat.lt_or_ge j i with h' | h'
          · exact HGO.out j hj h'
          · obtain rfl : j = i := by omega
            exact hah hj)
        clear hah
        go_wp2
        go_roundw
        case rel => exact ⟨i + 1, by go_num, by omega, HST.out, HB1.out⟩
        case measure => simp [intOf] <;> omega
      | false =>
        have hcase : ∃ s : Bool, (s = true → i < n ∧ putL x l = l) ∧ (s = false → putL x l = l.take i ++ [x] ++ l.drop i) ∧ (i < n → ∀ h : i < l.length, aheadI x l[i] = !s) ∧ (¬ i < n → s = false) := by
          rcases Nat.lt_or_ge i n with h | h
          · have hil : i < l.length := by rw [HN.out]; exact h
            have hno := HC2.out rfl h hil
            rcases hs : aheadI x l[i] with _ | _
            · exact ⟨true, fun _ => ⟨h, putL_same x l i hil HGO.out hno hs⟩, fun e => absurd e (by decide), fun _ _ => hs, fun h' => absurd h h'⟩
            · exact ⟨false, fun e => absurd e (by decide), fun _ => putL_in x l i hil HGO.out hno hs, fun _ _ => hs, fun _ => rfl⟩
          · obtain rfl : i = l.length := by rw [HN.out]; omega
            exact ⟨false, fun e => absurd e (by decide), fun _ => putL_end x l (fun j hj => HGO.out j hj hj), fun h' => absurd h' (by omega), fun _ => rfl⟩
        obtain ⟨s, hs1, hs2, hs3, hs4⟩ := hcase
        have HST := Lib.hid hs1
        have HSF := Lib.hid hs2
        have HS3 := Lib.hid hs3
        have HS4 := Lib.hid hs4
        clear hs1 hs2 hs3 hs4
        go_upto_region 4 with fail
        go_cut [33] (fun b wz => b = .bool s ∧ ∃ W2, W2 = wz ∧ Below W1.heap.size W1 W2)
        case first =>
          rcases Nat.lt_or_ge i n with hlt | hge
          · have hI : (i : Int) < (n : Int) := by omega
            have hil : i < l.length := by rw [HN.out]; exact hlt
            obtain ⟨b, o, cap2, p2, hpe, -, -, HPP, HC⟩ := HV1'.out.open
            simp only [Value.slice.injEq] at hpe
            obtain ⟨rfl, -, rfl⟩ := hpe
            obtain ⟨rfl, hbl⟩ := HPP.out (by rw [HN.out]; omega)
            have hy := HasK.itAt HC.out i hil
            have hyc := HS3.out hlt hil
            obtain ⟨y, hye⟩ : ∃ y, l[i] = y := ⟨_, rfl⟩
            rw [hye] at hy hyc
            have HY := Lib.hid hy
            have HYC := Lib.hid hyc
            clear hye HC HPP hy hyc hil
            refine AnyL.begin (S := fun W => ItC W b (o + i * 4) y ∧ PBox W G x) 12 (by kernel_rfl) ⟨HY.out.drew, HX1.out⟩ (fun hHeld => ?_)
            refine AnyL.take (i := 0) (oi := _) (v := ?_) 30 rfl (by kernel_rfl) (by kernel_rfl) (by kernel_rfl) (by kernel_rfl) (by kernel_rfl) (fun _ _ _ h => h) (Or.inl ⟨by kernel_rfl, ?hy17⟩) (by assumption) ?_
            case hy17 =>
              intro w9 hSw
              try dsimp only at hSw
              try simp only [List.getElem_toArray, List.getElem_cons_zero, List.getElem_cons_succ]
              go_simp
              try with_reducible rfl
            try simp only [Act.put, List.setIfInBounds_toArray, List.set_cons_zero, List.set_cons_succ, List.getElem_toArray, List.getElem_cons_zero, List.getElem_cons_succ]
            refine AnyL.take (i := 1) (oi := _) (v := ?_) 30 rfl (by kernel_rfl) (by kernel_rfl) (by kernel_rfl) (by kernel_rfl) (by kernel_rfl) (fun _ _ _ h => h) (Or.inl ⟨by kernel_rfl, ?hy18⟩) (by assumption) ?_
            case hy18 =>
              intro w9 hSw
              try dsimp only at hSw
              try simp only [List.getElem_toArray, List.getElem_cons_zero, List.getElem_cons_succ]
              go_simp
              try with_reducible rfl
            try simp only [Act.put, List.setIfInBounds_toArray, List.set_cons_zero, List.set_cons_succ, List.getElem_toArray, List.getElem_cons_zero, List.getElem_cons_succ]
            refine AnyL.take (i := 2) (oi := _) (v := ?_) 30 rfl (by kernel_rfl) (by kernel_rfl) (by kernel_rfl) (by kernel_rfl) (by kernel_rfl) (fun _ _ _ h => h) (Or.inl ⟨by kernel_rfl, ?hy19⟩) (by assumption) ?_
            case hy19 =>
              intro w9 hSw
              try dsimp only at hSw
              try simp only [List.getElem_toArray, List.getElem_cons_zero, List.getElem_cons_succ]
              go_simp
              try with_reducible rfl
            try simp only [Act.put, List.setIfInBounds_toArray, List.set_cons_zero, List.set_cons_succ, List.getElem_toArray, List.getElem_cons_zero, List.getElem_cons_succ]
            refine AnyL.take (i := 3) (oi := _) (v := ?_) 30 rfl (by kernel_rfl) (by kernel_rfl) (by kernel_rfl) (by kernel_rfl) (by kernel_rfl) (fun _ _ _ h => h) (Or.inl ⟨by kernel_rfl, ?hy20⟩) (by assumption) ?_
            case hy20 =>
              intro w9 hSw
              try dsimp only at hSw
              try simp only [List.getElem_toArray, List.getElem_cons_zero, List.getElem_cons_succ]
              go_simp
              try with_reducible rfl
            try simp only [Act.put, List.setIfInBounds_toArray, List.set_cons_zero, List.set_cons_succ, List.getElem_toArray, List.getElem_cons_zero, List.getElem_cons_succ]
            refine AnyL.take (i := 4) (oi := _) (v := ?_) 30 rfl (by kernel_rfl) (by kernel_rfl) (by kernel_rfl) (by kernel_rfl) (by kernel_rfl) (fun _ _ _ h => h) (Or.inl ⟨by kernel_rfl, ?hy21⟩) (by assumption) ?_
            case hy21 =>
              intro w9 hSw
              try dsimp only at hSw
              try simp only [List.getElem_toArray, List.getElem_cons_zero, List.getElem_cons_succ]
              go_simp
              try with_reducible rfl
            try simp only [Act.put, List.setIfInBounds_toArray, List.set_cons_zero, List.set_cons_succ, List.getElem_toArray, List.getElem_cons_zero, List.getElem_cons_succ]
            refine AnyL.take (i := 5) (oi := _) (v := x.v) 30 rfl (by kernel_rfl) (by kernel_rfl) (by kernel_rfl) (by kernel_rfl) (by kernel_rfl) (fun _ _ _ h => h) (Or.inl ⟨by kernel_rfl, ?hy22⟩) (by assumption) ?_
            case hy22 =>
              intro w9 hSw
              try dsimp only at hSw
              try simp only [List.getElem_toArray, List.getElem_cons_zero, List.getElem_cons_succ]
              go_simp
              obtain ⟨-, a0, a1, a2, a3⟩ := hSw
              try go_simp
              try rfl
            try simp only [Act.put, List.setIfInBounds_toArray, List.set_cons_zero, List.set_cons_succ, List.getElem_toArray, List.getElem_cons_zero, List.getElem_cons_succ]
            refine AnyL.take (i := 6) (oi := _) (v := ?_) 30 rfl (by kernel_rfl) (by kernel_rfl) (by kernel_rfl) (by kernel_rfl) (by kernel_rfl) (fun _ _ _ h => h) (Or.inl ⟨by kernel_rfl, ?hy23⟩) (by assumption) ?_
            case hy23 =>
              intro w9 hSw
              try dsimp only at hSw
              try simp only [List.getElem_toArray, List.getElem_cons_zero, List.getElem_cons_succ]
              go_simp
              try with_reducible rfl
            try simp only [Act.put, List.setIfInBounds_toArray, List.set_cons_zero, List.set_cons_succ, List.getElem_toArray, List.getElem_cons_zero, List.getElem_cons_succ]
            refine AnyL.take (i := 7) (oi := _) (v := ?_) 30 rfl (by kernel_rfl) (by kernel_rfl) (by kernel_rfl) (by kernel_rfl) (by kernel_rfl) (fun _ _ _ h => h) (Or.inl ⟨by kernel_rfl, ?hy24⟩) (by assumption) ?_
            case hy24 =>
              intro w9 hSw
              try dsimp only at hSw
              try simp only [List.getElem_toArray, List.getElem_cons_zero, List.getElem_cons_succ]
              go_simp
              try with_reducible rfl
            try simp only [Act.put, List.setIfInBounds_toArray, List.set_cons_zero, List.set_cons_succ, List.getElem_toArray, List.getElem_cons_zero, List.getElem_cons_succ]
            refine AnyL.take (i := 8) (oi := _) (v := ?_) 30 rfl (by kernel_rfl) (by kernel_rfl) (by kernel_rfl) (by kernel_rfl) (by kernel_rfl) (fun _ _ _ h => h) (Or.inl ⟨by kernel_rfl, ?hy25⟩) (by assumption) ?_
            case hy25 =>
              intro w9 hSw
              try dsimp only at hSw
              try simp only [List.getElem_toArray, List.getElem_cons_zero, List.getElem_cons_succ]
              go_simp
              try with_reducible rfl
            try simp only [Act.put, List.setIfInBounds_toArray, List.set_cons_zero, List.set_cons_succ, List.getElem_toArray, List.getElem_cons_zero, List.getElem_cons_succ]
            refine AnyL.take (i := 9) (oi := _) (v := y.v) 30 rfl (by kernel_rfl) (by kernel_rfl) (by kernel_rfl) (by kernel_rfl) (by kernel_rfl) (fun _ _ _ h => h) (Or.inl ⟨by kernel_rfl, ?hy26⟩) (by assumption) ?_
            case hy26 =>
              intro w9 hSw
              try dsimp only at hSw
              try simp only [List.getElem_toArray, List.getElem_cons_zero, List.getElem_cons_succ]
              go_simp
              obtain ⟨⟨a0, a1, a2, a3⟩, -⟩ := hSw
              try go_simp
              try rfl
            try simp only [Act.put, List.setIfInBounds_toArray, List.set_cons_zero, List.set_cons_succ, List.getElem_toArray, List.getElem_cons_zero, List.getElem_cons_succ]
            refine AnyL.one (i := 10) (o := _) (by kernel_rfl) rfl (fun K hK => ?_)
            try simp only [List.getElem_toArray, List.getElem_cons_zero, List.getElem_cons_succ]
            go_simp
            refine (RefAhead_any x y _).mono ?_
            rw [HYC.out]
            rintro e w9 ⟨rfl, hb9⟩
            have HB9 := Lib.hid (((Below.refl W1.heap.size W1).drew).trans hb9)
            refine hK.out _ _ (fun _ => ⟨hHeld.1.below hb9, hHeld.2.below hb9⟩) (fun hHeld => ?_)
            replace hHeld := hHeld (by decide)
            clear hK K
            try simp only [Act.put, List.setIfInBounds_toArray, List.set_cons_zero, List.set_cons_succ, List.getElem_toArray, List.getElem_cons_zero, List.getElem_cons_succ]
            refine AnyL.take (i := 11) (oi := _) (v := ?_) 30 rfl (by kernel_rfl) (by kernel_rfl) (by kernel_rfl) (by kernel_rfl) (by kernel_rfl) (fun _ _ _ h => h) (Or.inl ⟨by kernel_rfl, ?hy27⟩) (by assumption) ?_
            case hy27 =>
              intro w9 hSw
              try dsimp only at hSw
              try simp only [List.getElem_toArray, List.getElem_cons_zero, List.getElem_cons_succ]
              go_simp
              try with_reducible rfl
            try simp only [Act.put, List.setIfInBounds_toArray, List.set_cons_zero, List.set_cons_succ, List.getElem_toArray, List.getElem_cons_zero, List.getElem_cons_succ]
            refine AnyL.one (i := 12) (o := _) (by kernel_rfl) rfl (fun K hK => ?_)
            try simp only [List.getElem_toArray, List.getElem_cons_zero, List.getElem_cons_succ]
            go_simp
            refine hK.out _ _ (fun h => absurd rfl h) (fun _ => ?_)
            clear hK K
            try simp only [Act.put, List.setIfInBounds_toArray, List.set_cons_zero, List.set_cons_succ, List.getElem_toArray, List.getElem_cons_zero, List.getElem_cons_succ]
            refine AnyL.done (by kernel_rfl) ?_ _
            go_wp2
            go_meet
            exact ⟨by cases s <;> rfl, _, rfl, HB9.out⟩
          · have hI : ¬ (i : Int) < (n : Int) := by omega
            obtain rfl := HS4.out (by omega)
            refine wp_region_held_drew (S := fun W => True) (by kernel_rfl) trivial (fun hHeld => ?_)
            refine wpAnyH_take (i := 0) (oi := _) (v := ?_) rfl (by kernel_rfl) (by kernel_rfl) (by kernel_rfl) (fun _ _ _ h => h) (Or.inl ⟨by kernel_rfl, ?hy28⟩) (by assumption) ?_
            case hy28 =>
              intro w9 hSw
              try dsimp only at hSw
              try simp only [List.getElem_toArray, List.getElem_cons_zero, List.getElem_cons_succ]
              go_simp
              try with_reducible rfl
            try simp only [Act.put, List.setIfInBounds_toArray, List.set_cons_zero, List.set_cons_succ, List.getElem_toArray, List.getElem_cons_zero, List.getElem_cons_succ]
            refine wpAnyH_take (i := 1) (oi := _) (v := ?_) rfl (by kernel_rfl) (by kernel_rfl) (by kernel_rfl) (fun _ _ _ h => h) (Or.inl ⟨by kernel_rfl, ?hy29⟩) (by assumption) ?_
            case hy29 =>
              intro w9 hSw
              try dsimp only at hSw
              try simp only [List.getElem_toArray, List.getElem_cons_zero, List.getElem_cons_succ]
              go_simp
              try with_reducible rfl
            try simp only [Act.put, List.setIfInBounds_toArray, List.set_cons_zero, List.set_cons_succ, List.getElem_toArray, List.getElem_cons_zero, List.getElem_cons_succ]
            refine wpAnyH_take (i := 2) (oi := _) (v := ?_) rfl (by kernel_rfl) (by kernel_rfl) (by kernel_rfl) (fun _ _ _ h => h) (Or.inl ⟨by kernel_rfl, ?hy30⟩) (by assumption) ?_
            case hy30 =>
              intro w9 hSw
              try dsimp only at hSw
              try simp only [List.getElem_toArray, List.getElem_cons_zero, List.getElem_cons_succ]
              go_simp
              try with_reducible rfl
            try simp only [Act.put, List.setIfInBounds_toArray, List.set_cons_zero, List.set_cons_succ, List.getElem_toArray, List.getElem_cons_zero, List.getElem_cons_succ]
            refine wpAnyH_take (i := 3) (oi := _) (v := ?_) rfl (by kernel_rfl) (by kernel_rfl) (by kernel_rfl) (fun _ _ _ h => h) (Or.inl ⟨by kernel_rfl, ?hy31⟩) (by assumption) ?_
            case hy31 =>
              intro w9 hSw
              try dsimp only at hSw
              try simp only [List.getElem_toArray, List.getElem_cons_zero, List.getElem_cons_succ]
              go_simp
              try with_reducible rfl
            try simp only [Act.put, List.setIfInBounds_toArray, List.set_cons_zero, List.set_cons_succ, List.getElem_toArray, List.getElem_cons_zero, List.getElem_cons_succ]
            refine wpAnyH_take (i := 4) (oi := _) (v := ?_) rfl (by kernel_rfl) (by kernel_rfl) (by kernel_rfl) (fun _ _ _ h => h) (Or.inl ⟨by kernel_rfl, ?hy32⟩) (by assumption) ?_
            case hy32 =>
              intro w9 hSw
              try dsimp only at hSw
              try simp only [List.getElem_toArray, List.getElem_cons_zero, List.getElem_cons_succ]
              go_simp
              try with_reducible rfl
            try simp only [Act.put, List.setIfInBounds_toArray, List.set_cons_zero, List.set_cons_succ, List.getElem_toArray, List.getElem_cons_zero, List.getElem_cons_succ]
            refine wpAnyH_take (i := 5) (oi := _) (v := undef) rfl (by kernel_rfl) (by kernel_rfl) (by kernel_rfl) (fun _ _ _ h => h) (Or.inr ⟨by rfl, rfl⟩) (by assumption) ?_
            try simp only [Act.put, List.setIfInBounds_toArray, List.set_cons_zero, List.set_cons_succ, List.getElem_toArray, List.getElem_cons_zero, List.getElem_cons_succ]
            refine wpAnyH_take (i := 6) (oi := _) (v := undef) rfl (by kernel_rfl) (by kernel_rfl) (by kernel_rfl) (fun _ _ _ h => h) (Or.inr ⟨by rfl, rfl⟩) (by assumption) ?_
            try simp only [Act.put, List.setIfInBounds_toArray, List.set_cons_zero, List.set_cons_succ, List.getElem_toArray, List.getElem_cons_zero, List.getElem_cons_succ]
            refine wpAnyH_take (i := 7) (oi := _) (v := undef) rfl (by kernel_rfl) (by kernel_rfl) (by kernel_rfl) (fun _ _ _ h => h) (Or.inr ⟨by rfl, rfl⟩) (by assumption) ?_
            try simp only [Act.put, List.setIfInBounds_toArray, List.set_cons_zero, List.set_cons_succ, List.getElem_toArray, List.getElem_cons_zero, List.getElem_cons_succ]
            refine wpAnyH_take (i := 8) (oi := _) (v := undef) rfl (by kernel_rfl) (by kernel_rfl) (by kernel_rfl) (fun _ _ _ h => h) (Or.inr ⟨by rfl, rfl⟩) (by assumption) ?_
            try simp only [Act.put, List.setIfInBounds_toArray, List.set_cons_zero, List.set_cons_succ, List.getElem_toArray, List.getElem_cons_zero, List.getElem_cons_succ]
            refine wpAnyH_take (i := 9) (oi := _) (v := undef) rfl (by kernel_rfl) (by kernel_rfl) (by kernel_rfl) (fun _ _ _ h => h) (Or.inr ⟨by rfl, rfl⟩) (by assumption) ?_
            try simp only [Act.put, List.setIfInBounds_toArray, List.set_cons_zero, List.set_cons_succ, List.getElem_toArray, List.getElem_cons_zero, List.getElem_cons_succ]
            refine wpAnyH_take (i := 10) (oi := _) (v := undef) rfl (by kernel_rfl) (by kernel_rfl) (by kernel_rfl) (fun _ _ _ h => h) (Or.inr ⟨by rfl, rfl⟩) (by assumption) ?_
            try simp only [Act.put, List.setIfInBounds_toArray, List.set_cons_zero, List.set_cons_succ, List.getElem_toArray, List.getElem_cons_zero, List.getElem_cons_succ]
            refine wpAnyH_take (i := 11) (oi := _) (v := undef) rfl (by kernel_rfl) (by kernel_rfl) (by kernel_rfl) (fun _ _ _ h => h) (Or.inr ⟨by rfl, rfl⟩) (by assumption) ?_
            try simp only [Act.put, List.setIfInBounds_toArray, List.set_cons_zero, List.set_cons_succ, List.getElem_toArray, List.getElem_cons_zero, List.getElem_cons_succ]
            refine wpAnyH_take (i := 12) (oi := _) (v := ?_) rfl (by kernel_rfl) (by kernel_rfl) (by kernel_rfl) (fun _ _ _ h => h) (Or.inl ⟨by kernel_rfl, ?hy33⟩) (by assumption) ?_
            case hy33 =>
              intro w9 hSw
              try dsimp only at hSw
              try simp only [List.getElem_toArray, List.getElem_cons_zero, List.getElem_cons_succ]
              go_simp
              try with_reducible rfl
            try simp only [Act.put, List.setIfInBounds_toArray, List.set_cons_zero, List.set_cons_succ, List.getElem_toArray, List.getElem_cons_zero, List.getElem_cons_succ]
            refine wpAnyH_done (by kernel_rfl) ?_ _
            go_wp2
            go_meet
            exact ⟨rfl, _, rfl, (Below.refl W1.heap.size W1).drew⟩
        case rest =>
          obtain ⟨rfl, W2, rfl, hbr⟩ := hcut
          have HV2 := Lib.hid (HV1'.out.below hbr)
          have HX2 := Lib.hid (HX1.out.below hbr)
          have hgb : G ≤ W1.heap.size := by have := HBG1.out.size; rw [HGG.out] at this; exact this
          have HBG2 := Lib.hid (HBG1.out.trans (hbr.mono hgb))
          clear hbr hgb
          cases s with
          | true =>
            have HE := Lib.hid (HST.out rfl).2
            go_wp2
            exact bodyPost_ret (results_tmp2 rfl _ _ _) rfl ⟨⟨.slice p n cap, false, rfl, by rw [HE.out]; exact HV2.out⟩, by rw [HGG.out]; exact HBG2.out⟩
          | false =>
            obtain ⟨pt, ct, st, ht⟩ := item_tail HV2.out i (by rw [HN.out]; exact hi)
            obtain ⟨ph, ch, sh, hh⟩ := item_head HV2.out i (by rw [HN.out]; exact hi)
            rw [HN.out] at st ht
            have HT := Lib.hid (ht W2 HV2.out)
            have HH := Lib.hid (hh W2 HV2.out)
            have HLL := Lib.hid HL.out
            have HE := Lib.hid (HSF.out rfl)
            clear HSF
            have HGB1 := Lib.hid (show G ≤ W2.heap.size by have := HBG2.out.size; rw [HGG.out] at this; exact this)
            clear ht hh
            go_upto_region 6 with fail
            refine wp_region_held_drew (S := fun W' => Below W2.heap.size W2 W') (by kernel_rfl) (Below.refl _ _).drew (fun hHeld => ?_)
            refine wpAnyH_take (i := 1) (oi := _) (v := ?_) rfl (by kernel_rfl) (by kernel_rfl) (by kernel_rfl) (fun _ _ _ h => h) (Or.inl ⟨by kernel_rfl, ?hy34⟩) (by assumption) ?_
            case hy34 =>
              intro w9 hSw
              try dsimp only at hSw
              try simp only [List.getElem_toArray, List.getElem_cons_zero, List.getElem_cons_succ]
              go_simp
              try with_reducible rfl
            try simp only [Act.put, List.setIfInBounds_toArray, List.set_cons_zero, List.set_cons_succ, List.getElem_toArray, List.getElem_cons_zero, List.getElem_cons_succ]
            refine wpAnyH_take (i := 2) (oi := _) (v := ?_) rfl (by kernel_rfl) (by kernel_rfl) (by kernel_rfl) (fun _ _ _ h => h) (Or.inl ⟨by kernel_rfl, ?hy35⟩) (by assumption) ?_
            case hy35 =>
              intro w9 hSw
              try dsimp only at hSw
              try simp only [List.getElem_toArray, List.getElem_cons_zero, List.getElem_cons_succ]
              go_simp
              try with_reducible rfl
            try simp only [Act.put, List.setIfInBounds_toArray, List.set_cons_zero, List.set_cons_succ, List.getElem_toArray, List.getElem_cons_zero, List.getElem_cons_succ]
            refine wpAnyH_take (i := 3) (oi := _) (v := ?_) rfl (by kernel_rfl) (by kernel_rfl) (by kernel_rfl) (fun _ _ _ h => h) (Or.inl ⟨by kernel_rfl, ?hy36⟩) (by assumption) ?_
            case hy36 =>
              intro w9 hSw
              try dsimp only at hSw
              try simp only [List.getElem_toArray, List.getElem_cons_zero, List.getElem_cons_succ]
              go_simp
              try with_reducible rfl
            try simp only [Act.put, List.setIfInBounds_toArray, List.set_cons_zero, List.set_cons_succ, List.getElem_toArray, List.getElem_cons_zero, List.getElem_cons_succ]
            refine wpAnyH_take (i := 5) (oi := _) (v := .agg #[.string x.key, .int .u64 (x.seq : Int), .bool x.gone, .string x.val]) rfl (by kernel_rfl) (by kernel_rfl) (by kernel_rfl) (fun _ _ _ h => h) (Or.inl ⟨by kernel_rfl, ?hy37⟩) (by assumption) ?_
            case hy37 =>
              intro w9 hSw
              try dsimp only at hSw
              try simp only [List.getElem_toArray, List.getElem_cons_zero, List.getElem_cons_succ]
              go_simp
              obtain ⟨a0, a1, a2, a3⟩ := HX2.out.below hSw
              try go_simp
              try rfl
            try simp only [Act.put, List.setIfInBounds_toArray, List.set_cons_zero, List.set_cons_succ, List.getElem_toArray, List.getElem_cons_zero, List.getElem_cons_succ]
            refine wpAnyH_take (i := 8) (oi := _) (v := ?_) rfl (by kernel_rfl) (by kernel_rfl) (by kernel_rfl) (fun _ _ _ h => h) (Or.inl ⟨by kernel_rfl, ?hy38⟩) (by assumption) ?_
            case hy38 =>
              intro w9 hSw
              try dsimp only at hSw
              try simp only [List.getElem_toArray, List.getElem_cons_zero, List.getElem_cons_succ]
              go_simp
              try with_reducible rfl
            try simp only [Act.put, List.setIfInBounds_toArray, List.set_cons_zero, List.set_cons_succ, List.getElem_toArray, List.getElem_cons_zero, List.getElem_cons_succ]
            refine wpAnyH_take (i := 9) (oi := _) (v := ?_) rfl (by kernel_rfl) (by kernel_rfl) (by kernel_rfl) (fun _ _ _ h => h) (Or.inl ⟨by kernel_rfl, ?hy39⟩) (by assumption) ?_
            case hy39 =>
              intro w9 hSw
              try dsimp only at hSw
              try simp only [List.getElem_toArray, List.getElem_cons_zero, List.getElem_cons_succ]
              go_simp
              try with_reducible rfl
            try simp only [Act.put, List.setIfInBounds_toArray, List.set_cons_zero, List.set_cons_succ, List.getElem_toArray, List.getElem_cons_zero, List.getElem_cons_succ]
            refine wpAnyH_take (i := 10) (oi := _) (v := ?_) rfl (by kernel_rfl) (by kernel_rfl) (by kernel_rfl) (fun _ _ _ h => h) (Or.inl ⟨by kernel_rfl, ?hy40⟩) (by assumption) ?_
            case hy40 =>
              intro w9 hSw
              try dsimp only at hSw
              try simp only [List.getElem_toArray, List.getElem_cons_zero, List.getElem_cons_succ]
              go_simp
              try with_reducible rfl
            try simp only [Act.put, List.setIfInBounds_toArray, List.set_cons_zero, List.set_cons_succ, List.getElem_toArray, List.getElem_cons_zero, List.getElem_cons_succ]
            clear st sh
            obtain ⟨U0, hU0⟩ : ∃ U, W2.drew = U := ⟨_, rfl⟩
            rw [hU0] at hHeld ⊢
            clear hU0
            refine wpAnyH_ready (rs := [0, 6]) (by kernel_rfl) (by simp) (AllReadyH.cons (o := _) rfl (fun K hK => ?_) (AllReadyH.cons (o := _) rfl (fun K hK => ?_) AllReadyH.nil))
            · skip
              try simp only [List.getElem_toArray, List.getElem_cons_zero, List.getElem_cons_succ]
              go_simp
              have hbz0 := (Below.refl U0.heap.size U0).alloc (Nat.le_refl _) (.cells #[] 29)
              have hoz0 := OwnK.empty' U0 W2.heap.size 29 encI hHeld.size
              have hgs0 : (U0.alloc (.cells #[] 29)).heap.size = U0.heap.size + 1 := World.size_alloc _ _
              refine hK.out _ _ (hHeld.trans (hbz0.mono hHeld.size)) (fun hHeld => ?_)
              clear hK K
              generalize (U0.alloc (.cells #[] 29)) = u10 at *
              obtain ⟨g0, hg0⟩ : ∃ g, U0.heap.size = g := ⟨_, rfl⟩
              rw [hg0] at hoz0 hgs0 ⊢
              have HOWN := Lib.hid hoz0
              have HGS0 := Lib.hid hgs0
              have HG0 := Lib.hid hg0
              clear hgs0 hg0
              clear hbz0 hoz0
              try simp only [Act.put, List.setIfInBounds_toArray, List.set_cons_zero, List.set_cons_succ, List.getElem_toArray, List.getElem_cons_zero, List.getElem_cons_succ]
              refine wpAnyH_ready (rs := [4, 6]) (by kernel_rfl) (by simp) (AllReadyH.cons (o := _) rfl (fun K hK => ?_) (AllReadyH.cons (o := _) rfl (fun K hK => ?_) AllReadyH.nil))
              · skip
                refine step_append_ka rfl (.tmp 35) (.tmp 38) 23 rfl W2.heap.size 29 encI _ 48 Try.underlying23 info_item rfl (by decide) (.slice (some ⟨g0, 0, none⟩) 0 0) [] rfl HOWN.out _ (l.take i) rfl (HH.out.below hHeld) (by have z := HLL.out; show 0 + (l.take i).length ≤ 1000000000; rw [List.length_take]; omega) hHeld.size W2 hHeld (fun v4 u24 ho4 hb4 hg4 => ?_)
                rw [List.nil_append] at ho4
                refine hK.out _ _ hb4 (fun hHeld => ?_)
                clear hK K
                have HO4 := Lib.hid ho4
                clear ho4 hb4 hg4
                try simp only [Act.put, List.setIfInBounds_toArray, List.set_cons_zero, List.set_cons_succ, List.getElem_toArray, List.getElem_cons_zero, List.getElem_cons_succ]
                refine wpAnyH_ready (rs := [6]) (by kernel_rfl) (by simp) (AllReadyH.cons (o := _) rfl (fun K hK => ?_) AllReadyH.nil)
                try simp only [List.getElem_toArray, List.getElem_cons_zero, List.getElem_cons_succ]
                go_simp
                have hbz6 := (Below.refl u24.heap.size u24).alloc (Nat.le_refl _) (.cells #[.string x.key, .int .u64 (x.seq : Int), .bool x.gone, .string x.val] 29)
                have hoz6 := one_item x (heap_alloc_new u24 (.cells #[.string x.key, .int .u64 (x.seq : Int), .bool x.gone, .string x.val] 29))
                have hgs6 : (u24.alloc (.cells #[.string x.key, .int .u64 (x.seq : Int), .bool x.gone, .string x.val] 29)).heap.size = u24.heap.size + 1 := World.size_alloc _ _
                refine hK.out _ _ (hHeld.trans (hbz6.mono hHeld.size)) (fun hHeld => ?_)
                clear hK K
                generalize (u24.alloc (.cells #[.string x.key, .int .u64 (x.seq : Int), .bool x.gone, .string x.val] 29)) = u36 at *
                obtain ⟨g6, hg6⟩ : ∃ g, u24.heap.size = g := ⟨_, rfl⟩
                rw [hg6] at hoz6 hgs6 ⊢
                have HONE := Lib.hid hoz6
                have HGS6 := Lib.hid hgs6
                have HL6 := Lib.hid (show g6 < u36.heap.size by omega)
                have HG6 := Lib.hid hg6
                clear hgs6 hg6
                have HO4 := Lib.hid (HO4.out.below hbz6)
                clear hbz6 hoz6
                try simp only [Act.put, List.setIfInBounds_toArray, List.set_cons_zero, List.set_cons_succ, List.getElem_toArray, List.getElem_cons_zero, List.getElem_cons_succ]
                refine wpAnyH_ready (rs := [7]) (by kernel_rfl) (by simp) (AllReadyH.cons (o := _) rfl (fun K hK => ?_) AllReadyH.nil)
                refine step_append_k rfl (.tmp 39) (.tmp 41) 23 rfl W2.heap.size 29 encI _ 48 Try.underlying23 info_item rfl (by decide) v4 (l.take i) rfl HO4.out _ [x] rfl HONE.out Nat.one_pos (by have z := HLL.out; show (l.take i).length + 1 ≤ 1000000000; rw [List.length_take]; omega) hHeld.size W2 hHeld (fun v7 u7 ho7 hb7 hg7 => ?_)
                refine hK.out _ _ hb7 (fun hHeld => ?_)
                clear hK K
                try simp only [Act.put, List.setIfInBounds_toArray, List.set_cons_zero, List.set_cons_succ, List.getElem_toArray, List.getElem_cons_zero, List.getElem_cons_succ]
                refine wpAnyH_ready (rs := [11]) (by kernel_rfl) (by simp) (AllReadyH.cons (o := _) rfl (fun K hK => ?_) AllReadyH.nil)
                refine step_append_ka rfl (.tmp 42) (.tmp 45) 23 rfl W2.heap.size 29 encI _ 48 Try.underlying23 info_item rfl (by decide) v7 (l.take i ++ [x]) rfl ho7 _ (l.drop i) rfl (HT.out.below hHeld) (by have z := HLL.out; rw [List.length_append, List.length_take, List.length_drop]; show _ + 1 + _ ≤ 1000000000; omega) hHeld.size W2 hHeld (fun v11 u11 ho11 hb11 hg11 => ?_)
                refine hK.out _ _ hb11 (fun hHeld => ?_)
                clear hK K
                try simp only [Act.put, List.setIfInBounds_toArray, List.set_cons_zero, List.set_cons_succ, List.getElem_toArray, List.getElem_cons_zero, List.getElem_cons_succ]
                refine wpAnyH_take (i := 12) (oi := _) (v := ?_) rfl (by kernel_rfl) (by kernel_rfl) (by kernel_rfl) (fun _ _ _ h => h) (Or.inl ⟨by kernel_rfl, ?hy41⟩) (by assumption) ?_
                case hy41 =>
                  intro w9 hSw
                  try dsimp only at hSw
                  try simp only [List.getElem_toArray, List.getElem_cons_zero, List.getElem_cons_succ]
                  go_simp
                  try with_reducible rfl
                try simp only [Act.put, List.setIfInBounds_toArray, List.set_cons_zero, List.set_cons_succ, List.getElem_toArray, List.getElem_cons_zero, List.getElem_cons_succ]
                refine wpAnyH_take (i := 13) (oi := _) (v := ?_) rfl (by kernel_rfl) (by kernel_rfl) (by kernel_rfl) (fun _ _ _ h => h) (Or.inl ⟨by kernel_rfl, ?hy42⟩) (by assumption) ?_
                case hy42 =>
                  intro w9 hSw
                  try dsimp only at hSw
                  try simp only [List.getElem_toArray, List.getElem_cons_zero, List.getElem_cons_succ]
                  go_simp
                  try with_reducible rfl
                try simp only [Act.put, List.setIfInBounds_toArray, List.set_cons_zero, List.set_cons_succ, List.getElem_toArray, List.getElem_cons_zero, List.getElem_cons_succ]
                refine wpAnyH_done (by kernel_rfl) ?_ _
                go_wp2
                exact bodyPost_ret (results_tmp2 rfl _ _ _) rfl ⟨⟨v11, true, rfl, by rw [HE.out]; exact ho11.has⟩, by rw [HGG.out]; exact HBG2.out.trans (hb11.mono HGB1.out)⟩
              · skip
                try simp only [List.getElem_toArray, List.getElem_cons_zero, List.getElem_cons_succ]
                go_simp
                have hbz6 := (Below.refl u10.heap.size u10).alloc (Nat.le_refl _) (.cells #[.string x.key, .int .u64 (x.seq : Int), .bool x.gone, .string x.val] 29)
                have hoz6 := one_item x (heap_alloc_new u10 (.cells #[.string x.key, .int .u64 (x.seq : Int), .bool x.gone, .string x.val] 29))
                have hgs6 : (u10.alloc (.cells #[.string x.key, .int .u64 (x.seq : Int), .bool x.gone, .string x.val] 29)).heap.size = u10.heap.size + 1 := World.size_alloc _ _
                refine hK.out _ _ (hHeld.trans (hbz6.mono hHeld.size)) (fun hHeld => ?_)
                clear hK K
                generalize (u10.alloc (.cells #[.string x.key, .int .u64 (x.seq : Int), .bool x.gone, .string x.val] 29)) = u26 at *
                obtain ⟨g6, hg6⟩ : ∃ g, u10.heap.size = g := ⟨_, rfl⟩
                rw [hg6] at hoz6 hgs6 ⊢
                have HONE := Lib.hid hoz6
                have HGS6 := Lib.hid hgs6
                have HL6 := Lib.hid (show g6 < u26.heap.size by omega)
                have HG6 := Lib.hid hg6
                clear hgs6 hg6
                have hne : g0 ≠ g6 := by
                  have e1 := HG6.out
                  have e2 := HGS0.out
                  omega
                have HOWN := Lib.hid (HOWN.out.below hbz6)
                clear hbz6 hoz6
                try simp only [Act.put, List.setIfInBounds_toArray, List.set_cons_zero, List.set_cons_succ, List.getElem_toArray, List.getElem_cons_zero, List.getElem_cons_succ]
                refine wpAnyH_ready (rs := [4]) (by kernel_rfl) (by simp) (AllReadyH.cons (o := _) rfl (fun K hK => ?_) AllReadyH.nil)
                refine step_append_ka rfl (.tmp 35) (.tmp 38) 23 rfl W2.heap.size 29 encI _ 48 Try.underlying23 info_item rfl (by decide) (.slice (some ⟨g0, 0, none⟩) 0 0) [] rfl HOWN.out _ (l.take i) rfl (HH.out.below hHeld) (by have z := HLL.out; show 0 + (l.take i).length ≤ 1000000000; rw [List.length_take]; omega) hHeld.size W2 hHeld (fun v4 u34 ho4 hb4 hg4 => ?_)
                rw [List.nil_append] at ho4
                refine hK.out _ _ hb4 (fun hHeld => ?_)
                clear hK K
                have HO4 := Lib.hid ho4
                have HONE := Lib.hid (HONE.out.same hg4.size (fun b h0 hb => by
                  have e' : g6 = b := Option.some.inj hb
                  subst e'
                  exact hg4.block g6 HL6.out (fun e => hne (Option.some.inj e).symm)))
                clear ho4 hb4 hg4
                try simp only [Act.put, List.setIfInBounds_toArray, List.set_cons_zero, List.set_cons_succ, List.getElem_toArray, List.getElem_cons_zero, List.getElem_cons_succ]
                refine wpAnyH_ready (rs := [7]) (by kernel_rfl) (by simp) (AllReadyH.cons (o := _) rfl (fun K hK => ?_) AllReadyH.nil)
                refine step_append_k rfl (.tmp 39) (.tmp 41) 23 rfl W2.heap.size 29 encI _ 48 Try.underlying23 info_item rfl (by decide) v4 (l.take i) rfl HO4.out _ [x] rfl HONE.out Nat.one_pos (by have z := HLL.out; show (l.take i).length + 1 ≤ 1000000000; rw [List.length_take]; omega) hHeld.size W2 hHeld (fun v7 u7 ho7 hb7 hg7 => ?_)
                refine hK.out _ _ hb7 (fun hHeld => ?_)
                clear hK K
                try simp only [Act.put, List.setIfInBounds_toArray, List.set_cons_zero, List.set_cons_succ, List.getElem_toArray, List.getElem_cons_zero, List.getElem_cons_succ]
                refine wpAnyH_ready (rs := [11]) (by kernel_rfl) (by simp) (AllReadyH.cons (o := _) rfl (fun K hK => ?_) AllReadyH.nil)
                refine step_append_ka rfl (.tmp 42) (.tmp 45) 23 rfl W2.heap.size 29 encI _ 48 Try.underlying23 info_item rfl (by decide) v7 (l.take i ++ [x]) rfl ho7 _ (l.drop i) rfl (HT.out.below hHeld) (by have z := HLL.out; rw [List.length_append, List.length_take, List.length_drop]; show _ + 1 + _ ≤ 1000000000; omega) hHeld.size W2 hHeld (fun v11 u11 ho11 hb11 hg11 => ?_)
                refine hK.out _ _ hb11 (fun hHeld => ?_)
                clear hK K
                try simp only [Act.put, List.setIfInBounds_toArray, List.set_cons_zero, List.set_cons_succ, List.getElem_toArray, List.getElem_cons_zero, List.getElem_cons_succ]
                refine wpAnyH_take (i := 12) (oi := _) (v := ?_) rfl (by kernel_rfl) (by kernel_rfl) (by kernel_rfl) (fun _ _ _ h => h) (Or.inl ⟨by kernel_rfl, ?hy43⟩) (by assumption) ?_
                case hy43 =>
                  intro w9 hSw
                  try dsimp only at hSw
                  try simp only [List.getElem_toArray, List.getElem_cons_zero, List.getElem_cons_succ]
                  go_simp
                  try with_reducible rfl
                try simp only [Act.put, List.setIfInBounds_toArray, List.set_cons_zero, List.set_cons_succ, List.getElem_toArray, List.getElem_cons_zero, List.getElem_cons_succ]
                refine wpAnyH_take (i := 13) (oi := _) (v := ?_) rfl (by kernel_rfl) (by kernel_rfl) (by kernel_rfl) (fun _ _ _ h => h) (Or.inl ⟨by kernel_rfl, ?hy44⟩) (by assumption) ?_
                case hy44 =>
                  intro w9 hSw
                  try dsimp only at hSw
                  try simp only [List.getElem_toArray, List.getElem_cons_zero, List.getElem_cons_succ]
                  go_simp
                  try with_reducible rfl
                try simp only [Act.put, List.setIfInBounds_toArray, List.set_cons_zero, List.set_cons_succ, List.getElem_toArray, List.getElem_cons_zero, List.getElem_cons_succ]
                refine wpAnyH_done (by kernel_rfl) ?_ _
                go_wp2
                exact bodyPost_ret (results_tmp2 rfl _ _ _) rfl ⟨⟨v11, true, rfl, by rw [HE.out]; exact ho11.has⟩, by rw [HGG.out]; exact HBG2.out.trans (hb11.mono HGB1.out)⟩
            · skip
              try simp only [List.getElem_toArray, List.getElem_cons_zero, List.getElem_cons_succ]
              go_simp
              have hbz6 := (Below.refl U0.heap.size U0).alloc (Nat.le_refl _) (.cells #[.string x.key, .int .u64 (x.seq : Int), .bool x.gone, .string x.val] 29)
              have hoz6 := one_item x (heap_alloc_new U0 (.cells #[.string x.key, .int .u64 (x.seq : Int), .bool x.gone, .string x.val] 29))
              have hgs6 : (U0.alloc (.cells #[.string x.key, .int .u64 (x.seq : Int), .bool x.gone, .string x.val] 29)).heap.size = U0.heap.size + 1 := World.size_alloc _ _
              refine hK.out _ _ (hHeld.trans (hbz6.mono hHeld.size)) (fun hHeld => ?_)
              clear hK K
              generalize (U0.alloc (.cells #[.string x.key, .int .u64 (x.seq : Int), .bool x.gone, .string x.val] 29)) = u16 at *
              obtain ⟨g6, hg6⟩ : ∃ g, U0.heap.size = g := ⟨_, rfl⟩
              rw [hg6] at hoz6 hgs6 ⊢
              have HONE := Lib.hid hoz6
              have HGS6 := Lib.hid hgs6
              have HL6 := Lib.hid (show g6 < u16.heap.size by omega)
              have HG6 := Lib.hid hg6
              clear hgs6 hg6
              clear hbz6 hoz6
              try simp only [Act.put, List.setIfInBounds_toArray, List.set_cons_zero, List.set_cons_succ, List.getElem_toArray, List.getElem_cons_zero, List.getElem_cons_succ]
              refine wpAnyH_ready (rs := [0]) (by kernel_rfl) (by simp) (AllReadyH.cons (o := _) rfl (fun K hK => ?_) AllReadyH.nil)
              try simp only [List.getElem_toArray, List.getElem_cons_zero, List.getElem_cons_succ]
              go_simp
              have hbz0 := (Below.refl u16.heap.size u16).alloc (Nat.le_refl _) (.cells #[] 29)
              have hoz0 := OwnK.empty' u16 W2.heap.size 29 encI hHeld.size
              have hgs0 : (u16.alloc (.cells #[] 29)).heap.size = u16.heap.size + 1 := World.size_alloc _ _
              refine hK.out _ _ (hHeld.trans (hbz0.mono hHeld.size)) (fun hHeld => ?_)
              clear hK K
              generalize (u16.alloc (.cells #[] 29)) = u20 at *
              obtain ⟨g0, hg0⟩ : ∃ g, u16.heap.size = g := ⟨_, rfl⟩
              rw [hg0] at hoz0 hgs0 ⊢
              have HOWN := Lib.hid hoz0
              have HGS0 := Lib.hid hgs0
              have HG0 := Lib.hid hg0
              clear hgs0 hg0
              have hne : g0 ≠ g6 := by
                have e1 := HG0.out
                have e2 := HGS6.out
                omega
              have HONE := Lib.hid (HONE.out.below hbz0)
              have HL6 := Lib.hid (Nat.lt_of_lt_of_le HL6.out hbz0.size)
              clear hbz0 hoz0
              try simp only [Act.put, List.setIfInBounds_toArray, List.set_cons_zero, List.set_cons_succ, List.getElem_toArray, List.getElem_cons_zero, List.getElem_cons_succ]
              refine wpAnyH_ready (rs := [4]) (by kernel_rfl) (by simp) (AllReadyH.cons (o := _) rfl (fun K hK => ?_) AllReadyH.nil)
              refine step_append_ka rfl (.tmp 35) (.tmp 38) 23 rfl W2.heap.size 29 encI _ 48 Try.underlying23 info_item rfl (by decide) (.slice (some ⟨g0, 0, none⟩) 0 0) [] rfl HOWN.out _ (l.take i) rfl (HH.out.below hHeld) (by have z := HLL.out; show 0 + (l.take i).length ≤ 1000000000; rw [List.length_take]; omega) hHeld.size W2 hHeld (fun v4 u34 ho4 hb4 hg4 => ?_)
              rw [List.nil_append] at ho4
              refine hK.out _ _ hb4 (fun hHeld => ?_)
              clear hK K
              have HO4 := Lib.hid ho4
              have HONE := Lib.hid (HONE.out.same hg4.size (fun b h0 hb => by
                have e' : g6 = b := Option.some.inj hb
                subst e'
                exact hg4.block g6 HL6.out (fun e => hne (Option.some.inj e).symm)))
              clear ho4 hb4 hg4
              try simp only [Act.put, List.setIfInBounds_toArray, List.set_cons_zero, List.set_cons_succ, List.getElem_toArray, List.getElem_cons_zero, List.getElem_cons_succ]
              refine wpAnyH_ready (rs := [7]) (by kernel_rfl) (by simp) (AllReadyH.cons (o := _) rfl (fun K hK => ?_) AllReadyH.nil)
              refine step_append_k rfl (.tmp 39) (.tmp 41) 23 rfl W2.heap.size 29 encI _ 48 Try.underlying23 info_item rfl (by decide) v4 (l.take i) rfl HO4.out _ [x] rfl HONE.out Nat.one_pos (by have z := HLL.out; show (l.take i).length + 1 ≤ 1000000000; rw [List.length_take]; omega) hHeld.size W2 hHeld (fun v7 u7 ho7 hb7 hg7 => ?_)
              refine hK.out _ _ hb7 (fun hHeld => ?_)
              clear hK K
              try simp only [Act.put, List.setIfInBounds_toArray, List.set_cons_zero, List.set_cons_succ, List.getElem_toArray, List.getElem_cons_zero, List.getElem_cons_succ]
              refine wpAnyH_ready (rs := [11]) (by kernel_rfl) (by simp) (AllReadyH.cons (o := _) rfl (fun K hK => ?_) AllReadyH.nil)
              refine step_append_ka rfl (.tmp 42) (.tmp 45) 23 rfl W2.heap.size 29 encI _ 48 Try.underlying23 info_item rfl (by decide) v7 (l.take i ++ [x]) rfl ho7 _ (l.drop i) rfl (HT.out.below hHeld) (by have z := HLL.out; rw [List.length_append, List.length_take, List.length_drop]; show _ + 1 + _ ≤ 1000000000; omega) hHeld.size W2 hHeld (fun v11 u11 ho11 hb11 hg11 => ?_)
              refine hK.out _ _ hb11 (fun hHeld => ?_)
              clear hK K
              try simp only [Act.put, List.setIfInBounds_toArray, List.set_cons_zero, List.set_cons_succ, List.getElem_toArray, List.getElem_cons_zero, List.getElem_cons_succ]
              refine wpAnyH_take (i := 12) (oi := _) (v := ?_) rfl (by kernel_rfl) (by kernel_rfl) (by kernel_rfl) (fun _ _ _ h => h) (Or.inl ⟨by kernel_rfl, ?hy45⟩) (by assumption) ?_
              case hy45 =>
                intro w9 hSw
                try dsimp only at hSw
                try simp only [List.getElem_toArray, List.getElem_cons_zero, List.getElem_cons_succ]
                go_simp
                try with_reducible rfl
              try simp only [Act.put, List.setIfInBounds_toArray, List.set_cons_zero, List.set_cons_succ, List.getElem_toArray, List.getElem_cons_zero, List.getElem_cons_succ]
              refine wpAnyH_take (i := 13) (oi := _) (v := ?_) rfl (by kernel_rfl) (by kernel_rfl) (by kernel_rfl) (fun _ _ _ h => h) (Or.inl ⟨by kernel_rfl, ?hy46⟩) (by assumption) ?_
              case hy46 =>
                intro w9 hSw
                try dsimp only at hSw
                try simp only [List.getElem_toArray, List.getElem_cons_zero, List.getElem_cons_succ]
                go_simp
                try with_reducible rfl
              try simp only [Act.put, List.setIfInBounds_toArray, List.set_cons_zero, List.set_cons_succ, List.getElem_toArray, List.getElem_cons_zero, List.getElem_cons_succ]
              refine wpAnyH_done (by kernel_rfl) ?_ _
              go_wp2
              exact bodyPost_ret (results_tmp2 rfl _ _ _) rfl ⟨⟨v11, true, rfl, by rw [HE.out]; exact ho11.has⟩, by rw [HGG.out]; exact HBG2.out.trans (hb11.mono HGB1.out)⟩
end Go.Proofs.Ytfdafoibclfpgaa
