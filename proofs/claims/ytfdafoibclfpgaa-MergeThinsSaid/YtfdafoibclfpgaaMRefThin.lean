/-
  The document's own answer: what is left of a list when it is thinned out.
-/
import Derived.Test.YtfdafoibclfpgaaMRefGet
namespace Go.Proofs.Ytfdafoibclfpgaa
open Go.ChangeShapes Go.WideShapes Go.ChangeAt Go.RowKit Go.Deep
set_option linter.unusedVariables false
set_option linter.unusedSimpArgs false
def ShownBy (l : List Itm) (ms : List Nat) (x : Itm) : Prop := ∃ m ∈ ms, shownAt l m x
/-- What the first pass leaves of the first i. -/
structure Passed (l : List Itm) (ms : List Nat) (i : Nat) (lo : List Itm) : Prop where
  sub : lo.Sublist (l.take i)
  mem : ∀ x ∈ l.take i, (x ∈ lo ↔ ShownBy l ms x)
theorem Passed.step {l : List Itm} {ms : List Nat} {i : Nat} {lo : List Itm} (h : Passed l ms i lo) (hl : SortedI l) (hi : i < l.length) {x : Itm} (hx : l[i] = x) {s : Bool} (hs : s = true ↔ ShownBy l ms x) : Passed l ms (i + 1) (if s then lo ++ [x] else lo) := by
  have ht : l.take (i + 1) = l.take i ++ [x] := by rw [List.take_succ_eq_append_getElem hi, hx]
  have hnx : x ∉ l.take i := fun hm => by
    obtain ⟨j, hj, e⟩ := List.getElem_of_mem hm
    rw [List.length_take] at hj
    rw [List.getElem_take] at e
    have := List.pairwise_iff_getElem.1 hl j i (by omega) hi (by omega)
    rw [e, hx, aheadI_irrefl] at this
    exact absurd this (by decide)
  cases s with
  | true =>
    refine ⟨by rw [ht]; exact h.sub.append (List.Sublist.refl _), fun y hy => ?_⟩
    rw [ht] at hy
    rw [if_pos rfl, List.mem_append, List.mem_singleton]
    rcases List.mem_append.1 hy with hy | hy
    · rw [h.mem y hy]
      exact ⟨fun h' => h'.elim id (fun e => absurd (e ▸ hy) hnx), .inl⟩
    · obtain rfl := List.mem_singleton.1 hy
      exact ⟨fun _ => hs.1 rfl, fun _ => .inr rfl⟩
  | false =>
    refine ⟨by rw [ht]; exact h.sub.trans (List.sublist_append_left _ _), fun y hy => ?_⟩
    rw [ht] at hy
    rw [if_neg (by decide)]
    rcases List.mem_append.1 hy with hy | hy
    · exact h.mem y hy
    · obtain rfl := List.mem_singleton.1 hy
      exact ⟨fun h' => absurd (h.sub.subset h') hnx, fun h' => absurd (hs.2 h') (by decide)⟩
theorem Passed.done {l lo : List Itm} {ms : List Nat} (h : Passed l ms l.length lo) (hl : SortedI l) (hq : seqOk l) (ha : alwaysN ∈ ms) : lo = thinL ms false l := by
  have hs := h.sub
  have hm := h.mem
  rw [List.take_length] at hs hm
  refine sorted_mem (List.Pairwise.sublist hs hl) (thinL_sorted ms false l hl) fun x => ?_
  rw [thinL_mem ms ha false l hl hq]
  constructor
  · intro hx
    exact ⟨⟨hs.subset hx, (hm x (hs.subset hx)).1 hx⟩, fun e => absurd e (by decide)⟩
  · rintro ⟨⟨h1, h2⟩, _⟩
    exact (hm x h1).2 h2
theorem shownBy_snoc {l : List Itm} {ms : List Nat} {m : Nat} {x : Itm} {s r : Bool} (hs : s = true ↔ ShownBy l ms x) (hr : r = true ↔ shownAt l m x) : (s || r) = true ↔ ShownBy l (ms ++ [m]) x := by
  rw [Bool.or_eq_true, hs, hr]
  constructor
  · rintro (⟨m', h1, h2⟩ | h)
    · exact ⟨m', List.mem_append_left _ h1, h2⟩
    · exact ⟨m, List.mem_append_right _ (List.mem_singleton.2 rfl), h⟩
  · rintro ⟨m', h1, h2⟩
    rcases List.mem_append.1 h1 with h1 | h1
    · exact .inl ⟨m', h1, h2⟩
    · obtain rfl := List.mem_singleton.1 h1
      exact .inr h2
set_option maxRecDepth 100000 in
set_option maxHeartbeats 64000000 in
theorem RefThin_any (v u : Value) (l : List Itm) (keep : List Nat) (bt : Bool) (w : World) (hv : HasK w encI v l) (hu : HasK w (encN .u64) u keep) (hl : l.length ≤ 1000000) (hkl : keep.length ≤ 60000) (hq : seqOk l) :
    Calls Try.prog 19 #[v, u, .bool bt] w fun e w' => ∃ v', e = .returned v' ∧ OwnK w' w.heap.size 29 encI v' (thinC keep bt l) ∧ Below w.heap.size w w' := by
  obtain ⟨p, cap, rfl, h1, h2⟩ := hv.form
  obtain ⟨p2, cap2, rfl, k1, k2⟩ := hu.form
  obtain ⟨n, hn⟩ : ∃ n, l.length = n := ⟨_, rfl⟩
  obtain ⟨r, hr⟩ : ∃ r, keep.length = r := ⟨_, rfl⟩
  have HN := Lib.hid hn
  have HR := Lib.hid hr
  have HV := Lib.hid hv
  have HU := Lib.hid hu
  have HL := Lib.hid hl
  have HQ := Lib.hid hq
  rw [hn] at hl h1 HV ⊢
  rw [hr] at k1 hkl HU ⊢
  obtain ⟨B, hB⟩ : ∃ B, w.heap.size = B := ⟨_, rfl⟩
  have HBB := Lib.hid hB
  rw [hB]
  have hcI : (cap : Int) ≤ 9223372036854775807 := by unfold maxLen at h2; omega
  have hcJ : (cap2 : Int) ≤ 9223372036854775807 := by unfold maxLen at k2; omega
  clear hv hu hn hr h2 k2 hB hq
  go_enter Try.func19, Try.ntmps19
  go_wp2_with (at_make; refine wpList_make_k rfl _ _ 23 rfl B 29 encI _ 48 Try.underlying23 info_item rfl (by decide) 0 0 rfl rfl rfl (by decide) (by rw [HBB.out]; exact Nat.le_refl _) w (by rw [← HBB.out]; exact Below.refl _ _) (fun v1 w1 ho1 hb1 => ?_); obtain ⟨p1, c1, rfl, -, -⟩ := ho1.sl; rw [show ([] : List Itm).length = 0 from rfl] at ho1 ⊢; have HO1 := Lib.hid ho1; have HB1 := Lib.hid hb1; have HV1 := Lib.hid (HV.out.below (hb1.mono (by rw [HBB.out]; exact Nat.le_refl _))); clear ho1 hb1)
  refine (RefSorted_any _ l w1 HV1.out HL.out).mono ?_
  have HS1 := Lib.hid (show B ≤ w1.heap.size by have := HB1.out.size; rw [HBB.out] at this; exact this)
  rcases hsb : sortedB l with _ | _
  · have HT := Lib.hid (show thinC keep bt l = [] by unfold thinC; rw [hsb]; rfl)
    rintro e w2 ⟨rfl, hb2⟩
    have HO2 := Lib.hid (HO1.out.below hb2)
    have HB2 := Lib.hid (HB1.out.trans (hb2.mono HS1.out))
    clear hb2
    go_wp2
    go_ret
    exact ⟨_, rfl, by rw [HT.out]; exact HO2.out, HB2.out⟩
  have HSO := Lib.hid ((sortedB_iff l).1 hsb)
  have HT := Lib.hid (show thinC keep bt l = endG bt (thinL (alwaysN :: keep) false l) by
    rw [thinC_sorted keep bt l hsb, thinL_is _ bt l ((sortedB_iff l).1 hsb), thinL_is _ false l ((sortedB_iff l).1 hsb)]; rfl)
  rintro e w2 ⟨rfl, hb2⟩
  have HO2 := Lib.hid (HO1.out.below hb2)
  have HB2 := Lib.hid (HB1.out.trans (hb2.mono HS1.out))
  clear hb2 hsb
  go_wp2_with fail
  go_loopw [7, 8] (fun vo vi wr => ∃ (i : Nat) (lo : List Itm), vi = .int .i64 (i : Int) ∧ i ≤ n ∧ OwnK wr B 29 encI vo lo ∧ Passed l (alwaysN :: keep) i lo ∧ Below B w wr) (fun _ vi _ => n - (intOf vi).toNat)
  case atStart => exact ⟨0, [], rfl, Nat.zero_le _, HO2.out, ⟨List.nil_sublist _, fun x hx => by simp at hx⟩, HB2.out⟩
  case round =>
    obtain ⟨i, lo, rfl, hi, ho, hpa, hb⟩ := hrel
    obtain ⟨W0, rfl⟩ : ∃ W0, W0 = wr := ⟨wr, rfl⟩
    have HO := Lib.hid ho
    have HPA := Lib.hid hpa
    have HB := Lib.hid hb
    have hww : Below w.heap.size w W0 := hb.mono (by rw [HBB.out]; exact Nat.le_refl _)
    have HV0 := Lib.hid (HV.out.below hww)
    have HU0 := Lib.hid (HU.out.below hww)
    have HS0 := Lib.hid (show B ≤ W0.heap.size by have := hb.size; rw [HBB.out] at this; exact this)
    clear ho hpa hb hww
    rcases Nat.lt_or_ge i n with hlt | hge
    · have hI : (i : Int) < (n : Int) := by omega
      have hi0 : (0 : Int) ≤ (i : Int) := by omega
      have hil : i < l.length := by rw [HN.out]; exact hlt
      obtain ⟨b, o, cap3, p3, hpe, -, -, HPP, HC⟩ := HV0.out.open
      simp only [Value.slice.injEq] at hpe
      obtain ⟨rfl, -, rfl⟩ := hpe
      obtain ⟨rfl, hbl⟩ := HPP.out (by rw [HN.out]; omega)
      have hxc := HasK.itAt HC.out i hil
      have hxm : l[i] ∈ l := List.getElem_mem hil
      obtain ⟨x, hx⟩ : ∃ x, l[i] = x := ⟨_, rfl⟩
      have HXE := Lib.hid (show ∀ h : i < l.length, l[i] = x from fun _ => hx)
      rw [hx] at hxc hxm
      have HX := Lib.hid hxc
      have HXM := Lib.hid hxm
      obtain ⟨c0, c1', c2, c3⟩ := hxc
      clear hx hxm HPP HC
      go_wp2_with fail
      have hsh := Shown_any (.slice (some ⟨b, o, none⟩) n cap) l x 18446744073709551615 W0 HV0.out HL.out HSO.out HXM.out
      unfold Itm.v at hsh
      refine hsh.mono ?_
      clear hsh c0 c1' c2 c3
      rintro e w3 ⟨⟨s0, rfl, hs0⟩, hb3⟩
      have HS00 := Lib.hid (show s0 = true ↔ ShownBy l [alwaysN] x from ⟨fun h => ⟨alwaysN, List.mem_singleton.2 rfl, hs0.1 h⟩, fun ⟨m, hm, h⟩ => by obtain rfl := List.mem_singleton.1 hm; exact hs0.2 h⟩)
      have HB3 := Lib.hid hb3
      clear hb3 hs0
      go_wp2_with fail
      go_loopw [9, 10] (fun vs vk wr => ∃ (k : Nat) (s : Bool), vk = .int .i64 (k : Int) ∧ k ≤ r ∧ vs = .bool s ∧ (s = true ↔ ShownBy l (alwaysN :: keep.take k) x) ∧ Below W0.heap.size W0 wr) (fun _ vk _ => r - (intOf vk).toNat)
      case atStart => exact ⟨0, s0, rfl, Nat.zero_le _, rfl, HS00.out, HB3.out⟩
      case round =>
        obtain ⟨k, s, rfl, hk, rfl, hs, hbk⟩ := hrel
        obtain ⟨W1, rfl⟩ : ∃ W1, W1 = wr := ⟨wr, rfl⟩
        have HSS := Lib.hid hs
        have HBK := Lib.hid hbk
        have HX1 := Lib.hid (HX.out.below hbk)
        have HV1' := Lib.hid (HV0.out.below hbk)
        have HU1 := Lib.hid (HU0.out.below hbk)
        clear hs hbk
        rcases Nat.lt_or_ge k r with hkr | hkr
        · have hkI : (k : Int) < (r : Int) := by omega
          have hk0 : (0 : Int) ≤ (k : Int) := by omega
          have hkl' : k < keep.length := by rw [HR.out]; exact hkr
          have htk : keep.take (k + 1) = keep.take k ++ [keep[k]] := List.take_succ_eq_append_getElem hkl'
          have hgd : keep.getD k 0 = keep[k] := by rw [List.getD_eq_getElem?_getD, List.getElem?_eq_getElem hkl']; rfl
          obtain ⟨bm, om, cap4, p4, hpe, -, -, HPM, HCM⟩ := HU1.out.open
          simp only [Value.slice.injEq] at hpe
          obtain ⟨rfl, -, rfl⟩ := hpe
          obtain ⟨rfl, hbm⟩ := HPM.out (by rw [HR.out]; omega)
          have hcm := HasK.numAt HCM.out k hkl'
          rw [hgd] at hcm
          obtain ⟨m, hm⟩ : ∃ m, keep[k] = m := ⟨_, rfl⟩
          rw [hm] at hcm htk
          have HCMM := Lib.hid hcm
          have HTK := Lib.hid htk
          clear hgd hm hcm htk hkl' HPM HCM
          cases s with
          | true =>
            have HQ2 := Lib.hid (show (true = true ↔ ShownBy l (alwaysN :: keep.take (k + 1)) x) by
              obtain ⟨m', h1, h2⟩ := HSS.out.1 rfl
              refine ⟨fun _ => ⟨m', ?_, h2⟩, fun _ => rfl⟩
              rw [HTK.out]
              rcases List.mem_cons.1 h1 with rfl | h1
              · exact List.mem_cons_self ..
              · exact List.mem_cons_of_mem _ (List.mem_append_left _ h1))
            go_upto_region 11 with fail
            refine wp_region_held_drew (S := fun W => True) (by kernel_rfl) trivial (fun hHeld => ?_)
            refine wpAnyH_take (i := 0) (oi := _) (v := ?_) rfl (by kernel_rfl) (by kernel_rfl) (by kernel_rfl) (fun _ _ _ h => h) (Or.inl ⟨by kernel_rfl, ?hy1⟩) (by assumption) ?_
            case hy1 =>
              intro w9 hSw
              try dsimp only at hSw
              try simp only [List.getElem_toArray, List.getElem_cons_zero, List.getElem_cons_succ]
              go_simp
              try with_reducible rfl
            try simp only [Act.put, List.setIfInBounds_toArray, List.set_cons_zero, List.set_cons_succ, List.getElem_toArray, List.getElem_cons_zero, List.getElem_cons_succ]
            refine wpAnyH_take (i := 1) (oi := _) (v := ?_) rfl (by kernel_rfl) (by kernel_rfl) (by kernel_rfl) (fun _ _ _ h => h) (Or.inl ⟨by kernel_rfl, ?hy2⟩) (by assumption) ?_
            case hy2 =>
              intro w9 hSw
              try dsimp only at hSw
              try simp only [List.getElem_toArray, List.getElem_cons_zero, List.getElem_cons_succ]
              go_simp
              try with_reducible rfl
            try simp only [Act.put, List.setIfInBounds_toArray, List.set_cons_zero, List.set_cons_succ, List.getElem_toArray, List.getElem_cons_zero, List.getElem_cons_succ]
            refine wpAnyH_take (i := 2) (oi := _) (v := undef) rfl (by kernel_rfl) (by kernel_rfl) (by kernel_rfl) (fun _ _ _ h => h) (Or.inr ⟨by rfl, rfl⟩) (by assumption) ?_
            try simp only [Act.put, List.setIfInBounds_toArray, List.set_cons_zero, List.set_cons_succ, List.getElem_toArray, List.getElem_cons_zero, List.getElem_cons_succ]
            refine wpAnyH_take (i := 3) (oi := _) (v := undef) rfl (by kernel_rfl) (by kernel_rfl) (by kernel_rfl) (fun _ _ _ h => h) (Or.inr ⟨by rfl, rfl⟩) (by assumption) ?_
            try simp only [Act.put, List.setIfInBounds_toArray, List.set_cons_zero, List.set_cons_succ, List.getElem_toArray, List.getElem_cons_zero, List.getElem_cons_succ]
            refine wpAnyH_take (i := 4) (oi := _) (v := undef) rfl (by kernel_rfl) (by kernel_rfl) (by kernel_rfl) (fun _ _ _ h => h) (Or.inr ⟨by rfl, rfl⟩) (by assumption) ?_
            try simp only [Act.put, List.setIfInBounds_toArray, List.set_cons_zero, List.set_cons_succ, List.getElem_toArray, List.getElem_cons_zero, List.getElem_cons_succ]
            refine wpAnyH_take (i := 5) (oi := _) (v := undef) rfl (by kernel_rfl) (by kernel_rfl) (by kernel_rfl) (fun _ _ _ h => h) (Or.inr ⟨by rfl, rfl⟩) (by assumption) ?_
            try simp only [Act.put, List.setIfInBounds_toArray, List.set_cons_zero, List.set_cons_succ, List.getElem_toArray, List.getElem_cons_zero, List.getElem_cons_succ]
            refine wpAnyH_take (i := 6) (oi := _) (v := undef) rfl (by kernel_rfl) (by kernel_rfl) (by kernel_rfl) (fun _ _ _ h => h) (Or.inr ⟨by rfl, rfl⟩) (by assumption) ?_
            try simp only [Act.put, List.setIfInBounds_toArray, List.set_cons_zero, List.set_cons_succ, List.getElem_toArray, List.getElem_cons_zero, List.getElem_cons_succ]
            refine wpAnyH_take (i := 7) (oi := _) (v := undef) rfl (by kernel_rfl) (by kernel_rfl) (by kernel_rfl) (fun _ _ _ h => h) (Or.inr ⟨by rfl, rfl⟩) (by assumption) ?_
            try simp only [Act.put, List.setIfInBounds_toArray, List.set_cons_zero, List.set_cons_succ, List.getElem_toArray, List.getElem_cons_zero, List.getElem_cons_succ]
            refine wpAnyH_take (i := 8) (oi := _) (v := undef) rfl (by kernel_rfl) (by kernel_rfl) (by kernel_rfl) (fun _ _ _ h => h) (Or.inr ⟨by rfl, rfl⟩) (by assumption) ?_
            try simp only [Act.put, List.setIfInBounds_toArray, List.set_cons_zero, List.set_cons_succ, List.getElem_toArray, List.getElem_cons_zero, List.getElem_cons_succ]
            refine wpAnyH_take (i := 9) (oi := _) (v := undef) rfl (by kernel_rfl) (by kernel_rfl) (by kernel_rfl) (fun _ _ _ h => h) (Or.inr ⟨by rfl, rfl⟩) (by assumption) ?_
            try simp only [Act.put, List.setIfInBounds_toArray, List.set_cons_zero, List.set_cons_succ, List.getElem_toArray, List.getElem_cons_zero, List.getElem_cons_succ]
            refine wpAnyH_take (i := 10) (oi := _) (v := undef) rfl (by kernel_rfl) (by kernel_rfl) (by kernel_rfl) (fun _ _ _ h => h) (Or.inr ⟨by rfl, rfl⟩) (by assumption) ?_
            try simp only [Act.put, List.setIfInBounds_toArray, List.set_cons_zero, List.set_cons_succ, List.getElem_toArray, List.getElem_cons_zero, List.getElem_cons_succ]
            refine wpAnyH_take (i := 11) (oi := _) (v := undef) rfl (by kernel_rfl) (by kernel_rfl) (by kernel_rfl) (fun _ _ _ h => h) (Or.inr ⟨by rfl, rfl⟩) (by assumption) ?_
            try simp only [Act.put, List.setIfInBounds_toArray, List.set_cons_zero, List.set_cons_succ, List.getElem_toArray, List.getElem_cons_zero, List.getElem_cons_succ]
            refine wpAnyH_take (i := 12) (oi := _) (v := ?_) rfl (by kernel_rfl) (by kernel_rfl) (by kernel_rfl) (fun _ _ _ h => h) (Or.inl ⟨by kernel_rfl, ?hy3⟩) (by assumption) ?_
            case hy3 =>
              intro w9 hSw
              try dsimp only at hSw
              try simp only [List.getElem_toArray, List.getElem_cons_zero, List.getElem_cons_succ]
              go_simp
              try with_reducible rfl
            try simp only [Act.put, List.setIfInBounds_toArray, List.set_cons_zero, List.set_cons_succ, List.getElem_toArray, List.getElem_cons_zero, List.getElem_cons_succ]
            refine wpAnyH_take (i := 13) (oi := _) (v := ?_) rfl (by kernel_rfl) (by kernel_rfl) (by kernel_rfl) (fun _ _ _ h => h) (Or.inl ⟨by kernel_rfl, ?hy4⟩) (by assumption) ?_
            case hy4 =>
              intro w9 hSw
              try dsimp only at hSw
              try simp only [List.getElem_toArray, List.getElem_cons_zero, List.getElem_cons_succ]
              go_simp
              try with_reducible rfl
            try simp only [Act.put, List.setIfInBounds_toArray, List.set_cons_zero, List.set_cons_succ, List.getElem_toArray, List.getElem_cons_zero, List.getElem_cons_succ]
            refine wpAnyH_done (by kernel_rfl) ?_ _
            go_wp2
            go_roundw
            case rel => exact ⟨k + 1, true, by go_num, by omega, rfl, HQ2.out, HBK.out.drew⟩
            case measure => simp [intOf] <;> omega
          | false =>
            go_upto_region 11 with fail
            refine AnyL.begin (S := fun W => ItC W b (o + i * 4) x ∧ W.cell? ⟨bm, om + k, none⟩ = some (.int .u64 (m : Int))) 13 (by kernel_rfl) ⟨HX1.out.drew, HCMM.out⟩ (fun hHeld => ?_)
            refine AnyL.take (i := 0) (oi := _) (v := ?_) 30 rfl (by kernel_rfl) (by kernel_rfl) (by kernel_rfl) (by kernel_rfl) (by kernel_rfl) (fun _ _ _ h => h) (Or.inl ⟨by kernel_rfl, ?hy5⟩) (by assumption) ?_
            case hy5 =>
              intro w9 hSw
              try dsimp only at hSw
              try simp only [List.getElem_toArray, List.getElem_cons_zero, List.getElem_cons_succ]
              go_simp
              try with_reducible rfl
            try simp only [Act.put, List.setIfInBounds_toArray, List.set_cons_zero, List.set_cons_succ, List.getElem_toArray, List.getElem_cons_zero, List.getElem_cons_succ]
            refine AnyL.take (i := 1) (oi := _) (v := ?_) 30 rfl (by kernel_rfl) (by kernel_rfl) (by kernel_rfl) (by kernel_rfl) (by kernel_rfl) (fun _ _ _ h => h) (Or.inl ⟨by kernel_rfl, ?hy6⟩) (by assumption) ?_
            case hy6 =>
              intro w9 hSw
              try dsimp only at hSw
              try simp only [List.getElem_toArray, List.getElem_cons_zero, List.getElem_cons_succ]
              go_simp
              try with_reducible rfl
            try simp only [Act.put, List.setIfInBounds_toArray, List.set_cons_zero, List.set_cons_succ, List.getElem_toArray, List.getElem_cons_zero, List.getElem_cons_succ]
            refine AnyL.take (i := 2) (oi := _) (v := ?_) 30 rfl (by kernel_rfl) (by kernel_rfl) (by kernel_rfl) (by kernel_rfl) (by kernel_rfl) (fun _ _ _ h => h) (Or.inl ⟨by kernel_rfl, ?hy7⟩) (by assumption) ?_
            case hy7 =>
              intro w9 hSw
              try dsimp only at hSw
              try simp only [List.getElem_toArray, List.getElem_cons_zero, List.getElem_cons_succ]
              go_simp
              try with_reducible rfl
            try simp only [Act.put, List.setIfInBounds_toArray, List.set_cons_zero, List.set_cons_succ, List.getElem_toArray, List.getElem_cons_zero, List.getElem_cons_succ]
            refine AnyL.take (i := 3) (oi := _) (v := ?_) 30 rfl (by kernel_rfl) (by kernel_rfl) (by kernel_rfl) (by kernel_rfl) (by kernel_rfl) (fun _ _ _ h => h) (Or.inl ⟨by kernel_rfl, ?hy8⟩) (by assumption) ?_
            case hy8 =>
              intro w9 hSw
              try dsimp only at hSw
              try simp only [List.getElem_toArray, List.getElem_cons_zero, List.getElem_cons_succ]
              go_simp
              try with_reducible rfl
            try simp only [Act.put, List.setIfInBounds_toArray, List.set_cons_zero, List.set_cons_succ, List.getElem_toArray, List.getElem_cons_zero, List.getElem_cons_succ]
            refine AnyL.take (i := 4) (oi := _) (v := ?_) 30 rfl (by kernel_rfl) (by kernel_rfl) (by kernel_rfl) (by kernel_rfl) (by kernel_rfl) (fun _ _ _ h => h) (Or.inl ⟨by kernel_rfl, ?hy9⟩) (by assumption) ?_
            case hy9 =>
              intro w9 hSw
              try dsimp only at hSw
              try simp only [List.getElem_toArray, List.getElem_cons_zero, List.getElem_cons_succ]
              go_simp
              try with_reducible rfl
            try simp only [Act.put, List.setIfInBounds_toArray, List.set_cons_zero, List.set_cons_succ, List.getElem_toArray, List.getElem_cons_zero, List.getElem_cons_succ]
            refine AnyL.take (i := 5) (oi := _) (v := ?_) 30 rfl (by kernel_rfl) (by kernel_rfl) (by kernel_rfl) (by kernel_rfl) (by kernel_rfl) (fun _ _ _ h => h) (Or.inl ⟨by kernel_rfl, ?hy10⟩) (by assumption) ?_
            case hy10 =>
              intro w9 hSw
              try dsimp only at hSw
              try simp only [List.getElem_toArray, List.getElem_cons_zero, List.getElem_cons_succ]
              go_simp
              try with_reducible rfl
            try simp only [Act.put, List.setIfInBounds_toArray, List.set_cons_zero, List.set_cons_succ, List.getElem_toArray, List.getElem_cons_zero, List.getElem_cons_succ]
            refine AnyL.take (i := 6) (oi := _) (v := x.v) 30 rfl (by kernel_rfl) (by kernel_rfl) (by kernel_rfl) (by kernel_rfl) (by kernel_rfl) (fun _ _ _ h => h) (Or.inl ⟨by kernel_rfl, ?hy11⟩) (by assumption) ?_
            case hy11 =>
              intro w9 hSw
              try dsimp only at hSw
              try simp only [List.getElem_toArray, List.getElem_cons_zero, List.getElem_cons_succ]
              go_simp
              obtain ⟨⟨a0, a1, a2, a3⟩, -⟩ := hSw
              try go_simp
              try rfl
            try simp only [Act.put, List.setIfInBounds_toArray, List.set_cons_zero, List.set_cons_succ, List.getElem_toArray, List.getElem_cons_zero, List.getElem_cons_succ]
            refine AnyL.take (i := 7) (oi := _) (v := ?_) 30 rfl (by kernel_rfl) (by kernel_rfl) (by kernel_rfl) (by kernel_rfl) (by kernel_rfl) (fun _ _ _ h => h) (Or.inl ⟨by kernel_rfl, ?hy12⟩) (by assumption) ?_
            case hy12 =>
              intro w9 hSw
              try dsimp only at hSw
              try simp only [List.getElem_toArray, List.getElem_cons_zero, List.getElem_cons_succ]
              go_simp
              try with_reducible rfl
            try simp only [Act.put, List.setIfInBounds_toArray, List.set_cons_zero, List.set_cons_succ, List.getElem_toArray, List.getElem_cons_zero, List.getElem_cons_succ]
            refine AnyL.take (i := 8) (oi := _) (v := ?_) 30 rfl (by kernel_rfl) (by kernel_rfl) (by kernel_rfl) (by kernel_rfl) (by kernel_rfl) (fun _ _ _ h => h) (Or.inl ⟨by kernel_rfl, ?hy13⟩) (by assumption) ?_
            case hy13 =>
              intro w9 hSw
              try dsimp only at hSw
              try simp only [List.getElem_toArray, List.getElem_cons_zero, List.getElem_cons_succ]
              go_simp
              try with_reducible rfl
            try simp only [Act.put, List.setIfInBounds_toArray, List.set_cons_zero, List.set_cons_succ, List.getElem_toArray, List.getElem_cons_zero, List.getElem_cons_succ]
            refine AnyL.take (i := 9) (oi := _) (v := ?_) 30 rfl (by kernel_rfl) (by kernel_rfl) (by kernel_rfl) (by kernel_rfl) (by kernel_rfl) (fun _ _ _ h => h) (Or.inl ⟨by kernel_rfl, ?hy14⟩) (by assumption) ?_
            case hy14 =>
              intro w9 hSw
              try dsimp only at hSw
              try simp only [List.getElem_toArray, List.getElem_cons_zero, List.getElem_cons_succ]
              go_simp
              try with_reducible rfl
            try simp only [Act.put, List.setIfInBounds_toArray, List.set_cons_zero, List.set_cons_succ, List.getElem_toArray, List.getElem_cons_zero, List.getElem_cons_succ]
            refine AnyL.take (i := 10) (oi := _) (v := .int .u64 (m : Int)) 30 rfl (by kernel_rfl) (by kernel_rfl) (by kernel_rfl) (by kernel_rfl) (by kernel_rfl) (fun _ _ _ h => h) (Or.inl ⟨by kernel_rfl, ?hy15⟩) (by assumption) ?_
            case hy15 =>
              intro w9 hSw
              try dsimp only at hSw
              try simp only [List.getElem_toArray, List.getElem_cons_zero, List.getElem_cons_succ]
              go_simp
              try obtain ⟨-, a0⟩ := hSw
              try go_simp
              try rfl
            try simp only [Act.put, List.setIfInBounds_toArray, List.set_cons_zero, List.set_cons_succ, List.getElem_toArray, List.getElem_cons_zero, List.getElem_cons_succ]
            refine AnyL.one (i := 11) (o := _) (by kernel_rfl) rfl (fun K hK => ?_)
            try simp only [List.getElem_toArray, List.getElem_cons_zero, List.getElem_cons_succ]
            go_simp
            refine (Shown_any _ l x m _ (HV1'.out.below ((Below.refl _ _).drew)) HL.out HSO.out HXM.out).mono ?_
            rintro e w9 ⟨⟨s1, rfl, hs1⟩, hb9⟩
            have HSN := Lib.hid (shownBy_snoc HSS.out hs1)
            have HB9 := Lib.hid (HBK.out.trans ((((Below.refl W1.heap.size W1).drew).trans hb9).mono HBK.out.size))
            clear hs1
            refine hK.out _ _ (fun _ => ⟨hHeld.1.below hb9, (hb9.cell (cell_lt hHeld.2)).trans hHeld.2⟩) (fun hHeld => ?_)
            replace hHeld := hHeld (by decide)
            clear hK K
            try simp only [Act.put, List.setIfInBounds_toArray, List.set_cons_zero, List.set_cons_succ, List.getElem_toArray, List.getElem_cons_zero, List.getElem_cons_succ]
            refine AnyL.take (i := 12) (oi := _) (v := ?_) 30 rfl (by kernel_rfl) (by kernel_rfl) (by kernel_rfl) (by kernel_rfl) (by kernel_rfl) (fun _ _ _ h => h) (Or.inl ⟨by kernel_rfl, ?hy16⟩) (by assumption) ?_
            case hy16 =>
              intro w9 hSw
              try dsimp only at hSw
              try simp only [List.getElem_toArray, List.getElem_cons_zero, List.getElem_cons_succ]
              go_simp
              try with_reducible rfl
            try simp only [Act.put, List.setIfInBounds_toArray, List.set_cons_zero, List.set_cons_succ, List.getElem_toArray, List.getElem_cons_zero, List.getElem_cons_succ]
            refine AnyL.one (i := 13) (o := _) (by kernel_rfl) rfl (fun K hK => ?_)
            try simp only [List.getElem_toArray, List.getElem_cons_zero, List.getElem_cons_succ]
            go_simp
            refine hK.out _ _ (fun h => absurd rfl h) (fun _ => ?_)
            clear hK K
            try simp only [Act.put, List.setIfInBounds_toArray, List.set_cons_zero, List.set_cons_succ, List.getElem_toArray, List.getElem_cons_zero, List.getElem_cons_succ]
            refine AnyL.done (by kernel_rfl) ?_ _
            have HQ2 := Lib.hid (show (s1 = true ↔ ShownBy l (alwaysN :: keep.take (k + 1)) x) by
              rw [HTK.out, ← List.cons_append]
              exact HSN.out)
            go_wp2
            go_roundw
            case rel => exact ⟨k + 1, s1, by go_num, by omega, by first | rfl | simp, HQ2.out, HB9.out⟩
            case measure => simp [intOf] <;> omega
        · have hkI : ¬ (k : Int) < (r : Int) := by omega
          have HSF := Lib.hid (show s = true ↔ ShownBy l (alwaysN :: keep) x by have z := HSS.out; rw [List.take_of_length_le (by rw [HR.out]; exact hkr)] at z; exact z)
          have HPN := Lib.hid (HPA.out.step HSO.out hil (HXE.out hil) HSF.out)
          obtain ⟨e0, e1, e2, e3⟩ := HX1.out
          have HO1' := Lib.hid (HO.out.below HBK.out)
          have HB1' := Lib.hid (HB.out.trans (HBK.out.mono HS0.out))
          have HSS1 := Lib.hid (Nat.le_trans HS0.out HBK.out.size)
          have hlo := HPA.out.sub.length_le
          rw [List.length_take, HN.out] at hlo
          cases s with
          | false =>
            go_wp2
            go_roundw
            case rel => exact ⟨i + 1, lo, by go_num, by omega, HO1'.out, HPN.out, HB1'.out⟩
            case measure => simp [intOf] <;> omega
          | true =>
            have hbb := (Below.refl W1.heap.size W1).alloc (Nat.le_refl _) (.cells #[.string x.key, .int .u64 (x.seq : Int), .bool x.gone, .string x.val] 29)
            have HYY := Lib.hid (one_item x (heap_alloc_new W1 (.cells #[.string x.key, .int .u64 (x.seq : Int), .bool x.gone, .string x.val] 29)))
            have HOX := Lib.hid (HO1'.out.below hbb)
            have HBX := Lib.hid (HB1'.out.trans (hbb.mono HSS1.out))
            have HSX := Lib.hid (Nat.le_trans HSS1.out hbb.size)
            clear hbb
            go_wp2_with (at_builtin; refine wpList_append_k rfl (.tmp 49) (.tmp 54) 23 rfl B 29 encI _ 48 Try.underlying23 info_item rfl (by decide) _ lo rfl HOX.out _ [x] rfl HYY.out Nat.one_pos (by simp only [List.length_cons, List.length_nil]; omega) HSX.out w HBX.out (fun v7 w7 ho7 hb7 _ _ => ?_); have HO7 := Lib.hid ho7; have HB7 := Lib.hid hb7; clear ho7 hb7)
            go_roundw
            case rel => exact ⟨i + 1, lo ++ [x], by go_num, by omega, HO7.out, HPN.out, HB7.out⟩
            case measure => simp [intOf] <;> omega
    · have hI : ¬ (i : Int) < (n : Int) := by omega
      obtain rfl : i = l.length := by rw [HN.out]; omega
      have hdn := HPA.out.done HSO.out HQ.out (List.mem_cons_self ..)
      have HTT := Lib.hid (show thinC keep bt l = endG bt lo by rw [HT.out, hdn])
      have hlo := HPA.out.sub.length_le
      rw [List.length_take, HN.out] at hlo
      obtain ⟨pl, cl, rfl, hcl1, hcl2⟩ := HO.out.sl
      obtain ⟨nl, hnl⟩ : ∃ m, lo.length = m := ⟨_, rfl⟩
      have HNL := Lib.hid hnl
      rw [hnl] at HO hlo hcl1 ⊢
      have hclI : (cl : Int) ≤ 9223372036854775807 := by unfold maxLen at hcl2; omega
      clear hdn hnl hcl2
      have HBW := Lib.hid HB.out
      go_wp2_with fail
      go_loopw [7, 11] (fun vo vi wr => ∃ (z : Int) (j : Nat), vi = .int .i64 z ∧ z + 1 = (j : Int) ∧ j ≤ nl ∧ (bt = false → j = nl) ∧ OwnK wr B 29 encI vo (lo.take j ++ cutG (lo.drop j)) ∧ Below B w wr) (fun _ vi _ => (intOf vi + 1).toNat)
      case atStart => exact ⟨(nl : Int) - 1, nl, by first | rfl | go_num, by omega, Nat.le_refl _, fun _ => rfl, by rw [List.take_of_length_le (by rw [HNL.out]; exact Nat.le_refl _), List.drop_eq_nil_of_le (by rw [HNL.out]; exact Nat.le_refl _)]; simp only [cutG, List.append_nil]; exact HO.out, HBW.out⟩
      case round =>
        obtain ⟨z, j, rfl, hzj, hj, hbt, ho, hb⟩ := hrel
        obtain ⟨W1, rfl⟩ : ∃ W1, W1 = wr := ⟨wr, rfl⟩
        have HO1 := Lib.hid ho
        have HB1 := Lib.hid hb
        have HS1 := Lib.hid (show B ≤ W1.heap.size by have := hb.size; rw [HBB.out] at this; exact this)
        clear ho hb
        cases bt with
        | false =>
          obtain rfl := hbt rfl
          have HE := Lib.hid (show lo.take j ++ cutG (lo.drop j) = thinC keep false l by
            rw [HTT.out, List.take_of_length_le (by rw [HNL.out]; exact Nat.le_refl _), List.drop_eq_nil_of_le (by rw [HNL.out]; exact Nat.le_refl _)]; simp [cutG, endG])
          go_wp2
          go_ret
          exact ⟨_, rfl, by rw [← HE.out]; exact HO1.out, HB1.out⟩
        | true =>
          cases j with
          | zero =>
            have hz0 : ¬ (0 : Int) ≤ z := by omega
            have hz0b : decide ((0 : Int) ≤ z) = false := decide_eq_false hz0
            have HE := Lib.hid (show lo.take 0 ++ cutG (lo.drop 0) = thinC keep true l by rw [HTT.out]; rfl)
            go_wp2
            go_ret
            exact ⟨_, rfl, by rw [← HE.out]; exact HO1.out, HB1.out⟩
          | succ j =>
            obtain rfl : z = (j : Int) := by omega
            clear hzj hbt
            have hz0 : (0 : Int) ≤ (j : Int) := by omega
            have hjl : j < lo.length := by rw [HNL.out]; omega
            have hdj : lo.drop j = lo[j] :: lo.drop (j + 1) := List.drop_eq_getElem_cons hjl
            have htj : lo.take (j + 1) = lo.take j ++ [lo[j]] := List.take_succ_eq_append_getElem hjl
            have hltk : (lo.take j).length = j := by rw [List.length_take]; omega
            obtain ⟨R, hR⟩ : ∃ R, cutG (lo.drop (j + 1)) = R := ⟨_, rfl⟩
            have hRl : R.length ≤ 1000000 := by rw [← hR]; have := (cutG_sub (lo.drop (j + 1))).length_le; rw [List.length_drop, HNL.out] at this; omega
            obtain ⟨x, hx⟩ : ∃ x, lo[j] = x := ⟨_, rfl⟩
            rw [hx] at hdj htj
            have hcg : cutG (lo.drop j) = if x.gone && headDiff x.key R then R else x :: R := by rw [hdj, cutG_cons, hR]
            have hO := HO1.out
            rw [htj, hR, List.append_assoc] at hO
            obtain ⟨T, hT⟩ : ∃ T, lo.take j = T := ⟨_, rfl⟩
            rw [hT] at hO hltk
            have HCG := Lib.hid hcg
            have HTJ := Lib.hid hT
            have hlen : (T ++ ([x] ++ R)).length = j + 1 + R.length := by simp [hltk]; omega
            obtain ⟨po, co, rfl, hco1, hco2⟩ := hO.sl
            have hxx : (T ++ ([x] ++ R))[j]'(by omega) = x := by rw [List.getElem_append_right (by omega)]; simp [hltk]
            have HO2 := Lib.hid hO
            obtain ⟨nL, hnL⟩ : ∃ m, (T ++ ([x] ++ R)).length = m := ⟨_, rfl⟩
            have HNLL := Lib.hid hnL
            have hnLj : nL = j + 1 + R.length := by rw [← hnL]; exact hlen
            have hcoI : (co : Int) ≤ 9223372036854775807 := by unfold maxLen at hco2; omega
            obtain ⟨b, o, cap5, p5, hpe, -, -, HPP, HC⟩ := hO.has.open
            rw [hnL] at HO2 hpe hco1 ⊢
            simp only [Value.slice.injEq] at hpe
            obtain ⟨rfl, -, rfl⟩ := hpe
            obtain ⟨rfl, hbl⟩ := HPP.out (by omega)
            have hxc := HasK.itAt HC.out j (by omega)
            rw [hxx] at hxc
            have hjn : (j : Int) < (nL : Int) := by omega
            obtain ⟨rm, hrm⟩ : ∃ r, (x.gone && headDiff x.key R) = r := ⟨_, rfl⟩
            have HRM := Lib.hid hrm
            obtain ⟨c0, c1, c2, c3⟩ := hxc
            have hw1 : IntKind.i64.wrap ((j : Int) + 1) = (j : Int) + 1 := by rw [IntKind.wrap_i64]; omega
            have hw2 : IntKind.i64.wrap ((nL : Int) - 1) = (nL : Int) - 1 := by rw [IntKind.wrap_i64]; omega
            have HRR := Lib.hid hR
            have HRL := Lib.hid hRl
            have HLT := Lib.hid hltk
            have HNLJ := Lib.hid hnLj
            clear hcg hT hlen hxx hO hnL hdj htj hx hjl hltk hR hnLj
            go_upto_region 17 with fail
            go_cut [91] (fun b wz => b = .bool rm ∧ ∃ kq, wz = W1.drewN kq)
            case first =>
              rcases hg : x.gone with _ | _
              · have hrt : rm = false := by rw [← hrm, hg]; rfl
                rw [hg] at c2
                subst hrt
                clear HPP HC hrm
                go_quiet (fail)
                go_wp2
                go_meet
                exact ⟨rfl, _, rfl⟩
              · rw [hg] at c2
                rcases R with _ | ⟨y, R⟩
                · have hrt : rm = true := by rw [← hrm, hg]; rfl
                  have he : (nL : Int) - 1 = (j : Int) := by rw [HNLJ.out]; simp only [List.length_nil]; omega
                  subst hrt
                  clear HPP HC hrm
                  go_quiet (fail)
                  go_wp2
                  go_meet
                  exact ⟨rfl, _, rfl⟩
                · have hyl : j + 1 < (T ++ ([x] ++ y :: R)).length := by rw [HNLL.out, HNLJ.out]; simp only [List.length_cons]; omega
                  have hyy : (T ++ ([x] ++ y :: R))[j + 1] = y := by rw [List.getElem_append_right (by rw [HLT.out]; omega)]; simp [HLT.out]
                  obtain ⟨y0, -, -, -⟩ := HasK.itAt HC.out (j + 1) hyl
                  rw [hyy] at y0
                  have he : ¬ (j : Int) = (nL : Int) - 1 := by rw [HNLJ.out]; simp only [List.length_cons]; omega
                  have heb : ((j : Int) == (nL : Int) - 1) = false := by simp only [beq_eq_false_iff_ne, ne_eq]; exact he
                  obtain ⟨J, hJ⟩ : ∃ J, j + 1 = J := ⟨_, rfl⟩
                  have hJI : (j : Int) + 1 = (J : Int) := by omega
                  have hwJ : IntKind.i64.wrap ((j : Int) + 1) = (J : Int) := by rw [IntKind.wrap_i64]; omega
                  have hj1n : (J : Int) < (nL : Int) := by have := HNLJ.out; simp only [List.length_cons] at this; omega
                  have hj10 : (0 : Int) ≤ (J : Int) := by omega
                  rw [hJ] at y0
                  have HHD := Lib.hid (show headDiff x.key (y :: R) = !(y.key.toList == x.key.toList) from rfl)
                  clear hw1 hJ hJI
                  rcases hq1 : (y.key.toList == x.key.toList) with _ | _
                  · have hrt : rm = true := by rw [← hrm, hg, HHD.out, hq1]; rfl
                    subst hrt
                    clear HPP HC hrm hyl hyy
                    go_quiet (fail)
                    go_wp2
                    go_meet
                    exact ⟨rfl, _, rfl⟩
                  · have hrt : rm = false := by rw [← hrm, hg, HHD.out, hq1]; rfl
                    subst hrt
                    clear HPP HC hrm hyl hyy
                    go_quiet (fail)
                    go_wp2
                    go_meet
                    exact ⟨rfl, _, rfl⟩
            case rest =>
              obtain ⟨rfl, kq, rfl⟩ := hcut
              have hd1 : Below W1.heap.size W1 (W1.drewN kq) := (Below.refl W1.heap.size W1).trans ⟨rfl, rfl, rfl, Nat.le_refl _, fun _ _ => rfl⟩
              have HO3 := Lib.hid (HO2.out.below hd1)
              have HB3 := Lib.hid (HB1.out.trans (hd1.mono HS1.out))
              obtain ⟨W2, hW2⟩ : ∃ W2, W1.drewN kq = W2 := ⟨_, rfl⟩
              rw [hW2] at HO3 HB3 ⊢
              have HS3 := Lib.hid (show B ≤ W2.heap.size by have := HB3.out.size; rw [HBB.out] at this; exact this)
              clear hW2 hd1 c0 c1 c2 c3
              cases rm with
              | false =>
                have HE := Lib.hid (show T ++ ([x] ++ R) = lo.take j ++ cutG (lo.drop j) by rw [HCG.out, HRM.out, HTJ.out]; rfl)
                clear HPP HC hrm
                go_wp2
                go_roundw
                case rel => exact ⟨(j : Int) - 1, j, by go_num, by omega, by omega, fun h => absurd h (by decide), by rw [← HE.out]; exact HO3.out, HB3.out⟩
                case measure => simp [intOf] <;> omega
              | true =>
                have HE := Lib.hid (show T ++ R = lo.take j ++ cutG (lo.drop j) by rw [HCG.out, HRM.out, HTJ.out]; rfl)
                obtain ⟨ph, ch, sh, hh⟩ := item_head HO3.out.has j (by have := HNLL.out; have := HNLJ.out; omega)
                obtain ⟨J, hJ⟩ : ∃ J, j + 1 = J := ⟨_, rfl⟩
                have hwJ : IntKind.i64.wrap ((j : Int) + 1) = (J : Int) := by rw [IntKind.wrap_i64]; omega
                obtain ⟨pt, ct, st, ht⟩ := item_tail HO3.out.has J (by have := HNLL.out; have := HNLJ.out; omega)
                rw [HNLL.out] at st ht
                have hh3 := hh _ HO3.out.has
                have ht3 := ht _ HO3.out.has
                have htt : (T ++ ([x] ++ R)).take j = T := by have z := HLT.out; subst z; exact List.take_left
                have htr : (T ++ ([x] ++ R)).drop J = R := by have z := HLT.out; subst z; subst hJ; rw [← List.append_assoc]; exact List.drop_left' (by simp)
                rw [htt] at hh3
                rw [htr] at ht3
                have HH3 := Lib.hid hh3
                have HT3 := Lib.hid ht3
                clear hh ht hh3 ht3 htt htr hJ hw1 HPP HC hrm
                go_upto_region 18 with fail
                refine AnyL.begin (S := fun W' => Below W2.heap.size W2 W') 10 (by kernel_rfl) (Below.refl _ _).drew (fun hHeld => ?_)
                refine AnyL.take (i := 1) (oi := _) (v := ?_) 30 rfl (by kernel_rfl) (by kernel_rfl) (by kernel_rfl) (by kernel_rfl) (by kernel_rfl) (fun _ _ _ h => h) (Or.inl ⟨by kernel_rfl, ?hy17⟩) (by assumption) ?_
                case hy17 =>
                  intro w9 hSw
                  try dsimp only at hSw
                  try simp only [List.getElem_toArray, List.getElem_cons_zero, List.getElem_cons_succ]
                  go_simp
                  try with_reducible rfl
                try simp only [Act.put, List.setIfInBounds_toArray, List.set_cons_zero, List.set_cons_succ, List.getElem_toArray, List.getElem_cons_zero, List.getElem_cons_succ]
                refine AnyL.take (i := 2) (oi := _) (v := ?_) 30 rfl (by kernel_rfl) (by kernel_rfl) (by kernel_rfl) (by kernel_rfl) (by kernel_rfl) (fun _ _ _ h => h) (Or.inl ⟨by kernel_rfl, ?hy18⟩) (by assumption) ?_
                case hy18 =>
                  intro w9 hSw
                  try dsimp only at hSw
                  try simp only [List.getElem_toArray, List.getElem_cons_zero, List.getElem_cons_succ]
                  go_simp
                  try with_reducible rfl
                try simp only [Act.put, List.setIfInBounds_toArray, List.set_cons_zero, List.set_cons_succ, List.getElem_toArray, List.getElem_cons_zero, List.getElem_cons_succ]
                refine AnyL.take (i := 3) (oi := _) (v := ?_) 30 rfl (by kernel_rfl) (by kernel_rfl) (by kernel_rfl) (by kernel_rfl) (by kernel_rfl) (fun _ _ _ h => h) (Or.inl ⟨by kernel_rfl, ?hy19⟩) (by assumption) ?_
                case hy19 =>
                  intro w9 hSw
                  try dsimp only at hSw
                  try simp only [List.getElem_toArray, List.getElem_cons_zero, List.getElem_cons_succ]
                  go_simp
                  try with_reducible rfl
                try simp only [Act.put, List.setIfInBounds_toArray, List.set_cons_zero, List.set_cons_succ, List.getElem_toArray, List.getElem_cons_zero, List.getElem_cons_succ]
                refine AnyL.take (i := 5) (oi := _) (v := ?_) 30 rfl (by kernel_rfl) (by kernel_rfl) (by kernel_rfl) (by kernel_rfl) (by kernel_rfl) (fun _ _ _ h => h) (Or.inl ⟨by kernel_rfl, ?hy20⟩) (by assumption) ?_
                case hy20 =>
                  intro w9 hSw
                  try dsimp only at hSw
                  try simp only [List.getElem_toArray, List.getElem_cons_zero, List.getElem_cons_succ]
                  go_simp
                  try with_reducible rfl
                try simp only [Act.put, List.setIfInBounds_toArray, List.set_cons_zero, List.set_cons_succ, List.getElem_toArray, List.getElem_cons_zero, List.getElem_cons_succ]
                refine AnyL.take (i := 6) (oi := _) (v := ?_) 30 rfl (by kernel_rfl) (by kernel_rfl) (by kernel_rfl) (by kernel_rfl) (by kernel_rfl) (fun _ _ _ h => h) (Or.inl ⟨by kernel_rfl, ?hy21⟩) (by assumption) ?_
                case hy21 =>
                  intro w9 hSw
                  try dsimp only at hSw
                  try simp only [List.getElem_toArray, List.getElem_cons_zero, List.getElem_cons_succ]
                  go_simp
                  try with_reducible rfl
                try simp only [Act.put, List.setIfInBounds_toArray, List.set_cons_zero, List.set_cons_succ, List.getElem_toArray, List.getElem_cons_zero, List.getElem_cons_succ]
                refine AnyL.take (i := 7) (oi := _) (v := ?_) 30 rfl (by kernel_rfl) (by kernel_rfl) (by kernel_rfl) (by kernel_rfl) (by kernel_rfl) (fun _ _ _ h => h) (Or.inl ⟨by kernel_rfl, ?hy22⟩) (by assumption) ?_
                case hy22 =>
                  intro w9 hSw
                  try dsimp only at hSw
                  try simp only [List.getElem_toArray, List.getElem_cons_zero, List.getElem_cons_succ]
                  go_simp
                  try with_reducible rfl
                try simp only [Act.put, List.setIfInBounds_toArray, List.set_cons_zero, List.set_cons_succ, List.getElem_toArray, List.getElem_cons_zero, List.getElem_cons_succ]
                refine AnyL.take (i := 8) (oi := _) (v := ?_) 30 rfl (by kernel_rfl) (by kernel_rfl) (by kernel_rfl) (by kernel_rfl) (by kernel_rfl) (fun _ _ _ h => h) (Or.inl ⟨by kernel_rfl, ?hy23⟩) (by assumption) ?_
                case hy23 =>
                  intro w9 hSw
                  try dsimp only at hSw
                  try simp only [List.getElem_toArray, List.getElem_cons_zero, List.getElem_cons_succ]
                  go_simp
                  try with_reducible rfl
                try simp only [Act.put, List.setIfInBounds_toArray, List.set_cons_zero, List.set_cons_succ, List.getElem_toArray, List.getElem_cons_zero, List.getElem_cons_succ]
                refine AnyL.one (i := 0) (o := _) (by kernel_rfl) rfl (fun K hK => ?_)
                try simp only [List.getElem_toArray, List.getElem_cons_zero, List.getElem_cons_succ]
                go_simp
                have HE5 := Lib.hid (OwnK.empty' (W2.drew) W2.heap.size 29 encI hHeld.size)
                refine hK.out _ _ (fun _ => (hHeld.alloc hHeld.size _)) (fun hHeld => ?_)
                replace hHeld := hHeld (by decide)
                clear hK K
                try simp only [Act.put, List.setIfInBounds_toArray, List.set_cons_zero, List.set_cons_succ, List.getElem_toArray, List.getElem_cons_zero, List.getElem_cons_succ]
                refine AnyL.one (i := 4) (o := _) (by kernel_rfl) rfl (fun K hK => ?_)
                refine step_append_ka rfl (.tmp 92) (.tmp 95) 23 rfl W2.heap.size 29 encI _ 48 Try.underlying23 info_item rfl (by decide) (.slice (some ⟨W2.drew.heap.size, 0, none⟩) 0 0) [] rfl HE5.out _ T rfl (HH3.out.below hHeld) (by have z := HLT.out; show 0 + T.length ≤ 1000000000; have z2 := HL.out; have z3 := hj; omega) hHeld.size W2 hHeld (fun v4 u4 ho4 hb4 hg4 => ?_)
                rw [List.nil_append] at ho4
                refine hK.out _ _ (fun _ => hb4) (fun hHeld => ?_)
                replace hHeld := hHeld (by decide)
                clear hK K
                try simp only [Act.put, List.setIfInBounds_toArray, List.set_cons_zero, List.set_cons_succ, List.getElem_toArray, List.getElem_cons_zero, List.getElem_cons_succ]
                refine AnyL.one (i := 9) (o := _) (by kernel_rfl) rfl (fun K hK => ?_)
                refine step_append_ka rfl (.tmp 96) (.tmp 100) 23 rfl W2.heap.size 29 encI _ 48 Try.underlying23 info_item rfl (by decide) v4 T rfl ho4 _ R rfl (HT3.out.below hHeld) (by have z := HLT.out; have z2 := HRL.out; have z3 := hj; omega) hHeld.size W2 hHeld (fun v9 u9 ho9 hb9 hg9 => ?_)
                refine hK.out _ _ (fun _ => hb9) (fun hHeld => ?_)
                replace hHeld := hHeld (by decide)
                clear hK K
                try simp only [Act.put, List.setIfInBounds_toArray, List.set_cons_zero, List.set_cons_succ, List.getElem_toArray, List.getElem_cons_zero, List.getElem_cons_succ]
                refine AnyL.one (i := 10) (o := _) (by kernel_rfl) rfl (fun K hK => ?_)
                try simp only [List.getElem_toArray, List.getElem_cons_zero, List.getElem_cons_succ]
                go_simp
                refine hK.out _ _ (fun h => absurd rfl h) (fun _ => ?_)
                clear hK K
                try simp only [Act.put, List.setIfInBounds_toArray, List.set_cons_zero, List.set_cons_succ, List.getElem_toArray, List.getElem_cons_zero, List.getElem_cons_succ]
                refine AnyL.done (by kernel_rfl) ?_ _
                have HO9 := Lib.hid (OwnK.mono (B' := B) ho9 HS3.out)
                have HB9 := Lib.hid (HB3.out.trans (hHeld.mono HS3.out))
                clear ho9 hb9 hg9 hg4 hHeld
                go_wp2
                go_roundw
                case rel => exact ⟨(j : Int) - 1, j, by go_num, by omega, by omega, fun h => absurd h (by decide), by rw [← HE.out]; exact HO9.out, HB9.out⟩
                case measure => simp [intOf] <;> omega
end Go.Proofs.Ytfdafoibclfpgaa
