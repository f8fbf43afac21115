/-
  Package bin's Reader: its calls Byte and Text.
-/
import Derived.Test.YtlmpokkpkglbfaaReader
namespace Go.Proofs.Ytlmpokkpkglbfaa
open Go.ChangeShapes Go.WideShapes Go.ChangeAt Go.RowKit Go.Deep
set_option linter.unusedVariables false

theorem Byte_rd (w : World) (B R : Nat) (l : List UInt8) (at_ : Nat) (f : Bool) (h : Rd w B R l at_ f) :
    Calls Try.prog 15 #[.pointer (some ⟨R, 0, none⟩)] w fun e w' => e = .returned (.int .u8 (rB l at_ f).1) ∧ Rd w' B R l (rB l at_ f).2.1 (rB l at_ f).2.2 ∧ Only R w w' := by
  obtain ⟨sv, hh, h1, h2, h3, h4⟩ := h
  obtain ⟨c0, c1, c2, z1, z2⟩ := Rd.cells hh
  have HH := Lib.hid hh
  have H3 := Lib.hid h3
  have H4 := Lib.hid h4
  have h3' := h3
  clear hh h3 h4
  cases f
  · by_cases hl : at_ < l.length
    · have HB := Lib.hid (show rB l at_ false = (l[at_].toNat, at_ + 1, false) from dif_pos ⟨rfl, hl⟩)
      rcases h3' with ⟨rfl, rfl⟩ | ⟨g, o, cap, rfl, k1, k2, k3, hc⟩
      · exact absurd hl (Nat.not_lt_zero _)
      · have hcell := hc at_ hl
        have hml : (l.length : Int) ≤ 9223372036854775807 := by unfold maxLen at k2; omega
        have hne : ((at_ : Int) == l.length) = false := by simp; omega
        have hgr := (H4.out g rfl).2
        generalize hcv : l[at_].toNat = cv at hcell HB
        clear hc hcv
        go_enter Try.func15, Try.ntmps15
        go_wp2
        go_quiet (fail)
        go_wp2
        go_quiet (fail)
        go_wp2
        go_ret
        exact ⟨by rw [HB.out]; try rfl, by rw [HB.out]; exact Rd.mk (Joins.block_setCell HH.out _) hl h2 H3.out H4.out (((Only.refl _ _).drewN _).set _ _), ((Only.refl _ _).drewN _).set _ _⟩
    · obtain rfl : at_ = l.length := by omega
      have HB := Lib.hid (show rB l l.length false = (0, l.length, true) from dif_neg (by simp))
      obtain ⟨p, cap, rfl, k1, k2⟩ := h3'.form
      clear h3'
      go_enter Try.func15, Try.ntmps15
      go_wp2
      go_quiet (fail)
      go_wp2
      go_ret
      exact ⟨by rw [HB.out]; try rfl, by rw [HB.out]; exact Rd.mk (Joins.block_setCell HH.out _) h1 h2 H3.out H4.out (((Only.refl _ _).drewN _).set _ _), ((Only.refl _ _).drewN _).set _ _⟩
  · have HB := Lib.hid (show rB l at_ true = (0, at_, true) from dif_neg (by simp))
    obtain ⟨p, cap, rfl, k1, k2⟩ := h3'.form
    clear h3'
    go_enter Try.func15, Try.ntmps15
    go_wp2
    go_quiet (fail)
    go_wp2
    go_ret
    exact ⟨by rw [HB.out]; try rfl, by rw [HB.out]; exact Rd.mk (Joins.block_setCell HH.out _) h1 h2 H3.out H4.out (((Only.refl _ _).drewN _).set _ _), ((Only.refl _ _).drewN _).set _ _⟩

theorem Int_at (w : World) (B R : Nat) (l : List UInt8) (at_ : Nat) (f : Bool) (most : Int) (m1 : -9223372036854775808 ≤ most) (m2 : most ≤ 9223372036854775807) (h : Rd w B R l at_ f) (v a1 : Nat) (f1 : Bool) (hI : rI l at_ f most = (v, a1, f1)) :
    Calls Try.prog 12 #[.pointer (some ⟨R, 0, none⟩), .int .i64 most] w fun e w' => e = .returned (.int .i64 v) ∧ Rd w' B R l a1 f1 ∧ Only R w w' := by
  have := Int_rd w B R l at_ f most m1 m2 h
  rw [hI] at this
  exact this

set_option maxRecDepth 100000 in
theorem Text_rd (w : World) (B R : Nat) (l : List UInt8) (at_ : Nat) (f : Bool) (most : Int) (m1 : -9223372036854775808 ≤ most) (m2 : most ≤ 9223372036854775807) (h : Rd w B R l at_ f) :
    Calls Try.prog 11 #[.pointer (some ⟨R, 0, none⟩), .int .i64 most] w fun e w' => e = .returned (.string ⟨(rT l at_ f most).1.toArray⟩) ∧ Rd w' B R l (rT l at_ f most).2.1 (rT l at_ f most).2.2 ∧ Only R w w' := by
  have hlen : ∃ sv, Has w sv l := by obtain ⟨sv, _, _, _, h3, _⟩ := h; exact ⟨sv, h3⟩
  have hml : (l.length : Int) ≤ 9223372036854775807 := by obtain ⟨_, h3⟩ := hlen; have := h3.len; unfold maxLen at this; omega
  have hal : at_ ≤ l.length := by obtain ⟨_, _, h1, _⟩ := h; exact h1
  have hle := rI_le l at_ f most hal
  have hT : ∀ v a1 f1, rI l at_ f most = (v, a1, f1) → ((f1 = true ∨ l.length < a1 + v) → rT l at_ f most = ([], a1, true)) ∧ (¬ (f1 = true ∨ l.length < a1 + v) → rT l at_ f most = ((l.drop a1).take v, a1 + v, false)) := by
    intro v a1 f1 h; unfold rT; rw [h]; exact ⟨fun h => if_pos h, fun h => if_neg h⟩
  have hvm : ((rI l at_ f most).1 : Int) ≤ 9223372036854775807 := by
    unfold rI; split
    · show ((0 : Nat) : Int) ≤ _; omega
    · show ((rU l at_ f).1 : Int) ≤ _; omega
  obtain ⟨v, a1, f1, hI⟩ : ∃ v a1 f1, rI l at_ f most = (v, a1, f1) := ⟨_, _, _, rfl⟩
  have HT := Lib.hid (hT v a1 f1 hI)
  rw [hI] at hle hvm
  have ha1 : a1 ≤ l.length := hle
  have hvm1 : (v : Int) ≤ 9223372036854775807 := hvm
  have HI := Lib.hid hI
  have H := Lib.hid h
  clear hT hI h hle hvm hlen hal
  cases f1
  · by_cases hv : l.length < a1 + v
    · have HN := Lib.hid (HT.out.1 (.inr hv))
      have hgt : (l.length : Int) - a1 < v := by omega
      go_enter Try.func11, Try.ntmps11
      go_wp2_with fail
      refine (Int_at w B R l at_ f most m1 m2 H.out v a1 _ HI.out).mono ?_
      rintro e w2 ⟨rfl, ⟨sv, hh, g1, g2, g3, g4⟩, ho⟩
      obtain ⟨c0, c1, c2, z1, z2⟩ := Rd.cells hh
      obtain ⟨p, cap, rfl, k1, k2⟩ := g3.form
      have HH := Lib.hid hh
      have G3 := Lib.hid g3
      have G4 := Lib.hid g4
      have HO := Lib.hid ho
      clear hh g3 g4 ho
      go_wp2
      go_quiet (fail)
      go_wp2
      go_ret
      exact ⟨by rw [HN.out]; try rfl, by rw [HN.out]; exact Rd.mk (Joins.block_setCell HH.out _) g1 g2 G3.out G4.out (((Only.refl _ _).drewN _).set _ _), (HO.out.drewN _).set _ _⟩
    · have HN := Lib.hid (HT.out.2 (by simp; omega))
      have hgt : (v : Int) ≤ (l.length : Int) - a1 := by omega
      go_enter Try.func11, Try.ntmps11
      go_wp2_with fail
      refine (Int_at w B R l at_ f most m1 m2 H.out v a1 _ HI.out).mono ?_
      rintro e w2 ⟨rfl, ⟨sv, hh, g1, g2, g3, g4⟩, ho⟩
      obtain ⟨c0, c1, c2, z1, z2⟩ := Rd.cells hh
      have HH := Lib.hid hh
      have G3 := Lib.hid g3
      have G4 := Lib.hid g4
      have HO := Lib.hid ho
      clear hh g3 g4 ho
      rcases G3.out with ⟨rfl, rfl⟩ | ⟨g, o, cap, rfl, k1, k2, k3, hc⟩
      · obtain rfl : a1 = 0 := by simpa using g1
        obtain rfl : v = 0 := by simp at hgt; omega
        have hkc : ∀ n, (convert 25 9 (.slice none 0 0)).run Try.prog (w2.drewN n) = .ok (.string ⟨#[]⟩) (w2.drewN n) := fun n =>
          run_convert_bytes_nil (P := Try.prog) (w2.drewN n) 25 5 Try.underlying25 Try.underlying5 0 0 9 Try.underlying9
        go_wp2
        go_quiet (fail)
        go_wp2
        go_quiet (fail)
        go_wp2
        go_ret
        exact ⟨by rw [HN.out]; try rfl, by rw [HN.out]; exact Rd.mk (Joins.block_setCell HH.out _) (by simp) g2 G3.out G4.out (((Only.refl _ _).drewN _).set _ _), (HO.out.drewN _).set _ _⟩
      · have HC := Lib.hid hc
        clear hc
        by_cases hv0 : v = 0
        · subst hv0
          by_cases hcap : cap = a1
          · obtain rfl : a1 = l.length := by omega
            subst hcap
            have hkc : ∀ n, (convert 25 9 (.slice (some ⟨g, o, none⟩) 0 0)).run Try.prog (w2.drewN n) = .ok (.string ⟨#[]⟩) (w2.drewN n) := fun n =>
              run_convert_bytes_back (P := Try.prog) (w2.drewN n) 25 9 5 ⟨g, o, none⟩ 0 [] Try.underlying25 Try.underlying5 Try.underlying9 (fun j hj => absurd hj (Nat.not_lt_zero _))
            go_wp2
            go_quiet (fail)
            go_wp2
            go_quiet (fail)
            go_wp2
            go_ret
            exact ⟨by rw [HN.out]; try rfl, by rw [HN.out]; exact Rd.mk (Joins.block_setCell HH.out _) (show l.length + 0 ≤ l.length by omega) g2 G3.out G4.out (((Only.refl _ _).drewN _).set _ _), (HO.out.drewN _).set _ _⟩

          · have hkc : ∀ n, (convert 25 9 (.slice (some ⟨g, o + a1, none⟩) 0 (cap - a1))).run Try.prog (w2.drewN n) = .ok (.string ⟨#[]⟩) (w2.drewN n) := fun n =>
              run_convert_bytes_back (P := Try.prog) (w2.drewN n) 25 9 5 ⟨g, o + a1, none⟩ (cap - a1) [] Try.underlying25 Try.underlying5 Try.underlying9 (fun j hj => absurd hj (Nat.not_lt_zero _))
            go_wp2
            go_quiet (fail)
            go_wp2
            go_quiet (fail)
            go_wp2
            go_ret
            exact ⟨by rw [HN.out]; try rfl, by rw [HN.out]; exact Rd.mk (Joins.block_setCell HH.out _) (show a1 + _ ≤ _ by omega) g2 G3.out G4.out (((Only.refl _ _).drewN _).set _ _), (HO.out.drewN _).set _ _⟩

        · have hkc : ∀ n, (convert 25 9 (.slice (some ⟨g, o + a1, none⟩) v (cap - a1))).run Try.prog (w2.drewN n) = .ok (.string ⟨((l.drop a1).take v).toArray⟩) (w2.drewN n) := by
            intro n
            have hl : ((l.drop a1).take v).length = v := by simp; omega
            have := run_convert_bytes_back (P := Try.prog) (w2.drewN n) 25 9 5 ⟨g, o + a1, none⟩ (cap - a1) ((l.drop a1).take v) Try.underlying25 Try.underlying5 Try.underlying9 (fun j hj => by
              rw [add_plain, World.cell?_drewN, Nat.add_assoc, HC.out (a1 + j) (by omega)]
              simp)
            rw [hl] at this
            exact this
          go_wp2
          go_quiet (fail)
          go_wp2
          go_quiet (fail)
          go_wp2
          go_ret
          exact ⟨by rw [HN.out]; try rfl, by rw [HN.out]; exact Rd.mk (Joins.block_setCell HH.out _) (show a1 + _ ≤ _ by omega) g2 G3.out G4.out (((Only.refl _ _).drewN _).set _ _), (HO.out.drewN _).set _ _⟩
  · have HN := Lib.hid (HT.out.1 (.inl rfl))
    go_enter Try.func11, Try.ntmps11
    go_wp2_with fail
    refine (Int_at w B R l at_ f most m1 m2 H.out v a1 _ HI.out).mono ?_
    rintro e w2 ⟨rfl, ⟨sv, hh, g1, g2, g3, g4⟩, ho⟩
    obtain ⟨c0, c1, c2, z1, z2⟩ := Rd.cells hh
    obtain ⟨p, cap, rfl, k1, k2⟩ := g3.form
    have HH := Lib.hid hh
    have G3 := Lib.hid g3
    have G4 := Lib.hid g4
    have HO := Lib.hid ho
    clear hh g3 g4 ho
    go_wp2
    go_quiet (fail)
    go_wp2
    go_ret
    exact ⟨by rw [HN.out]; try rfl, by rw [HN.out]; exact Rd.mk (Joins.block_setCell HH.out _) g1 g2 G3.out G4.out (((Only.refl _ _).drewN _).set _ _), (HO.out.drewN _).set _ _⟩

theorem Rd.base {w : World} {B R : Nat} {l : List UInt8} {at_ : Nat} {f : Bool} (h : Rd w B R l at_ f) : B ≤ R := by
  obtain ⟨_, _, _, h2, _⟩ := h; exact h2
theorem Text_at (w : World) (B R : Nat) (l : List UInt8) (at_ : Nat) (f : Bool) (most : Int) (m1 : -9223372036854775808 ≤ most) (m2 : most ≤ 9223372036854775807) (h : Rd w B R l at_ f) (t : List UInt8) (a1 : Nat) (f1 : Bool) (hT : rT l at_ f most = (t, a1, f1)) :
    Calls Try.prog 11 #[.pointer (some ⟨R, 0, none⟩), .int .i64 most] w fun e w' => e = .returned (.string ⟨t.toArray⟩) ∧ Rd w' B R l a1 f1 ∧ Only R w w' := by
  have := Text_rd w B R l at_ f most m1 m2 h
  rw [hT] at this
  exact this
theorem Byte_at (w : World) (B R : Nat) (l : List UInt8) (at_ : Nat) (f : Bool) (h : Rd w B R l at_ f) (v a1 : Nat) (f1 : Bool) (hB : rB l at_ f = (v, a1, f1)) :
    Calls Try.prog 15 #[.pointer (some ⟨R, 0, none⟩)] w fun e w' => e = .returned (.int .u8 v) ∧ Rd w' B R l a1 f1 ∧ Only R w w' := by
  have := Byte_rd w B R l at_ f h
  rw [hB] at this
  exact this
theorem Left_at (w : World) (B R : Nat) (l : List UInt8) (at_ : Nat) (f : Bool) (h : Rd w B R l at_ f) (v : Int) (hv : (if f then 0 else (l.length : Int) - at_) = v) :
    Calls Try.prog 14 #[.pointer (some ⟨R, 0, none⟩)] w fun e w' => e = .returned (.int .i64 v) ∧ Rd w' B R l at_ f ∧ Only R w w' :=
  (Left_rd w B R l at_ f h).mono fun e w' ⟨he, n, hw⟩ => ⟨by rw [he, hv], by rw [hw]; exact h.drewN n, by rw [hw]; exact (Only.refl _ _).drewN n⟩
theorem End_at (w : World) (B R : Nat) (l : List UInt8) (at_ : Nat) (f : Bool) (h : Rd w B R l at_ f) (v : Int) (hv : eV l at_ f = v) :
    Calls Try.prog 16 #[.pointer (some ⟨R, 0, none⟩)] w fun e w' => e = .returned (.int .i64 v) ∧ Rd w' B R l at_ f ∧ Only R w w' :=
  (End_rd w B R l at_ f h).mono fun e w' ⟨he, n, hw⟩ => ⟨by rw [he, hv], by rw [hw]; exact h.drewN n, by rw [hw]; exact (Only.refl _ _).drewN n⟩
theorem Err_at (w : World) (B R : Nat) (l : List UInt8) (at_ : Nat) (f : Bool) (h : Rd w B R l at_ f) (v : Int) (hv : (if f then 14 else 0) = v) :
    Calls Try.prog 13 #[.pointer (some ⟨R, 0, none⟩)] w fun e w' => e = .returned (.int .i64 v) ∧ Rd w' B R l at_ f ∧ Only R w w' :=
  (Err_rd w B R l at_ f h).mono fun e w' ⟨he, hw⟩ => ⟨by rw [he, hv], by rw [hw]; exact h, by rw [hw]; exact Only.refl _ _⟩
/-- Bytes that stand in the text. -/
theorem has_lits (w : World) (T : TypeId) (l : List UInt8) (hl : l.length ≤ maxLen) : Has (w.alloc (.cells (Lib.byteCells l).toArray T)) (.slice (some ⟨w.heap.size, 0, none⟩) l.length l.length) l := by
  refine .inr ⟨w.heap.size, 0, l.length, rfl, Nat.le_refl _, hl, by simp, fun j hj => ?_⟩
  simp only [World.cell?, heap_alloc_new w (.cells (Lib.byteCells l).toArray T), Nat.zero_add]
  simpa using byteCells_get hj
theorem has_nil (w : World) : Has w (.slice none 0 0) [] := .inl ⟨rfl, rfl⟩
/-- The reader moved; what lies below B0 did not. -/
theorem below_only {B0 R : Nat} {w0 w w' : World} (hb : Below B0 w0 w) (ho : Only R w w') (h : B0 ≤ R) : Below B0 w0 w' := hb.trans (ho.1.mono h)
end Go.Proofs.Ytlmpokkpkglbfaa
