/-
  Package bin's Reader in memory, and what its calls answer.
-/
import Derived.Test.YtfgfamafjkjakaaRead
import Derived.Deep.RegionWith
namespace Go.Proofs.Ytfgfamafjkjakaa
open Go.ChangeShapes Go.WideShapes Go.ChangeAt Go.RowKit Go.Deep
set_option linter.unusedVariables false

/-- Block R is a reader of the bytes l (its own copy of them lies between blocks B and R), that stands at a place and has failed or not. -/
def Rd (w : World) (B R : Nat) (l : List UInt8) (at_ : Nat) (f : Bool) : Prop :=
  ∃ sv, w.heap[R]? = some (.cells #[sv, .int .i64 (at_ : Int), .bool f] 77 (0, 0)) ∧ at_ ≤ l.length ∧ B ≤ R ∧ Has w sv l ∧ ∀ b, sv.ownBlock = some b → B ≤ b ∧ b < R

theorem Rd.lt {w : World} {B R : Nat} {l : List UInt8} {at_ : Nat} {f : Bool} (h : Rd w B R l at_ f) : R < w.heap.size := by
  obtain ⟨sv, hh, _⟩ := h; exact lt_of_block hh
theorem Rd.drewN {w : World} {B R : Nat} {l : List UInt8} {at_ : Nat} {f : Bool} (h : Rd w B R l at_ f) (n : Nat) : Rd (w.drewN n) B R l at_ f := h
theorem Rd.below {w w' : World} {B R : Nat} {l : List UInt8} {at_ : Nat} {f : Bool} (h : Rd w B R l at_ f) (hb : Below w.heap.size w w') : Rd w' B R l at_ f := by
  have hl := h.lt
  obtain ⟨sv, hh, h1, h2, h3, h4⟩ := h
  exact ⟨sv, (hb.block R hl).trans hh, h1, h2, h3.below hb, h4⟩
/-- Another block was written. -/
theorem Rd.other {w w' : World} {B R R' : Nat} {l : List UInt8} {at_ : Nat} {f : Bool} (h : Rd w B R l at_ f) (ho : Only R' w w') (hne : R' < B ∨ R < R') : Rd w' B R l at_ f := by
  obtain ⟨sv, hh, h1, h2, h3, h4⟩ := h
  exact ⟨sv, (ho.2.2 R (by omega)).trans hh, h1, h2, h3.only ho (fun e => by have := h4 _ e; omega), h4⟩
theorem Rd.cells {w : World} {R : Nat} {sv : Value} {a : Int} {f : Bool} {T : TypeId} (h : w.heap[R]? = some (.cells #[sv, .int .i64 a, .bool f] T (0, 0))) :
    w.cell? ⟨R, 0, none⟩ = some sv ∧ w.cell? ⟨R, 1, none⟩ = some (.int .i64 a) ∧ w.cell? ⟨R, 2, none⟩ = some (.bool f) ∧ w.frozen? ⟨R, 1, none⟩ = false ∧ w.frozen? ⟨R, 2, none⟩ = false := by
  simp [World.cell?, World.frozen?, h]
theorem Rd.mk {w w' : World} {B R : Nat} {sv : Value} {l : List UInt8} {at_ : Nat} {f : Bool} (hh : w'.heap[R]? = some (.cells #[sv, .int .i64 (at_ : Int), .bool f] 77 (0, 0))) (h1 : at_ ≤ l.length) (h2 : B ≤ R)
    (h3 : Has w sv l) (h4 : ∀ b, sv.ownBlock = some b → B ≤ b ∧ b < R) (ho : Only R w w') : Rd w' B R l at_ f :=
  ⟨sv, hh, h1, h2, h3.only ho (fun e => by have := h4 _ e; omega), h4⟩

theorem Read_any (v : Value) (l : List UInt8) (w : World) (hv : Has w v l) (hlim : l.length ≤ 140737488355328) :
    Calls Try.prog 28 #[v] w fun e w' => ∃ R, e = .returned (.pointer (some ⟨R, 0, none⟩)) ∧ Rd w' w.heap.size R l 0 false ∧ Below w.heap.size w w' := by
  have HV := Lib.hid hv
  clear hv
  go_enter Try.func28, Try.ntmps28
  go_wp2_with (at_builtin; refine wpList_append_has rfl _ (.tmp 3) 28 rfl w.heap.size 5 Try.underlying28 info_u8 (.slice none 0 0) [] rfl (Own.nil _ _ _) v l l rfl HV.out rfl (by simpa using hlim) (Nat.le_refl _) w (Below.refl _ _) ?_)
  intro v' w1 ho hb
  obtain ⟨p', c', rfl, _, _⟩ := ho.has.form
  have HO := Lib.hid ho
  have HB := Lib.hid hb
  have hs := hb.size
  clear ho hb
  go_wp2
  go_ret
  refine ⟨w1.heap.size, rfl, ⟨_, heap_alloc_new _ _, Nat.zero_le _, hs, HO.out.has.below ((Below.refl _ _).alloc (Nat.le_refl _) _), fun b hb => (World.ownsRow.lt HO.out b hb)⟩, HB.out.alloc hs _⟩

theorem Err_rd (w : World) (B R : Nat) (l : List UInt8) (at_ : Nat) (f : Bool) (h : Rd w B R l at_ f) :
    Calls Try.prog 44 #[.pointer (some ⟨R, 0, none⟩)] w fun e w' => e = .returned (.int .i64 (if f then 14 else 0)) ∧ w' = w := by
  obtain ⟨sv, hh, h1, h2, h3, h4⟩ := h
  obtain ⟨c0, c1, c2, z1, z2⟩ := Rd.cells hh
  clear hh h3 h4
  cases f
  · go_enter Try.func44, Try.ntmps44
    go_wp2
    go_ret
    exact ⟨rfl, rfl⟩
  · go_enter Try.func44, Try.ntmps44
    go_wp2
    go_ret
    exact ⟨rfl, rfl⟩

theorem number_n (p : Option Addr) (b o cap n : Nat) (l : List UInt8) (w : World) (hn : n = l.length) (hc1 : n ≤ cap) (hc2 : cap ≤ maxLen)
   (hp : 0 < n → p = some ⟨b, o, none⟩) (hc : Hid (∀ j (h : j < l.length), w.cell? ⟨b, o + j, none⟩ = some (.int .u8 (l[j].toNat : Int)))) :
    Calls Try.prog 52 #[.slice p n cap] w fun e w' => e = .returned (.tuple #[.int .u64 (num l).1, .int .i64 (num l).2]) ∧ w' = w := by
  subst hn
  exact number_any p b o cap l w hc1 (by unfold maxLen at hc2; omega) hp hc
theorem Uint_rd (w : World) (B R : Nat) (l : List UInt8) (at_ : Nat) (f : Bool) (h : Rd w B R l at_ f) :
    Calls Try.prog 43 #[.pointer (some ⟨R, 0, none⟩)] w fun e w' => e = .returned (.int .u64 (rU l at_ f).1) ∧ Rd w' B R l (rU l at_ f).2.1 (rU l at_ f).2.2 ∧ Only R w w' := by
  obtain ⟨sv, hh, h1, h2, h3, h4⟩ := h
  obtain ⟨c0, c1, c2, z1, z2⟩ := Rd.cells hh
  have HH := Lib.hid hh
  have H3 := Lib.hid h3
  have H4 := Lib.hid h4
  clear hh h3 h4
  cases f
  · have hr : (num (l.drop at_)).2 = 0 ∨ (num (l.drop at_)).2 ≠ 0 := by omega
    have hu0 : (num (l.drop at_)).2 = 0 → rU l at_ false = (0, at_, true) := fun h => by simp [rU, h]
    have hu1 : (num (l.drop at_)).2 ≠ 0 → rU l at_ false = ((num (l.drop at_)).1, at_ + (num (l.drop at_)).2, false) := fun h => by simp [rU, h]
    have hle := rU_le l at_ false h1
    have HU := Lib.hid (And.intro hu0 hu1)
    have HR := Lib.hid hr
    have HL := Lib.hid hle
    clear hu0 hu1 hr hle
    rcases H3.out with ⟨rfl, rfl⟩ | ⟨g, o, cap, rfl, k1, k2, k3, hc⟩
    · obtain rfl : at_ = 0 := by simpa using h1
      have Z : Hid ((num (([] : List UInt8).drop 0)).2 = 0) := Lib.hid rfl
      have hz : (((num (([] : List UInt8).drop 0)).2 : Int) == 0) = true := rfl
      go_enter Try.func43, Try.ntmps43
      go_wp2
      go_quiet ((go_at_call 52; exact Calls.quiet_of_same (number_n _ 0 0 _ _ (([] : List UInt8).drop 0) _ rfl (by omega) (by unfold maxLen; omega) (fun h => by omega) (fun j hj => absurd hj (Nat.not_lt_zero _)))))
      go_wp2
      go_ret
      exact ⟨by rw [HU.out.1 Z.out]; try rfl, by rw [HU.out.1 Z.out]; exact Rd.mk (Joins.block_setCell HH.out _) h1 h2 H3.out H4.out (((Only.refl _ _).drewN _).set _ _), ((Only.refl _ _).drewN _).set _ _⟩
    · have hg := H4.out g rfl
      have HC : Hid (∀ j (h : j < (l.drop at_).length), w.cell? ⟨g, o + at_ + j, none⟩ = some (.int .u8 ((l.drop at_)[j].toNat : Int))) := by
        intro j hj
        rw [List.length_drop] at hj
        rw [List.getElem_drop, Nat.add_assoc]
        exact hc (at_ + j) (by omega)
      have hdl : Hid ((l.drop at_).length = l.length - at_) := Lib.hid List.length_drop
      have hml : (l.length : Int) ≤ 9223372036854775807 := by unfold maxLen at k2; omega
      clear hc
      by_cases hcap : cap = at_
      · have hz0 : (num (l.drop at_)).2 = 0 := by
          have := num_len (l.drop at_)
          rw [hdl.out] at this
          omega
        have hz : (((num (l.drop at_)).2 : Int) == 0) = true := by simp [hz0]
        have Z := Lib.hid hz0
        clear hz0
        obtain rfl : l.length = at_ := by omega
        subst hcap
        go_enter Try.func43, Try.ntmps43
        go_wp2
        go_quiet ((go_at_call 52; exact Calls.quiet_of_same (number_n _ g o _ _ (l.drop l.length) _ (by simp) (by omega) (by unfold maxLen; omega) (fun _ => rfl) (fun j hj => absurd hj (by simp)))))
        go_wp2
        go_ret
        exact ⟨by rw [HU.out.1 Z.out]; try rfl, by rw [HU.out.1 Z.out]; exact Rd.mk (Joins.block_setCell HH.out _) h1 h2 H3.out H4.out (((Only.refl _ _).drewN _).set _ _), ((Only.refl _ _).drewN _).set _ _⟩
      · rcases HR.out with z | z
        · have hz : (((num (l.drop at_)).2 : Int) == 0) = true := by simp [z]
          have Z := Lib.hid z
          clear z
          go_enter Try.func43, Try.ntmps43
          go_wp2
          go_quiet ((go_at_call 52; exact Calls.quiet_of_same (number_n _ g (o + at_) _ _ (l.drop at_) _ (by rw [hdl.out]) (by omega) (by omega) (fun _ => rfl) HC)))
          go_wp2
          go_ret
          exact ⟨by rw [HU.out.1 Z.out]; try rfl, by rw [HU.out.1 Z.out]; exact Rd.mk (Joins.block_setCell HH.out _) h1 h2 H3.out H4.out (((Only.refl _ _).drewN _).set _ _), ((Only.refl _ _).drewN _).set _ _⟩
        · have hz : (((num (l.drop at_)).2 : Int) == 0) = false := by simp; omega
          have Z := Lib.hid z
          have hb2 : at_ + (num (l.drop at_)).2 ≤ l.length := by
            have := num_len (l.drop at_)
            rw [hdl.out] at this
            omega
          clear z
          go_enter Try.func43, Try.ntmps43
          go_wp2
          go_quiet ((go_at_call 52; exact Calls.quiet_of_same (number_n _ g (o + at_) _ _ (l.drop at_) _ (by rw [hdl.out]) (by omega) (by omega) (fun _ => rfl) HC)))
          go_wp2
          go_ret
          exact ⟨by rw [HU.out.2 Z.out]; try rfl, by rw [HU.out.2 Z.out]; exact Rd.mk (Joins.block_setCell HH.out _) hb2 h2 H3.out H4.out (((Only.refl _ _).drewN _).set _ _), ((Only.refl _ _).drewN _).set _ _⟩
  · go_enter Try.func43, Try.ntmps43
    go_wp2
    go_ret
    exact ⟨rfl, Rd.mk HH.out h1 h2 H3.out H4.out (Only.refl _ _), Only.refl _ _⟩

theorem Uint_at (w : World) (B R : Nat) (l : List UInt8) (at_ : Nat) (f : Bool) (h : Rd w B R l at_ f) (v a1 : Nat) (f1 : Bool) (hU : rU l at_ f = (v, a1, f1)) :
    Calls Try.prog 43 #[.pointer (some ⟨R, 0, none⟩)] w fun e w' => e = .returned (.int .u64 v) ∧ Rd w' B R l a1 f1 ∧ Only R w w' := by
  have := Uint_rd w B R l at_ f h
  rw [hU] at this
  exact this

set_option maxRecDepth 100000 in
theorem Int_rd (w : World) (B R : Nat) (l : List UInt8) (at_ : Nat) (f : Bool) (most : Int) (m1 : -9223372036854775808 ≤ most) (m2 : most ≤ 9223372036854775807) (h : Rd w B R l at_ f) :
    Calls Try.prog 29 #[.pointer (some ⟨R, 0, none⟩), .int .i64 most] w fun e w' => e = .returned (.int .i64 (rI l at_ f most).1) ∧ Rd w' B R l (rI l at_ f most).2.1 (rI l at_ f most).2.2 ∧ Only R w w' := by
  have hlt := rU_lt l at_ f
  have hI : ∀ v a1 f1, rU l at_ f = (v, a1, f1) → ((f1 = true ∨ most < 0 ∨ most < v) → rI l at_ f most = (0, a1, true)) ∧ (¬ (f1 = true ∨ most < 0 ∨ most < v) → rI l at_ f most = (v, a1, false)) := by
    intro v a1 f1 h; unfold rI; rw [h]; exact ⟨fun h => if_pos h, fun h => if_neg h⟩
  obtain ⟨v, a1, f1, hU⟩ : ∃ v a1 f1, rU l at_ f = (v, a1, f1) := ⟨_, _, _, rfl⟩
  have HI := Lib.hid (hI v a1 f1 hU)
  rw [hU] at hlt
  have hv : (v : Int) < 18446744073709551616 := by have : v < 18446744073709551616 := hlt; omega
  have HU := Lib.hid hU
  have H := Lib.hid h
  clear hI hU h hlt
  have fail : ∀ w2 : World, Rd w2 B R l a1 f1 → Only R w w2 → ∃ sv, w2.cell? ⟨R, 0, none⟩ = some sv ∧ w2.cell? ⟨R, 1, none⟩ = some (.int .i64 (a1 : Int)) ∧ w2.cell? ⟨R, 2, none⟩ = some (.bool f1) ∧ w2.frozen? ⟨R, 2, none⟩ = false ∧
      Hid (Rd (w2.setCell ⟨R, 2, none⟩ (.bool true)) B R l a1 true) := by
    intro w2 h2 ho
    obtain ⟨sv, hh, g1, g2, g3, g4⟩ := h2
    obtain ⟨c0, c1, c2, z1, z2⟩ := Rd.cells hh
    exact ⟨sv, c0, c1, c2, z2, Rd.mk (Joins.block_setCell hh _) g1 g2 g3 g4 ((Only.refl _ _).set _ _)⟩
  have FAIL := Lib.hid fail
  clear fail
  cases f1
  · by_cases mn : most < 0
    · go_enter Try.func29, Try.ntmps29
      go_wp2_with fail
      refine (Uint_at w B R l at_ f H.out v a1 _ HU.out).mono ?_
      rintro e w2 ⟨rfl, hr, ho⟩
      obtain ⟨sv, c0, c1, c2, z2, hset⟩ := FAIL.out w2 hr ho
      have HO := Lib.hid ho
      clear hr ho
      go_wp2
      go_ret
      exact ⟨by rw [HI.out.1 (.inr (.inl mn))]; try rfl, by rw [HI.out.1 (.inr (.inl mn))]; exact hset, HO.out.set _ _⟩
    · have hm := IntWalk.u64_in most (by omega)
      have HM := Lib.hid hm
      clear hm
      by_cases mv : most < v
      · go_enter Try.func29, Try.ntmps29
        go_wp2_with fail
        refine (Uint_at w B R l at_ f H.out v a1 _ HU.out).mono ?_
        rintro e w2 ⟨rfl, hr, ho⟩
        obtain ⟨sv, c0, c1, c2, z2, hset⟩ := FAIL.out w2 hr ho
        have HO := Lib.hid ho
        clear hr ho
        go_wp2
        go_ret
        exact ⟨by rw [HI.out.1 (.inr (.inr mv))]; try rfl, by rw [HI.out.1 (.inr (.inr mv))]; exact hset, HO.out.set _ _⟩
      · have HN := Lib.hid (HI.out.2 (by simp; omega))
        have hv2 : (v : Int) ≤ 9223372036854775807 := by omega
        have hv3 : (0 : Int) ≤ v := by omega
        clear hv
        go_enter Try.func29, Try.ntmps29
        go_wp2_with fail
        refine (Uint_at w B R l at_ f H.out v a1 _ HU.out).mono ?_
        rintro e w2 ⟨rfl, hr, ho⟩
        obtain ⟨sv, c0, c1, c2, z2, hset⟩ := FAIL.out w2 hr ho
        have HO := Lib.hid ho
        have HR := Lib.hid hr
        clear hr ho
        go_wp2
        go_ret
        exact ⟨by rw [HN.out]; try rfl, by rw [HN.out]; exact HR.out, HO.out⟩
  · go_enter Try.func29, Try.ntmps29
    go_wp2_with fail
    refine (Uint_at w B R l at_ f H.out v a1 _ HU.out).mono ?_
    rintro e w2 ⟨rfl, hr, ho⟩
    obtain ⟨sv, c0, c1, c2, z2, hset⟩ := FAIL.out w2 hr ho
    have HO := Lib.hid ho
    clear hr ho
    go_wp2
    go_ret
    exact ⟨by rw [HI.out.1 (by simp)]; try rfl, by rw [HI.out.1 (by simp)]; exact hset, HO.out.set _ _⟩

/-- End's error: EFORM, unless all was read well. -/
def eV (l : List UInt8) (at_ : Nat) (f : Bool) : Int := if f = true ∨ at_ < l.length then 14 else 0
theorem End_rd (w : World) (B R : Nat) (l : List UInt8) (at_ : Nat) (f : Bool) (h : Rd w B R l at_ f) :
    Calls Try.prog 31 #[.pointer (some ⟨R, 0, none⟩)] w fun e w' => e = .returned (.int .i64 (eV l at_ f)) ∧ ∃ n, w' = w.drewN n := by
  obtain ⟨sv, hh, h1, h2, h3, h4⟩ := h
  obtain ⟨c0, c1, c2, z1, z2⟩ := Rd.cells hh
  obtain ⟨p, cap, rfl, k1, k2⟩ := h3.form
  have hml : (l.length : Int) ≤ 9223372036854775807 := by unfold maxLen at k2; omega
  clear hh h3 h4 k2
  cases f
  · by_cases hl : at_ < l.length
    · have HL := Lib.hid (show eV l at_ false = 14 from if_pos (.inr hl))
      go_enter Try.func31, Try.ntmps31
      go_wp2
      go_quiet (fail)
      go_wp2
      go_ret
      exact ⟨by rw [HL.out]; try rfl, _, rfl⟩
    · have HL := Lib.hid (show eV l at_ false = 0 from if_neg (by simp; omega))
      go_enter Try.func31, Try.ntmps31
      go_wp2
      go_quiet (fail)
      go_wp2
      go_ret
      exact ⟨by rw [HL.out]; try rfl, _, rfl⟩
  · have HL := Lib.hid (show eV l at_ true = 14 from if_pos (.inl rfl))
    go_enter Try.func31, Try.ntmps31
    go_wp2
    go_quiet (fail)
    go_wp2
    go_ret
    exact ⟨by rw [HL.out]; try rfl, _, rfl⟩
end Go.Proofs.Ytfgfamafjkjakaa
