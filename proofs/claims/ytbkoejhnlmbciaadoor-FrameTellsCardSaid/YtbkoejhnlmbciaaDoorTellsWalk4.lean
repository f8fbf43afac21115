/-
  The walk of the law FrameTells.
-/
import Derived.Test.YtbkoejhnlmbciaaDoorFScansWalk4
namespace Go.Proofs.YtbkoejhnlmbciaaDoor
open Go.ChangeShapes Go.WideShapes Go.ChangeAt Go.RowKit Go.Deep
set_option linter.unusedVariables false
set_option linter.unusedSimpArgs false

theorem set_mid {α : Type} (P X Z r : List α) (k : Nat) (hX : k < X.length) (hZ : k < Z.length) :
    (P ++ ((Z.take k ++ X.drop k) ++ r)).set (P.length + k) Z[k] = P ++ ((Z.take (k + 1) ++ X.drop (k + 1)) ++ r) := by
  have h1 : X.drop k = X[k] :: X.drop (k + 1) := List.drop_eq_getElem_cons hX
  have h2 : Z.take (k + 1) = Z.take k ++ [Z[k]] := List.take_succ_eq_append_getElem hZ
  have hl : (P ++ Z.take k).length = P.length + k := by rw [List.length_append, List.length_take]; omega
  rw [h1, h2]
  have e : P ++ (Z.take k ++ X[k] :: X.drop (k + 1) ++ r) = (P ++ Z.take k) ++ (X[k] :: (X.drop (k + 1) ++ r)) := by simp only [List.append_assoc, List.cons_append]
  rw [e, ← hl, List.set_append_right _ _ (Nat.le_refl _), Nat.sub_self, List.set_cons_zero]
  simp only [List.append_assoc, List.cons_append, List.nil_append]
theorem at_mid {α : Type} (P X Z r : List α) (k : Nat) (hX : k < X.length) (hZ : k < Z.length) (h : P.length + k < (P ++ ((Z.take k ++ X.drop k) ++ r)).length) :
    (P ++ ((Z.take k ++ X.drop k) ++ r))[P.length + k] = X[k] := by
  have hl : (Z.take k).length = k := by rw [List.length_take]; omega
  rw [List.getElem_append_right (by omega)]
  simp only [Nat.add_sub_cancel_left]
  rw [List.getElem_append_left (by simp; omega), List.getElem_append_right (by omega)]
  simp [hl]
/-- What is told of a changed payload. -/
theorem scan_changed (a b b' : List UInt8) (r : List UInt8) (ha : a.length ≤ 65536) (hb : b.length ≤ 65536) (hl : b'.length = b.length) (hne : crcMore (crcSum (le4 b.length)) b' ≠ fSum b) :
    fScan (frameOf a ++ (le4 b.length ++ (le4 (fSum b) ++ b') ++ r)) = ([a], 8 + a.length, 2) := by
  have h2 := fHow_changed b b' r hb hl hne
  rw [fScan_frame a _ ha, fScan_end (by simp [le4_len]; omega) (by rw [h2]; omega), h2]
  simp
/-- A byte of the change. -/
theorem change_byte (x : UInt8) (n : Nat) : ∃ y : UInt8, bits .xor .u8 (x.toNat : Int) ((n % 256 : Nat) : Int) = (y.toNat : Int) ∧ x.toNat ^^^ y.toNat = n % 256 := by
  have hx := x.toNat_lt
  obtain ⟨y, h1, h2⟩ := xor_byte x ((n % 256 : Nat) : Int) ⟨by omega, by omega⟩
  refine ⟨y, h1, ?_⟩
  rw [h2]
  simp only [Int.toNat_natCast]
  rw [← Nat.xor_assoc, Nat.xor_self, Nat.zero_xor]

set_option maxRecDepth 100000 in
set_option maxHeartbeats 8000000 in
theorem FrameTells_any (va : Value) (la : List UInt8) (vb : Value) (lb : List UInt8) (at_ : Int) (ch_ : Int) (w : World) (ha : HasA w va la) (hb : HasA w vb lb) (hat : (Lit.int .i64 at_).wf = true) (hch : (Lit.int .u32 ch_).wf = true) (hN : Nib w) :
    Calls Tryd.prog 6 #[va, vb, .int .i64 at_, .int .u32 ch_] w fun e w' => e = .returned (.bool true) ∧ Below w.heap.size w w' := by
  have hcc : -9223372036854775808 ≤ at_ ∧ at_ ≤ 9223372036854775807 := by
    have e1 : IntKind.i64.min = -9223372036854775808 := by decide
    have h : IntKind.i64.min ≤ at_ ∧ at_ ≤ 9223372036854775807 := by simpa [Lit.wf] using hat
    rw [e1] at h
    exact h
  have hbb : 0 ≤ ch_ ∧ ch_ ≤ 4294967295 := by
    have e1 : IntKind.u32.min = 0 := by decide
    have e2 : IntKind.u32.max = 4294967295 := by decide
    have h : IntKind.u32.min ≤ ch_ ∧ ch_ ≤ IntKind.u32.max := by simpa [Lit.wf] using hch
    rw [e1, e2] at h
    exact h
  obtain ⟨hc1, hc2⟩ := hcc
  obtain ⟨ch, rfl⟩ : ∃ n : Nat, ch_ = (n : Int) := ⟨ch_.toNat, by omega⟩
  have hch32 : ch < 4294967296 := by omega
  obtain ⟨pa, ca, rfl, hka, hma⟩ := ha.form
  obtain ⟨pb, cb, rfl, hkb, hmb⟩ := hb.form
  have hma' : (ca : Int) ≤ 9223372036854775807 := by unfold maxLen at hma; omega
  have hmb' : (cb : Int) ≤ 9223372036854775807 := by unfold maxLen at hmb; omega
  have HMA := Lib.hid hma
  have HMB := Lib.hid hmb
  have HA := Lib.hid ha
  have HB := Lib.hid hb
  have HN := Lib.hid hN
  clear ha hb hN hat hch hma hmb hbb
  go_enter Tryd.func6, Tryd.ntmps6
  go_wp2_with fail
  refine (awake_any w HN.out).mono ?_
  rintro e w1 ⟨rfl, hb1⟩
  have hz1 := hb1.size
  have HB1 := Lib.hid hb1
  clear hb1
  by_cases c1 : 500 < la.length
  · have c1' : (500 : Int) < (la.length : Int) := by omega
    go_wp2_with fail
    go_ret
    exact ⟨rfl, HB1.out⟩
  have c1' : ¬ (500 : Int) < (la.length : Int) := by omega
  by_cases c2 : 500 < lb.length
  · have c2' : (500 : Int) < (lb.length : Int) := by omega
    go_wp2_with fail
    go_ret
    exact ⟨rfl, HB1.out⟩
  have c2' : ¬ (500 : Int) < (lb.length : Int) := by omega
  by_cases c3 : at_ < 0
  · go_wp2_with fail
    go_ret
    exact ⟨rfl, HB1.out⟩
  by_cases c4 : (lb.length : Int) - 4 < at_
  · go_wp2_with fail
    go_ret
    exact ⟨rfl, HB1.out⟩
  by_cases c5 : ch = 0
  · subst c5
    go_wp2_with fail
    go_ret
    exact ⟨rfl, HB1.out⟩
  have c5' : ¬ (ch : Int) = 0 := by omega
  obtain ⟨A, rfl⟩ : ∃ n : Nat, at_ = (n : Int) := ⟨at_.toNat, by omega⟩
  have hA4 : A + 4 ≤ lb.length := by omega
  obtain ⟨x0, x1, x2, x3, r, hdrop⟩ := four_of (l := lb.drop A) (by rw [List.length_drop]; omega)
  have hlb : lb = lb.take A ++ ([x0, x1, x2, x3] ++ r) := by
    rw [show ([x0, x1, x2, x3] ++ r : List UInt8) = lb.drop A from hdrop.symm, List.take_append_drop]
  have hul : (lb.take A).length = A := by rw [List.length_take]; omega
  obtain ⟨z0, hz0, he0⟩ := change_byte x0 ch
  obtain ⟨z1, hz1', he1⟩ := change_byte x1 (ch / 256)
  obtain ⟨z2, hz2, he2⟩ := change_byte x2 (ch / 65536)
  obtain ⟨z3, hz3, he3⟩ := change_byte x3 (ch / 16777216)
  have hne : crcMore (crcSum (le4 lb.length)) (lb.take A ++ ([z0, z1, z2, z3] ++ r)) ≠ fSum lb := by
    have h := burst_told (crcSum (le4 lb.length)) ch (crcMore_lt _ _) hch32 c5 (lb.take A) r x0 x1 x2 x3 z0 z1 z2 z3 he0 he1 he2 he3
    rw [← hlb] at h
    exact h
  have hlen' : (lb.take A ++ ([z0, z1, z2, z3] ++ r)).length = lb.length := by
    have := congrArg List.length hlb
    simp only [List.length_append, List.length_cons, List.length_nil] at this ⊢
    omega
  have hsc := scan_changed la lb _ (frameOf la) (by omega) (by omega) hlen' hne
  obtain ⟨X, hX⟩ : ∃ X, X = [x0, x1, x2, x3] := ⟨_, rfl⟩
  obtain ⟨Z, hZ⟩ : ∃ Z, Z = [z0, z1, z2, z3] := ⟨_, rfl⟩
  have hX4 : X.length = 4 := by rw [hX]; rfl
  have hZ4 : Z.length = 4 := by rw [hZ]; rfl
  have hXZ : ∀ k (h1 : k < X.length) (h2 : k < Z.length), bits .xor .u8 (X[k].toNat : Int) (((ch / 2 ^ (8 * k) % 256 : Nat) : Int)) = (Z[k].toNat : Int) := by
    subst hX
    subst hZ
    intro k h1 h2
    match k, h1, h2 with
    | 0, _, _ => simpa using hz0
    | 1, _, _ => exact hz1'
    | 2, _, _ => exact hz2
    | 3, _, _ => exact hz3
  obtain ⟨P, hP⟩ : ∃ P, P = frameOf la ++ (le4 lb.length ++ (le4 (fSum lb) ++ lb.take A)) := ⟨_, rfl⟩
  have hPl : P.length = la.length + 16 + A := by rw [hP]; simp only [List.length_append, frameOf_len, le4_len, hul]; omega
  have hF0 : frameOf la ++ frameOf lb = P ++ (X ++ r) := by
    have e : frameOf lb = le4 lb.length ++ (le4 (fSum lb) ++ (lb.take A ++ ([x0, x1, x2, x3] ++ r))) := by
      conv => rhs; rw [← hlb]
      rfl
    rw [e, hP, hX]
    simp only [List.append_assoc]
  have hF4 : P ++ (Z ++ r) ++ frameOf la = frameOf la ++ (le4 lb.length ++ (le4 (fSum lb) ++ (lb.take A ++ ([z0, z1, z2, z3] ++ r))) ++ frameOf la) := by
    rw [hP, hZ]
    simp only [List.append_assoc]
  rw [← hF4] at hsc
  obtain ⟨T, hT⟩ : ∃ T, T = P ++ (Z ++ r) ++ frameOf la := ⟨_, rfl⟩
  rw [← hT] at hsc
  have HT := Lib.hid hT
  have HSC := Lib.hid hsc
  have HF0 := Lib.hid hF0
  have HPL := Lib.hid hPl
  have hrl : r.length ≤ 500 := by
    have := congrArg List.length hdrop
    simp only [List.length_drop, List.length_cons] at this
    omega
  have HRL := Lib.hid hrl
  have HX4 := Lib.hid hX4
  have HZ4 := Lib.hid hZ4
  have HXZ := Lib.hid hXZ
  clear hT hsc hF0 hF4 hPl hP hdrop hlb hul hne hlen' he0 he1 he2 he3 hrl hz0 hz1' hz2 hz3 c5 hX hZ hX4 hZ4 hXZ
  have d1 : decide ((500 : Int) < (la.length : Int)) = false := decide_eq_false c1'
  have d2 : decide ((500 : Int) < (lb.length : Int)) = false := decide_eq_false c2'
  have d3 : decide ((A : Int) < 0) = false := decide_eq_false c3
  have d4 : decide ((lb.length : Int) - 4 < (A : Int)) = false := decide_eq_false c4
  have d5 : ((ch : Int) == 0) = false := by simp; omega
  go_wp2_with fail
  refine (RFrame_any _ la w1 (HA.out.below HB1.out) (by omega)).mono ?_
  rintro e w2 ⟨v2, rfl, ho2, hb2⟩
  have HB2 := Lib.hid (HB1.out.trans (hb2.mono hz1))
  have HO2 := Lib.hid (ho2.mono hz1)
  have hz2 := HB2.out.size
  clear ho2 hb2
  go_wp2_with fail
  refine (RFrame_any _ lb w2 (HB.out.below HB2.out) (by omega)).mono ?_
  rintro e w3 ⟨v3, rfl, ho3, hb3⟩
  have HB3 := Lib.hid (HB2.out.trans (hb3.mono hz2))
  have HO3 := Lib.hid ho3
  have HO23 := Lib.hid (HO2.out.below hb3)
  have hz3 := HB3.out.size
  clear ho3 hb3
  go_wp2_with (at_builtin; refine wpList_append_has rfl _ _ 23 rfl w.heap.size 5 Tryd.underlying23 info_u8 _ (frameOf la) rfl HO23.out _ (frameOf lb) _ rfl HO3.out.has HF0.out.symm (by rw [frameOf_len, frameOf_len]; omega) hz3 w HB3.out ?_)
  intro v4 w4 ho4 hb4
  have hF : (P ++ (X ++ r)).length = P.length + 4 + r.length := by have := HX4.out; simp only [List.length_append]; omega
  obtain ⟨g, cap, hv4, hgB, hgl, hk4, hm4, HC4⟩ := ho4.place (by rw [hF]; omega)
  rw [hF] at hv4 hk4
  obtain ⟨N, hNN⟩ : ∃ N, P.length + 4 + r.length = N := ⟨_, rfl⟩
  rw [hNN] at hv4 hk4
  subst hv4
  have HNN := Lib.hid hNN
  have HO4 := Lib.hid ho4
  have HB4 := Lib.hid hb4
  have hN16 : la.length + 16 + A + 4 ≤ N := by have := HPL.out; omega
  have hN2 : N ≤ 2000 := by have := HPL.out; have := HRL.out; omega
  clear ho4 hb4 hF hNN HC4
  go_wp2_with fail
  go_loopw [10] (fun vi wr => ∃ (k : Nat), k ≤ 4 ∧ vi = .int .i64 k ∧ Own wr w.heap.size 5 (.slice (some ⟨g, 0, none⟩) N cap) (P ++ ((Z.take k ++ X.drop k) ++ r)) ∧ Below w.heap.size w wr) (fun vi _ => 4 - (intOf vi).toNat)
  case atStart => exact ⟨0, by omega, rfl, by simpa using HO4.out, HB4.out⟩
  case round =>
    obtain ⟨k, hk, rfl, ho, hb⟩ := hrel
    have hlen : (P ++ ((Z.take k ++ X.drop k) ++ r)).length = N := by
      have := HX4.out; have := HZ4.out; rw [← HNN.out]; simp only [List.length_append, List.length_take, List.length_drop]; omega
    rcases Nat.lt_or_ge k 4 with hk4' | hk4'
    · obtain ⟨g2, cap2, hv5, hgB5, hgl5, hk5, hm5, HC5⟩ := ho.place (by rw [hlen]; omega)
      simp only [Value.slice.injEq, Option.some.injEq, Addr.mk.injEq, and_true] at hv5
      obtain ⟨rfl, -, rfl⟩ := hv5
      have hkl : P.length + k < (P ++ ((Z.take k ++ X.drop k) ++ r)).length := by rw [hlen]; have := HNN.out; omega
      obtain ⟨hcell, hfro⟩ := HC5.out (P.length + k) hkl
      have hkX : k < X.length := by have := HX4.out; omega
      have hkZ : k < Z.length := by have := HZ4.out; omega
      rw [at_mid P X Z r k hkX hkZ hkl, HPL.out] at hcell
      rw [HPL.out] at hfro
      have hst := ho.store hlen.symm (P.length + k) (Z[k])
      rw [set_mid P X Z r k hkX hkZ, HPL.out] at hst
      have HST := Lib.hid hst
      have HBS := Lib.hid (hb.setCell (p := ⟨g, la.length + 16 + A + k, none⟩) hgB (.int .u8 ((Z[k]).toNat : Int)))
      have hxz := HXZ.out k hkX hkZ
      obtain ⟨d, hd⟩ : ∃ d, ch / 2 ^ (8 * k) = d := ⟨_, rfl⟩
      have hdd : (ch : Int) / 2 ^ (8 * k) = (d : Int) := by rw [← hd]; simp
      rw [hd, show ((d % 256 : Nat) : Int) = (d : Int) % 256 by omega] at hxz
      generalize (X[k]).toNat = xn at hcell hxz
      generalize hzn : (Z[k]).toNat = zn at hxz HST HBS
      have q1 : (k : Int) < 4 := by omega
      have q2 : (0 : Int) ≤ 8 * (k : Int) := by omega
      have q3 : 8 * (k : Int) ≤ 32 := by omega
      have q4 : (8 * (k : Int)).toNat = 8 * k := by omega
      have HIN : Hid ((la.length : Int) + 16 + (A : Int) + (k : Int) < (N : Int)) := Lib.hid (by omega)
      clear hst hkl ho hb hlen hd hzn HC5
      go_wp2_with fail
      exact ⟨⟨k + 1, by omega, by go_num, HST.out, HBS.out⟩, by simp [intOf]; omega⟩
    · obtain rfl : k = 4 := by omega
      have hz4 : (Z.take 4 ++ X.drop 4) ++ r = Z ++ r := by
        rw [List.take_of_length_le (by have := HZ4.out; omega), List.drop_eq_nil_of_le (by have := HX4.out; omega), List.append_nil]
      rw [hz4] at ho hlen
      have HO5 := Lib.hid ho
      have HB5 := Lib.hid hb
      have hz5 := hb.size
      have HLN := Lib.hid hlen
      clear ho hb hz4 hlen
      go_wp2_with fail
      refine (RFrame_any _ la wr (HA.out.below HB5.out) (by omega)).mono ?_
      rintro e w6 ⟨v6, rfl, ho6, hb6⟩
      have HB6 := Lib.hid (HB5.out.trans (hb6.mono hz5))
      have HO6 := Lib.hid ho6
      have HO56 := Lib.hid (HO5.out.below hb6)
      have hz6 := HB6.out.size
      clear ho6 hb6
      go_wp2_with (at_builtin; refine wpList_append_has rfl _ _ 23 rfl w.heap.size 5 Tryd.underlying23 info_u8 _ (P ++ (Z ++ r)) rfl HO56.out _ (frameOf la) T rfl HO6.out.has HT.out (by rw [HLN.out, frameOf_len]; omega) hz6 w HB6.out ?_)
      intro v7 w7 ho7 hb7
      have HB7 := Lib.hid hb7
      have HO7 := Lib.hid ho7.has.wide
      have hz7 := hb7.size
      obtain ⟨p7, n7, c7, rfl, _, _, _⟩ := ho7.has.wide.shape
      clear ho7 hb7
      go_wp2_with fail
      refine (Scan_any _ _ w7 HO7.out (HN.out.below HB7.out) (by rw [HT.out, List.length_append, HLN.out, frameOf_len]; omega)).mono ?_
      rintro e w8 ⟨v8, rfl, ho8, hb8⟩
      rw [HSC.out] at ho8 ⊢
      simp only at ho8 ⊢
      obtain ⟨b8, o8, c8, q8, hv8, hk8, hm8, HP8, HC8⟩ := ho8.has.open
      have hq8 := (HP8.out (by simp)).1
      subst hq8
      obtain ⟨y, hy, hya⟩ := HC8.out 0 (by simp)
      have HB8 := Lib.hid (HB7.out.trans (hb8.mono hz7))
      obtain ⟨sA, hsA⟩ : ∃ A : ByteArray, A = ⟨la.toArray⟩ := ⟨_, rfl⟩
      have hcy : ∀ n, (convert 23 9 y).run Tryd.prog (w8.drewN n) = .ok (.string sA) (w8.drewN n) := fun n => by rw [hsA]; exact hya.string n
      have hca : ∀ n, (convert 23 9 (.slice pa la.length ca)).run Tryd.prog (w8.drewN n) = .ok (.string sA) (w8.drewN n) := fun n => by rw [hsA]; exact (HA.out.below HB8.out).string n
      have hself := (text_eq_iff sA sA).2 rfl
      have hy8 : w8.cell? ⟨b8, o8, none⟩ = some y := hy
      have hm8' : (c8 : Int) ≤ 9223372036854775807 := by unfold maxLen at hm8; omega
      have hk8' : 1 ≤ c8 := hk8
      have HM8 := Lib.hid hm8
      subst hv8
      clear ho8 hb8 hy hya hsA hm8 hk8
      go_wp2_with fail
      go_quiet (fail)
      go_wp2
      go_ret
      exact ⟨rfl, below_drewN' HB8.out _⟩
end Go.Proofs.YtbkoejhnlmbciaaDoor
