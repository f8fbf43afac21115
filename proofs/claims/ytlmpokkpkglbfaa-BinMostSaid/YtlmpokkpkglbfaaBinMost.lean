/-
  The statement BinMost holds: for every number and every bound the law answers true, and its arguments read as before. No condition.
-/
import Derived.Test.YtlmpokkpkglbfaaRows
import Derived.Test.YtlmpokkpkglbfaaStay
import Derived.Test.YtlmpokkpkglbfaaBinAwake
import Derived.WalkKit
import Derived.ProofKit
import Derived.OpenShut
namespace Go.Proofs.Ytlmpokkpkglbfaa.binMost
open Go.ChangeShapes Go.WideShapes Go.ChangeAt Go.RowKit Go.Deep
set_option linter.unusedVariables false

theorem own : ownKnob Try.prog.godebug = none := by kernel_rfl
theorem laidOut : laidOutB Try.prog = true := by kernel_rfl
theorem i64_bd {n : Int} (h : (Lit.int .i64 n).wf = true) : -9223372036854775808 ≤ n ∧ n ≤ 9223372036854775807 := by simp only [Lit.wf, Bool.and_eq_true, decide_eq_true_eq] at h; exact h

set_option maxRecDepth 100000 in
set_option maxHeartbeats 2000000 in
theorem inner (n : Nat) (most : Int) (hn : (n : Int) ≤ 300) (m1 : -9223372036854775808 ≤ most) (m2 : most ≤ 9223372036854775807) (w : World) :
    Calls Try.prog 8 #[.int .i64 n, .int .i64 most] w fun e w' => e = .returned (.bool true) ∧ Below w.heap.size w w' := by
  have HI := Lib.hid (rI_uv n (by omega) [] most)
  have HT : Hid (∀ t : List UInt8, t.length = n → rT (Lib.uvarint n ++ t) 0 false most = if most < (n : Int) then ([], (Lib.uvarint n).length, true) else (t, (Lib.uvarint n).length + n, false)) := Lib.hid (fun t ht => by subst ht; exact rT_uv t (by omega) most)
  have hnn : ¬ (n : Int) < 0 := by omega
  have hul : (Lib.uvarint n).length ≤ 10 := uv_len (by omega)
  by_cases hm : most < (n : Int)
  · have HI := Lib.hid (by have := HI.out; rw [if_pos hm] at this; exact this : rI (Lib.uvarint n ++ []) 0 false most = (0, (Lib.uvarint n).length, true))
    have HT : Hid (∀ t : List UInt8, t.length = n → rT (Lib.uvarint n ++ t) 0 false most = ([], (Lib.uvarint n).length, true)) := Lib.hid (fun t ht => by have := HT.out t ht; rw [if_pos hm] at this; exact this)
    go_enter Try.func8, Try.ntmps8
    go_wp2_with fail
    refine (awake w).mono ?_
    rintro e w0 ⟨rfl, hb⟩
    have HB := Lib.hid hb
    have hs0 := hb.size
    clear hb
    go_wp2_with fail
    refine (Uint_any n (by omega) _ [] w0 (has_nil w0) (by simp)).mono ?_
    rintro e w1 ⟨v1, rfl, ho1, hb⟩
    have H1 := Lib.hid ho1.has
    have HB := Lib.hid (HB.out.trans (hb.mono hs0))
    have hs1 := HB.out.size
    clear ho1 hb
    go_wp2_with fail
    refine (Read_any _ ([] ++ Lib.uvarint n) _ H1.out (by simp; omega)).mono ?_
    rintro e w2 ⟨R, rfl, hR, hb⟩
    have hBR := hR.base
    have hRl := hR.lt
    have HR : Hid (Rd w2 w1.heap.size R (Lib.uvarint n ++ []) 0 false) := Lib.hid (by rw [List.append_nil]; exact hR)
    have HB := Lib.hid (HB.out.trans (hb.mono hs1))
    have hs2 := HB.out.size
    clear hR hb
    go_wp2_with (at_make; refine wpList_make_part rfl _ _ 25 rfl w2.heap.size 5 Try.underlying25 info_u8 _ _ _ _ n n rfl rfl rfl rfl (by omega) (by omega) (Nat.le_refl _) w2 (Below.refl _ _) ?_)
    intro zs w3 hz ho hb
    have HZ : Hid (zs.length = n) := hz
    have hk3 := ho.has.string Try.underlying25 Try.underlying5 Try.underlying9
    have HR := Lib.hid (HR.out.below hb)
    have HB := Lib.hid (HB.out.trans (hb.mono hs2))
    have hs3 := HB.out.size
    have hs23 := hb.size
    clear ho hb hz
    go_wp2_with fail
    have hsz : (⟨zs.toArray⟩ : ByteArray).size = n := HZ.out
    refine (Text_any ⟨zs.toArray⟩ _ [] w3 (has_nil w3) (by rw [hsz]; simp; omega)).mono ?_
    rintro e w4 ⟨v4, rfl, ho, hb⟩
    rw [hsz] at ho
    have H4 : Hid (Has w4 v4 (Lib.uvarint n ++ zs)) := Lib.hid ho.has
    have HR := Lib.hid (HR.out.below hb)
    have HB := Lib.hid (HB.out.trans (hb.mono hs3))
    have hs4 := HB.out.size
    have hs34 := hb.size
    clear ho hb hsz hk3
    go_wp2_with fail
    refine (Read_any _ (Lib.uvarint n ++ zs) _ H4.out (by rw [List.length_append, HZ.out]; omega)).mono ?_
    rintro e w5 ⟨Q, rfl, hQ, hb⟩
    have hBQ := hQ.base
    have HQ := Lib.hid hQ
    have HR := Lib.hid (HR.out.below hb)
    have HB := Lib.hid (HB.out.trans (hb.mono hs4))
    clear hQ hb
    go_wp2_with fail
    refine (Int_at _ _ R _ 0 false most m1 m2 HR.out _ _ _ HI.out).mono ?_
    rintro e w6 ⟨rfl, hR, ho⟩
    have HR := Lib.hid hR
    have HQ := Lib.hid (HQ.out.other ho (.inl (by omega)))
    have HB := Lib.hid (below_only HB.out ho (by omega))
    clear hR ho
    go_wp2_with fail
    refine (Text_at _ _ Q _ 0 false most m1 m2 HQ.out _ _ _ (HT.out zs HZ.out)).mono ?_
    rintro e w7 ⟨rfl, hQ, ho⟩
    have HQ := Lib.hid hQ
    have HR := Lib.hid (HR.out.other ho (.inr (by omega)))
    have HB := Lib.hid (below_only HB.out ho (by omega))
    clear hQ ho
    go_wp2_with fail
    refine (Err_at _ _ R _ _ true HR.out 14 (by decide)).mono ?_
    rintro e w8 ⟨rfl, hR, ho⟩
    have HQ := Lib.hid (HQ.out.other ho (.inl (by omega)))
    have HB := Lib.hid (below_only HB.out ho (by omega))
    clear hR ho HR
    go_wp2_with fail
    refine (Err_at _ _ Q _ _ true HQ.out 14 (by decide)).mono ?_
    rintro e w9 ⟨rfl, hQ, ho⟩
    have HB := Lib.hid (below_only HB.out ho (by omega))
    clear hQ ho HQ
    go_wp2
    go_ret
    exact ⟨rfl, HB.out⟩
  · have HI := Lib.hid (by have := HI.out; rw [if_neg hm] at this; exact this : rI (Lib.uvarint n ++ []) 0 false most = (n, (Lib.uvarint n).length, false))
    have HT : Hid (∀ t : List UInt8, t.length = n → rT (Lib.uvarint n ++ t) 0 false most = (t, (Lib.uvarint n).length + n, false)) := Lib.hid (fun t ht => by have := HT.out t ht; rw [if_neg hm] at this; exact this)
    go_enter Try.func8, Try.ntmps8
    go_wp2_with fail
    refine (awake w).mono ?_
    rintro e w0 ⟨rfl, hb⟩
    have HB := Lib.hid hb
    have hs0 := hb.size
    clear hb
    go_wp2_with fail
    refine (Uint_any n (by omega) _ [] w0 (has_nil w0) (by simp)).mono ?_
    rintro e w1 ⟨v1, rfl, ho1, hb⟩
    have H1 := Lib.hid ho1.has
    have HB := Lib.hid (HB.out.trans (hb.mono hs0))
    have hs1 := HB.out.size
    clear ho1 hb
    go_wp2_with fail
    refine (Read_any _ ([] ++ Lib.uvarint n) _ H1.out (by simp; omega)).mono ?_
    rintro e w2 ⟨R, rfl, hR, hb⟩
    have hBR := hR.base
    have hRl := hR.lt
    have HR : Hid (Rd w2 w1.heap.size R (Lib.uvarint n ++ []) 0 false) := Lib.hid (by rw [List.append_nil]; exact hR)
    have HB := Lib.hid (HB.out.trans (hb.mono hs1))
    have hs2 := HB.out.size
    clear hR hb
    go_wp2_with (at_make; refine wpList_make_part rfl _ _ 25 rfl w2.heap.size 5 Try.underlying25 info_u8 _ _ _ _ n n rfl rfl rfl rfl (by omega) (by omega) (Nat.le_refl _) w2 (Below.refl _ _) ?_)
    intro zs w3 hz ho hb
    have HZ : Hid (zs.length = n) := hz
    have hk3 := ho.has.string Try.underlying25 Try.underlying5 Try.underlying9
    have HR := Lib.hid (HR.out.below hb)
    have HB := Lib.hid (HB.out.trans (hb.mono hs2))
    have hs3 := HB.out.size
    have hs23 := hb.size
    clear ho hb hz
    go_wp2_with fail
    have hsz : (⟨zs.toArray⟩ : ByteArray).size = n := HZ.out
    refine (Text_any ⟨zs.toArray⟩ _ [] w3 (has_nil w3) (by rw [hsz]; simp; omega)).mono ?_
    rintro e w4 ⟨v4, rfl, ho, hb⟩
    rw [hsz] at ho
    have H4 : Hid (Has w4 v4 (Lib.uvarint n ++ zs)) := Lib.hid ho.has
    have HR := Lib.hid (HR.out.below hb)
    have HB := Lib.hid (HB.out.trans (hb.mono hs3))
    have hs4 := HB.out.size
    have hs34 := hb.size
    clear ho hb hsz hk3
    go_wp2_with fail
    refine (Read_any _ (Lib.uvarint n ++ zs) _ H4.out (by rw [List.length_append, HZ.out]; omega)).mono ?_
    rintro e w5 ⟨Q, rfl, hQ, hb⟩
    have hBQ := hQ.base
    have HQ := Lib.hid hQ
    have HR := Lib.hid (HR.out.below hb)
    have HB := Lib.hid (HB.out.trans (hb.mono hs4))
    clear hQ hb
    go_wp2_with fail
    refine (Int_at _ _ R _ 0 false most m1 m2 HR.out _ _ _ HI.out).mono ?_
    rintro e w6 ⟨rfl, hR, ho⟩
    have HR := Lib.hid hR
    have HQ := Lib.hid (HQ.out.other ho (.inl (by omega)))
    have HB := Lib.hid (below_only HB.out ho (by omega))
    clear hR ho
    go_wp2_with fail
    refine (Text_at _ _ Q _ 0 false most m1 m2 HQ.out _ _ _ (HT.out zs HZ.out)).mono ?_
    rintro e w7 ⟨rfl, hQ, ho⟩
    have HQ := Lib.hid hQ
    have HR := Lib.hid (HR.out.other ho (.inr (by omega)))
    have HB := Lib.hid (below_only HB.out ho (by omega))
    clear hQ ho
    have hzn : ((zs.length : Int) == (n : Int)) = true := by rw [HZ.out]; simp
    go_wp2_with fail
    refine (End_at _ _ R _ _ false HR.out 0 (if_neg (by simp))).mono ?_
    rintro e w8 ⟨rfl, hR, ho⟩
    have HQ := Lib.hid (HQ.out.other ho (.inl (by omega)))
    have HB := Lib.hid (below_only HB.out ho (by omega))
    clear hR ho HR
    go_wp2_with fail
    refine (End_at _ _ Q _ _ false HQ.out 0 (if_neg (by simp [HZ.out]))).mono ?_
    rintro e w9 ⟨rfl, hQ, ho⟩
    have HB := Lib.hid (below_only HB.out ho (by omega))
    clear hQ ho HQ
    go_wp2
    go_ret
    exact ⟨rfl, HB.out⟩
theorem walk (a0 a1 : Int) (w0 : (Lit.int .i64 a0).wf = true) (w1 : (Lit.int .i64 a1).wf = true) (w : World) :
    Calls Try.prog 8 #[.int .i64 a0, .int .i64 a1] w fun e w' => e = .returned (.bool true) ∧ Below w.heap.size w w' := by
  by_cases h0 : a0 < 0
  · go_enter Try.func8, Try.ntmps8
    go_wp2_with (first | (go_at_call 9; refine (awake _).mono ?_; rintro e w1 ⟨rfl, hb⟩; have HB := Lib.hid hb; clear hb))
    go_ret
    exact ⟨rfl, HB.out⟩
  · by_cases h1 : 300 < a0
    · go_enter Try.func8, Try.ntmps8
      go_wp2_with (first | (go_at_call 9; refine (awake _).mono ?_; rintro e w1 ⟨rfl, hb⟩; have HB := Lib.hid hb; clear hb))
      go_ret
      exact ⟨rfl, HB.out⟩
    · obtain ⟨n, rfl⟩ : ∃ n : Nat, a0 = n := ⟨a0.toNat, by omega⟩
      exact inner n a1 (by omega) (i64_bd w1).1 (i64_bd w1).2 w

set_option maxRecDepth 100000 in
theorem lifted (os : Os) (started : os.Started) (H : Type) (enc : TypeId × Value → H) :
    ReturnsInHanded {} Try.checked os 8 .any (Rows.binMostSpec.pre6 enc Try.prog Try.f8 Rows.binMostRow.domain false) (Rows.binMostSpec.post enc Try.prog Try.f8 false true false false) := by
  refine returnsInHanded_of_change (C := Try.checked) own started (by kernel_rfl) Try.func8
    (ChangeSpec.witness6 (enc := enc) (C := Try.checked) false ⟨#[], #[.int .i64 0, .int .i64 0], []⟩ 8 (by kernel_rfl) (by kernel_rfl) (by kernel_rfl) (by kernel_rfl)) ?_
  intro W base args ds gs before hval0 hW hcnd _
  have hval : ∀ (j : Nat) t v, Try.f8.params[j]? = some t → args[j]? = some v → Value.okWide Try.prog W .any base t v := hval0
  have hW' := hW
  obtain ⟨p, q, hA0, hV, rfl, hfz, hnd⟩ := hW
  have hA : DataW.TrodAll enc Try.prog W 0 (fun _ => true) true Try.f8.params.toList args.toList ds p := hA0
  have hAk := hA
  rw [Try.params8] at hA hval
  obtain ⟨v0, vs0, d0, ds0, p0, q0, hargs, rfl, rfl, h0, r0⟩ := trodAll_cons hA
  obtain ⟨v1, vs1, d1, ds1, p1, q1, rfl, rfl, rfl, h1, r1⟩ := trodAll_cons r0
  obtain ⟨rfl, rfl, rfl⟩ := trodAll_nil r1
  obtain rfl : args = #[v0, v1] := by cases args; simp_all
  obtain ⟨rfl, rfl⟩ := trodVars_none hV
  obtain ⟨a0, rfl, rfl, rfl, w0⟩ := open_int Try.underlying3 (hval 0 3 v0 rfl rfl) h0
  obtain ⟨a1, rfl, rfl, rfl, w1⟩ := open_int Try.underlying3 (hval 1 3 v1 rfl rfl) h1
  clear hA0 hval0
  refine (walk a0 a1 w0 w1 W).mono fun e W' ⟨he, hb⟩ => ?_
  subst he
  exact ⟨_, rfl, law_post laidOut rfl hW' hAk (by rw [Try.params8]; intro t ht; revert t; decide +kernel) (by kernel_rfl) Try.underlying4 rfl hb⟩

theorem over : Rows.binMostRow.holds Try.pinned (OpenSpec.ofChange Rows.binMostSpec) :=
  OpenClaim.holds_of_wide 8 Try.f8 rfl rfl rfl rfl rfl rfl rfl ⟨rfl, rfl, rfl, rfl, rfl⟩ rfl rfl rfl rfl rfl (by kernel_rfl) Try.func8 (by kernel_rfl)
    (of_decide_eq_true (by kernel_rfl)) (by unfold Func.isWrapper; first | (rw [if_pos (by decide +kernel)]; kernel_rfl) | (rw [if_neg (by decide +kernel)]; exact ⟨rfl, rfl⟩))
    (fun os started H enc _ => lifted os started H enc)

/-- The statement. -/
theorem proved : Rows.BinMostSaid :=
  over
#print axioms proved
end Go.Proofs.Ytlmpokkpkglbfaa.binMost
