/-
  The statement BinCut holds: for every number, every text and every cut the law answers true, and its arguments read as before. No condition.
-/
import Derived.Test.YtlmpokkpkglbfaaRows
import Derived.Test.YtlmpokkpkglbfaaStay
import Derived.Test.YtlmpokkpkglbfaaBinAwake
import Derived.Test.YtlmpokkpkglbfaaCutNum
import Derived.WalkKit
import Derived.ProofKit
import Derived.OpenShut
namespace Go.Proofs.Ytlmpokkpkglbfaa.binCut
open Go.ChangeShapes Go.WideShapes Go.ChangeAt Go.RowKit Go.Deep
set_option linter.unusedVariables false

theorem own : ownKnob Try.prog.godebug = none := by kernel_rfl
theorem laidOut : laidOutB Try.prog = true := by kernel_rfl
theorem i64_bd {n : Int} (h : (Lit.int .i64 n).wf = true) : -9223372036854775808 ≤ n ∧ n ≤ 9223372036854775807 := by simp only [Lit.wf, Bool.and_eq_true, decide_eq_true_eq] at h; exact h
theorem u64_bd {n : Int} (h : (Lit.int .u64 n).wf = true) : 0 ≤ n ∧ n ≤ 18446744073709551615 := by simp only [Lit.wf, Bool.and_eq_true, decide_eq_true_eq] at h; exact h
theorem has_take {w : World} {p : Option Addr} {cap : Nat} {L : List UInt8} (h : Has w (.slice p L.length cap) L) (c : Nat) (hc : c ≤ L.length) : Has w (.slice p c cap) (L.take c) := by
  rcases h with ⟨hv, rfl⟩ | ⟨b, o, cap', hv, h1, h2, h3, hcell⟩
  · obtain rfl : c = 0 := by simpa using hc
    exact .inl ⟨hv, by simp⟩
  · simp only [Value.slice.injEq, true_and] at hv
    obtain ⟨rfl, rfl⟩ := hv
    refine .inr ⟨b, o, cap, by rw [List.length_take, Nat.min_eq_left hc], by rw [List.length_take]; omega, h2, h3, fun j hj => ?_⟩
    rw [List.length_take] at hj
    rw [List.getElem_take]
    exact hcell j (by omega)

set_option maxRecDepth 100000 in
set_option maxHeartbeats 2000000 in
theorem inner (v : Nat) (hv : v < 18446744073709551616) (s : ByteArray) (hs : (s.size : Int) ≤ 500) (cut : Int) (w : World) :
    Calls Try.prog 7 #[.int .u64 v, .string s, .int .i64 cut] w fun e w' => e = .returned (.bool true) ∧ Below w.heap.size w w' := by
  have hul : (Lib.uvarint v).length ≤ 10 := uv_len hv
  have hul2 : (Lib.uvarint s.size).length ≤ 10 := uv_len (by omega)
  obtain ⟨L, hL⟩ : ∃ L, L = Lib.uvarint v ++ (Lib.uvarint s.size ++ s.data.toList) := ⟨_, rfl⟩
  have hsz : s.data.toList.length = s.size := by rw [Array.length_toList]; rfl
  have hcut : ∀ c : Nat, c < L.length → ∃ x a1 f1 a2, rU (L.take c) 0 false = (x, a1, f1) ∧ rT (L.take c) a1 f1 s.size = ([], a2, true) := by
    intro c hc
    subst hL
    have := cut_fails v hv s.data.toList (by rw [hsz]; omega) c (by rw [hsz]; exact hc)
    rwa [hsz] at this
  have hLl : (L.length : Int) ≤ 520 := by rw [hL]; simp only [List.length_append]; omega
  have HL := Lib.hid hL
  have HC := Lib.hid hcut
  clear hL hcut hsz
  have VV := Lib.hid hv
  clear hv
  go_enter Try.func7, Try.ntmps7
  go_wp2_with fail
  refine (awake w).mono ?_
  rintro e w0 ⟨rfl, hb⟩
  have HB := Lib.hid hb
  have hs0 := hb.size
  clear hb
  go_wp2_with fail
  refine (Uint_any v VV.out _ [] w0 (has_nil w0) (by simp)).mono ?_
  rintro e w1 ⟨v1, rfl, ho1, hb⟩
  have H1 := Lib.hid ho1.has
  have HB := Lib.hid (HB.out.trans (hb.mono hs0))
  have hs1 := HB.out.size
  clear ho1 hb
  go_wp2_with fail
  refine (Text_any s _ ([] ++ Lib.uvarint v) w1 H1.out (by simp; omega)).mono ?_
  rintro e w2 ⟨v2, rfl, ho, hb⟩
  have h2 : Has w2 v2 L := by have := ho.has; rw [List.nil_append, ← HL.out] at this; exact this
  obtain ⟨p, cap, rfl, hc1, hc2⟩ := h2.form
  have H2 := Lib.hid h2
  have HB := Lib.hid (HB.out.trans (hb.mono hs1))
  have hs2 := HB.out.size
  clear ho hb h2
  by_cases c0 : cut < 0
  · go_wp2
    go_ret
    exact ⟨rfl, HB.out⟩
  · obtain ⟨c, rfl⟩ : ∃ c : Nat, cut = c := ⟨cut.toNat, by omega⟩
    by_cases c1 : c < L.length
    · obtain ⟨x, a1, f1, a2, hu, ht⟩ := HC.out c c1
      have HU := Lib.hid hu
      have HT := Lib.hid ht
      have HK := Lib.hid (has_take H2.out c (by omega))
      have hcc : (c : Int) ≤ (cap : Int) := by omega
      clear hu ht
      go_wp2_with fail
      refine (Read_any _ (L.take c) _ HK.out (by rw [List.length_take]; omega)).mono ?_
      rintro e w3 ⟨R, rfl, hR, hb⟩
      have hBR := hR.base
      have HR := Lib.hid hR
      have HB := Lib.hid (HB.out.trans (hb.mono hs2))
      clear hR hb
      go_wp2_with fail
      refine (Uint_at _ _ R _ 0 false HR.out _ _ _ HU.out).mono ?_
      rintro e w4 ⟨rfl, hR, ho⟩
      have HR := Lib.hid hR
      have HB := Lib.hid (below_only HB.out ho (by omega))
      clear hR ho
      go_wp2_with fail
      refine (Text_at _ _ R _ a1 f1 s.size (by omega) (by omega) HR.out _ _ _ HT.out).mono ?_
      rintro e w5 ⟨rfl, hR, ho⟩
      have HR := Lib.hid hR
      have HB := Lib.hid (below_only HB.out ho (by omega))
      clear hR ho
      go_wp2_with fail
      refine (Err_at _ _ R _ a2 true HR.out 14 (by decide)).mono ?_
      rintro e w6 ⟨rfl, hR, ho⟩
      have HR := Lib.hid hR
      have HB := Lib.hid (below_only HB.out ho (by omega))
      clear hR ho
      go_wp2_with fail
      refine (End_at _ _ R _ a2 true HR.out 14 (if_pos (.inl rfl))).mono ?_
      rintro e w7 ⟨rfl, hR, ho⟩
      have HR := Lib.hid hR
      have HB := Lib.hid (below_only HB.out ho (by omega))
      clear hR ho
      go_wp2_with fail
      refine (Left_at _ _ R _ a2 true HR.out 0 (if_pos rfl)).mono ?_
      rintro e w8 ⟨rfl, hR, ho⟩
      have HR := Lib.hid hR
      have HB := Lib.hid (below_only HB.out ho (by omega))
      clear hR ho
      go_wp2_with fail
      refine (Uint_at _ _ R _ a2 true HR.out _ _ _ (rU_failed _ _)).mono ?_
      rintro e w9 ⟨rfl, hR, ho⟩
      have HR := Lib.hid hR
      have HB := Lib.hid (below_only HB.out ho (by omega))
      clear hR ho
      go_wp2_with fail
      refine (Text_at _ _ R _ a2 true 5 (by decide) (by decide) HR.out _ _ _ (rT_failed _ _ _)).mono ?_
      rintro e w10 ⟨rfl, hR, ho⟩
      have HR := Lib.hid hR
      have HB := Lib.hid (below_only HB.out ho (by omega))
      clear hR ho
      go_wp2_with fail
      refine (Byte_at _ _ R _ a2 true HR.out _ _ _ (rB_failed _ _)).mono ?_
      rintro e w11 ⟨rfl, hR, ho⟩
      have HR := Lib.hid hR
      have HB := Lib.hid (below_only HB.out ho (by omega))
      clear hR ho
      go_wp2_with fail
      refine (Int_at _ _ R _ a2 true 9 (by decide) (by decide) HR.out _ _ _ (rI_failed _ _ _)).mono ?_
      rintro e w12 ⟨rfl, hR, ho⟩
      have HB := Lib.hid (below_only HB.out ho (by omega))
      clear hR ho HR
      go_wp2
      go_ret
      exact ⟨rfl, HB.out⟩
    · go_wp2
      go_ret
      exact ⟨rfl, HB.out⟩
set_option maxRecDepth 100000 in
theorem walk (a0 : Int) (a1 : ByteArray) (a2 : Int) (w0 : (Lit.int .u64 a0).wf = true) (w1 : a1.size ≤ maxLen) (w2 : (Lit.int .i64 a2).wf = true) (w : World) :
    Calls Try.prog 7 #[.int .u64 a0, .string a1, .int .i64 a2] w fun e w' => e = .returned (.bool true) ∧ Below w.heap.size w w' := by
  have v0 := u64_bd w0
  obtain ⟨n, rfl⟩ : ∃ n : Nat, a0 = n := ⟨a0.toNat, by omega⟩
  by_cases h0 : 500 < (a1.size : Int)
  · clear v0 w0 w1 w2
    go_enter Try.func7, Try.ntmps7
    go_wp2_with (first | (go_at_call 9; refine (awake _).mono ?_; rintro e w1 ⟨rfl, hb⟩; have HB := Lib.hid hb; clear hb))
    go_ret
    exact ⟨rfl, HB.out⟩
  · exact inner n (by omega) a1 (by omega) a2 w

set_option maxRecDepth 100000 in
theorem lifted (os : Os) (started : os.Started) (H : Type) (enc : TypeId × Value → H) :
    ReturnsInHanded {} Try.checked os 7 .any (Rows.binCutSpec.pre6 enc Try.prog Try.f7 Rows.binCutRow.domain false) (Rows.binCutSpec.post enc Try.prog Try.f7 false true false false) := by
  refine returnsInHanded_of_change (C := Try.checked) own started (by kernel_rfl) Try.func7
    (ChangeSpec.witness6 (enc := enc) (C := Try.checked) false ⟨#[], #[.int .u64 0, .string ⟨#[]⟩, .int .i64 0], []⟩ 8 (by kernel_rfl) (by kernel_rfl) (by kernel_rfl) (by kernel_rfl)) ?_
  intro W base args ds gs before hval0 hW hcnd _
  have hval : ∀ (j : Nat) t v, Try.f7.params[j]? = some t → args[j]? = some v → Value.okWide Try.prog W .any base t v := hval0
  have hW' := hW
  obtain ⟨p, q, hA0, hV, rfl, hfz, hnd⟩ := hW
  have hA : DataW.TrodAll enc Try.prog W 0 (fun _ => true) true Try.f7.params.toList args.toList ds p := hA0
  have hAk := hA
  rw [Try.params7] at hA hval
  obtain ⟨v0, vs0, d0, ds0, p0, q0, hargs, rfl, rfl, h0, r0⟩ := trodAll_cons hA
  obtain ⟨v1, vs1, d1, ds1, p1, q1, rfl, rfl, rfl, h1, r1⟩ := trodAll_cons r0
  obtain ⟨v2, vs2, d2, ds2, p2, q2, rfl, rfl, rfl, h2, r2⟩ := trodAll_cons r1
  obtain ⟨rfl, rfl, rfl⟩ := trodAll_nil r2
  obtain rfl : args = #[v0, v1, v2] := by cases args; simp_all
  obtain ⟨rfl, rfl⟩ := trodVars_none hV
  obtain ⟨a0, rfl, rfl, rfl, w0⟩ := open_int Try.underlying32 (hval 0 32 v0 rfl rfl) h0
  obtain ⟨a1, rfl, rfl, rfl, w1⟩ := ChangeMaps.open_string Try.underlying9 (hval 1 9 v1 rfl rfl) h1
  obtain ⟨a2, rfl, rfl, rfl, w2⟩ := open_int Try.underlying3 (hval 2 3 v2 rfl rfl) h2
  clear hA0 hval0
  refine (walk a0 a1 a2 w0 w1 w2 W).mono fun e W' ⟨he, hb⟩ => ?_
  subst he
  exact ⟨_, rfl, law_post laidOut rfl hW' hAk (by rw [Try.params7]; intro t ht; revert t; decide +kernel) (by kernel_rfl) Try.underlying4 rfl hb⟩

theorem over : Rows.binCutRow.holds Try.pinned (OpenSpec.ofChange Rows.binCutSpec) :=
  OpenClaim.holds_of_wide 7 Try.f7 rfl rfl rfl rfl rfl rfl rfl ⟨rfl, rfl, rfl, rfl, rfl⟩ rfl rfl rfl rfl rfl (by kernel_rfl) Try.func7 (by kernel_rfl)
    (of_decide_eq_true (by kernel_rfl)) (by unfold Func.isWrapper; first | (rw [if_pos (by decide +kernel)]; kernel_rfl) | (rw [if_neg (by decide +kernel)]; exact ⟨rfl, rfl⟩))
    (fun os started H enc _ => lifted os started H enc)

/-- The statement. -/
theorem proved : Rows.BinCutSaid :=
  over
#print axioms proved
end Go.Proofs.Ytlmpokkpkglbfaa.binCut
