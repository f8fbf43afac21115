/-
  The statement BinReads holds: whatever bytes are read, whatever things are asked of them and whatever the limit, the reader answers as the document reads, and the arguments read as before. No condition.
-/
import Derived.Test.YtlmpokkpkglbfaaRows
import Derived.Test.YtlmpokkpkglbfaaStay
import Derived.Test.YtlmpokkpkglbfaaReadsWalk
import Derived.Test.YtlmpokkpkglbfaaOpenB
import Derived.WalkKit
import Derived.ProofKit
import Derived.OpenShut
import Derived.SizedLaws
namespace Go.Proofs.Ytlmpokkpkglbfaa.binReads
open Go.ChangeShapes Go.WideShapes Go.ChangeAt Go.RowKit Go.Deep
set_option linter.unusedVariables false

theorem own : ownKnob Try.prog.godebug = none := by kernel_rfl
theorem laidOut : laidOutB Try.prog = true := by kernel_rfl
theorem i64_bd {n : Int} (h : (Lit.int .i64 n).wf = true) : -9223372036854775808 ≤ n ∧ n ≤ 9223372036854775807 := by simp only [Lit.wf, Bool.and_eq_true, decide_eq_true_eq] at h; exact h
set_option maxRecDepth 100000 in
theorem walk_long (v : Value) (q : Option Addr) (m cm : Nat) (most : Int) (w : World) (hm : 50 < (m : Int)) :
    Calls Try.prog 5 #[v, .slice q m cm, .int .i64 most] w fun e w' => e = .returned (.bool true) ∧ Below w.heap.size w w' := by
  go_enter Try.func5, Try.ntmps5
  go_wp2_with (first | (go_at_call 9; refine (awake _).mono ?_; rintro e w1 ⟨rfl, hb⟩; have HB := Lib.hid hb; clear hb))
  go_ret
  exact ⟨rfl, HB.out⟩
theorem walk (w : World) (v : Value) (l : List UInt8) (q : Option Addr) (n c b o : Nat) (Z : Nat → Int) (most : Int) (hv : HasA w v l) (g : l.length ≤ 140737488351232) (hl : n ≤ c) (hm : c ≤ maxLen) (hr : c * 8 ≤ 140737488351232)
    (hp : 0 < n → q = some ⟨b, o, none⟩ ∧ b < w.heap.size) (hZ : ∀ i, i < n → w.cell? ⟨b, o + i, none⟩ = some (.int .i64 (Z i)) ∧ (Lit.int .i64 (Z i)).wf = true) (hw : (Lit.int .i64 most).wf = true) :
    Calls Try.prog 5 #[v, .slice q n c, .int .i64 most] w fun e w' => e = .returned (.bool true) ∧ Below w.heap.size w w' := by
  by_cases h50 : 50 < (n : Int)
  · exact walk_long v q n c most w h50
  · exact walk0 v l q n c b o Z most w (i64_bd hw).1 (i64_bd hw).2 hv (by omega) (by omega) hl hp (fun i hi => (hZ i hi).1)

set_option maxRecDepth 100000 in
theorem lifted (os : Os) (started : os.Started) (H : Type) (enc : TypeId × Value → H) :
    ReturnsInHanded {} Try.checked os 5 .any (Rows.binReadsSpec.pre6 enc Try.prog Try.f5 Rows.binReadsRow.domain false) (Rows.binReadsSpec.post enc Try.prog Try.f5 false true false false) := by
  refine returnsInHanded_of_change_sized (C := Try.checked) own started (by kernel_rfl) Try.func5
    (ChangeSpec.witness6 (enc := enc) (C := Try.checked) false ⟨#[], #[.slice none 0 0, .slice none 0 0, .int .i64 0], []⟩ 8 (by kernel_rfl) (by kernel_rfl) (by kernel_rfl) (by kernel_rfl)) ?_
  intro W base args ds gs before hval0 hW hcnd hsz0 _
  have hsz : (DataW.weightsEach Try.prog (Try.f5.params.toList ++ Rows.binReadsSpec.plain.varTypes Try.prog) (ds ++ gs)).all (· ≤ reachBytes) = true := hsz0
  clear hsz0
  have hval : ∀ (j : Nat) t v, Try.f5.params[j]? = some t → args[j]? = some v → Value.okWide Try.prog W .any base t v := hval0
  have hW' := hW
  obtain ⟨p, q, hA0, hV, rfl, hfz, hnd⟩ := hW
  have hA : DataW.TrodAll enc Try.prog W 0 (fun _ => true) true Try.f5.params.toList args.toList ds p := hA0
  have hAk := hA
  rw [Try.params5] at hA hval hsz
  obtain ⟨v0, vs0, d0, ds0, p0, q0, hargs, rfl, rfl, h0, r0⟩ := trodAll_cons hA
  obtain ⟨v1, vs1, d1, ds1, p1, q1, rfl, rfl, rfl, h1, r1⟩ := trodAll_cons r0
  obtain ⟨v2, vs2, d2, ds2, p2, q2, rfl, rfl, rfl, h2, r2⟩ := trodAll_cons r1
  obtain ⟨rfl, rfl, rfl⟩ := trodAll_nil r2
  obtain rfl : args = #[v0, v1, v2] := by cases args; simp_all
  obtain ⟨rfl, rfl⟩ := trodVars_none hV
  obtain ⟨pt0, len0, cap0, rfl⟩ := okWide_slice Try.underlying25 (hval 0 25 v0 rfl rfl)
  obtain ⟨hl0, hm0, hs0, b0, o0, Z0, hp0, hZ0⟩ := open_rows (P := Try.prog) Try.underlying25 Try.underlying5 (by kernel_rfl) h0
  have hr0 := cap_reach hsz (j := 0) (t := 25) (b := 1) rfl rfl Try.underlying25 (by kernel_rfl) hs0
  obtain ⟨l0, hlen0, w0⟩ := hasA_of_rows hl0 hm0 hp0 hZ0
  have g0 : l0.length ≤ 140737488351232 := by omega
  obtain ⟨pt1, len1, cap1, rfl⟩ := okWide_slice Try.underlying38 (hval 1 38 v1 rfl rfl)
  obtain ⟨hl1, hm1, hs1, b1, o1, Z1, hp1, hZ1⟩ := open_rows (P := Try.prog) Try.underlying38 Try.underlying3 (by kernel_rfl) h1
  have hr1 := cap_reach hsz (j := 1) (t := 38) (b := 8) rfl rfl Try.underlying38 (by kernel_rfl) hs1
  obtain ⟨a2, rfl, rfl, rfl, w2⟩ := open_int Try.underlying3 (hval 2 3 v2 rfl rfl) h2
  clear hA0 hval0
  refine (walk W (.slice pt0 len0 cap0) l0 pt1 len1 cap1 b1 o1 Z1 a2 w0 g0 hl1 hm1 hr1 hp1 hZ1 w2).mono fun e W' ⟨he, hb⟩ => ?_
  subst he
  exact ⟨_, rfl, law_post laidOut rfl hW' hAk (by rw [Try.params5]; intro t ht; revert t; decide +kernel) (by kernel_rfl) Try.underlying4 rfl hb⟩

theorem over : Rows.binReadsRow.holds Try.pinned (OpenSpec.ofChange Rows.binReadsSpec) :=
  OpenClaim.holds_of_wide 5 Try.f5 rfl rfl rfl rfl rfl rfl rfl ⟨rfl, rfl, rfl, rfl, rfl⟩ rfl rfl rfl rfl rfl (by kernel_rfl) Try.func5 (by kernel_rfl)
    (of_decide_eq_true (by kernel_rfl)) (by unfold Func.isWrapper; first | (rw [if_pos (by decide +kernel)]; kernel_rfl) | (rw [if_neg (by decide +kernel)]; exact ⟨rfl, rfl⟩))
    (fun os started H enc _ => lifted os started H enc)

/-- The statement. -/
theorem proved : Rows.BinReadsSaid :=
  over
#print axioms proved
end Go.Proofs.Ytlmpokkpkglbfaa.binReads
