/-
  The statement DotBytes holds: any bytes are a set of dots or are refused; those that are read are laid as they were. No condition.
-/
import Derived.Test.YtfgfamafjkjakaaRows
import Derived.Test.YtfgfamafjkjakaaStay
import Derived.Test.YtfgfamafjkjakaaDotBytesA
import Derived.Test.YtfgfamafjkjakaaDotsOf
import Derived.Test.YtfgfamafjkjakaaOpenG
import Derived.WalkKit
import Derived.ProofKit
import Derived.OpenShut
import Derived.SizedLaws
namespace Go.Proofs.Ytfgfamafjkjakaa.dotBytes
open Go.ChangeShapes Go.WideShapes Go.ChangeAt Go.RowKit Go.Deep
set_option linter.unusedVariables false
set_option linter.unusedSimpArgs false

theorem own : ownKnob Try.prog.godebug = none := by kernel_rfl
theorem laidOut : laidOutB Try.prog = true := by kernel_rfl
theorem walk (W : World) (v : Value) (l : List UInt8) (p : Option Addr) (n cap b o : Nat) (a2 a3 : Int) (hv : HasA W v l) (g0 : l.length ≤ 140737488351232) (hl : n ≤ cap) (hm : cap ≤ maxLen) (hp : 0 < n → p = some ⟨b, o, none⟩ ∧ b < W.heap.size) (hQ : ∃ (D : Nat → Int) (N : Nat → Nat), Dots W b o n D N) (w2 : (Lit.int .i64 a2).wf = true) (w3 : (Lit.int .u8 a3).wf = true) :
    Calls Try.prog 6 #[v, .slice p n cap, .int .i64 a2, .int .u8 a3] W fun e w' => e = .returned (.bool true) ∧ Below W.heap.size W w' := by
  obtain ⟨D, N, hD⟩ := hQ
  exact DotBytes_any v l p n cap b o D N a2 a3 W hv (by omega) (fun h => (hp h).1) hl hm hD w2 w3

set_option maxRecDepth 100000 in
theorem lifted (os : Os) (started : os.Started) (H : Type) (enc : TypeId × Value → H) :
    ReturnsInHanded {} Try.checked os 6 .any (Rows.dotBytesSpec.pre6 enc Try.prog Try.f6 Rows.dotBytesRow.domain false) (Rows.dotBytesSpec.post enc Try.prog Try.f6 false true false false) := by
  refine returnsInHanded_of_change_sized (C := Try.checked) own started (by kernel_rfl) Try.func6
    (ChangeSpec.witness6 (enc := enc) (C := Try.checked) false ⟨#[], #[.slice none 0 0, .slice none 0 0, .int .i64 0, .int .u8 0], []⟩ 8 (by kernel_rfl) (by kernel_rfl) (by kernel_rfl) (by kernel_rfl)) ?_
  intro W base args ds gs before hval0 hW hcnd hsz0 _
  have hsz : (DataW.weightsEach Try.prog (Try.f6.params.toList ++ Rows.dotBytesSpec.plain.varTypes Try.prog) (ds ++ gs)).all (· ≤ reachBytes) = true := hsz0
  clear hsz0
  have hval : ∀ (j : Nat) t v, Try.f6.params[j]? = some t → args[j]? = some v → Value.okWide Try.prog W .any base t v := hval0
  have hW' := hW
  obtain ⟨p, q, hA0, hV, rfl, hfz, hnd⟩ := hW
  have hA : DataW.TrodAll enc Try.prog W 0 (fun _ => true) true Try.f6.params.toList args.toList ds p := hA0
  have hAk := hA
  rw [Try.params6] at hA hval hsz
  obtain ⟨v0, vs0, d0, ds0, p0, q0, hargs, rfl, rfl, h0, r0⟩ := trodAll_cons hA
  obtain ⟨v1, vs1, d1, ds1, p1, q1, rfl, rfl, rfl, h1, r1⟩ := trodAll_cons r0
  obtain ⟨v2, vs2, d2, ds2, p2, q2, rfl, rfl, rfl, h2, r2⟩ := trodAll_cons r1
  obtain ⟨v3, vs3, d3, ds3, p3, q3, rfl, rfl, rfl, h3, r3⟩ := trodAll_cons r2
  obtain ⟨rfl, rfl, rfl⟩ := trodAll_nil r3
  obtain rfl : args = #[v0, v1, v2, v3] := by cases args; simp_all
  obtain ⟨rfl, rfl⟩ := trodVars_none hV
  obtain ⟨pt0, len0, cap0, rfl⟩ := okWide_slice Try.underlying28 (hval 0 28 v0 rfl rfl)
  obtain ⟨hl0, hm0, hs0, b0, o0, Z0, hp0, hZ0⟩ := open_rows (P := Try.prog) Try.underlying28 Try.underlying5 (by kernel_rfl) h0
  have hr0 := cap_reach hsz (j := 0) (t := 28) (b := 1) rfl rfl Try.underlying28 (by kernel_rfl) hs0
  obtain ⟨l0, hlen0, w0⟩ := hasA_of_rows hl0 hm0 hp0 hZ0
  have g0 : l0.length ≤ 140737488351232 := by omega
  obtain ⟨pt1, len1, cap1, rfl⟩ := okWide_slice Try.underlying36 (hval 1 36 v1 rfl rfl)
  obtain ⟨hl1, hm1, hs1, b1, o1, hp1, hF1⟩ := open_structsR hsz (j := 1) (t := 36) rfl rfl Try.underlying36 Try.underlying32 (by kernel_rfl) (by kernel_rfl) (by decide) h1
  have hQ1 := dots_of Try.underlying32 hF1
  obtain ⟨a2, rfl, rfl, rfl, w2⟩ := open_int Try.underlying3 (hval 2 3 v2 rfl rfl) h2
  obtain ⟨a3, rfl, rfl, rfl, w3⟩ := open_int Try.underlying5 (hval 3 5 v3 rfl rfl) h3
  clear hA0 hval0
  refine (walk W (.slice pt0 len0 cap0) l0 pt1 len1 cap1 b1 o1 a2 a3 w0 g0 hl1 hm1 hp1 hQ1 w2 w3).mono fun e W' ⟨he, hb⟩ => ?_
  subst he
  exact ⟨_, rfl, law_post laidOut rfl hW' hAk (by rw [Try.params6]; intro t ht; revert t; decide +kernel) (by kernel_rfl) Try.underlying4 rfl hb⟩

theorem over : Rows.dotBytesRow.holds Try.pinned (OpenSpec.ofChange Rows.dotBytesSpec) :=
  OpenClaim.holds_of_wide 6 Try.f6 rfl rfl rfl rfl rfl rfl rfl ⟨rfl, rfl, rfl, rfl, rfl⟩ rfl rfl rfl rfl rfl (by kernel_rfl) Try.func6 (by kernel_rfl)
    (of_decide_eq_true (by kernel_rfl)) (by unfold Func.isWrapper; first | (rw [if_pos (by decide +kernel)]; kernel_rfl) | (rw [if_neg (by decide +kernel)]; exact ⟨rfl, rfl⟩))
    (fun os started H enc _ => lifted os started H enc)

/-- The statement. -/
theorem proved : Rows.DotBytesSaid :=
  over
#print axioms proved
end Go.Proofs.Ytfgfamafjkjakaa.dotBytes
