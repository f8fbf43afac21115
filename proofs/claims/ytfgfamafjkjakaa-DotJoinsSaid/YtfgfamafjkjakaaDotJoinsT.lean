/-
  A row of dots that came in, opened.
  The statement DotJoins holds: what sets of dots make when they are joined, in any order and again, is the set of all their dots; what is within what. No condition. No condition.
-/
import Derived.Test.YtfgfamafjkjakaaDotGrowsW
import Derived.Test.YtfgfamafjkjakaaOpenGS
import Derived.Test.YtfgfamafjkjakaaRows
import Derived.Test.YtfgfamafjkjakaaStay
import Derived.Test.YtfgfamafjkjakaaDotJoinR
import Derived.WalkKit
import Derived.ProofKit
import Derived.OpenShut
import Derived.SizedLaws
namespace Go.Proofs.Ytfgfamafjkjakaa
open Go.ChangeShapes Go.WideShapes Go.ChangeAt Go.RowKit Go.Deep
set_option linter.unusedVariables false
theorem dots_of {H : Type} {enc : TypeId × Value → H} {W : World} {b o len : Nat} {fs : Array Field} (he : Try.prog.underlying 32 = some (.struct fs))
    (h : ∀ i, i < len → ∀ (j : Nat) (f : Field), fs[j]? = some f → ∃ v, W.cell? ⟨b, o + i * fs.size + j, none⟩ = some v ∧ Fld enc Try.prog W f.type v) : ∃ (D : Nat → Int) (N : Nat → Nat), Dots W b o len D N := by
  rw [Try.underlying32] at he
  cases he
  have hone : ∀ i, i < len → ∃ (d : Int) (n : Nat), W.cell? ⟨b, o + i * 2, none⟩ = some (.int .i64 d) ∧ W.cell? ⟨b, o + i * 2 + 1, none⟩ = some (.int .u64 (n : Int)) := by
    intro i hi
    obtain ⟨v0, c0, F0⟩ := h i hi 0 _ rfl
    obtain ⟨v1, c1, F1⟩ := h i hi 1 _ rfl
    obtain ⟨z0, rfl, w0⟩ := F0.int Try.underlying3
    obtain ⟨z1, rfl, w1⟩ := F1.int Try.underlying30
    have h : IntKind.u64.min ≤ z1 ∧ z1 ≤ IntKind.u64.max := by simpa [Lit.wf] using w1
    have h0 : IntKind.u64.min = 0 := by rfl
    obtain ⟨m, rfl⟩ : ∃ m : Nat, z1 = (m : Int) := ⟨z1.toNat, by omega⟩
    exact ⟨z0, m, c0, c1⟩
  refine ⟨fun i => if h : i < len then Classical.choose (hone i h) else 0, fun i => if h : i < len then Classical.choose (Classical.choose_spec (hone i h)) else 0, fun i hi => ?_⟩
  simp only [hi, dif_pos]
  exact Classical.choose_spec (Classical.choose_spec (hone i hi))
end Go.Proofs.Ytfgfamafjkjakaa
namespace Go.Proofs.Ytfgfamafjkjakaa.dotJoins
open Go.ChangeShapes Go.WideShapes Go.ChangeAt Go.RowKit Go.Deep
set_option linter.unusedVariables false
set_option linter.unusedSimpArgs false

theorem own : ownKnob Try.prog.godebug = none := by kernel_rfl
theorem laidOut : laidOutB Try.prog = true := by kernel_rfl
theorem walk (W : World) (p0 : Option Addr) (n0 c0 b0 o0 : Nat) (p1 : Option Addr) (n1 c1 b1 o1 : Nat) (p2 : Option Addr) (n2 c2 b2 o2 : Nat)
    (hl0 : n0 ≤ c0) (hm0 : c0 ≤ maxLen) (hp0 : 0 < n0 → p0 = some ⟨b0, o0, none⟩ ∧ b0 < W.heap.size) (hQ0 : ∃ (D : Nat → Int) (N : Nat → Nat), Dots W b0 o0 n0 D N)
    (hl1 : n1 ≤ c1) (hm1 : c1 ≤ maxLen) (hp1 : 0 < n1 → p1 = some ⟨b1, o1, none⟩ ∧ b1 < W.heap.size) (hQ1 : ∃ (D : Nat → Int) (N : Nat → Nat), Dots W b1 o1 n1 D N)
    (hl2 : n2 ≤ c2) (hm2 : c2 ≤ maxLen) (hp2 : 0 < n2 → p2 = some ⟨b2, o2, none⟩ ∧ b2 < W.heap.size) (hQ2 : ∃ (D : Nat → Int) (N : Nat → Nat), Dots W b2 o2 n2 D N) :
    Calls Try.prog 5 #[.slice p0 n0 c0, .slice p1 n1 c1, .slice p2 n2 c2] W fun e w' => e = .returned (.bool true) ∧ Below W.heap.size W w' := by
  obtain ⟨D0, N0, hD0⟩ := hQ0
  obtain ⟨D1, N1, hD1⟩ := hQ1
  obtain ⟨D2, N2, hD2⟩ := hQ2
  exact DotJoins_any p0 n0 c0 b0 o0 D0 N0 p1 n1 c1 b1 o1 D1 N1 p2 n2 c2 b2 o2 D2 N2 W (fun h => (hp0 h).1) (Nat.le_trans hl0 hm0) hD0 (fun h => (hp1 h).1) (Nat.le_trans hl1 hm1) hD1 (fun h => (hp2 h).1) (Nat.le_trans hl2 hm2) hD2

set_option maxRecDepth 100000 in
theorem lifted (os : Os) (started : os.Started) (H : Type) (enc : TypeId × Value → H) :
    ReturnsInHanded {} Try.checked os 5 .any (Rows.dotJoinsSpec.pre6 enc Try.prog Try.f5 Rows.dotJoinsRow.domain false) (Rows.dotJoinsSpec.post enc Try.prog Try.f5 false true false false) := by
  refine returnsInHanded_of_change_sized (C := Try.checked) own started (by kernel_rfl) Try.func5
    (ChangeSpec.witness6 (enc := enc) (C := Try.checked) false ⟨#[], #[.slice none 0 0, .slice none 0 0, .slice none 0 0], []⟩ 8 (by kernel_rfl) (by kernel_rfl) (by kernel_rfl) (by kernel_rfl)) ?_
  intro W base args ds gs before hval0 hW hcnd hsz0 _
  have hsz : (DataW.weightsEach Try.prog (Try.f5.params.toList ++ Rows.dotJoinsSpec.plain.varTypes Try.prog) (ds ++ gs)).all (· ≤ reachBytes) = true := hsz0
  clear hsz0
  have hval : ∀ (j : Nat) t v, Try.f5.params[j]? = some t → args[j]? = some v → Value.okWide Try.prog W .any base t v := hval0
  have hW' := hW
  obtain ⟨p, q, hA0, hV, rfl, hfz, hnd⟩ := hW
  have hA : DataW.TrodAll enc Try.prog W 0 (fun _ => true) true Try.f5.params.toList args.toList ds p := hA0
  have hAk := hA
  rw [Try.params5] at hA hval hsz
  obtain ⟨v0, vs0, d0, ds0, p0, q0, hargs, rfl, rfl, h0, r0⟩ := trodAll_cons hA
  obtain ⟨v1, vs1, d1, ds1, p1, q1, rfl, rfl, rfl, h1, r1⟩ := trodAll_cons r0
  obtain ⟨v2, vs2, d2, ds2, p2, q2, rfl, rfl, rfl, h2, r2⟩ := trodAll_cons r1
  obtain ⟨rfl, rfl, rfl⟩ := trodAll_nil r2
  obtain rfl : args = #[v0, v1, v2] := by cases args; simp_all
  obtain ⟨rfl, rfl⟩ := trodVars_none hV
  obtain ⟨pt0, len0, cap0, rfl⟩ := okWide_slice Try.underlying36 (hval 0 36 v0 rfl rfl)
  obtain ⟨hl0, hm0, hs0, b0, o0, hp0, hF0⟩ := open_structsR hsz (j := 0) (t := 36) rfl rfl Try.underlying36 Try.underlying32 (by kernel_rfl) (by kernel_rfl) (by decide) h0
  have hQ0 := dots_of Try.underlying32 hF0
  obtain ⟨pt1, len1, cap1, rfl⟩ := okWide_slice Try.underlying36 (hval 1 36 v1 rfl rfl)
  obtain ⟨hl1, hm1, hs1, b1, o1, hp1, hF1⟩ := open_structsR hsz (j := 1) (t := 36) rfl rfl Try.underlying36 Try.underlying32 (by kernel_rfl) (by kernel_rfl) (by decide) h1
  have hQ1 := dots_of Try.underlying32 hF1
  obtain ⟨pt2, len2, cap2, rfl⟩ := okWide_slice Try.underlying36 (hval 2 36 v2 rfl rfl)
  obtain ⟨hl2, hm2, hs2, b2, o2, hp2, hF2⟩ := open_structsR hsz (j := 2) (t := 36) rfl rfl Try.underlying36 Try.underlying32 (by kernel_rfl) (by kernel_rfl) (by decide) h2
  have hQ2 := dots_of Try.underlying32 hF2
  clear hA0 hval0
  refine (walk W pt0 len0 cap0 b0 o0 pt1 len1 cap1 b1 o1 pt2 len2 cap2 b2 o2 hl0 hm0 hp0 hQ0 hl1 hm1 hp1 hQ1 hl2 hm2 hp2 hQ2).mono fun e W' ⟨he, hb⟩ => ?_
  subst he
  exact ⟨_, rfl, law_post laidOut rfl hW' hAk (by rw [Try.params5]; intro t ht; revert t; decide +kernel) (by kernel_rfl) Try.underlying4 rfl hb⟩

theorem over : Rows.dotJoinsRow.holds Try.pinned (OpenSpec.ofChange Rows.dotJoinsSpec) :=
  OpenClaim.holds_of_wide 5 Try.f5 rfl rfl rfl rfl rfl rfl rfl ⟨rfl, rfl, rfl, rfl, rfl⟩ rfl rfl rfl rfl rfl (by kernel_rfl) Try.func5 (by kernel_rfl)
    (of_decide_eq_true (by kernel_rfl)) (by unfold Func.isWrapper; first | (rw [if_pos (by decide +kernel)]; kernel_rfl) | (rw [if_neg (by decide +kernel)]; exact ⟨rfl, rfl⟩))
    (fun os started H enc _ => lifted os started H enc)

/-- The statement. -/
theorem proved : Rows.DotJoinsSaid :=
  over
#print axioms proved
end Go.Proofs.Ytfgfamafjkjakaa.dotJoins
