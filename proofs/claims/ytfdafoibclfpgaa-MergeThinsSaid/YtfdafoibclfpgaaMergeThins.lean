/-
  The statement MergeThins holds: what is seen at a moment, and what is left of a list when it is thinned out, is what the document says: any items, any moments No condition.
-/
import Derived.Test.YtfdafoibclfpgaaRows
import Derived.Test.YtfdafoibclfpgaaStay
import Derived.Test.YtfdafoibclfpgaaMThinsW
import Derived.Test.YtfdafoibclfpgaaOpenGS
import Derived.WalkKit
import Derived.ProofKit
import Derived.OpenShut
import Derived.SizedLaws
namespace Go.Proofs.Ytfdafoibclfpgaa.mergeThins
open Go.ChangeShapes Go.WideShapes Go.ChangeAt Go.RowKit Go.Deep
set_option linter.unusedVariables false
set_option linter.unusedSimpArgs false

theorem own : ownKnob Try.prog.godebug = none := by kernel_rfl
theorem laidOut : laidOutB Try.prog = true := by kernel_rfl
theorem walk (W : World) (p : Option Addr) (n cap b o : Nat) (p1 : Option Addr) (n1 cap1 b1 o1 : Nat) (Z : Nat → Int) (bt : Bool) (q : Int) (hl : n ≤ cap) (hm : cap ≤ maxLen) (hp : 0 < n → p = some ⟨b, o, none⟩ ∧ b < W.heap.size) (hQ : Items W b o n)
    (hl1 : n1 ≤ cap1) (hm1 : cap1 ≤ maxLen) (hr1 : cap1 * 8 ≤ 140737488351232) (hp1 : 0 < n1 → p1 = some ⟨b1, o1, none⟩ ∧ b1 < W.heap.size) (hZ : ∀ i, i < n1 → W.cell? ⟨b1, o1 + i, none⟩ = some (.int .u64 (Z i)) ∧ (Lit.int .u64 (Z i)).wf = true) (hq : (Lit.int .u64 q).wf = true) :
    Calls Try.prog 5 #[.slice p n cap, .slice p1 n1 cap1, .bool bt, .int .u64 q] W fun e w' => e = .returned (.bool true) ∧ Below W.heap.size W w' := by
  obtain ⟨l, hln, hk, hf⟩ := hasK_items hl hm hp hQ
  obtain ⟨keep, hkn, hk2, hb⟩ := hasK_nums hl1 hm1 hp1 hZ
  have h : IntKind.u64.min ≤ q ∧ q ≤ IntKind.u64.max := by simpa [Lit.wf] using hq
  have h0 : IntKind.u64.min = 0 := by rfl
  obtain ⟨m, rfl⟩ : ∃ m : Nat, q = (m : Int) := ⟨q.toNat, by omega⟩
  exact Thins_any _ _ l keep bt m W hk hk2 hf

set_option maxRecDepth 100000 in
theorem lifted (os : Os) (started : os.Started) (H : Type) (enc : TypeId × Value → H) :
    ReturnsInHanded {} Try.checked os 5 .any (Rows.mergeThinsSpec.pre6 enc Try.prog Try.f5 Rows.mergeThinsRow.domain false) (Rows.mergeThinsSpec.post enc Try.prog Try.f5 false true false false) := by
  refine returnsInHanded_of_change_sized (C := Try.checked) own started (by kernel_rfl) Try.func5
    (ChangeSpec.witness6 (enc := enc) (C := Try.checked) false ⟨#[], #[.slice none 0 0, .slice none 0 0, .bool false, .int .u64 0], []⟩ 8 (by kernel_rfl) (by kernel_rfl) (by kernel_rfl) (by kernel_rfl)) ?_
  intro W base args ds gs before hval0 hW hcnd hsz0 _
  have hsz : (DataW.weightsEach Try.prog (Try.f5.params.toList ++ Rows.mergeThinsSpec.plain.varTypes Try.prog) (ds ++ gs)).all (· ≤ reachBytes) = true := hsz0
  clear hsz0
  have hval : ∀ (j : Nat) t v, Try.f5.params[j]? = some t → args[j]? = some v → Value.okWide Try.prog W .any base t v := hval0
  have hW' := hW
  obtain ⟨p, q, hA0, hV, rfl, hfz, hnd⟩ := hW
  have hA : DataW.TrodAll enc Try.prog W 0 (fun _ => true) true Try.f5.params.toList args.toList ds p := hA0
  have hAk := hA
  rw [Try.params5] at hA hval hsz
  obtain ⟨v0, vs0, d0, ds0, p0, q0, hargs, rfl, rfl, h0, r0⟩ := trodAll_cons hA
  obtain ⟨v1, vs1, d1, ds1, p1, q1, rfl, rfl, rfl, h1, r1⟩ := trodAll_cons r0
  obtain ⟨v2, vs2, d2, ds2, p2, q2, rfl, rfl, rfl, h2, r2⟩ := trodAll_cons r1
  obtain ⟨v3, vs3, d3, ds3, p3, q3, rfl, rfl, rfl, h3, r3⟩ := trodAll_cons r2
  obtain ⟨rfl, rfl, rfl⟩ := trodAll_nil r3
  obtain rfl : args = #[v0, v1, v2, v3] := by cases args; simp_all
  obtain ⟨rfl, rfl⟩ := trodVars_none hV
  obtain ⟨pt0, len0, cap0, rfl⟩ := okWide_slice Try.underlying23 (hval 0 23 v0 rfl rfl)
  obtain ⟨hl0, hm0, hs0, b0, o0, hp0, hF0⟩ := open_structsR hsz (j := 0) (t := 23) rfl rfl Try.underlying23 Try.underlying29 (by kernel_rfl) (by kernel_rfl) (by decide) h0
  have hQ0 := items_of Try.underlying29 hF0
  obtain ⟨pt1, len1, cap1, rfl⟩ := okWide_slice Try.underlying41 (hval 1 41 v1 rfl rfl)
  obtain ⟨hl1, hm1, hs1, b1, o1, Z1, hp1, hZ1⟩ := open_rows (P := Try.prog) Try.underlying41 Try.underlying27 (by kernel_rfl) h1
  have hr1 := cap_reach hsz (j := 1) (t := 41) (b := 8) rfl rfl Try.underlying41 (by kernel_rfl) hs1
  obtain ⟨a2, rfl, rfl, rfl⟩ := open_bool Try.underlying4 (hval 2 4 v2 rfl rfl) h2
  obtain ⟨a3, rfl, rfl, rfl, w3⟩ := open_int Try.underlying27 (hval 3 27 v3 rfl rfl) h3
  clear hA0 hval0
  refine (walk W pt0 len0 cap0 b0 o0 pt1 len1 cap1 b1 o1 Z1 a2 a3 hl0 hm0 hp0 hQ0 hl1 hm1 hr1 hp1 hZ1 w3).mono fun e W' ⟨he, hb⟩ => ?_
  subst he
  exact ⟨_, rfl, law_post laidOut rfl hW' hAk (by rw [Try.params5]; intro t ht; revert t; decide +kernel) (by kernel_rfl) Try.underlying4 rfl hb⟩

theorem over : Rows.mergeThinsRow.holds Try.pinned (OpenSpec.ofChange Rows.mergeThinsSpec) :=
  OpenClaim.holds_of_wide 5 Try.f5 rfl rfl rfl rfl rfl rfl rfl ⟨rfl, rfl, rfl, rfl, rfl⟩ rfl rfl rfl rfl rfl (by kernel_rfl) Try.func5 (by kernel_rfl)
    (of_decide_eq_true (by kernel_rfl)) (by unfold Func.isWrapper; first | (rw [if_pos (by decide +kernel)]; kernel_rfl) | (rw [if_neg (by decide +kernel)]; exact ⟨rfl, rfl⟩))
    (fun os started H enc _ => lifted os started H enc)

/-- The statement. -/
theorem proved : Rows.MergeThinsSaid :=
  over
#print axioms proved
end Go.Proofs.Ytfdafoibclfpgaa.mergeThins
