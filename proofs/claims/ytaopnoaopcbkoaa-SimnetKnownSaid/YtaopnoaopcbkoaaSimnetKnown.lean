/-
  The statement SimnetKnown holds: the examples of chapter 6. No condition.
-/
import Derived.Test.YtaopnoaopcbkoaaRows
import Derived.Test.YtaopnoaopcbkoaaStay
import Derived.Test.YtaopnoaopcbkoaaNetAwake
import Derived.WalkKit
import Derived.ProofKit
import Derived.OpenShut
namespace Go.Proofs.Ytaopnoaopcbkoaa.simnetKnown
open Go.ChangeShapes Go.WideShapes Go.ChangeAt Go.RowKit Go.Deep
set_option linter.unusedVariables false

theorem own : ownKnob Try.prog.godebug = none := by kernel_rfl
theorem laidOut : laidOutB Try.prog = true := by kernel_rfl
set_option maxRecDepth 100000 in
set_option maxHeartbeats 4000000 in
theorem walk (w : World) :
    Calls Try.prog 3 #[] w fun e w' => e = .returned (.bool true) ∧ Below w.heap.size w w' := by
  go_enter Try.func3, Try.ntmps3
  go_wp2_with fail
  refine (awake_any w).mono ?_
  rintro e w0 ⟨rfl, hb0⟩
  have hz0 := hb0.size
  have HB0 := Lib.hid hb0
  clear hb0
  go_wp2_with fail
  refine (New_any w0).mono ?_
  rintro e w1 ⟨R, F, rfl, hn1, hb1⟩
  have hz1 := hb1.size
  have HN1 := Lib.hid hn1
  have HB1 := Lib.hid (HB0.out.trans (hb1.mono hz0))
  clear hn1 hb1
  go_wp2_with fail
  refine (Deliver_any w1 w0.heap.size R zeroNet F HN1.out 1 0 (by decide) (by simp [zeroNet, Sorted]) (by simp [zeroNet])).mono ?_
  rw [show takeV zeroNet 1 = zeroNet from rfl]
  rintro e w2 ⟨hn2, hk2, hd2⟩
  unfold DeliverE at hd2
  rw [show pkAt zeroNet.wait 1 = none from rfl] at hd2
  subst hd2
  have hz2 := hk2.size
  have HN2 := Lib.hid hn2
  have HB2 := Lib.hid (HB1.out.trans ((hk2.below HN1.out.base (by omega)).mono hz0))
  clear hn2 hk2
  go_wp2_with fail
  refine (Double_any w2 w0.heap.size R zeroNet F HN2.out 0 (by decide) (by simp [zeroNet, Sorted]) (by decide) (by simp [zeroNet])).mono ?_
  rw [show doubleV zeroNet 0 = zeroNet from rfl, show doubleN zeroNet 0 = (0, 4) from rfl]
  rintro e w3 ⟨rfl, F3, hn3, hk3, hf3⟩
  have hz3 := hk3.size
  have HN3 := Lib.hid hn3
  have HB3 := Lib.hid (HB2.out.trans ((hk3.below HN2.out.base (by omega)).mono hz0))
  clear hn3 hk3 hf3
  go_wp2_with fail
  refine (Drop_any w3 w0.heap.size R zeroNet F3 HN3.out 1 (by decide) (by simp [zeroNet, Sorted])).mono ?_
  rw [show takeV zeroNet 1 = zeroNet from rfl, show dropN zeroNet.wait 1 = 4 from rfl]
  rintro e w4 ⟨rfl, hn4, hk4⟩
  have hz4 := hk4.size
  have HN4 := Lib.hid hn4
  have HB4 := Lib.hid (HB3.out.trans ((hk4.below HN3.out.base (by omega)).mono hz0))
  clear hn4 hk4
  go_wp2_with fail
  refine (Tick_any w4 w0.heap.size R zeroNet F3 HN4.out (by decide) (-1) (by decide)).mono ?_
  rw [show tickV zeroNet (-1) = zeroNet from rfl, if_neg (by decide)]
  rintro e w5 ⟨rfl, hn5, hk5⟩
  have hz5 := hk5.size
  have HN5 := Lib.hid hn5
  have HB5 := Lib.hid (HB4.out.trans ((hk5.below HN4.out.base (by omega)).mono hz0))
  clear hn5 hk5
  go_wp2_with fail
  refine (Tick_any w5 w0.heap.size R zeroNet F3 HN5.out (by decide) 1152921504606846977 (by decide)).mono ?_
  rw [show tickV zeroNet 1152921504606846977 = zeroNet from rfl, if_neg (by decide)]
  rintro e w6 ⟨rfl, hn6, hk6⟩
  have hz6 := hk6.size
  have HN6 := Lib.hid hn6
  have HB6 := Lib.hid (HB5.out.trans ((hk6.below HN5.out.base (by omega)).mono hz0))
  clear hn6 hk6
  go_wp2_with fail
  refine (Tick_any w6 w0.heap.size R zeroNet F3 HN6.out (by decide) 1152921504606846976 (by decide)).mono ?_
  rw [show tickV zeroNet 1152921504606846976 = { zeroNet with now := 1152921504606846976 } from rfl, if_pos (by decide)]
  rintro e w7 ⟨rfl, hn7, hk7⟩
  have hz7 := hk7.size
  have HN7 := Lib.hid hn7
  have HB7 := Lib.hid (HB6.out.trans ((hk7.below HN6.out.base (by omega)).mono hz0))
  clear hn7 hk7
  go_wp2_with fail
  refine (Tick_any w7 w0.heap.size R { zeroNet with now := 1152921504606846976 } F3 HN7.out (by decide) 1 (by decide)).mono ?_
  rw [show tickV { zeroNet with now := 1152921504606846976 } 1 = { zeroNet with now := 1152921504606846976 } from rfl, if_neg (by decide)]
  rintro e w8 ⟨rfl, hn8, hk8⟩
  have hz8 := hk8.size
  have HN8 := Lib.hid hn8
  have HB8 := Lib.hid (HB7.out.trans ((hk8.below HN7.out.base (by omega)).mono hz0))
  clear hn8 hk8
  go_wp2_with fail
  refine (Now_any w8 w0.heap.size R { zeroNet with now := 1152921504606846976 } F3 HN8.out).mono ?_
  rintro e w9 ⟨rfl, rfl⟩
  go_wp2_with fail
  refine (Packets_any w9 w0.heap.size R { zeroNet with now := 1152921504606846976 } F3 HN8.out (by decide)).mono ?_
  rintro e w10 ⟨lv, rfl, ht, hb10⟩
  have HB10 := Lib.hid (HB8.out.trans (hb10.mono (by omega)))
  obtain ⟨p, c, hlv⟩ : ∃ p c, lv = .slice p 0 c := by
    rcases ht.2 with ⟨hv, _⟩ | ⟨g, cap, cur, hv, _⟩
    · exact ⟨_, _, hv⟩
    · exact ⟨_, _, hv⟩
  subst hlv
  clear ht hb10
  go_wp2
  go_ret
  exact ⟨rfl, HB10.out⟩

set_option maxRecDepth 100000 in
theorem lifted (os : Os) (started : os.Started) (H : Type) (enc : TypeId × Value → H) :
    ReturnsInHanded {} Try.checked os 3 .any (Rows.simnetKnownSpec.pre6 enc Try.prog Try.f3 Rows.simnetKnownRow.domain false) (Rows.simnetKnownSpec.post enc Try.prog Try.f3 false true false false) := by
  refine returnsInHanded_of_change (C := Try.checked) own started (by kernel_rfl) Try.func3
    (ChangeSpec.witness6 (enc := enc) (C := Try.checked) false ⟨#[], #[], []⟩ 8 (by kernel_rfl) (by kernel_rfl) (by kernel_rfl) (by kernel_rfl)) ?_
  intro W base args ds gs before hval0 hW hcnd _
  have hval : ∀ (j : Nat) t v, Try.f3.params[j]? = some t → args[j]? = some v → Value.okWide Try.prog W .any base t v := hval0
  have hW' := hW
  obtain ⟨p, q, hA0, hV, rfl, hfz, hnd⟩ := hW
  have hA : DataW.TrodAll enc Try.prog W 0 (fun _ => true) true Try.f3.params.toList args.toList ds p := hA0
  have hAk := hA
  rw [Try.params3] at hA hval
  obtain ⟨rfl, rfl, rfl⟩ := trodAll_none hA
  obtain ⟨rfl, rfl⟩ := trodVars_none hV
  skip
  clear hA0 hval0
  refine (walk   W).mono fun e W' ⟨he, hb⟩ => ?_
  subst he
  exact ⟨_, rfl, law_post laidOut rfl hW' hAk (by rw [Try.params3]; intro t ht; revert t; decide +kernel) (by kernel_rfl) Try.underlying4 rfl hb⟩

theorem over : Rows.simnetKnownRow.holds Try.pinned (OpenSpec.ofChange Rows.simnetKnownSpec) :=
  OpenClaim.holds_of_wide 3 Try.f3 rfl rfl rfl rfl rfl rfl rfl ⟨rfl, rfl, rfl, rfl, rfl⟩ rfl rfl rfl rfl rfl (by kernel_rfl) Try.func3 (by kernel_rfl)
    (of_decide_eq_true (by kernel_rfl)) (by unfold Func.isWrapper; first | (rw [if_pos (by decide +kernel)]; kernel_rfl) | (rw [if_neg (by decide +kernel)]; exact ⟨rfl, rfl⟩))
    (fun os started H enc _ => lifted os started H enc)

/-- The statement. -/
theorem proved : Rows.SimnetKnownSaid :=
  over
#print axioms proved
end Go.Proofs.Ytaopnoaopcbkoaa.simnetKnown
