/-
  Package simnet: Rand.
-/
import Derived.Test.YtaopnoaopcbkoaaNetFed
namespace Go.Proofs.Ytaopnoaopcbkoaa
open Go.ChangeShapes Go.WideShapes Go.ChangeAt Go.RowKit Go.Deep
set_option linter.unusedVariables false
set_option linter.unusedSimpArgs false

theorem size_u64 (W : World) : (sizeOf (Try.prog.elem 39)).run Try.prog W = .ok 1 W := by kernel_rfl
theorem FRow.rest {w : World} {B : Nat} {p : Option Addr} {n cap v : Nat} {l : List Nat} {F : Nat → Prop} (h : FRow w B (.slice p n cap) (v :: l) F) : FRow w B (sliced p 1 n cap 1) l F := by
  obtain ⟨p', cap', he, k1, k2, k3⟩ := h
  simp only [Value.slice.injEq, List.length_cons] at he
  obtain ⟨rfl, rfl, rfl⟩ := he
  simp only [List.length_cons] at k1
  unfold sliced
  refine ⟨_, cap - 1, rfl, by omega, by omega, fun hc => ?_⟩
  obtain ⟨g, o, cur, rfl, hh, hB, hf, hs, hcell⟩ := k3 (by omega)
  rw [if_neg (by omega)]
  refine ⟨g, o + 1, cur, by simp [add_plain], hh, hB, hf, by omega, fun j hj => ?_⟩
  have := hcell (j + 1) (by simp; omega)
  rw [show o + 1 + j = o + (j + 1) by omega, this]
  rfl
theorem u64_xs (x k : Nat) (hx : x < 18446744073709551616) : bits .xor .u64 (x : Int) (((x / 2 ^ k : Nat) : Int)) = ((x ^^^ x / 2 ^ k : Nat) : Int) :=
  u64_xor_nat _ _ hx (Nat.lt_of_le_of_lt (Nat.div_le_self _ _) hx)
theorem u64_step (x k m : Nat) (hx : x < 18446744073709551616) : IntKind.u64.wrap (bits .xor .u64 (x : Int) ((x / 2 ^ k : Nat) : Int) * (m : Int)) = ((mixOne x k m : Nat) : Int) := by
  rw [u64_xs x k hx, IntKind.wrap_u64]
  unfold mixOne
  have : (((x ^^^ x / 2 ^ k) * m : Nat) : Int) = ((x ^^^ x / 2 ^ k : Nat) : Int) * (m : Int) := Int.natCast_mul _ _
  rw [← this]
  omega
theorem mixOne_lt (x k m : Nat) : mixOne x k m < 18446744073709551616 := Nat.mod_lt _ (by omega)
theorem seedNext_lt (s : Nat) : seedNext s < 18446744073709551616 := Nat.mod_lt _ (by omega)

set_option maxRecDepth 100000 in
set_option maxHeartbeats 2000000 in
theorem Rand_any (w : World) (B R : Nat) (N : NetV) (F : Nat → Prop) (h : Net w B R N F) (hs : FedOk N) :
    Calls Try.prog 21 #[.pointer (some ⟨R, 0, none⟩)] w fun e w' => e = .returned (.int .u64 (randN N : Int)) ∧ Net w' B R (randV N) F ∧ Keeps F w w' := by
  have HH := Lib.hid h
  obtain ⟨wv, fv, c0, c1, c2, c3, c4, hz, hh, hR, hF, hW, hf⟩ := h.cells
  obtain ⟨hs1, hs2⟩ := hs
  have HS2 := Lib.hid hs2
  clear h hs2
  cases hfed : N.fed with
  | nil =>
    rw [hfed] at hf
    obtain ⟨pf, capf, hfv, _, hcm, _⟩ := hf.out
    simp only [List.length_nil] at hfv
    subst hfv
    have e1 : IntKind.u64.wrap ((N.seed : Int) + 11400714819323198485) = ((seedNext N.seed : Nat) : Int) := by rw [IntKind.wrap_u64]; unfold seedNext; omega
    have HFD := Lib.hid hfed
    obtain ⟨s1, hs1'⟩ : ∃ s, seedNext N.seed = s := ⟨_, rfl⟩
    have hs1l : s1 < 18446744073709551616 := by rw [← hs1']; exact seedNext_lt _
    rw [hs1'] at e1
    have a1 : (s1 : Int) / 1073741824 = ((s1 / 2 ^ 30 : Nat) : Int) := by omega
    have a2 := u64_step s1 30 13787848793156543929 hs1l
    obtain ⟨s2, hs2⟩ : ∃ s, mixOne s1 30 13787848793156543929 = s := ⟨_, rfl⟩
    have hs2l : s2 < 18446744073709551616 := by rw [← hs2]; exact mixOne_lt _ _ _
    rw [hs2, ← a1] at a2
    have a3 : (s2 : Int) / 134217728 = ((s2 / 2 ^ 27 : Nat) : Int) := by omega
    have a4 := u64_step s2 27 10723151780598845931 hs2l
    obtain ⟨s3, hs3⟩ : ∃ s, mixOne s2 27 10723151780598845931 = s := ⟨_, rfl⟩
    have hs3l : s3 < 18446744073709551616 := by rw [← hs3]; exact mixOne_lt _ _ _
    rw [hs3, ← a3] at a4
    have a5 : (s3 : Int) / 2147483648 = ((s3 / 2 ^ 31 : Nat) : Int) := by omega
    have a6 := u64_xs s3 31 hs3l
    rw [← a5] at a6
    have HR : Hid (randN N = s3 ^^^ s3 / 2 ^ 31) := Lib.hid (by unfold randN mixed; rw [hfed]; simp only; rw [hs1', hs2, hs3])
    have HV : Hid (randV N = { N with seed := s1 }) := Lib.hid (by unfold randV; rw [hfed]; simp only; rw [hs1'])
    generalize (s3 ^^^ s3 / 2 ^ 31) = s4 at a6 HR
    have a2 : IntKind.u64.wrap (bits .xor .u64 (s1 : Int) ((s1 : Int) / 1073741824) * 13787848793156543929) = (s2 : Int) := a2
    have a4 : IntKind.u64.wrap (bits .xor .u64 (s2 : Int) ((s2 : Int) / 134217728) * 10723151780598845931) = (s3 : Int) := a4
    clear a1 a3 a5 hs1' hs2 hs3
    go_enter Try.func21, Try.ntmps21
    go_wp2
    go_ret
    refine ⟨by rw [HR.out]; rfl, ?_, (Keeps.refl F w).setCell _ _ (fun _ => hR.out)⟩
    rw [HV.out]
    refine Net.put hh.out hR.out hF.out hW.out (by rw [HFD.out]; exact hf.out) (World.size_setCell _ _ _) (fun k hk => Below.heap_setCell _ _ _ _ hk) ?_
    rw [heap_setCell_same _ _ _ _ _ _ hh.out]
    rfl
  | cons v r =>
    rw [hfed] at hf
    have hf2 := hf.out
    obtain ⟨pf, capf, hfv, hc1, hcm, hc3⟩ := hf.out
    simp only [List.length_cons] at hfv hc1
    have hrest : FRow w B (sliced pf 1 (r.length + 1) capf 1) r F := by rw [hfv] at hf2; exact hf2.rest
    obtain ⟨g, o, cur, hpf, hgh, hgB, hgF, hgs, hgc⟩ := hc3 (by omega)
    subst hpf
    subst hfv
    have hcell : w.cell? ⟨g, o, none⟩ = some (.int .u64 (v : Int)) := by
      have := hgc 0 (by simp)
      simp only [Nat.add_zero] at this
      simp [World.cell?, hgh, this]
    have hr : ∀ W, (Instr.slice 39 (.slice (some ⟨g, o, none⟩) (r.length + 1) capf) (some (.int .i64 1)) none none).run Try.prog W = .ok (sliced (some ⟨g, o, none⟩) 1 (r.length + 1) capf 1) W := fun W => by
      rw [run_slice_l (P := Try.prog) (w := W) (t := 39) (a := some ⟨g, o, none⟩) (len := r.length + 1) (cap := capf) Try.underlying39 .i64 (1 : Int) (by omega) (by omega), size_u64]
      rfl
    obtain ⟨fv', hfv'⟩ : ∃ fv', fv' = sliced (some ⟨g, o, none⟩) 1 (r.length + 1) capf 1 := ⟨_, rfl⟩
    rw [← hfv'] at hrest
    have hform : ∃ p n c, fv' = .slice p n c := ⟨_, _, _, hfv'⟩
    rw [← hfv'] at hr
    obtain ⟨p', n', c', rfl⟩ := hform
    have HREST := Lib.hid hrest
    have HR : Hid (randN N = v) := Lib.hid (by unfold randN; rw [hfed])
    have HV : Hid (randV N = { N with fed := r }) := Lib.hid (by unfold randV; rw [hfed])
    have hm : (capf : Int) ≤ 9223372036854775807 := by unfold maxLen at hcm; omega
    have HCM := Lib.hid hcm
    clear hf2 hc3 hgc hgh hrest hfv' hcm hfed
    go_enter Try.func21, Try.ntmps21
    go_wp2
    go_ret
    refine ⟨by rw [HR.out]; rfl, ?_, (Keeps.refl F w).setCell _ _ (fun _ => hR.out)⟩
    rw [HV.out]
    refine Net.put hh.out hR.out hF.out hW.out HREST.out (World.size_setCell _ _ _) (fun k hk => Below.heap_setCell _ _ _ _ hk) ?_
    rw [heap_setCell_same _ _ _ _ _ _ hh.out]
    rfl
end Go.Proofs.Ytaopnoaopcbkoaa
