/-
  The document's own network: Rand, and a number fed.
-/
import Derived.Test.YtaopnoaopcbkoaaRefTake
namespace Go.Proofs.Ytaopnoaopcbkoaa.Ref
open Go.ChangeShapes Go.WideShapes Go.ChangeAt Go.RowKit Go.Deep
set_option linter.unusedVariables false
set_option linter.unusedSimpArgs false

/-- A row of numbers is a row of fed ones. -/
theorem fed_of_row {w : World} {B G : Nat} {v : Value} {l : List Nat} {F : Nat → Prop} (h : w.ownsRow G 40 1 v l.length (l.map fun (n : Nat) => Value.int .u64 (n : Int))) (hB : B ≤ G) (hF : ∀ k, G ≤ k → k < w.heap.size → F k) : FRow w B v l F := by
  rcases h.2 with ⟨hv, h0⟩ | ⟨g, cap, cur, hv, hgB, hh, q1, q2, q3, q4⟩
  · exact ⟨none, 0, by rw [hv, h0], by omega, Nat.zero_le _, fun h => absurd h (Nat.lt_irrefl _)⟩
  · refine ⟨_, cap, hv, q1, q2, fun _ => ⟨g, 0, cur, rfl, hh, Nat.le_trans hB hgB, hF g hgB (lt_of_block hh), by omega, fun j hj => ?_⟩⟩
    have h5 : (cur.toList.take (l.length * 1))[j]? = some (.int .u64 (l[j] : Int)) := by
      rw [q4, List.getElem?_map, List.getElem?_eq_getElem hj]
      rfl
    rw [List.getElem?_take_of_lt (by omega)] at h5
    rw [Nat.zero_add]
    simpa using h5
theorem size_u64 (W : World) : (sizeOf (Try.prog.elem 39)).run Try.prog W = .ok 1 W := by kernel_rfl
set_option maxRecDepth 100000 in
set_option maxHeartbeats 4000000 in
theorem Rand_any (w : World) (B R : Nat) (N : NetV) (F : Nat → Prop) (h : Net w B R N F) (hs : FedOk N) (hl : N.fed.length ≤ 1099511627776) :
    Calls Try.prog 22 #[.pointer (some ⟨R, 0, none⟩)] w fun e w' => e = .returned (.int .u64 (randN N : Int)) ∧ ∃ F', Net w' B R (randV N) F' ∧ Keeps F w w' ∧ (∀ k, k < w.heap.size → F' k → F k) := by
  have HH := Lib.hid h
  obtain ⟨wv, fv, c0, c1, c2, c3, c4, hz, hh, hR, hF, hW, hf⟩ := h.cells
  have hRl := h.lt
  have hBw : B ≤ w.heap.size := by have := hF.out R hR.out; omega
  obtain ⟨hs1, hs2⟩ := hs
  have HS2 := Lib.hid hs2
  clear h hs2
  cases hfed : N.fed with
  | nil =>
    rw [hfed] at hf
    obtain ⟨pf, capf, hfv, _, hcm, _⟩ := hf.out
    simp only [List.length_nil] at hfv
    subst hfv
    have e1 : IntKind.u64.wrap ((N.seed : Int) + 11400714819323198485) = ((seedNext N.seed : Nat) : Int) := by rw [IntKind.wrap_u64]; unfold seedNext; omega
    have HFD := Lib.hid hfed
    obtain ⟨s1, hs1'⟩ : ∃ s, seedNext N.seed = s := ⟨_, rfl⟩
    have hs1l : s1 < 18446744073709551616 := by rw [← hs1']; exact seedNext_lt _
    rw [hs1'] at e1
    have a1 : (s1 : Int) / 1073741824 = ((s1 / 2 ^ 30 : Nat) : Int) := by omega
    have a2 := u64_step s1 30 13787848793156543929 hs1l
    obtain ⟨s2, hs2⟩ : ∃ s, mixOne s1 30 13787848793156543929 = s := ⟨_, rfl⟩
    have hs2l : s2 < 18446744073709551616 := by rw [← hs2]; exact mixOne_lt _ _ _
    rw [hs2, ← a1] at a2
    have a3 : (s2 : Int) / 134217728 = ((s2 / 2 ^ 27 : Nat) : Int) := by omega
    have a4 := u64_step s2 27 10723151780598845931 hs2l
    obtain ⟨s3, hs3⟩ : ∃ s, mixOne s2 27 10723151780598845931 = s := ⟨_, rfl⟩
    have hs3l : s3 < 18446744073709551616 := by rw [← hs3]; exact mixOne_lt _ _ _
    rw [hs3, ← a3] at a4
    have a5 : (s3 : Int) / 2147483648 = ((s3 / 2 ^ 31 : Nat) : Int) := by omega
    have a6 := u64_xs s3 31 hs3l
    rw [← a5] at a6
    have HR : Hid (randN N = s3 ^^^ s3 / 2 ^ 31) := Lib.hid (by unfold randN mixed; rw [hfed]; simp only; rw [hs1', hs2, hs3])
    have HV : Hid (randV N = { N with seed := s1 }) := Lib.hid (by unfold randV; rw [hfed]; simp only; rw [hs1'])
    generalize (s3 ^^^ s3 / 2 ^ 31) = s4 at a6 HR
    have a2 : IntKind.u64.wrap (bits .xor .u64 (s1 : Int) ((s1 : Int) / 1073741824) * 13787848793156543929) = (s2 : Int) := a2
    have a4 : IntKind.u64.wrap (bits .xor .u64 (s2 : Int) ((s2 : Int) / 134217728) * 10723151780598845931) = (s3 : Int) := a4
    clear a1 a3 a5 hs1' hs2 hs3
    go_enter Try.func22, Try.ntmps22
    go_wp2
    go_ret
    refine ⟨by rw [HR.out]; rfl, F, ?_, (Keeps.refl F w).setCell _ _ (fun _ => hR.out), fun _ _ h => h⟩
    rw [HV.out]
    refine Net.put hh.out hR.out hF.out hW.out (by rw [HFD.out]; exact hf.out) (World.size_setCell _ _ _) (fun k hk => Below.heap_setCell _ _ _ _ hk) ?_
    rw [heap_setCell_same _ _ _ _ _ _ hh.out]
    rfl
  | cons v r =>
    have HFED := Lib.hid hfed
    rw [hfed] at hf hl
    simp only [List.length_cons] at hl
    obtain ⟨pf, capf, hfv, hc1, hcm, hc3⟩ := hf.out
    simp only [List.length_cons] at hfv hc1
    obtain ⟨g, o, cur, hpf, hgh, hgB, hgF, hgs, hgc⟩ := hc3 (by omega)
    subst hpf
    subst hfv
    have hgl := lt_of_block hgh
    have hcell : w.cell? ⟨g, o, none⟩ = some (.int .u64 (v : Int)) := by
      have := hgc 0 (by simp)
      simp only [Nat.add_zero] at this
      simp [World.cell?, hgh, this]
    have hcells : ∀ j (h : j < r.length), w.cell? ⟨g, o + 1 + j, none⟩ = some (.int .u64 (r[j] : Int)) := fun j hj => by
      have := hgc (j + 1) (by simp; omega)
      simp only [List.getElem_cons_succ] at this
      rw [show o + (j + 1) = o + 1 + j by omega] at this
      simp [World.cell?, hgh, this]
    obtain ⟨o1, ho1, ho1'⟩ : ∃ o1, sliced (some ⟨g, o, none⟩) 1 (r.length + 1) capf 1 = .slice (some ⟨g, o1, none⟩) r.length (capf - 1) ∧ (0 < r.length → o1 = o + 1) := by
      unfold sliced
      by_cases h : capf = 1
      · exact ⟨o, by rw [if_pos h]; simp, fun hh => by omega⟩
      · exact ⟨o + 1, by rw [if_neg h]; simp [add_plain], fun _ => rfl⟩
    have hr : ∀ W, (Instr.slice 39 (.slice (some ⟨g, o, none⟩) (r.length + 1) capf) (some (.int .i64 1)) none none).run Try.prog W = .ok (.slice (some ⟨g, o1, none⟩) r.length (capf - 1)) W := fun W => by
      rw [run_slice_l (P := Try.prog) (w := W) (t := 39) (a := some ⟨g, o, none⟩) (len := r.length + 1) (cap := capf) Try.underlying39 .i64 (1 : Int) (by omega) (by omega), size_u64, ← ho1]
      rfl
    have HR : Hid (randN N = v) := Lib.hid (by unfold randN; rw [hfed])
    have HV : Hid (randV N = { N with fed := r }) := Lib.hid (by unfold randV; rw [hfed])
    have hm : (capf : Int) ≤ 9223372036854775807 := by unfold maxLen at hcm; omega
    have HCM := Lib.hid hcm
    have HCE := Lib.hid hcells
    have HO1 := Lib.hid ho1'
    have HWF := Lib.hid hW.out.form
    obtain ⟨ki, hi, hz', hz1, hz2⟩ := info_parts info_u64
    have HI := Lib.hid hi
    have HZ := Lib.hid hz'
    have HZ1 := Lib.hid hz1
    have HZ2 := Lib.hid hz2
    have hbA : Below w.heap.size w (w.alloc (.cells #[] 40)) := (Below.refl w.heap.size w).alloc (Nat.le_refl _) _
    have hoA : (w.alloc (.cells #[] 40)).ownsRow w.heap.size 40 1 (.slice (some ⟨w.heap.size, 0, none⟩) 0 0) 0 [] :=
      ⟨rfl, .inr ⟨w.heap.size, 0, #[], rfl, Nat.le_refl _, heap_alloc_new w _, Nat.le_refl _, Nat.zero_le _, rfl, rfl⟩⟩
    have HBA := Lib.hid hbA
    have HOA := Lib.hid hoA
    have hal : (w.alloc (.cells #[] 40)).cell? ⟨R, 3, none⟩ = some (.slice (some ⟨g, o, none⟩) (r.length + 1) capf) := (hbA.cell (p := ⟨R, 3, none⟩) hRl).trans c3
    have hzA := hbA.size
    have hnews : ∀ (j : Nat) (u : Value), (r.map fun (n : Nat) => Value.int .u64 (n : Int))[j]? = some u → (w.alloc (.cells #[] 40)).cell? ((⟨g, o1, none⟩ : Addr).add j) = some u := by
      intro j u hj
      rw [List.getElem?_map, Option.map_eq_some_iff] at hj
      obtain ⟨n, hn, rfl⟩ := hj
      obtain ⟨hjl, rfl⟩ := List.getElem?_eq_some_iff.1 hn
      rw [ho1' (by omega), add_plain, hbA.cell (p := ⟨g, o + 1 + j, none⟩) hgl]
      exact hcells j hjl
    have hone1 : ∀ u ∈ (r.map fun (n : Nat) => Value.int .u64 (n : Int)), u.oneCell' = true := by
      intro u hu
      obtain ⟨n, _, rfl⟩ := List.mem_map.1 hu
      rfl
    have HNEWS := Lib.hid hnews
    have HONE := Lib.hid hone1
    clear hnews hone1
    clear hc3 hgc hgh hcm hfed hcells ho1' ho1 hi hz' hz1 hz2 hbA hoA
    go_enter Try.func22, Try.ntmps22
    go_wp2_with (at_builtin; refine wpList_append_own _ rfl _ _ 39 rfl w.heap.size 40 ki _ 1 8 Try.underlying39 HI.out HZ.out HZ1.out HZ2.out rfl (by decide) (.slice (some ⟨w.heap.size, 0, none⟩) 0 0) 0 [] rfl HOA.out ⟨g, o1, none⟩ r.length (capf - 1) (r.map fun (n : Nat) => Value.int .u64 (n : Int)) rfl (by simp) HNEWS.out HONE.out (by unfold maxLen; omega) (by omega) hzA ?_)
    intro v' w' ho' hg' _
    have hb' : Below w.heap.size w w' := ⟨hg'.os.trans HBA.out.os, hg'.tape.trans HBA.out.tape, hg'.output.trans HBA.out.output, Nat.le_trans hzA hg'.size, fun k hk => (hg'.block k (by omega) (fun he => by simp [Value.ownBlock] at he; omega)).trans (HBA.out.block k hk)⟩
    have hfr : FRow w' B v' r (fun k => F k ∨ (w.heap.size ≤ k ∧ k < w'.heap.size)) := fed_of_row ho' hBw (fun k h1 h2 => .inr ⟨h1, h2⟩)
    have hR' := (hb'.block R hRl).trans hh.out
    obtain ⟨e0, e1, e2, e3, e4, ez⟩ := net_cells hR'
    obtain ⟨vp, vn, vc, hv'⟩ : ∃ p n c, v' = .slice p n c := by
      rcases ho'.2 with ⟨hv, _⟩ | ⟨g, cap, cur, hv, _⟩
      · exact ⟨_, _, _, hv⟩
      · exact ⟨_, _, _, hv⟩
    subst hv'
    have HB' := Lib.hid hb'
    have HFR := Lib.hid hfr
    have HR' := Lib.hid hR'
    clear ho' hg' hb' hfr hR'
    go_wp2
    go_ret
    refine ⟨by rw [HR.out]; rfl, fun k => F k ∨ (w.heap.size ≤ k ∧ k < w'.heap.size), ?_, (Keeps.of_below HB'.out).setCell _ _ (fun _ => hR.out), fun k hk hf => ?_⟩
    · rw [HV.out]
      have hs' := HB'.out.size
      refine Net.put HR'.out (.inl hR.out) (fun k hk => ?_) (hW.out.same (fun _ _ h => .inl h) (fun k c _ hc => HB'.out.block k (lt_of_block hc)) (fun k c _ hc => HB'.out.block k (lt_of_block hc))) HFR.out (World.size_setCell _ _ _) (fun k hk => Below.heap_setCell _ _ _ _ hk) ?_
      · rcases hk with hk | hk
        · have := hF.out k hk; omega
        · omega
      · rw [heap_setCell_same _ _ _ _ _ _ HR'.out]
        rfl
    · rcases hf with hf | hf
      · exact hf
      · omega
end Go.Proofs.Ytaopnoaopcbkoaa.Ref
