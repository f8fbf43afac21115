/-
  Package frame scans bytes.
-/
import Derived.Test.YtbkoejhnlmbciaaDoorFirst
import Derived.Test.YtbkoejhnlmbciaaDoorAppend
namespace Go.Proofs.YtbkoejhnlmbciaaDoor
open Go.ChangeShapes Go.WideShapes Go.ChangeAt Go.RowKit Go.Deep
set_option linter.unusedVariables false

theorem cell_new (w : World) (u : Value) (T : TypeId) : (w.alloc (.cells #[u] T)).cell? ⟨w.heap.size, 0, none⟩ = some u := by
  have h := heap_alloc_new w (.cells #[u] T)
  unfold World.cell?
  rw [h]
  rfl
/-- What a scan answers. -/
def Scn (w : World) (l : List UInt8) (e : Ending) (w' : World) : Prop :=
  ∃ v, e = .returned (.tuple #[v, .int .i64 ((fScan l).2.1 : Nat), .int .i64 ((fScan l).2.2 : Nat)]) ∧ OwnL w' w.heap.size v (fScan l).1 ∧ Below w.heap.size w w'
/-- Where a scan stands. -/
def At (l : List UInt8) (u : Nat) (ps : List (List UInt8)) : Prop :=
  u ≤ l.length ∧ ps.length ≤ u ∧ fScan l = (ps ++ (fScan (l.drop u)).1, u + (fScan (l.drop u)).2.1, (fScan (l.drop u)).2.2)
theorem At.zero (l : List UInt8) : At l 0 [] := ⟨Nat.zero_le _, Nat.zero_le _, by simp⟩
theorem At.end {l : List UInt8} {u : Nat} {ps : List (List UInt8)} (h : At l u ps) (hu : l.length ≤ u) : fScan l = (ps, u, 0) := by
  obtain ⟨h1, h2, h3⟩ := h
  rw [fScan_nil (b := l.drop u) (by simp; omega)] at h3
  simpa using h3
theorem At.stop {l : List UInt8} {u : Nat} {ps : List (List UInt8)} (h : At l u ps) (hu : u < l.length) (hh : fHow (l.drop u) ≠ 0) : fScan l = (ps, u, fHow (l.drop u)) := by
  obtain ⟨h1, h2, h3⟩ := h
  rw [fScan_end (b := l.drop u) (by simp; omega) hh] at h3
  simpa using h3
theorem At.step {l : List UInt8} {u : Nat} {ps : List (List UInt8)} (h : At l u ps) (hu : u < l.length) (hh : fHow (l.drop u) = 0) : At l (u + (8 + (fPay (l.drop u)).length)) (ps ++ [fPay (l.drop u)]) ∧ u < u + (8 + (fPay (l.drop u)).length) := by
  obtain ⟨h1, h2, h3⟩ := h
  obtain ⟨k1, k2, k3, k4⟩ := fHow_zero hh
  have hl := fPay_len k3
  rw [List.length_drop] at k1 k3
  rw [fScan_step (b := l.drop u) (by simp; omega) hh, List.drop_drop] at h3
  refine ⟨⟨by omega, by simp; omega, ?_⟩, by omega⟩
  rw [h3, hl]
  simp [Nat.add_assoc]

set_option maxRecDepth 100000 in
set_option maxHeartbeats 4000000 in
theorem Scan_any (v : Value) (l : List UInt8) (w : World) (hv : HasA w v l) (hN : Nib w) (hlim : l.length ≤ 1099511627776) :
    Calls Tryd.prog 10 #[v] w (Scn w l) := by
  obtain ⟨p, cap, rfl, hc1, hc2⟩ := hv.form
  have HV := Lib.hid hv
  have HN := Lib.hid hN
  have hml : (cap : Int) ≤ 9223372036854775807 := by unfold maxLen at hc2; omega
  have H2 := Lib.hid hc2
  have HL := Lib.hid hlim
  clear hv hN hc2
  go_enter Tryd.func10, Tryd.ntmps10
  go_wp2
  go_loopw [2, 3] (fun vr vi wr => ∃ (u : Nat) (ps : List (List UInt8)), vi = .int .i64 u ∧ Hid (At l u ps) ∧ OwnL wr w.heap.size vr ps ∧ Below w.heap.size w wr) (fun _ vi _ => l.length - (intOf vi).toNat)
  case atStart => exact ⟨0, [], rfl, Lib.hid (At.zero l), OwnL.nil _ _, Below.refl _ _⟩
  case round =>
    obtain ⟨u, ps, rfl, HA, ho, hb⟩ := hrel
    have hul := HA.out.1
    obtain ⟨pr, cr, rfl, hr1, hr2⟩ := ho.form
    have hzr := hb.size
    have HO := Lib.hid ho
    have HB := Lib.hid hb
    have HR2 := Lib.hid hr2
    clear ho hb hr2
    rcases Nat.lt_or_ge u l.length with hlt | hge
    · have hlt' : (u : Int) < (l.length : Int) := by omega
      obtain ⟨pt, ct, rt, gt⟩ := HV.out.tail u hul
      have GT := Lib.hid gt
      clear gt
      go_wp2_with fail
      refine (first_any _ (l.drop u) wr (GT.out wr (HV.out.below HB.out)) (HN.out.below HB.out)).mono ?_
      rintro e w1 ⟨p1, n1, c1, k1, rfl, hw1, hpay⟩
      have HO1 : Hid (OwnL w1 w.heap.size (.slice pr ps.length cr) ps) := Lib.hid (by rw [hw1]; exact HO.out.drewN k1)
      have HB1 : Hid (Below w.heap.size w w1) := Lib.hid (by rw [hw1]; exact below_drewN' HB.out k1)
      have HW1 : Hid (HasA w1 (.slice pt (l.length - u) ct) (l.drop u)) := Lib.hid (by rw [hw1]; exact (GT.out wr (HV.out.below HB.out)).drewN k1)
      have hz1 := HB1.out.size
      clear hw1
      by_cases h0 : fHow (l.drop u) = 0
      · obtain ⟨hstep, hlt2⟩ := HA.out.step hlt h0
        have HS := Lib.hid hstep
        have HP1 := Lib.hid (hpay h0 w1 HW1.out)
        have hps := HA.out.2.1
        obtain ⟨pp, hpp⟩ : ∃ pp, pp = fPay (l.drop u) := ⟨_, rfl⟩
        rw [← hpp] at HS HP1 hlt2
        obtain ⟨p1', c1', hv1, hk1, hk2⟩ := HP1.out.form
        simp only [Value.slice.injEq] at hv1
        obtain ⟨-, rfl, -⟩ := hv1
        have hsum := HS.out.1
        have hml1 : (c1 : Int) ≤ 9223372036854775807 := by
          obtain ⟨p2, c2, hv2, hk3, hk4⟩ := HP1.out.form
          simp only [Value.slice.injEq] at hv2
          unfold maxLen at hk4
          omega
        rw [h0]
        clear h0 hpay hpp hk1 hk2 hstep
        go_wp2_with (at_builtin; refine wpList_append_hasA rfl _ _ 23 rfl w1.heap.size 5 Tryd.underlying23 info_u8 (.slice none 0 0) [] rfl (Own.nil _ _ _) _ pp pp rfl HP1.out rfl (by have := HL.out; simp; omega) (Nat.le_refl _) w1 (Below.refl _ _) ?_)
        intro v3 w3 ho3 hb3
        have hz3 := hb3.size
        obtain ⟨p3, c3, hv3, _⟩ := ho3.has.form
        subst hv3
        have HO3 := Lib.hid ho3
        have HB3 := Lib.hid hb3
        clear ho3 hb3
        go_wp2_with (at_builtin; refine wpList_append_row rfl _ _ rfl w.heap.size _ ps rfl ((HO1.out.below HB3.out).below ((Below.refl _ _).alloc (Nat.le_refl _) _)) _ pp ((HO3.out.mono hz1).alloc _) w3.heap.size rfl (cell_new w3 _ _) _ rfl (by have := HL.out; omega) (by simp; omega) w ((HB1.out.trans (HB3.out.mono hz1)).alloc (by omega) _) ?_)
        intro v4 w4 ho4 hb4
        obtain ⟨p4, c4, hv4, _⟩ := ho4.form
        have HO4 := Lib.hid ho4
        have HB4 := Lib.hid hb4
        clear ho4 hb4
        subst hv4
        go_wp2
        go_roundw
        case rel => exact ⟨u + (8 + pp.length), ps ++ [pp], by go_num, HS, HO4.out, HB4.out⟩
        case measure => simp [intOf]; omega
      · have HE := Lib.hid (HA.out.stop hlt h0)
        generalize hh : fHow (l.drop u) = h at *
        have h0' : ¬ (h : Int) = 0 := by omega
        clear hpay h0
        go_wp2
        go_ret3
        exact ⟨_, by rw [HE.out]; rfl, by rw [HE.out]; exact HO1.out, HB1.out⟩
    · have hge' : ¬ (u : Int) < (l.length : Int) := by omega
      have HE := Lib.hid (HA.out.end hge)
      go_wp2_with fail
      go_ret3
      exact ⟨_, by rw [HE.out]; rfl, by rw [HE.out]; exact HO.out, HB.out⟩
end Go.Proofs.YtbkoejhnlmbciaaDoor
