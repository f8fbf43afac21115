/-
  The walk of the law FrameScans.
-/
import Derived.Test.YtbkoejhnlmbciaaDoorScansWalk4
import Derived.Laws.OwnMore
namespace Go.Proofs.YtbkoejhnlmbciaaDoor
open Go.ChangeShapes Go.WideShapes Go.ChangeAt Go.RowKit Go.Deep
set_option linter.unusedVariables false
set_option linter.unusedSimpArgs false

theorem Own.store {w : World} {B : Nat} {e : TypeId} {g n cap : Nat} {l : List UInt8} (h : Own w B e (.slice (some ⟨g, 0, none⟩) n cap) l) (hn : n = l.length) (j : Nat) (y : UInt8) :
    Own (w.setCell ⟨g, j, none⟩ (.int .u8 (y.toNat : Int))) B e (.slice (some ⟨g, 0, none⟩) n cap) (l.set j y) := by
  subst hn
  have h1 := (World.ownsRow.stored h j (.int .u8 (y.toNat : Int))).1
  have h2 : (Lib.byteCells l).set j (.int .u8 (y.toNat : Int)) = Lib.byteCells (l.set j y) := by unfold Lib.byteCells; rw [List.map_set]
  rw [h2] at h1
  unfold Own
  rw [List.length_set]
  exact h1
theorem Own.place {w : World} {B : Nat} {e : TypeId} {v : Value} {l : List UInt8} (h : Own w B e v l) (h0 : 0 < l.length) : ∃ g cap, v = .slice (some ⟨g, 0, none⟩) l.length cap ∧ B ≤ g ∧ g < w.heap.size ∧ l.length ≤ cap ∧ (cap : Int) ≤ 9223372036854775807 ∧ Hid (∀ j (h : j < l.length), w.cell? ⟨g, j, none⟩ = some (.int .u8 (l[j].toNat : Int)) ∧ w.frozen? ⟨g, j, none⟩ = false) := by
  have hlt := World.ownsRow.lt h
  have hfr := fun {g cap : Nat} (hv : v = .slice (some ⟨g, 0, none⟩) l.length cap) (j : Nat) => World.ownsRow.frozenAt (hv ▸ h : w.ownsRow B e 1 (.slice (some ⟨g, 0, none⟩) l.length cap) l.length (Lib.byteCells l)) j
  have hca := fun {g cap : Nat} (hv : v = .slice (some ⟨g, 0, none⟩) l.length cap) (j : Nat) (hj : j < l.length) => World.ownsRow.cellAt (hv ▸ h : w.ownsRow B e 1 (.slice (some ⟨g, 0, none⟩) l.length cap) l.length (Lib.byteCells l)) j (by omega)
  rcases h.2 with ⟨_, h1⟩ | ⟨g, cap, cur, hv, hg, hh, h1, h2, _⟩
  · omega
  · refine ⟨g, cap, hv, hg, lt_of_block hh, h1, by unfold maxLen at h2; omega, fun j hj => ⟨?_, hfr hv j⟩⟩
    rw [hca hv j hj]
    exact byteCells_get hj
theorem xor_byte (x : UInt8) (by_ : Int) (h : 0 ≤ by_ ∧ by_ ≤ 255) : ∃ y : UInt8, bits .xor .u8 (x.toNat : Int) by_ = (y.toNat : Int) ∧ y.toNat = x.toNat ^^^ by_.toNat := by
  have hx := x.toNat_lt
  have hlt : x.toNat ^^^ by_.toNat < 256 := Nat.xor_lt_two_pow (n := 8) (by omega) (by omega)
  refine ⟨UInt8.ofNat (x.toNat ^^^ by_.toNat), ?_, ?_⟩
  · rw [u8_xor _ _ (by omega) (by omega) (by omega) (by omega), UInt8.toNat_ofNat']
    simp only [Int.toNat_natCast]
    omega
  · rw [UInt8.toNat_ofNat']; omega

set_option maxRecDepth 100000 in
set_option maxHeartbeats 8000000 in
theorem FrameScans_any (v : Value) (l : List UInt8) (v1 : Value) (ls : List (List UInt8)) (at_ : Int) (by_ : Int) (w : World) (hv : HasA w v l) (hl : l.length ≤ 1048576) (h1 : HasL w v1 ls) (hat : (Lit.int .i64 at_).wf = true) (hby : (Lit.int .u8 by_).wf = true) (hN : Nib w) :
    Calls Tryd.prog 5 #[v, v1, .int .i64 at_, .int .u8 by_] w fun e w' => e = .returned (.bool true) ∧ Below w.heap.size w w' := by
  have hcc : -9223372036854775808 ≤ at_ ∧ at_ ≤ 9223372036854775807 := by
    have e1 : IntKind.i64.min = -9223372036854775808 := by decide
    have h : IntKind.i64.min ≤ at_ ∧ at_ ≤ 9223372036854775807 := by simpa [Lit.wf] using hat
    rw [e1] at h
    exact h
  have hbb : 0 ≤ by_ ∧ by_ ≤ 255 := by
    have e1 : IntKind.u8.min = 0 := by decide
    have e2 : IntKind.u8.max = 255 := by decide
    have h : IntKind.u8.min ≤ by_ ∧ by_ ≤ IntKind.u8.max := by simpa [Lit.wf] using hby
    rw [e1, e2] at h
    exact h
  obtain ⟨hc1, hc2⟩ := hcc
  obtain ⟨hb1, hb2⟩ := hbb
  obtain ⟨bL, oL, capL, pL, rfl, hcl, hdl, HPL, HCL⟩ := h1.open
  obtain ⟨p0, cap0, rfl, hk1, hk2⟩ := hv.form
  have hml : (capL : Int) ≤ 9223372036854775807 := by unfold maxLen at hdl; omega
  have hm0 : (cap0 : Int) ≤ 9223372036854775807 := by unfold maxLen at hk2; omega
  have HDL := Lib.hid hdl
  have HK2 := Lib.hid hk2
  have H0 := Lib.hid hv
  have H1 := Lib.hid h1
  have HN := Lib.hid hN
  clear hv h1 hN hdl hk2 hat hby
  go_enter Tryd.func5, Tryd.ntmps5
  go_wp2_with fail
  refine (awake_any w HN.out).mono ?_
  rintro e w1 ⟨rfl, hb1'⟩
  have hz1 := hb1'.size
  have HB1 := Lib.hid hb1'
  clear hb1'
  go_wp2_with fail
  refine (scans_any _ l w1 (H0.out.below HB1.out) (HN.out.below HB1.out) (by omega)).mono ?_
  rintro e w2 ⟨rfl, hb2'⟩
  have hz2 := hb2'.size
  have HB2 := Lib.hid (HB1.out.trans (hb2'.mono hz1))
  clear hb2'
  by_cases h20 : 20 < ls.length
  · have h20' : (20 : Int) < (ls.length : Int) := by omega
    go_wp2_with fail
    go_ret
    exact ⟨rfl, HB2.out⟩
  · have h20' : ¬ (20 : Int) < (ls.length : Int) := by omega
    go_wp2_with fail
    go_loopw [9, 10] (fun va vi wr => ∃ (k : Nat), k ≤ ls.length ∧ vi = .int .i64 k ∧ Hid (∀ p ∈ ls.take k, p.length ≤ 500) ∧ Own wr w.heap.size 5 va (frames (ls.take k)) ∧ Below w.heap.size w wr) (fun _ vi _ => ls.length - (intOf vi).toNat)
    case atStart => exact ⟨0, Nat.zero_le _, rfl, Lib.hid (fun p hp => by simp at hp), by rw [List.take_zero]; exact Own.nil _ _ _, HB2.out⟩
    case round =>
      obtain ⟨k, hk, rfl, HS, ho, hb⟩ := hrel
      obtain ⟨pa, na, ca, rfl, hna, hka, hma⟩ := ho.has.wide.shape
      have hnal : (frames (ls.take k)).length ≤ 20 * 508 := by
        have := frames_len_le HS.out
        rw [List.length_take] at this
        omega
      have hnal' : na ≤ 20 * 508 := by rw [hna.out]; exact hnal
      have HNL := Lib.hid hnal
      have hzr := hb.size
      have HO := Lib.hid ho
      have HB := Lib.hid hb
      clear ho hb hnal
      rcases Nat.lt_or_ge k ls.length with hlt | hge
      · have hlt' : (k : Int) < (ls.length : Int) := by omega
        have hp := HPL.out (by omega)
        obtain ⟨hp1, hbl⟩ := hp
        subst hp1
        obtain ⟨x, hx, hxa⟩ := HCL.out k hlt
        have hxr : wr.cell? ⟨bL, oL + k, none⟩ = some x := (HB.out.cell (p := ⟨bL, oL + k, none⟩) hbl).trans hx
        have HXA := Lib.hid (hxa.below HB.out)
        obtain ⟨px, nx, cx, rfl, hnx, hkx, hmx⟩ := hxa.shape
        clear hx hxa
        by_cases h5 : 500 < nx
        · have h5' : (500 : Int) < (nx : Int) := by omega
          go_wp2_with fail
          go_ret
          exact ⟨rfl, HB.out⟩
        · have h5' : ¬ (500 : Int) < (nx : Int) := by omega
          have hxl : ls[k].length ≤ 500 := by rw [← hnx.out]; omega
          have HS2 := Lib.hid (take_le HS.out hlt hxl)
          have HXL := Lib.hid hxl
          clear hxl
          go_wp2_with fail
          refine (RFrame_any _ ls[k] wr HXA.out (by have := HXL.out; omega)).mono ?_
          rintro e w4 ⟨v4, rfl, ho4, hb4⟩
          have hz4 := hb4.size
          have HO4 := Lib.hid ho4
          have HB4w := Lib.hid (HB.out.trans (hb4.mono hzr))
          have HX4 := Lib.hid (HO.out.below hb4)
          clear ho4 hb4
          go_wp2_with (at_builtin; refine wpList_append_has rfl _ _ 23 rfl w.heap.size 5 Tryd.underlying23 info_u8 _ (frames (ls.take k)) rfl HX4.out _ (frameOf ls[k]) (frames (ls.take (k + 1))) rfl HO4.out.has (frames_snoc _ _ hlt) (by have := HNL.out; have := HXL.out; rw [frameOf_len]; omega) (by omega) w HB4w.out ?_)
          intro v5 w5 ho5 hb5
          have HO5 := Lib.hid ho5
          have HB5 := Lib.hid hb5
          obtain ⟨p5, n5, c5, rfl, _, _, _⟩ := ho5.has.wide.shape
          clear ho5 hb5
          go_wp2_with fail
          exact ⟨⟨k + 1, by omega, by go_num, HS2, HO5.out, HB5.out⟩, by simp [intOf]; omega⟩
      · have hge' : ¬ (k : Int) < (ls.length : Int) := by omega
        have ht : ls.take k = ls := List.take_of_length_le hge
        rw [ht] at HS HO HNL hna
        clear ht
        by_cases ha0 : at_ < 0
        · have ha0' : ¬ (0 : Int) ≤ at_ := by omega
          go_wp2_with fail
          refine (scans_any _ (frames ls) wr HO.out.has.wide (HN.out.below HB.out) (by have := HNL.out; omega)).mono ?_
          rintro e w5 ⟨rfl, hb5⟩
          have HB5 := Lib.hid (HB.out.trans (hb5.mono hzr))
          clear hb5
          go_wp2_with fail
          go_ret
          exact ⟨rfl, HB5.out⟩
        · have ha0' : (0 : Int) ≤ at_ := by omega
          by_cases ha1 : at_ < (na : Int)
          · obtain ⟨A, rfl⟩ : ∃ A : Nat, at_ = (A : Int) := ⟨at_.toNat, by omega⟩
            have hA : A < (frames ls).length := by rw [← hna.out]; omega
            obtain ⟨g, cap, hpl, hgB, hgl, hk5, hm5, HC5⟩ := HO.out.place (by omega)
            simp only [Value.slice.injEq] at hpl
            obtain ⟨rfl, -, rfl⟩ := hpl
            obtain ⟨hcA, hfA⟩ := HC5.out A hA
            obtain ⟨y, hy⟩ : ∃ y : UInt8, bits .xor .u8 (((frames ls)[A]).toNat : Int) by_ = (y.toNat : Int) := by
              obtain ⟨y, hy, _⟩ := xor_byte ((frames ls)[A]) by_ ⟨by omega, by omega⟩
              exact ⟨y, hy⟩
            have hst : Own (wr.setCell ⟨g, A, none⟩ (.int .u8 (y.toNat : Int))) w.heap.size 5 (.slice (some ⟨g, 0, none⟩) na ca) ((frames ls).set A y) := HO.out.store hna.out A y
            have HST := Lib.hid hst
            have HBS := Lib.hid (HB.out.setCell (p := ⟨g, A, none⟩) hgB (.int .u8 (y.toNat : Int)))
            generalize ((frames ls)[A]).toNat = xn at hcA hy
            clear hst hA
            go_wp2_with fail
            refine (scans_any _ ((frames ls).set A y) _ HST.out.has.wide (HN.out.below HBS.out) (by rw [List.length_set]; have := HNL.out; omega)).mono ?_
            rintro e w5 ⟨rfl, hb5⟩
            have HB5 := Lib.hid (HBS.out.trans (hb5.mono HBS.out.size))
            clear hb5
            go_wp2_with fail
            go_ret
            exact ⟨rfl, HB5.out⟩
          · go_wp2_with fail
            refine (scans_any _ (frames ls) wr HO.out.has.wide (HN.out.below HB.out) (by have := HNL.out; omega)).mono ?_
            rintro e w5 ⟨rfl, hb5⟩
            have HB5 := Lib.hid (HB.out.trans (hb5.mono hzr))
            clear hb5
            go_wp2_with fail
            go_ret
            exact ⟨rfl, HB5.out⟩
end Go.Proofs.YtbkoejhnlmbciaaDoor
