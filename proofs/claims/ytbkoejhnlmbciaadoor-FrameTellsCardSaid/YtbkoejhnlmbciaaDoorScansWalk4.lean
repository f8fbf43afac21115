/-
  The law's own look at a scan (rolodexlaw4.scans).
-/
import Derived.Test.YtbkoejhnlmbciaaDoorLaysWalk4
import Derived.Test.YtbkoejhnlmbciaaDoorMine
import Derived.Lib.ConvBytes
namespace Go.Proofs.YtbkoejhnlmbciaaDoor
open Go.ChangeShapes Go.WideShapes Go.ChangeAt Go.RowKit Go.Deep
set_option linter.unusedVariables false
set_option linter.unusedSimpArgs false

set_option maxRecDepth 100000 in
set_option maxHeartbeats 8000000 in
theorem scans_any (v : Value) (l : List UInt8) (w0 : World) (hv : HasA w0 v l) (hN : Nib w0) (hl : l.length ≤ 1099511627775) :
    Calls Tryd.prog 13 #[v] w0 fun e w' => e = .returned (.bool true) ∧ Below w0.heap.size w0 w' := by
  have HV := Lib.hid hv
  have HN := Lib.hid hN
  obtain ⟨p0, cap0, rfl, hc1, hc2⟩ := hv.form
  have hml0 : (cap0 : Int) ≤ 9223372036854775807 := by unfold maxLen at hc2; omega
  have HM0 := Lib.hid hc2
  clear hv hN hc2
  have hk1 : (convert 23 9 (.slice p0 l.length cap0)).run Tryd.prog w0 = .ok (.string ⟨l.toArray⟩) w0 := HV.out.string 0
  have hk2 := Lib.run_convert_string_bytes (P := Tryd.prog) w0 9 23 5 ⟨l.toArray⟩ Tryd.underlying9 Tryd.underlying23 Tryd.underlying5
  have hsz : (⟨l.toArray⟩ : ByteArray).size = l.length := rfl
  rw [hsz] at hk2
  have hcapge : l.length ≤ grownCap w0 l.length 0 5 := grownCap_ge _ _ _ _
  have hcaple : grownCap w0 l.length 0 5 ≤ maxLen := grownCap_le_maxLen _ _ _ _ (by unfold maxLen; omega)
  have hbs := Lib.bytesWorld_size w0 5 ⟨l.toArray⟩
  have hcells : ∀ j (h : j < l.length), (Lib.bytesWorld w0 5 ⟨l.toArray⟩).cell? ⟨w0.heap.size, j, none⟩ = some (.int .u8 (l[j].toNat : Int)) := fun j hj => by
    rw [Lib.bytesWorld_cell w0 5 ⟨l.toArray⟩ j hj]
    simp [List.getD, hj]
  have hblk := Lib.bytesWorld_at_new w0 5 ⟨l.toArray⟩
  have hbc : (Lib.bytesCells w0 5 ⟨l.toArray⟩).size = grownCap w0 l.length 0 5 := by
    have h0 : l.length ≤ grownCap w0 l.length 0 5 := hcapge
    unfold Lib.bytesCells
    simp only [Array.size_append, Array.size_replicate, Array.size_map, List.size_toArray, hsz]
    omega
  have hbw : Below w0.heap.size w0 (Lib.bytesWorld w0 5 ⟨l.toArray⟩) := ⟨rfl, rfl, rfl, by rw [hbs]; omega, fun k hk => Lib.bytesWorld_at_old w0 5 ⟨l.toArray⟩ k hk⟩
  generalize hW1 : Lib.bytesWorld w0 5 ⟨l.toArray⟩ = W1 at hk2 hbs hcells hblk hbw
  generalize hC1 : grownCap w0 l.length 0 5 = C1 at hk2 hcapge hcaple hbc
  generalize hCC : Lib.bytesCells w0 5 ⟨l.toArray⟩ = CC at hblk hbc
  have HCells := Lib.hid hcells
  have HBlk := Lib.hid hblk
  have HBC := Lib.hid hbc
  have HB1 := Lib.hid hbw
  have hs1 : w0.heap.size ≤ W1.heap.size := HB1.out.size
  have hbs' : w0.heap.size < W1.heap.size := by omega
  clear hcells hblk hbc hbw hW1 hC1 hCC hsz hbs
  go_enter Tryd.func13, Tryd.ntmps13
  go_wp2_with (at_builtin; refine wpList_append_mine rfl (.tmp 12) (.tmp 13) 23 rfl w0.heap.size 5 Tryd.underlying23 info_u8 w0.heap.size _ C1 CC 5 _ l rfl rfl ((heap_alloc_old _ _ hbs').trans HBlk.out) (Nat.le_refl _) HBC.out hcaple (Nat.le_refl _) (fun j hj => ((World.cell?_alloc_lt _ _ _ hbs').trans (HCells.out j hj))) _ [(9 : UInt8)] (l ++ [9]) 1 rfl (has_lit W1 _ (0, 0) 9) rfl Nat.one_pos rfl (by simp; omega) w0 (HB1.out.alloc hs1 _) ?_)
  intro g3 cap3 w3 hg3 hh3 hb
  have hs3 := hb.size
  obtain ⟨_, _, hf3, hc3, hm3⟩ := hh3.form
  simp only [Value.slice.injEq] at hf3
  obtain ⟨-, hf3, rfl⟩ := hf3
  have hcg : l.length + 1 ≤ cap3 := by rw [hf3]; exact hc3
  have hm3' : (cap3 : Int) ≤ 9223372036854775807 := by unfold maxLen at hm3; omega
  obtain ⟨pc, cc, rc, gc⟩ := hh3.wide.head l.length (by rw [List.length_append]; omega)
  have htk : (l ++ [(9 : UInt8)]).take l.length = l := by simp
  rw [htk] at gc
  have H3 := Lib.hid hh3.wide
  have HC3 := Lib.hid (gc w3 hh3.wide)
  have HB3 := Lib.hid hb
  clear hb hh3 hf3 hc3 hm3 hk1 hk2 hcapge hcaple gc htk
  go_wp2_with fail
  refine (Scan_any _ l w3 HC3.out (HN.out.below HB3.out) (by omega)).mono ?_
  rintro e w4 ⟨v4, rfl, ho4, hb4⟩
  generalize hr : fScan l = r at ho4 ⊢
  obtain ⟨q, m, j⟩ := r
  have HR := Lib.hid hr
  have hle := fScan_le l.length l (Nat.le_refl _)
  rw [hr] at hle
  simp only at ho4 hle ⊢
  obtain ⟨hle1, hle2, hle3⟩ := hle
  have HL4 := Lib.hid ho4.has
  have HB4 := Lib.hid (HB3.out.trans (hb4.mono hs3))
  have H34 := Lib.hid (H3.out.below hb4)
  have hs4 := HB4.out.size
  obtain ⟨p4, n4', c4, hv4⟩ : ∃ p n c, v4 = .slice p n c := by obtain ⟨p, c, h, _⟩ := ho4.form; exact ⟨p, _, c, h⟩
  subst hv4
  clear ho4 hb4 hr
  go_wp2_with fail
  refine (RScan_any _ l w4 (HV.out.below HB4.out) (by omega)).mono ?_
  rintro e w5 ⟨v5, rfl, ho5, hb5⟩
  rw [HR.out] at ho5 ⊢
  simp only at ho5 ⊢
  have HL5 := Lib.hid ho5.has
  have HL4' := Lib.hid (HL4.out.below hb5)
  have HB5 := Lib.hid (HB4.out.trans (hb5.mono hs4))
  have H35 := Lib.hid (H34.out.below hb5)
  have hs5 := HB5.out.size
  obtain ⟨p5, n5', c5, hv5⟩ : ∃ p n c, v5 = .slice p n c := by obtain ⟨p, c, h, _⟩ := ho5.form; exact ⟨p, _, c, h⟩
  subst hv5
  clear ho5 hb5
  go_wp2_with fail
  refine (same_any _ q _ q w5 HL4'.out HL5.out).mono ?_
  rintro e w6 ⟨rfl, n6, hw6⟩
  rw [decide_eq_true rfl]
  have HB6 : Hid (Below w0.heap.size w0 w6) := Lib.hid (by rw [hw6]; exact below_drewN' HB5.out n6)
  have h36 : HasA w6 (.slice (some ⟨g3, 0, none⟩) (l.length + 1) cap3) (l ++ [9]) := by rw [hw6]; exact H35.out.drewN n6
  clear hw6
  obtain ⟨sB, hsB⟩ : ∃ A : ByteArray, A = ⟨l.toArray⟩ := ⟨_, rfl⟩
  obtain ⟨sC, hsC⟩ : ∃ A : ByteArray, A = ⟨(l ++ [9]).toArray⟩ := ⟨_, rfl⟩
  have h9 : (⟨#[9]⟩ : ByteArray) = ⟨[(9 : UInt8)].toArray⟩ := rfl
  have E3 : ∀ W : World, (Op.stringOp .add sB ⟨#[9]⟩).run Tryd.prog W = .ok (.string sC) W := fun W : World => cat (P := Tryd.prog) (w := W) hsB h9 hsC (by simp; omega)
  have hcb : (convert 23 9 (.slice p0 l.length cap0)).run Tryd.prog w6 = .ok (.string sB) w6 := by rw [hsB]; exact (HV.out.below HB6.out).string 0
  have hcc : (convert 23 9 (.slice (some ⟨g3, 0, none⟩) (l.length + 1) cap3)).run Tryd.prog w6 = .ok (.string sC) w6 := by rw [hsC]; exact h36.string 0
  have hself := (text_eq_iff sC sC).2 rfl
  clear hsB hsC h9 h36
  go_wp2_with fail
  go_ret
  exact ⟨rfl, HB6.out⟩
end Go.Proofs.YtbkoejhnlmbciaaDoor
