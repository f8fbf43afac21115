/-
  The statement MergeThins, walked: what is seen, and what is left, is what the document's own answers say.
-/
import Derived.Test.YtfdafoibclfpgaaMRefThin
import Derived.Test.YtfdafoibclfpgaaMLessW
namespace Go.Proofs.Ytfdafoibclfpgaa
open Go.ChangeShapes Go.WideShapes Go.ChangeAt Go.RowKit Go.Deep
set_option linter.unusedVariables false
set_option linter.unusedSimpArgs false
def qItm : Itm := ⟨⟨#[113]⟩, 0, false, ⟨#[]⟩⟩
theorem size_u64q (W : World) : (sizeOf (Try.prog.elem 41)).run Try.prog W = .ok 1 W := by kernel_rfl
set_option maxRecDepth 100000 in
theorem num_head {w : World} {v : Value} {l : List Nat} (h : HasK w (encN .u64) v l) (hi : Nat) (h2 : hi ≤ l.length) :
    ∃ p' c', (∀ W, (Instr.slice 41 v none (some (.int .i64 (hi : Int))) none).run Try.prog W = .ok (.slice p' hi c') W) ∧ ∀ W0, HasK W0 (encN .u64) v l → HasK W0 (encN .u64) (.slice p' hi c') (l.take hi) := by
  obtain ⟨p, cap, rfl, k1, k2⟩ := h.form
  refine ⟨_, _, fun W => ?_, fun W0 h0 => by have := HasK.sub h0 0 hi (Nat.zero_le _) h2; rw [List.drop_zero] at this; exact this⟩
  rw [run_slice_h (P := Try.prog) (w := W) (t := 41) (a := p) (len := l.length) (cap := cap) Try.underlying41 .i64 (hi : Int) (by omega) (by omega), size_u64q]
  rfl
theorem thinC_len (keep : List Nat) (bt : Bool) (l : List Itm) : (thinC keep bt l).length ≤ l.length := by
  rcases hs : sortedB l with _ | _
  · rw [show thinC keep bt l = [] by unfold thinC; rw [hs]; rfl]
    exact Nat.zero_le _
  · rw [thinC_sorted keep bt l hs]
    exact (thinL_sub _ _ l ((sortedB_iff l).1 hs)).length_le
set_option maxRecDepth 100000 in
set_option maxHeartbeats 64000000 in
theorem Thins_any (v u : Value) (l : List Itm) (keep : List Nat) (bt : Bool) (q : Nat) (w : World) (hv : HasK w encI v l) (hu : HasK w (encN .u64) u keep) (hf : Fits l) :
    Calls Try.prog 5 #[v, u, .bool bt, .int .u64 (q : Int)] w fun e w' => e = .returned (.bool true) ∧ Below w.heap.size w w' := by
  obtain ⟨p, cap, rfl, h1, h2⟩ := hv.form
  obtain ⟨p2, cap2, rfl, k1, k2⟩ := hu.form
  obtain ⟨n, hn⟩ : ∃ n, l.length = n := ⟨_, rfl⟩
  obtain ⟨r, hr⟩ : ∃ r, keep.length = r := ⟨_, rfl⟩
  have HN := Lib.hid hn
  have HR := Lib.hid hr
  have HV := Lib.hid hv
  have HU := Lib.hid hu
  have HF := Lib.hid hf
  rw [hn] at h1 HV ⊢
  rw [hr] at k1 HU ⊢
  obtain ⟨B, hB⟩ : ∃ B, w.heap.size = B := ⟨_, rfl⟩
  have HBB := Lib.hid hB
  rw [hB]
  have hcI : (cap : Int) ≤ 9223372036854775807 := by unfold maxLen at h2; omega
  have hcJ : (cap2 : Int) ≤ 9223372036854775807 := by unfold maxLen at k2; omega
  clear hv hu hn hr h2 k2 hB hf
  go_enter Try.func5, Try.ntmps5
  go_wp2_with fail
  refine (Awake_any w).mono ?_
  rintro e w1 ⟨rfl, hb1⟩
  have HV1 := Lib.hid (HV.out.below hb1)
  have HU1 := Lib.hid (HU.out.below hb1)
  have HB1 := Lib.hid (show Below B w w1 by rw [HBB.out] at hb1; exact hb1)
  clear hb1
  rcases Nat.lt_or_ge 80 n with hn8 | hn8
  · have hI : (80 : Int) < (n : Int) := by omega
    go_wp2
    go_ret
    exact ⟨rfl, HB1.out⟩
  have hI : ¬ (80 : Int) < (n : Int) := by omega
  have hIb : decide ((80 : Int) < (n : Int)) = false := decide_eq_false hI
  rcases Nat.lt_or_ge 20 r with hr2 | hr2
  · have hJ : (20 : Int) < (r : Int) := by omega
    have hJb : decide ((20 : Int) < (r : Int)) = true := decide_eq_true hJ
    go_wp2
    go_ret
    exact ⟨rfl, HB1.out⟩
  have hJ : ¬ (20 : Int) < (r : Int) := by omega
  have hJb : decide ((20 : Int) < (r : Int)) = false := decide_eq_false hJ
  have HS1 := Lib.hid (show B ≤ w1.heap.size by have := HB1.out.size; rw [HBB.out] at this; exact this)
  have hba := (Below.refl w1.heap.size w1).alloc (Nat.le_refl _) (.cells #[] 29)
  have HOA := Lib.hid (OwnK.empty' w1 w1.heap.size 29 encI (Nat.le_refl _))
  have HVA := Lib.hid (HV1.out.below hba)
  have HBA := Lib.hid hba
  clear hba
  go_wp2_with (at_builtin; first
    | (refine wpList_append_ka rfl (.tmp 23) (.tmp 24) 23 rfl w1.heap.size 29 encI _ 48 Try.underlying23 info_item rfl (by decide) _ [] rfl HOA.out _ l rfl HVA.out (by show 0 + l.length ≤ _; rw [HN.out]; omega) HBA.out.size w1 HBA.out (fun v7 w7 ho7 hb7 => ?_)
       rw [List.nil_append] at ho7
       have hbb := (Below.refl w7.heap.size w7).alloc (Nat.le_refl _) (.cells #[.string ⟨#[113]⟩, .int .u64 0, .bool false, .string ⟨#[]⟩] 29)
       have HO7 := Lib.hid (ho7.below hbb)
       have HB7 := Lib.hid (hb7.trans (hbb.mono hb7.size))
       have HQ7 := Lib.hid (one_item qItm (heap_alloc_new w7 (.cells #[.string ⟨#[113]⟩, .int .u64 0, .bool false, .string ⟨#[]⟩] 29)))
       clear ho7 hb7 hbb)
    | (refine wpList_append_k rfl (.tmp 25) (.tmp 27) 23 rfl w1.heap.size 29 encI _ 48 Try.underlying23 info_item rfl (by decide) _ l rfl HO7.out _ [qItm] rfl HQ7.out Nat.one_pos (by show l.length + 1 ≤ _; rw [HN.out]; omega) HB7.out.size w1 HB7.out (fun v8 w8 ho8 hb8 _ _ => ?_)
       obtain ⟨p8, c8, rfl, h81, h82⟩ := ho8.sl
       obtain ⟨ph, ch, sh, hh⟩ := item_head ho8.has n (by rw [List.length_append, HN.out]; omega)
       have hh8 := hh _ ho8.has
       rw [show (l ++ [qItm]).take n = l by rw [← HN.out]; exact List.take_left] at hh8
       have HA8 := Lib.hid hh8
       have HB8 := Lib.hid hb8
       obtain ⟨m8, hm8⟩ : ∃ m, (l ++ [qItm]).length = m := ⟨_, rfl⟩
       rw [hm8] at sh ⊢
       have hbc := (Below.refl w8.heap.size w8).alloc (Nat.le_refl _) (.cells #[] 27)
       have HOC := Lib.hid (OwnK.empty' w8 w8.heap.size 27 (encN .u64) (Nat.le_refl _))
       have HUC := Lib.hid ((HU1.out.below hb8).below hbc)
       have HBC := Lib.hid hbc
       clear ho8 hb8 h81 h82 hh hh8 hm8 hbc)
    | (refine wpList_append_ka rfl (.tmp 32) (.tmp 33) 41 rfl w8.heap.size 27 (encN .u64) _ 8 Try.underlying41 info_n64 rfl (by decide) _ [] rfl HOC.out _ keep rfl HUC.out (by show 0 + keep.length ≤ _; rw [HR.out]; omega) HBC.out.size w8 HBC.out (fun v9 w9 ho9 hb9 => ?_)
       rw [List.nil_append] at ho9
       have hbb := (Below.refl w9.heap.size w9).alloc (Nat.le_refl _) (.cells #[.int .u64 9] 27)
       have HO9 := Lib.hid (ho9.below hbb)
       have HB9 := Lib.hid (hb9.trans (hbb.mono hb9.size))
       have HQ9 := Lib.hid (has_num1 (n := 9) (heap_alloc_new w9 (.cells #[.int .u64 9] 27)))
       clear ho9 hb9 hbb)
    | (refine wpList_append_k rfl (.tmp 34) (.tmp 35) 41 rfl w8.heap.size 27 (encN .u64) _ 8 Try.underlying41 info_n64 rfl (by decide) _ keep rfl HO9.out _ [9] rfl HQ9.out Nat.one_pos (by show keep.length + 1 ≤ _; rw [HR.out]; omega) HB9.out.size w8 HB9.out (fun v10 w10 ho10 hb10 _ _ => ?_)
       obtain ⟨p10, c10, rfl, h101, h102⟩ := ho10.sl
       obtain ⟨pk, ck, sk, hk⟩ := num_head ho10.has r (by rw [List.length_append, HR.out]; omega)
       have hk10 := hk _ ho10.has
       rw [show List.take r (keep ++ ([9] : List Nat)) = keep by rw [← HR.out]; exact List.take_left] at hk10
       have HK10 := Lib.hid hk10
       have HA10 := Lib.hid (HA8.out.below hb10)
       have HB10 := Lib.hid (HB8.out.trans (hb10.mono HB8.out.size))
       obtain ⟨m10, hm10⟩ : ∃ m, (keep ++ ([9] : List Nat)).length = m := ⟨_, rfl⟩
       rw [hm10] at sk ⊢
       clear ho10 hb10 h101 h102 hk hk10 hm10))
  clear sh sk
  have HV10 := Lib.hid (HV1.out.below HB10.out)
  have HU10 := Lib.hid (HU1.out.below HB10.out)
  have HX10 := Lib.hid (HB1.out.trans (HB10.out.mono HS1.out))
  refine (Seen_any _ l q w10 HA10.out (by rw [HN.out]; omega) HF.out.keys).mono ?_
  rintro e w11 ⟨v11, rfl, ho11, hb11⟩
  have HSE := Lib.hid ho11.has
  have HA11 := Lib.hid (HA10.out.below hb11)
  have HK11 := Lib.hid (HK10.out.below hb11)
  have HV11 := Lib.hid (HV10.out.below hb11)
  have HU11 := Lib.hid (HU10.out.below hb11)
  have HX11 := Lib.hid (HX10.out.trans (hb11.mono (by have := HX10.out.size; rw [HBB.out] at this; exact this)))
  clear ho11 hb11
  go_wp2_with fail
  refine (Thin_any _ _ l keep bt w11 HA11.out HK11.out (by rw [HN.out]; omega) (by rw [HR.out]; omega)).mono ?_
  rintro e w12 ⟨v12, rfl, ho12, hb12⟩
  have HTH := Lib.hid ho12.has
  have HSE12 := Lib.hid (HSE.out.below hb12)
  have HA12 := Lib.hid (HA11.out.below hb12)
  have HV12 := Lib.hid (HV11.out.below hb12)
  have HU12 := Lib.hid (HU11.out.below hb12)
  have HX12 := Lib.hid (HX11.out.trans (hb12.mono (by have := HX11.out.size; rw [HBB.out] at this; exact this)))
  clear ho12 hb12
  go_wp2_with fail
  refine (Same_any _ _ l l w12 HA12.out HV12.out (by rw [HN.out]; omega)).mono ?_
  rw [sameB_refl]
  rintro e w13 ⟨rfl, hb13⟩
  have HTH13 := Lib.hid (HTH.out.below hb13)
  have HSE13 := Lib.hid (HSE12.out.below hb13)
  have HV13 := Lib.hid (HV12.out.below hb13)
  have HU13 := Lib.hid (HU12.out.below hb13)
  have HX13 := Lib.hid (HX12.out.trans (hb13.mono (by have := HX12.out.size; rw [HBB.out] at this; exact this)))
  clear hb13
  go_wp2_with fail
  refine (RefSeen_any _ l q w13 HV13.out (by rw [HN.out]; omega)).mono ?_
  rintro e w14 ⟨v14, rfl, ho14, hb14⟩
  have HRS := Lib.hid ho14.has
  have HTH14 := Lib.hid (HTH13.out.below hb14)
  have HSE14 := Lib.hid (HSE13.out.below hb14)
  have HV14 := Lib.hid (HV13.out.below hb14)
  have HU14 := Lib.hid (HU13.out.below hb14)
  have HX14 := Lib.hid (HX13.out.trans (hb14.mono (by have := HX13.out.size; rw [HBB.out] at this; exact this)))
  clear ho14 hb14
  go_wp2_with fail
  refine (Same_any _ _ (seenL q l) (seenL q l) w14 HSE14.out HRS.out (by have := seenGo_len q l []; unfold seenL; rw [HN.out] at this; omega)).mono ?_
  rw [sameB_refl]
  rintro e w15 ⟨rfl, hb15⟩
  have HTH15 := Lib.hid (HTH14.out.below hb15)
  have HV15 := Lib.hid (HV14.out.below hb15)
  have HU15 := Lib.hid (HU14.out.below hb15)
  have HX15 := Lib.hid (HX14.out.trans (hb15.mono (by have := HX14.out.size; rw [HBB.out] at this; exact this)))
  clear hb15
  go_wp2_with fail
  refine (RefThin_any _ _ l keep bt w15 HV15.out HU15.out (by rw [HN.out]; omega) (by rw [HR.out]; omega) HF.out.seqs).mono ?_
  rintro e w16 ⟨v16, rfl, ho16, hb16⟩
  have HRT := Lib.hid ho16.has
  have HTH16 := Lib.hid (HTH15.out.below hb16)
  have HX16 := Lib.hid (HX15.out.trans (hb16.mono (by have := HX15.out.size; rw [HBB.out] at this; exact this)))
  clear ho16 hb16
  go_wp2_with fail
  refine (Same_any _ _ (thinC keep bt l) (thinC keep bt l) w16 HTH16.out HRT.out (by have := thinC_len keep bt l; rw [HN.out] at this; omega)).mono ?_
  rw [sameB_refl]
  rintro e w17 ⟨rfl, hb17⟩
  have HX17 := Lib.hid (HX16.out.trans (hb17.mono (by have := HX16.out.size; rw [HBB.out] at this; exact this)))
  clear hb17
  go_wp2
  go_ret
  exact ⟨rfl, HX17.out⟩
end Go.Proofs.Ytfdafoibclfpgaa
