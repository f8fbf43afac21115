/-
  The document's own scan (rolodexref3.Scan).
-/
import Derived.Test.YtbkoejhnlmbciaaDoorScan
import Derived.Test.YtbkoejhnlmbciaaDoorRFrame
import Derived.Deep.RegionHeld3
import Derived.Laws.Strings
namespace Go.Proofs.YtbkoejhnlmbciaaDoor
open Go.ChangeShapes Go.WideShapes Go.ChangeAt Go.RowKit Go.Deep
set_option linter.unusedVariables false
set_option linter.unusedSimpArgs false

theorem text_eq_iff (x y : ByteArray) : (x.toList == y.toList) = true ↔ x = y := by
  rw [beq_iff_eq, ByteArray.toList_eq, ByteArray.toList_eq]
  exact ⟨fun h => ByteArray.ext (Array.toList_inj.mp h), fun h => by rw [h]⟩
theorem text_ne_iff (x y : ByteArray) : (x.toList == y.toList) = false ↔ x ≠ y := by
  rw [Ne, ← text_eq_iff x y, Bool.not_eq_true]
section
variable {P : Program} {ops : Array Oper} {Q : Exit → Act → World → Prop} {md : Region.Mode}
/-- More is known from here on. -/
theorem wpAnyH_more {S S' : World → Prop} (hs : ∀ w, S' w → S w) : ∀ (fuel : Nat) (listed : Array Bool) (a : Act) (w : World), wpAnyH P md ops Q S' fuel listed a w → wpAnyH P md ops Q S fuel listed a w
  | 0, _, _, _, h => h
  | fuel + 1, _, _, _, h => ⟨h.1, fun i hi => wpOp_mono (fun a' w' h' => ⟨hs w' h'.1, wpAnyH_more hs fuel _ a' w' h'.2⟩) (h.2 i hi)⟩
end
set_option maxRecDepth 100000 in
set_option maxHeartbeats 4000000 in
theorem RScan_any (v : Value) (l : List UInt8) (w : World) (hv : HasA w v l) (hlim : l.length ≤ 1099511627776) :
    Calls Tryd.prog 20 #[v] w (Scn w l) := by
  obtain ⟨p, cap, rfl, hc1, hc2⟩ := hv.form
  have HV := Lib.hid hv
  have hml : (cap : Int) ≤ 9223372036854775807 := by unfold maxLen at hc2; omega
  have H2 := Lib.hid hc2
  have HL := Lib.hid hlim
  clear hv hc2
  have hmk : ∀ w, (Instr.makeSlice 27 (.int .i64 0) (.int .i64 0)).run Tryd.prog w = .ok (.slice (some ⟨w.heap.size, 0, none⟩) 0 0) (w.alloc (.cells #[] 23)) := fun w => by kernel_rfl
  have hb0 : Below w.heap.size w (w.alloc (.cells #[] 23)) := (Below.refl _ _).alloc (Nat.le_refl _) _
  have ho0 : OwnL (w.alloc (.cells #[] 23)) w.heap.size (.slice (some ⟨w.heap.size, 0, none⟩) 0 0) [] := ⟨[], ⟨rfl, .inr ⟨w.heap.size, 0, _, rfl, Nat.le_refl _, heap_alloc_new _ _, Nat.le_refl _, Nat.zero_le _, rfl, rfl⟩⟩, fun j hj => absurd hj (Nat.not_lt_zero _)⟩
  have HB0 := Lib.hid hb0
  have HO0 := Lib.hid ho0
  clear hb0 ho0
  go_enter Tryd.func20, Tryd.ntmps20
  go_wp2
  go_loopw [5, 6] (fun vr vi wr => ∃ (u : Nat) (ps : List (List UInt8)), vi = .int .i64 u ∧ Hid (At l u ps) ∧ OwnL wr w.heap.size vr ps ∧ Below w.heap.size w wr) (fun _ vi _ => l.length - (intOf vi).toNat)
  case atStart => exact ⟨0, [], rfl, Lib.hid (At.zero l), HO0.out, HB0.out⟩
  case round =>
    clear HB0 HO0 hmk
    obtain ⟨u, ps, rfl, HA, ho, hb⟩ := hrel
    have hul := HA.out.1
    obtain ⟨pr, cr, rfl, hr1, hr2⟩ := ho.form
    have hzr := hb.size
    have HO := Lib.hid ho
    have HB := Lib.hid hb
    have HR2 := Lib.hid hr2
    clear ho hb hr2
    rcases Nat.lt_or_ge u l.length with hlt | hge
    · have hlt' : (u : Int) < (l.length : Int) := by omega
      obtain ⟨pt, ct, rt, gt⟩ := HV.out.tail u hul
      have hX := gt wr (HV.out.below HB.out)
      clear gt
      obtain ⟨n, hn⟩ : ∃ n, l.length - u = n := ⟨_, rfl⟩
      obtain ⟨x, hx⟩ : ∃ x, l.drop u = x := ⟨_, rfl⟩
      have hxl : x.length = n := by rw [← hx, List.length_drop, hn]
      rw [hn, hx] at hX
      rw [hn] at rt
      have HX := Lib.hid hX
      have HXL := Lib.hid hxl
      have HXX := Lib.hid hx
      obtain ⟨_, _, hfe, _, hmx⟩ := hX.form
      have hct : (ct : Int) ≤ 9223372036854775807 := by
        simp only [Value.slice.injEq] at hfe
        unfold maxLen at hmx
        omega
      clear hX hx hfe hmx
      by_cases h8 : n < 8
      · have hh : fHow x = 1 := by unfold fHow; rw [if_pos (by omega)]
        have HE := Lib.hid (HA.out.stop hlt (by rw [HXX.out, hh]; omega))
        have HH := Lib.hid hh
        clear hh hxl
        have h8' : (n : Int) < 8 := by omega
        go_wp2_with fail
        go_ret3
        exact ⟨_, by rw [HE.out, HXX.out, HH.out]; rfl, by rw [HE.out]; exact HO.out, HB.out⟩
      · have h8' : ¬ (n : Int) < 8 := by omega
        obtain ⟨k, hk⟩ : ∃ k, n4 x = k := ⟨_, rfl⟩
        have hk32 : k < 4294967296 := by rw [← hk]; exact n4_lt x
        have HNum := Lib.hid (Rnumber_any _ x wr HX.out (by omega))
        rw [hk] at HNum
        have HK := Lib.hid hk
        clear hk hxl
        by_cases hbig : 65536 < k
        · have hh : fHow x = 2 := by unfold fHow; rw [if_neg (by have := HXL.out; omega), if_pos (by rw [HK.out]; exact hbig)]
          have HE := Lib.hid (HA.out.stop hlt (by rw [HXX.out, hh]; omega))
          have HH := Lib.hid hh
          clear hh
          have hb' : (65536 : Int) < (k : Int) := by omega
          go_wp2_with fail
          refine HNum.out.mono ?_
          rintro e w1 ⟨rfl, n1, rfl⟩
          go_wp2_with fail
          go_ret3
          exact ⟨_, by rw [HE.out, HXX.out, HH.out]; rfl, by rw [HE.out]; exact HO.out.drewN n1, below_drewN' HB.out n1⟩
        · have hb' : ¬ (65536 : Int) < (k : Int) := by omega
          by_cases ht : n < 8 + k
          · have hh : fHow x = 1 := by unfold fHow; rw [if_neg (by have := HXL.out; omega), if_neg (by rw [HK.out]; exact hbig), if_pos (by rw [HK.out, HXL.out]; exact ht)]
            have HE := Lib.hid (HA.out.stop hlt (by rw [HXX.out, hh]; omega))
            have HH := Lib.hid hh
            clear hh
            have ht' : (n : Int) - 8 < (k : Int) := by omega
            go_wp2_with fail
            refine HNum.out.mono ?_
            rintro e w1 ⟨rfl, n1, rfl⟩
            go_wp2_with fail
            go_ret3
            exact ⟨_, by rw [HE.out, HXX.out, HH.out]; rfl, by rw [HE.out]; exact HO.out.drewN n1, below_drewN' HB.out n1⟩
          · have ht' : ¬ (n : Int) - 8 < (k : Int) := by omega
            obtain ⟨p2, c2, r2, g2⟩ := HX.out.mid 8 (8 + k) (by omega) (by have := HXL.out; omega)
            obtain ⟨p3, c3, r3, g3⟩ := HX.out.head (8 + k) (by have := HXL.out; omega)
            have e2 : ((8 + k : Nat) : Int) = 8 + (k : Int) := by omega
            rw [e2] at r2 r3
            clear e2
            rw [Nat.add_sub_cancel_left] at r2 g2
            obtain ⟨r2, -⟩ : (∀ W, (Instr.slice 23 (.slice pt n ct) (some (.int .i64 8)) (some (.int .i64 (8 + (k : Int)))) none).run Tryd.prog W = .ok (.slice p2 k c2) W) ∧ True := ⟨r2, trivial⟩
            have G3 := Lib.hid g3
            have hpp : ((x.take (8 + k)).drop 8) = fPay x := by unfold fPay; rw [HK.out, List.drop_take]; congr 1; omega
            rw [hpp] at g2
            have G2 := Lib.hid g2
            clear g2 g3 hpp
            have hxn := HXL.out
            have hpl := fPay_len (b := x) (by have := HK.out; omega)
            have href := fHow_ref (b := x) (by omega) (by have := HK.out; omega) (by have := HK.out; omega)
            rw [HK.out] at href hpl
            obtain ⟨pp, hpp⟩ : ∃ pp, fPay x = pp := ⟨_, rfl⟩
            rw [hpp] at href hpl
            have HPP := Lib.hid hpp
            have HPL := Lib.hid hpl
            obtain ⟨sA, hsA⟩ : ∃ sA : ByteArray, sA = ⟨(frameOf pp).toArray⟩ := ⟨_, rfl⟩
            obtain ⟨sB, hsB⟩ : ∃ sB : ByteArray, sB = ⟨(x.take (8 + k)).toArray⟩ := ⟨_, rfl⟩
            have hAB : sA = sB ↔ fHow x = 0 := by
              rw [hsA, hsB, ← href]
              constructor
              · intro h
                have := congrArg (fun b : ByteArray => b.data.toList) h
                simpa using this
              · intro h; rw [h]
            have HSA := Lib.hid hsA
            have HSB := Lib.hid hsB
            obtain ⟨bq, hbq⟩ : ∃ bq : Bool, (sA.toList == sB.toList) = !bq := ⟨!(sA.toList == sB.toList), by simp⟩
            have HBQ := Lib.hid hbq
            have HAB := Lib.hid hAB
            clear hbq
            clear href hpl hpp hsA hsB hAB
            go_wp2_with fail
            refine HNum.out.mono ?_
            rintro e w1 ⟨rfl, n1, hw1⟩
            have HO1 : Hid (OwnL w1 w.heap.size (.slice pr ps.length cr) ps) := Lib.hid (by rw [hw1]; exact HO.out.drewN n1)
            have HB1 : Hid (Below w.heap.size w w1) := Lib.hid (by rw [hw1]; exact below_drewN' HB.out n1)
            have HX1 : Hid (HasA w1 (.slice pt n ct) x) := Lib.hid (by rw [hw1]; exact HX.out.drewN n1)
            have hz1 := HB1.out.size
            clear hw1 HNum
            have hz2 : ∀ o, w1.heap.size ≤ (w1.alloc o).heap.size := fun o => ((Below.refl w1.heap.size w1).alloc (Nat.le_refl _) o).size
            have HP2 : Hid (HasA w1 (.slice p2 k c2) pp) := Lib.hid (by have := G2.out w1 HX1.out; rw [HPP.out] at this; exact this)
            go_wp2_with (at_builtin; refine wpList_append_hasA rfl _ _ 23 rfl w1.heap.size 5 Tryd.underlying23 info_u8 _ [] rfl (own_empty w1 _ _ (Nat.le_refl _)) _ pp pp rfl (HP2.out.below ((Below.refl _ _).alloc (Nat.le_refl _) _)) rfl (by have := HPL.out; simp; omega) (hz2 _) w1 ((Below.refl _ _).alloc (Nat.le_refl _) _) ?_)
            intro v3 w3 ho3 hb3
            have hz3 := hb3.size
            obtain ⟨p9, c9, hv3, hk9, hm9⟩ := ho3.has.form
            subst hv3
            have HO3 := Lib.hid ho3
            have HB3 := Lib.hid hb3
            have hm9' : (c9 : Int) ≤ 9223372036854775807 := by unfold maxLen at hm9; omega
            have HM9 := Lib.hid hm9
            clear ho3 hb3 hm9
            have hS0 : (convert 23 9 (.slice p3 (8 + k) c3)).run Tryd.prog w3.drew = .ok (.string sB) w3.drew := by
              rw [HSB.out]
              exact HasA.string (w := w3) ((G3.out w1 HX1.out).below HB3.out) 1
            have hw1 : IntKind.i64.wrap (k : Int) = (k : Int) := by rw [IntKind.wrap_i64]; omega
            have hw2 : IntKind.i64.wrap (8 + (k : Int)) = 8 + (k : Int) := by rw [IntKind.wrap_i64]; omega
            go_wp2
            refine wp_region_held_drew (S := fun w' => (convert 23 9 (.slice p3 (8 + k) c3)).run Tryd.prog w' = .ok (.string sB) w') (by kernel_rfl) hS0 (fun hHeld => ?_)
            refine wpAnyH_take (i := 0) (oi := _) (v := ?_) rfl (by kernel_rfl) (by kernel_rfl) (by kernel_rfl) (fun _ _ _ h => h) (Or.inl ⟨by rfl, ?hy⟩) (by assumption) ?rest
            case hy =>
              intro w9 hSw
              try dsimp only at hSw
              try simp only [List.getElem_toArray, List.getElem_cons_zero, List.getElem_cons_succ]
              go_simp
              try with_reducible rfl
            case rest =>
              try simp only [Act.put, List.setIfInBounds_toArray, List.set_cons_zero, List.set_cons_succ, List.getElem_toArray, List.getElem_cons_zero, List.getElem_cons_succ]
              refine wpAnyH_take (i := 3) (oi := _) (v := ?_) rfl (by kernel_rfl) (by kernel_rfl) (by kernel_rfl) (fun _ _ _ h => h) (Or.inl ⟨by rfl, ?hy⟩) (by assumption) ?rest
              case hy =>
                intro w9 hSw
                try dsimp only at hSw
                try simp only [List.getElem_toArray, List.getElem_cons_zero, List.getElem_cons_succ]
                go_simp
                try with_reducible rfl
              case rest =>
                try simp only [Act.put, List.setIfInBounds_toArray, List.set_cons_zero, List.set_cons_succ, List.getElem_toArray, List.getElem_cons_zero, List.getElem_cons_succ]
                refine wpAnyH_take (i := 4) (oi := _) (v := ?_) rfl (by kernel_rfl) (by kernel_rfl) (by kernel_rfl) (fun _ _ _ h => h) (Or.inl ⟨by rfl, ?hy⟩) (by assumption) ?rest
                case hy =>
                  intro w9 hSw
                  try dsimp only at hSw
                  try simp only [List.getElem_toArray, List.getElem_cons_zero, List.getElem_cons_succ]
                  go_simp
                  try with_reducible rfl
                case rest =>
                  try simp only [Act.put, List.setIfInBounds_toArray, List.set_cons_zero, List.set_cons_succ, List.getElem_toArray, List.getElem_cons_zero, List.getElem_cons_succ]
                  refine wpAnyH_take (i := 5) (oi := _) (v := ?_) rfl (by kernel_rfl) (by kernel_rfl) (by kernel_rfl) (fun _ _ _ h => h) (Or.inl ⟨by rfl, ?hy⟩) (by assumption) ?rest
                  case hy =>
                    intro w9 hSw
                    try dsimp only at hSw
                    try simp only [List.getElem_toArray, List.getElem_cons_zero, List.getElem_cons_succ]
                    go_simp
                    try with_reducible rfl
                  case rest =>
                    try simp only [Act.put, List.setIfInBounds_toArray, List.set_cons_zero, List.set_cons_succ, List.getElem_toArray, List.getElem_cons_zero, List.getElem_cons_succ]
                    refine wpAnyH_take (i := 6) (oi := _) (v := ?_) rfl (by kernel_rfl) (by kernel_rfl) (by kernel_rfl) (fun _ _ _ h => h) (Or.inl ⟨by rfl, ?hy⟩) (by assumption) ?rest
                    case hy =>
                      intro w9 hSw
                      try dsimp only at hSw
                      try simp only [List.getElem_toArray, List.getElem_cons_zero, List.getElem_cons_succ]
                      go_simp
                      try with_reducible rfl
                    case rest =>
                      try simp only [Act.put, List.setIfInBounds_toArray, List.set_cons_zero, List.set_cons_succ, List.getElem_toArray, List.getElem_cons_zero, List.getElem_cons_succ]
                      refine wpAnyH_take (i := 7) (oi := _) (v := ?_) rfl (by kernel_rfl) (by kernel_rfl) (by kernel_rfl) (fun _ _ _ h => h) (Or.inl ⟨by rfl, ?hy⟩) (by assumption) ?rest
                      case hy =>
                        intro w9 hSw
                        try dsimp only at hSw
                        try simp only [List.getElem_toArray, List.getElem_cons_zero, List.getElem_cons_succ]
                        go_simp
                        try with_reducible rfl
                      case rest =>
                        try simp only [Act.put, List.setIfInBounds_toArray, List.set_cons_zero, List.set_cons_succ, List.getElem_toArray, List.getElem_cons_zero, List.getElem_cons_succ]
                        refine wpAnyH_take (i := 8) (oi := _) (v := ?_) rfl (by kernel_rfl) (by kernel_rfl) (by kernel_rfl) (fun _ _ _ h => h) (Or.inl ⟨by rfl, ?hy⟩) (by assumption) ?rest
                        case hy =>
                          intro w9 hSw
                          try dsimp only at hSw
                          try simp only [List.getElem_toArray, List.getElem_cons_zero, List.getElem_cons_succ]
                          go_simp
                          try with_reducible rfl
                        case rest =>
                          try simp only [Act.put, List.setIfInBounds_toArray, List.set_cons_zero, List.set_cons_succ, List.getElem_toArray, List.getElem_cons_zero, List.getElem_cons_succ]
                          refine wpAnyH_ready (rs := [1]) (by kernel_rfl) (by simp) (AllReadyH.cons (o := _) rfl (fun K hK => ?_) AllReadyH.nil)
                          try simp only [List.getElem_toArray, List.getElem_cons_zero, List.getElem_cons_succ]
                          go_simp
                          refine (RFrame_any _ pp w3.drew HO3.out.has.wide (by have := HPL.out; omega)).mono ?_
                          rintro e w4 ⟨v4, rfl, ho4, hb4⟩
                          have hb4 : Below w3.heap.size w3 w4 := ⟨hb4.os, hb4.tape, hb4.output, hb4.size, hb4.block⟩
                          have hS4 : (convert 23 9 (.slice p3 (8 + k) c3)).run Tryd.prog w4 = .ok (.string sB) w4 := by
                            rw [HSB.out]
                            exact HasA.string (w := w4) (((G3.out w1 HX1.out).below HB3.out).below hb4) 0
                          have hS5 : (convert 23 9 v4).run Tryd.prog w4 = .ok (.string sA) w4 := by
                            rw [HSA.out]
                            exact HasA.string (w := w4) ho4.has.wide 0
                          have HO4 := Lib.hid ho4
                          have HB4 := Lib.hid hb4
                          clear ho4 hb4
                          refine hK.out _ _ (hS4) (fun hHeld => ?_)
                          clear hK K
                          try simp only [Act.put, List.setIfInBounds_toArray, List.set_cons_zero, List.set_cons_succ, List.getElem_toArray, List.getElem_cons_zero, List.getElem_cons_succ]
                          refine wpAnyH_more (S' := fun w' => (convert 23 9 v4).run Tryd.prog w' = .ok (.string sA) w' ∧ (convert 23 9 (.slice p3 (8 + k) c3)).run Tryd.prog w' = .ok (.string sB) w') (fun w' h => h.2) _ _ _ _ ?_
                          have hS6 := And.intro hS5 hS4
                          refine wpAnyH_take (i := 2) (oi := _) (v := ?_) rfl (by kernel_rfl) (by kernel_rfl) (by kernel_rfl) (fun _ _ _ h => h) (Or.inl ⟨by rfl, ?hy⟩) (by assumption) ?rest
                          case hy =>
                            intro w9 hSw
                            try dsimp only at hSw
                            try simp only [List.getElem_toArray, List.getElem_cons_zero, List.getElem_cons_succ]
                            go_simp
                            try with_reducible rfl
                          case rest =>
                            try simp only [Act.put, List.setIfInBounds_toArray, List.set_cons_zero, List.set_cons_succ, List.getElem_toArray, List.getElem_cons_zero, List.getElem_cons_succ]
                            refine wpAnyH_take (i := 9) (oi := _) (v := (.bool bq)) rfl (by kernel_rfl) (by kernel_rfl) (by kernel_rfl) (fun _ _ _ h => h) (Or.inl ⟨by rfl, ?hy⟩) (by assumption) ?rest
                            case hy =>
                              intro w9 hSw
                              try dsimp only at hSw
                              try simp only [List.getElem_toArray, List.getElem_cons_zero, List.getElem_cons_succ]
                              go_simp
                              rw [HBQ.out]
                              try simp
                            case rest =>
                              try simp only [Act.put, List.setIfInBounds_toArray, List.set_cons_zero, List.set_cons_succ, List.getElem_toArray, List.getElem_cons_zero, List.getElem_cons_succ]
                              refine wpAnyH_done (by kernel_rfl) ?_ _
                              by_cases hz : fHow x = 0
                              · obtain ⟨hstep, hlt2⟩ := HA.out.step hlt (by rw [HXX.out]; exact hz)
                                rw [HXX.out, HPP.out, HPL.out] at hstep
                                have hlt3 : u < u + (8 + k) := by omega
                                have HS := Lib.hid hstep
                                have hps := HA.out.2.1
                                have hsum := HS.out.1
                                have he := HAB.out.2 hz
                                obtain rfl : bq = false := by
                                  have h1 := HBQ.out
                                  rw [(text_eq_iff _ _).2 he] at h1
                                  cases bq
                                  · rfl
                                  · cases h1
                                clear he
                                have hz4 := HB4.out.size
                                have HB5 : Hid (Below w.heap.size w w4) := Lib.hid (HB1.out.trans ((HB3.out.trans (HB4.out.mono hz3)).mono hz1))
                                clear hz hstep hlt2 hS5 hS6 hS4 hS0 hHeld
                                go_wp2_with (at_builtin; refine wpList_append_row rfl _ _ rfl w.heap.size _ ps rfl (((HO1.out.below HB3.out).below HB4.out).below ((Below.refl _ _).alloc (Nat.le_refl _) _)) _ pp (((HO3.out.mono hz1).below HB4.out).alloc _) w4.heap.size rfl (cell_new w4 _ _) _ rfl (by have := HL.out; omega) (by simp; omega) w (HB5.out.alloc (by omega) _) ?_)
                                intro v6 w6 ho6 hb6
                                obtain ⟨p6, c6, hv6, _⟩ := ho6.form
                                have HO6 := Lib.hid ho6
                                have HB6 := Lib.hid hb6
                                clear ho6 hb6
                                subst hv6
                                go_wp2
                                go_roundw
                                case rel => exact ⟨u + (8 + k), ps ++ [pp], by go_num, HS, HO6.out, HB6.out⟩
                                case measure => simp [intOf]; omega
                              · have hh : fHow x = 2 := by
                                  unfold fHow at hz ⊢
                                  rw [if_neg (by have := HXL.out; omega), if_neg (by have := HK.out; omega), if_neg (by have := HK.out; have := HXL.out; omega)] at hz ⊢
                                  split
                                  · rename_i h; rw [if_pos h] at hz; exact absurd rfl hz
                                  · rfl
                                have HE := Lib.hid (HA.out.stop hlt (by rw [HXX.out]; exact hz))
                                have HH := Lib.hid hh
                                obtain rfl : bq = true := by
                                  have h1 := HBQ.out
                                  rw [(text_ne_iff _ _).2 (fun h => hz (HAB.out.1 h))] at h1
                                  cases bq
                                  · cases h1
                                  · rfl
                                have HB5 : Hid (Below w.heap.size w w4) := Lib.hid (HB1.out.trans ((HB3.out.trans (HB4.out.mono hz3)).mono hz1))
                                clear hz hh hS5 hS6 hS4 hS0 hHeld
                                go_wp2
                                go_ret3
                                exact ⟨_, by rw [HE.out, HXX.out, HH.out]; rfl, by rw [HE.out]; exact (HO1.out.below HB3.out).below HB4.out, HB5.out⟩
    · have hge' : ¬ (u : Int) < (l.length : Int) := by omega
      have HE := Lib.hid (HA.out.end hge)
      go_wp2_with fail
      go_ret3
      exact ⟨_, by rw [HE.out]; rfl, by rw [HE.out]; exact HO.out, HB.out⟩
end Go.Proofs.YtbkoejhnlmbciaaDoor
