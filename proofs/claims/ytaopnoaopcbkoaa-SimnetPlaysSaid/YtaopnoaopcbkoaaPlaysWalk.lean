/-
  The walk of SimnetPlays.
-/
import Derived.Test.YtaopnoaopcbkoaaPlays
import Derived.Deep.DeepCutAuto
import Derived.Deep.CutBlock
namespace Go.Proofs.Ytaopnoaopcbkoaa
open Go.ChangeShapes Go.WideShapes Go.ChangeAt Go.RowKit Go.Deep
set_option linter.unusedVariables false
set_option linter.unusedSimpArgs false

/-- The calls that are asked for. -/
def Asked (w : World) (b off n : Nat) : Prop := ∀ i, i < n → ∃ (o x y : Int) (s : ByteArray), w.cell? ⟨b, off + i * 4, none⟩ = some (.int .i64 o) ∧ w.cell? ⟨b, off + i * 4 + 1, none⟩ = some (.int .i64 x) ∧ w.cell? ⟨b, off + i * 4 + 2, none⟩ = some (.int .i64 y) ∧ w.cell? ⟨b, off + i * 4 + 3, none⟩ = some (.string s) ∧
  (-9223372036854775808 ≤ x ∧ x ≤ 9223372036854775807) ∧ (-9223372036854775808 ≤ y ∧ y ≤ 9223372036854775807) ∧ s.size ≤ 140737488351232
set_option maxRecDepth 100000 in
set_option maxHeartbeats 8000000 in
theorem plays_any (w : World) (p : Option Addr) (n c b off : Nat) (hl : n ≤ c) (hm : c ≤ maxLen) (hp : 0 < n → p = some ⟨b, off, none⟩ ∧ b < w.heap.size) (hA : Asked w b off n) :
    Calls Try.prog 4 #[.slice p n c] w fun e w' => e = .returned (.bool true) ∧ Below w.heap.size w w' := by
  have hmi : (c : Int) ≤ 9223372036854775807 := by unfold maxLen at hm; omega
  have HP := Lib.hid hp
  have HA := Lib.hid hA
  have HM := Lib.hid hm
  clear hp hA hm
  go_enter Try.func4, Try.ntmps4
  go_wp2_with fail
  refine (awake_any w).mono ?_
  rintro e w0 ⟨rfl, hb0⟩
  have hz0 := hb0.size
  have HB0 := Lib.hid hb0
  clear hb0
  by_cases g1 : (80 : Int) < (n : Int)
  · go_wp2
    go_ret
    exact ⟨rfl, HB0.out⟩
  have hn80 : n ≤ 80 := by omega
  go_wp2_with fail
  refine (New_any w0).mono ?_
  rintro e w1 ⟨R, F1, rfl, hn1, hb1⟩
  have hz1 := hb1.size
  have HN1 := Lib.hid hn1
  have HB1 := Lib.hid (HB0.out.trans (hb1.mono hz0))
  clear hn1 hb1
  go_wp2_with fail
  have hal := (Below.refl w1.heap.size w1).alloc (Nat.le_refl _) (.cells #[.slice none 0 0, .int .i64 0, .int .i64 0, .slice none 0 0, .int .u64 0] 42 (0, 0))
  have hst : Stands w w0.heap.size R w1.heap.size w1.heap.size 0 (w1.alloc (.cells #[.slice none 0 0, .int .i64 0, .int .i64 0, .slice none 0 0, .int .u64 0] 42 (0, 0))) := by
    refine ⟨zeroNet, F1, _, ⟨HN1.out.below hal, ref_new w1, fun k h1 h2 => ?_⟩, Fine.zero, HB1.out.trans (hal.mono (by omega)), hal.size⟩
    have h3 := (HN1.out.own k h1).2
    have h4 : k = w1.heap.size := h2
    omega
  have HST := Lib.hid hst
  clear hal hst
  go_loopw [5] (fun vi wr => ∃ i : Nat, vi = .int .i64 i ∧ i ≤ n ∧ Stands w w0.heap.size R w1.heap.size w1.heap.size i wr) (fun vi _ => n - (intOf vi).toNat)
  case atStart => exact ⟨0, rfl, Nat.zero_le _, HST.out⟩
  case round =>
    obtain ⟨i, rfl, hin, N, F, G, hpair, hfine, hb, hsz⟩ := hrel
    have HPAIR := Lib.hid hpair
    have HFINE := Lib.hid hfine
    have HB := Lib.hid hb
    have hzr := hb.size
    clear hpair hfine hb
    rcases Nat.lt_or_ge i n with hlt | hge
    · have hlt' : (i : Int) < (n : Int) := by omega
      obtain ⟨rfl, hbl⟩ := HP.out (by omega)
      obtain ⟨op, x, y, s, d0, d1, d2, d3, hx, hy, hs⟩ := HA.out i hlt
      have f0 := (HB.out.cell (p := ⟨b, off + i * 4, none⟩) hbl).trans d0
      have f1 := (HB.out.cell (p := ⟨b, off + i * 4 + 1, none⟩) hbl).trans d1
      have f2 := (HB.out.cell (p := ⟨b, off + i * 4 + 2, none⟩) hbl).trans d2
      have f3 := (HB.out.cell (p := ⟨b, off + i * 4 + 3, none⟩) hbl).trans d3
      have HX := Lib.hid hx
      have HY := Lib.hid hy
      have HS := Lib.hid hs
      have hal := (Below.refl wr.heap.size wr).alloc (Nat.le_refl _) (.cells #[.int .i64 op, .int .i64 x, .int .i64 y, .string s] 44)
      have hxat : XAt (wr.alloc (.cells #[.int .i64 op, .int .i64 x, .int .i64 y, .string s] 44)) wr.heap.size op x y s := heap_alloc_new wr _
      have HAL := Lib.hid hal
      have HXAT := Lib.hid hxat
      have hwl : N.wait.length ≤ 1099511627776 := by have := HFINE.out.wait; omega
      have hsl : N.sent ≤ 1099511627776 := by have := HFINE.out.sent; omega
      have hdl : ∀ p ∈ N.wait, p.data.length ≤ 140737488355328 := fun p hp => by have := HFINE.out.data p hp; omega
      have HDL := Lib.hid hdl
      clear d0 d1 d2 d3 hx hy hs hal hxat hdl
      go_wp2_with fail
      generalize wr.alloc (.cells #[.int .i64 op, .int .i64 x, .int .i64 y, .string s] 44) = wx at HAL HXAT ⊢
      have hxl := lt_of_block HXAT.out
      have HPX := Lib.hid (HPAIR.out.below HAL.out)
      have HBX := Lib.hid (HB.out.trans (HAL.out.mono hzr))
      obtain ⟨c0, c1, c2, c3⟩ := HXAT.out.cells
      refine (Ref.Place_any wx w1.heap.size w1.heap.size N G HPX.out.ref x hwl).mono ?_
      rintro e wy ⟨hwy, z, rfl, hz⟩
      subst hwy
      have HZ := Lib.hid hz
      clear hz f0 f1 f2 f3
      go_upto_block 2 with fail
      go_cut [5] (fun x5 wz => x5 = .int .i64 (i : Int) ∧ Stands w w0.heap.size R w1.heap.size w1.heap.size (i + 1) wz)
      case rest =>
        obtain ⟨rfl, N', F', G', hp', hf', hb', hs'⟩ := hcut
        have HP' := Lib.hid hp'
        have HF' := Lib.hid hf'
        have HB' := Lib.hid hb'
        clear hp' hf' hb'
        go_wp2_with fail
        refine (is_any _ _ _ _ _ N' F' G' HP'.out.net HP'.out.ref (by have := HF'.out.wait; omega)).mono ?_
        rintro e wn ⟨rfl, hbn⟩
        have HBN := Lib.hid hbn
        have hzn := hbn.size
        clear hbn
        go_wp2
        go_roundw
        case rel => exact ⟨i + 1, by go_num, hlt, N', F', G', HP'.out.below HBN.out, HF'.out, HB'.out.trans (HBN.out.mono HB'.out.size), by omega⟩
        case measure => simp [intOf]; omega
      case first =>
        by_cases o0 : op = 0
        · have e0 : (op == 0) = true := by simp [o0]
          clear o0
          as_aux_lemma =>
            have hcv := Lib.run_convert_string_bytes (P := Try.prog) wy 9 25 5 s Try.underlying9 Try.underlying25 Try.underlying5
            obtain ⟨C, f, hC, hCf, hCs, hCm, hCc⟩ := conv_block wy 5 s HS.out
            have hcb := conv_below wy 5 s
            have hzn := Lib.bytesWorld_size wy 5 s
            have hss := HS.out
            have hsd : s.data.toList.length = s.size := text_lenB s
            have hFx : ¬ F wr.heap.size := fun h => by have := (HPAIR.out.net.own _ h).2; omega
            have hGx : ¬ G wr.heap.size := fun h => by have := (HPAIR.out.ref.own _ h).2; omega
            generalize grownCap wy s.size 0 5 = gc at *
            generalize Lib.bytesWorld wy 5 s = w2 at *
            have hal := (Below.refl w2.heap.size w2).alloc (Nat.le_refl _) (.cells #[.int .u8 7] 5)
            have h7 : (w2.alloc (.cells #[.int .u8 7] 5)).cell? ⟨w2.heap.size, 0, none⟩ = some (.int .u8 ((7 : UInt8).toNat : Int)) := cell_new' w2 (.int .u8 7) 5
            have hC2 := (hal.block wy.heap.size (by omega)).trans hC
            have hCc2 : ∀ j (h : j < s.data.toList.length), (w2.alloc (.cells #[.int .u8 7] 5)).cell? ⟨wy.heap.size, j, none⟩ = some (.int .u8 (s.data.toList[j].toNat : Int)) := fun j h => (hal.cell (p := ⟨wy.heap.size, j, none⟩) (by show wy.heap.size < _; omega)).trans (hCc j h)
            have hb2 : Below wy.heap.size wy (w2.alloc (.cells #[.int .u8 7] 5)) := hcb.trans (hal.mono (by omega))
            have H7 := Lib.hid h7
            have HC2 := Lib.hid hC2
            have HCC2 := Lib.hid hCc2
            have HB2 := Lib.hid hb2
            have HCS := Lib.hid hCs
            have HSD := Lib.hid hsd
            have HFX := Lib.hid hFx
            have HGX := Lib.hid hGx
            clear hC hCc hcb hal h7 hC2 hCc2 hb2 hzn hCs hsd hFx hGx
            go_upto_region 17 with (at_builtin; refine wpList_append_one rfl (.tmp 55) (.tmp 56) 25 rfl wy.heap.size 5 Try.underlying25 info_u8 wy.heap.size s.size gc C f s.data.toList rfl HSD.out.symm HC2.out hCf HCS.out hCm (Nat.le_refl _) HCC2.out w2.heap.size 7 rfl H7.out (by rw [HSD.out]; omega) wy HB2.out ?_; intro gb cb w3 hgb hcbm hcbn hbuf hcc hb3)
            have HP3 := Lib.hid (HPX.out.below hb3)
            have HB3 := Lib.hid (HBX.out.trans (hb3.mono HBX.out.size))
            have hz3 := hb3.size
            have HX3 := Lib.hid (HXAT.out.same (hb3.block wr.heap.size hxl))
            obtain ⟨-, y1, y2, y3⟩ := HX3.out.cells
            have hxl3 := lt_of_block HX3.out
            have HBUF := Lib.hid hbuf
            have hgl := hbuf.lt
            have hhas := HasA.buf (cap := cb) hbuf HSD.out.symm (by omega) hcbm hcc
            have HHAS : Hid (HasA w3 (.slice (some ⟨gb, 0, none⟩) s.size cb) s.data.toList) := Lib.hid (HasA.buf (cap := cb) (n := s.size) (by obtain ⟨C', f', x1, x2, x3⟩ := hbuf; exact ⟨C', f', x1, x2, x3⟩) HSD.out.symm (by omega) hcbm hcc)
            have hrun := run_head gb s.size (s.size + 1) cb (by omega)
            have hcbi : (cb : Int) ≤ 9223372036854775807 := by unfold maxLen at hcbm; omega
            have hFg : ¬ F gb := fun h => by have := (HPX.out.net.own _ h).2; omega
            have hGg : ¬ G gb := fun h => by have := (HPX.out.ref.own _ h).2; omega
            have HFG := Lib.hid hFg
            have HGG := Lib.hid hGg
            have hc18 : ∀ W : World, (convert 9 25 (.string s)).run Try.prog W = .ok (.slice (some ⟨W.heap.size, 0, none⟩) s.size (grownCap W s.size 0 5)) (Lib.bytesWorld W 5 s) := fun W => Lib.run_convert_string_bytes (P := Try.prog) W 9 25 5 s Try.underlying9 Try.underlying25 Try.underlying5
            have HC18 := Lib.hid hc18
            clear hcv hbuf hcc hb3 hhas hcbm hFg hGg hc18 HC2 HCC2 H7 HB2
            go_cut [78] (fun x78 wz => x78 = .bool false ∧ SentBoth w w0.heap.size R w1.heap.size w1.heap.size (i + 1) gb (s.size + 1) wz)
            case rest =>
              obtain ⟨rfl, N', F', G', hp', hf', hb', hs', hu', hF', hG'⟩ := hcut
              have HP' := Lib.hid hp'
              have HF' := Lib.hid hf'
              have HB' := Lib.hid hb'
              have HU' := Lib.hid hu'
              have HNF := Lib.hid hF'
              have HNG := Lib.hid hG'
              clear hp' hf' hb' hu' hF' hG'
              go_wp2_with fail
              go_loopw [9] (fun vk wr => ∃ k : Nat, vk = .int .i64 k ∧ k ≤ s.size + 1 ∧ Pair wr w0.heap.size R w1.heap.size w1.heap.size N' F' G' ∧ Below w.heap.size w wr ∧ w1.heap.size ≤ wr.heap.size ∧ Buf wr 5 gb (s.size + 1)) (fun vk _ => s.size + 1 - (intOf vk).toNat)
              case atStart => exact ⟨0, rfl, Nat.zero_le _, HP'.out, HB'.out, hs', HU'.out⟩
              case round =>
                obtain ⟨k, rfl, hk, hp, hb, hs2, hu⟩ := hrel
                by_cases hlt2 : k < s.size + 1
                · obtain ⟨v0, hv0, hfz⟩ := hu.cell k hlt2
                  have HP2 := Lib.hid hp
                  have HB2 := Lib.hid hb
                  have HU2 := Lib.hid hu
                  have hlt3 : (k : Int) < (s.size : Int) + 1 := by omega
                  clear hp hb hu
                  go_wp2
                  go_roundw
                  case rel =>
                    refine ⟨k + 1, by go_num, hlt2, HP2.out.stay (by rw [World.size_setCell]; exact Nat.le_refl _) (fun j hj hFG => Below.heap_setCell _ _ _ _ (fun e => ?_)), HB2.out.setCell (by show w.heap.size ≤ gb; omega) _, by rw [World.size_setCell]; exact hs2, HU2.out.set k _⟩
                    have e' : j = gb := e
                    subst e'
                    exact hFG.elim HNF.out HNG.out
                  case measure => simp [intOf]; omega
                · obtain rfl : k = s.size + 1 := by omega
                  have HP2 := Lib.hid hp
                  have HB2 := Lib.hid hb
                  have hlt3 : ¬ ((s.size : Int) + 1 < (s.size : Int) + 1) := by omega
                  clear hp hb hu
                  go_wp2
                  go_meet
                  exact ⟨rfl, N', F', G', HP2.out, HF'.out, HB2.out, hs2⟩
            case first =>
              refine wp_region_held_drew (S := fun w' => w'.cell? ⟨wr.heap.size, 1, none⟩ = some (.int .i64 x) ∧ w'.cell? ⟨wr.heap.size, 2, none⟩ = some (.int .i64 y) ∧ w'.cell? ⟨wr.heap.size, 3, none⟩ = some (.string s)) (by kernel_rfl) ⟨y1, y2, y3⟩ (fun hHeld => ?_)
              refine wpAnyH_take (i := 0) (oi := _) (v := ?_) rfl (by kernel_rfl) (by kernel_rfl) (by kernel_rfl) (fun _ _ _ h => h) (Or.inl ⟨by rfl, ?hy1⟩) (by assumption) ?_
              case hy1 =>
                intro w9 hSw
                try dsimp only at hSw
                try simp only [List.getElem_toArray, List.getElem_cons_zero, List.getElem_cons_succ]
                go_simp
                try with_reducible rfl
              try simp only [Act.put, List.setIfInBounds_toArray, List.set_cons_zero, List.set_cons_succ, List.getElem_toArray, List.getElem_cons_zero, List.getElem_cons_succ]
              refine wpAnyH_take (i := 1) (oi := _) (v := ?_) rfl (by kernel_rfl) (by kernel_rfl) (by kernel_rfl) (fun _ _ _ h => h) (Or.inl ⟨by rfl, ?hy2⟩) (by assumption) ?_
              case hy2 =>
                intro w9 hSw
                try dsimp only at hSw
                try simp only [List.getElem_toArray, List.getElem_cons_zero, List.getElem_cons_succ]
                go_simp
                try with_reducible rfl
              try simp only [Act.put, List.setIfInBounds_toArray, List.set_cons_zero, List.set_cons_succ, List.getElem_toArray, List.getElem_cons_zero, List.getElem_cons_succ]
              refine wpAnyH_take (i := 2) (oi := _) (v := ?_) rfl (by kernel_rfl) (by kernel_rfl) (by kernel_rfl) (fun _ _ _ h => h) (Or.inl ⟨by rfl, ?hy3⟩) (by assumption) ?_
              case hy3 =>
                intro w9 hSw
                try dsimp only at hSw
                try simp only [List.getElem_toArray, List.getElem_cons_zero, List.getElem_cons_succ]
                go_simp
                try with_reducible rfl
              try simp only [Act.put, List.setIfInBounds_toArray, List.set_cons_zero, List.set_cons_succ, List.getElem_toArray, List.getElem_cons_zero, List.getElem_cons_succ]
              refine wpAnyH_take (i := 3) (oi := _) (v := ?_) rfl (by kernel_rfl) (by kernel_rfl) (by kernel_rfl) (fun _ _ _ h => h) (Or.inl ⟨by rfl, ?hy4⟩) (by assumption) ?_
              case hy4 =>
                intro w9 hSw
                try dsimp only at hSw
                try simp only [List.getElem_toArray, List.getElem_cons_zero, List.getElem_cons_succ]
                go_simp
                try with_reducible rfl
              try simp only [Act.put, List.setIfInBounds_toArray, List.set_cons_zero, List.set_cons_succ, List.getElem_toArray, List.getElem_cons_zero, List.getElem_cons_succ]
              refine wpAnyH_take (i := 4) (oi := _) (v := ?_) rfl (by kernel_rfl) (by kernel_rfl) (by kernel_rfl) (fun _ _ _ h => h) (Or.inl ⟨by rfl, ?hy5⟩) (by assumption) ?_
              case hy5 =>
                intro w9 hSw
                try dsimp only at hSw
                try simp only [List.getElem_toArray, List.getElem_cons_zero, List.getElem_cons_succ]
                go_simp
                try with_reducible rfl
              try simp only [Act.put, List.setIfInBounds_toArray, List.set_cons_zero, List.set_cons_succ, List.getElem_toArray, List.getElem_cons_zero, List.getElem_cons_succ]
              refine wpAnyH_take (i := 5) (oi := _) (v := ?_) rfl (by kernel_rfl) (by kernel_rfl) (by kernel_rfl) (fun _ _ _ h => h) (Or.inl ⟨by rfl, ?hy6⟩) (by assumption) ?_
              case hy6 =>
                intro w9 hSw
                try dsimp only at hSw
                try simp only [List.getElem_toArray, List.getElem_cons_zero, List.getElem_cons_succ]
                go_simp
                try with_reducible rfl
              try simp only [Act.put, List.setIfInBounds_toArray, List.set_cons_zero, List.set_cons_succ, List.getElem_toArray, List.getElem_cons_zero, List.getElem_cons_succ]
              refine wpAnyH_take (i := 6) (oi := _) (v := ?_) rfl (by kernel_rfl) (by kernel_rfl) (by kernel_rfl) (fun _ _ _ h => h) (Or.inl ⟨by rfl, ?hy7⟩) (by assumption) ?_
              case hy7 =>
                intro w9 hSw
                try dsimp only at hSw
                try simp only [List.getElem_toArray, List.getElem_cons_zero, List.getElem_cons_succ]
                go_simp
                try with_reducible rfl
              try simp only [Act.put, List.setIfInBounds_toArray, List.set_cons_zero, List.set_cons_succ, List.getElem_toArray, List.getElem_cons_zero, List.getElem_cons_succ]
              refine wpAnyH_take (i := 7) (oi := _) (v := ?_) rfl (by kernel_rfl) (by kernel_rfl) (by kernel_rfl) (fun _ _ _ h => h) (Or.inl ⟨by rfl, ?hy8⟩) (by assumption) ?_
              case hy8 =>
                intro w9 hSw
                try dsimp only at hSw
                try simp only [List.getElem_toArray, List.getElem_cons_zero, List.getElem_cons_succ]
                go_simp
                try with_reducible rfl
              try simp only [Act.put, List.setIfInBounds_toArray, List.set_cons_zero, List.set_cons_succ, List.getElem_toArray, List.getElem_cons_zero, List.getElem_cons_succ]
              refine wpAnyH_take (i := 8) (oi := _) (v := ?_) rfl (by kernel_rfl) (by kernel_rfl) (by kernel_rfl) (fun _ _ _ h => h) (Or.inl ⟨by rfl, ?hy9⟩) (by assumption) ?_
              case hy9 =>
                intro w9 hSw
                try dsimp only at hSw
                try simp only [List.getElem_toArray, List.getElem_cons_zero, List.getElem_cons_succ]
                go_simp
                try with_reducible rfl
              try simp only [Act.put, List.setIfInBounds_toArray, List.set_cons_zero, List.set_cons_succ, List.getElem_toArray, List.getElem_cons_zero, List.getElem_cons_succ]
              refine wpAnyH_take (i := 9) (oi := _) (v := ?_) rfl (by kernel_rfl) (by kernel_rfl) (by kernel_rfl) (fun _ _ _ h => h) (Or.inl ⟨by rfl, ?hy10⟩) (by assumption) ?_
              case hy10 =>
                intro w9 hSw
                try dsimp only at hSw
                try simp only [List.getElem_toArray, List.getElem_cons_zero, List.getElem_cons_succ]
                go_simp
                try with_reducible rfl
              try simp only [Act.put, List.setIfInBounds_toArray, List.set_cons_zero, List.set_cons_succ, List.getElem_toArray, List.getElem_cons_zero, List.getElem_cons_succ]
              refine wpAnyH_take (i := 11) (oi := _) (v := ?_) rfl (by kernel_rfl) (by kernel_rfl) (by kernel_rfl) (fun _ _ _ h => h) (Or.inl ⟨by rfl, ?hy11⟩) (by assumption) ?_
              case hy11 =>
                intro w9 hSw
                try dsimp only at hSw
                try simp only [List.getElem_toArray, List.getElem_cons_zero, List.getElem_cons_succ]
                go_simp
                try with_reducible rfl
              try simp only [Act.put, List.setIfInBounds_toArray, List.set_cons_zero, List.set_cons_succ, List.getElem_toArray, List.getElem_cons_zero, List.getElem_cons_succ]
              refine wpAnyH_take (i := 12) (oi := _) (v := ?_) rfl (by kernel_rfl) (by kernel_rfl) (by kernel_rfl) (fun _ _ _ h => h) (Or.inl ⟨by rfl, ?hy12⟩) (by assumption) ?_
              case hy12 =>
                intro w9 hSw
                try dsimp only at hSw
                try simp only [List.getElem_toArray, List.getElem_cons_zero, List.getElem_cons_succ]
                go_simp
                try with_reducible rfl
              try simp only [Act.put, List.setIfInBounds_toArray, List.set_cons_zero, List.set_cons_succ, List.getElem_toArray, List.getElem_cons_zero, List.getElem_cons_succ]
              refine wpAnyH_take (i := 13) (oi := _) (v := ?_) rfl (by kernel_rfl) (by kernel_rfl) (by kernel_rfl) (fun _ _ _ h => h) (Or.inl ⟨by rfl, ?hy13⟩) (by assumption) ?_
              case hy13 =>
                intro w9 hSw
                try dsimp only at hSw
                try simp only [List.getElem_toArray, List.getElem_cons_zero, List.getElem_cons_succ]
                go_simp
                try with_reducible rfl
              try simp only [Act.put, List.setIfInBounds_toArray, List.set_cons_zero, List.set_cons_succ, List.getElem_toArray, List.getElem_cons_zero, List.getElem_cons_succ]
              refine wpAnyH_take (i := 14) (oi := _) (v := ?_) rfl (by kernel_rfl) (by kernel_rfl) (by kernel_rfl) (fun _ _ _ h => h) (Or.inl ⟨by rfl, ?hy14⟩) (by assumption) ?_
              case hy14 =>
                intro w9 hSw
                try dsimp only at hSw
                try simp only [List.getElem_toArray, List.getElem_cons_zero, List.getElem_cons_succ]
                go_simp
                try with_reducible rfl
              try simp only [Act.put, List.setIfInBounds_toArray, List.set_cons_zero, List.set_cons_succ, List.getElem_toArray, List.getElem_cons_zero, List.getElem_cons_succ]
              refine wpAnyH_take (i := 15) (oi := _) (v := ?_) rfl (by kernel_rfl) (by kernel_rfl) (by kernel_rfl) (fun _ _ _ h => h) (Or.inl ⟨by rfl, ?hy15⟩) (by assumption) ?_
              case hy15 =>
                intro w9 hSw
                try dsimp only at hSw
                try simp only [List.getElem_toArray, List.getElem_cons_zero, List.getElem_cons_succ]
                go_simp
                try with_reducible rfl
              try simp only [Act.put, List.setIfInBounds_toArray, List.set_cons_zero, List.set_cons_succ, List.getElem_toArray, List.getElem_cons_zero, List.getElem_cons_succ]
              refine wpAnyH_take (i := 16) (oi := _) (v := ?_) rfl (by kernel_rfl) (by kernel_rfl) (by kernel_rfl) (fun _ _ _ h => h) (Or.inl ⟨by rfl, ?hy16⟩) (by assumption) ?_
              case hy16 =>
                intro w9 hSw
                try dsimp only at hSw
                try simp only [List.getElem_toArray, List.getElem_cons_zero, List.getElem_cons_succ]
                go_simp
                try with_reducible rfl
              try simp only [Act.put, List.setIfInBounds_toArray, List.set_cons_zero, List.set_cons_succ, List.getElem_toArray, List.getElem_cons_zero, List.getElem_cons_succ]
              refine wpAnyH_take (i := 17) (oi := _) (v := ?_) rfl (by kernel_rfl) (by kernel_rfl) (by kernel_rfl) (fun _ _ _ h => h) (Or.inl ⟨by rfl, ?hy17⟩) (by assumption) ?_
              case hy17 =>
                intro w9 hSw
                try dsimp only at hSw
                try simp only [List.getElem_toArray, List.getElem_cons_zero, List.getElem_cons_succ]
                go_simp
                try with_reducible rfl
              try simp only [Act.put, List.setIfInBounds_toArray, List.set_cons_zero, List.set_cons_succ, List.getElem_toArray, List.getElem_cons_zero, List.getElem_cons_succ]
              refine wpAnyH_ready (rs := [10, 18]) (by kernel_rfl) (by simp) (AllReadyH.cons (o := _) rfl (fun K hK => ?wA) (AllReadyH.cons (o := _) rfl (fun K hK => ?wB) AllReadyH.nil))
              case wA =>
                try simp only [List.getElem_toArray, List.getElem_cons_zero, List.getElem_cons_succ]
                go_simp
                have hdl5 : s.data.toList.length ≤ 140737488355328 := by rw [HSD.out]; omega
                have hpd : Pair w3.drew w0.heap.size R w1.heap.size w1.heap.size N F G := HP3.out.below ((Below.refl w3.heap.size w3).drew)
                refine (Send_any w3.drew w0.heap.size R N F HP3.out.net x y _ s.data.toList HHAS.out hsl hwl hdl5).mono ?_
                rintro e w5 ⟨F5, rfl, hn5, hk5, hf5⟩
                obtain ⟨k1, k2, k3⟩ := hpd.first hn5 hk5 hf5
                have HN5 := Lib.hid k1
                have HR5 := Lib.hid k2
                have HA5 := Lib.hid k3
                have hz5 : w3.heap.size ≤ w5.heap.size := hk5.size
                have HB5 := Lib.hid ((HB3.out.drew).trans ((hk5.below HP3.out.net.base (by show w0.heap.size ≤ w3.heap.size; omega)).mono hz0))
                have HX5 := Lib.hid (HXAT.out.same ((hk5.block wr.heap.size hxl3 HFX.out).trans (HX3.out.trans HXAT.out.symm)))
                obtain ⟨-, z1, z2, z3⟩ := HX5.out.cells
                have HBUF5 := Lib.hid (HBUF.out.same (hk5.block gb hgl HFG.out))
                have hF5g : ¬ F5 gb := fun h => HFG.out (hf5 gb hgl h)
                have HF5G := Lib.hid hF5g
                have hgl5 : gb < w5.heap.size := by omega
                have hcv5 := HC18.out w5
                have hcb5 := conv_below w5 5 s
                have hch5 := conv_has w5 5 s hss
                generalize grownCap w5 s.size 0 5 = gc5 at *
                generalize Lib.bytesWorld w5 5 s = w6 at *
                have HCB5 := Lib.hid hcb5
                have HCH5 := Lib.hid hch5
                have hxl5 := lt_of_block HX5.out
                have t1 := (hcb5.cell (p := ⟨wr.heap.size, 1, none⟩) hxl5).trans z1
                have t2 := (hcb5.cell (p := ⟨wr.heap.size, 2, none⟩) hxl5).trans z2
                have t3 := (hcb5.cell (p := ⟨wr.heap.size, 3, none⟩) hxl5).trans z3
                refine hK.out _ _ ⟨z1, z2, z3⟩ (fun hHeld => ?_)
                clear hK K hn5 hk5 hf5 k1 k2 k3 hF5g hcb5 hch5 hpd
                try simp only [Act.put, List.setIfInBounds_toArray, List.set_cons_zero, List.set_cons_succ, List.getElem_toArray, List.getElem_cons_zero, List.getElem_cons_succ]
                refine wpAnyH_ready (rs := [18]) (by kernel_rfl) (by simp) (AllReadyH.cons (o := _) rfl (fun K hK => ?_) AllReadyH.nil)
                try simp only [List.getElem_toArray, List.getElem_cons_zero, List.getElem_cons_succ]
                go_simp
                refine hK.out _ _ (⟨t1, t2, t3⟩) (fun hHeld => ?_)
                clear hK K
                try simp only [Act.put, List.setIfInBounds_toArray, List.set_cons_zero, List.set_cons_succ, List.getElem_toArray, List.getElem_cons_zero, List.getElem_cons_succ]
                refine wpAnyH_ready (rs := [19]) (by kernel_rfl) (by simp) (AllReadyH.cons (o := _) rfl (fun K hK => ?_) AllReadyH.nil)
                try simp only [List.getElem_toArray, List.getElem_cons_zero, List.getElem_cons_succ]
                go_simp
                refine (Ref.Send_any w6 w1.heap.size w1.heap.size N G (HR5.out.below HCB5.out) x y _ s.data.toList HCH5.out hsl hwl hdl5).mono ?_
                rintro e w7 ⟨G7, rfl, hr7, hk7, hg7⟩
                have hz6 := HCB5.out.size
                have HP7 := Lib.hid (Pair.second (HN5.out.below HCB5.out) (HR5.out.below HCB5.out) HA5.out hr7 hk7 hg7)
                have HB7 := Lib.hid ((HB5.out.trans (HCB5.out.mono HB5.out.size)).trans ((hk7.below HR5.out.base (by omega)).mono (by omega)))
                have hz7 := hk7.size
                have HBUF7 := Lib.hid ((HBUF5.out.same (HCB5.out.block gb hgl5)).same (hk7.block gb (by omega) HGG.out))
                have HG7G : Hid (¬ G7 gb) := Lib.hid (fun h => HGG.out (hg7 gb (by omega) h))
                have HX7 := Lib.hid ((HX5.out.same (HCB5.out.block wr.heap.size hxl5)).same (hk7.block wr.heap.size (by omega) HGX.out))
                obtain ⟨-, v1, v2, v3⟩ := HX7.out.cells
                clear hr7 hk7 hg7
                refine hK.out _ _ (⟨v1, v2, v3⟩) (fun hHeld => ?_)
                clear hK K
                try simp only [Act.put, List.setIfInBounds_toArray, List.set_cons_zero, List.set_cons_succ, List.getElem_toArray, List.getElem_cons_zero, List.getElem_cons_succ]
                refine wpAnyH_take (i := 20) (oi := _) (v := ?_) rfl (by kernel_rfl) (by kernel_rfl) (by kernel_rfl) (fun _ _ _ h => h) (Or.inl ⟨by rfl, ?hy18⟩) (by assumption) ?_
                case hy18 =>
                  intro w9 hSw
                  try dsimp only at hSw
                  try simp only [List.getElem_toArray, List.getElem_cons_zero, List.getElem_cons_succ]
                  go_simp
                  try with_reducible rfl
                try simp only [Act.put, List.setIfInBounds_toArray, List.set_cons_zero, List.set_cons_succ, List.getElem_toArray, List.getElem_cons_zero, List.getElem_cons_succ]
                refine wpAnyH_done (by kernel_rfl) ?_ _
                have hlast : w1.heap.size ≤ w7.heap.size := by omega
                have hfin := HFINE.out.send x y s.data.toList (by rw [HSD.out]; exact hss)
                go_wp2
                go_meet
                refine ⟨?_, _, F5, G7, HP7.out, hfin, HB7.out, hlast, HBUF7.out, HF5G.out, HG7G.out⟩
                rfl
              case wB =>
                have hdl5 : s.data.toList.length ≤ 140737488355328 := by rw [HSD.out]; omega
                have hcv5 := HC18.out w3.drew
                have hcb5 : Below w3.heap.size w3 (Lib.bytesWorld w3.drew 5 s) := ((Below.refl w3.heap.size w3).drew).trans (conv_below w3.drew 5 s)
                have hch5 := conv_has w3.drew 5 s hss
                generalize grownCap w3.drew s.size 0 5 = gc5 at *
                generalize Lib.bytesWorld w3.drew 5 s = w6 at *
                have HCB5 := Lib.hid hcb5
                have HCH5 := Lib.hid hch5
                have t1 := (hcb5.cell (p := ⟨wr.heap.size, 1, none⟩) hxl3).trans y1
                have t2 := (hcb5.cell (p := ⟨wr.heap.size, 2, none⟩) hxl3).trans y2
                have t3 := (hcb5.cell (p := ⟨wr.heap.size, 3, none⟩) hxl3).trans y3
                have HX6 := Lib.hid (HX3.out.same (hcb5.block wr.heap.size hxl3))
                have hxl6 := lt_of_block HX6.out
                have HBUF6 := Lib.hid (HBUF.out.same (hcb5.block gb hgl))
                have hz6 : w3.heap.size ≤ w6.heap.size := hcb5.size
                have hgl6 : gb < w6.heap.size := by omega
                clear hcb5 hch5
                try simp only [List.getElem_toArray, List.getElem_cons_zero, List.getElem_cons_succ]
                go_simp
                refine hK.out _ _ ⟨t1, t2, t3⟩ (fun hHeld => ?_)
                clear hK K
                try simp only [Act.put, List.setIfInBounds_toArray, List.set_cons_zero, List.set_cons_succ, List.getElem_toArray, List.getElem_cons_zero, List.getElem_cons_succ]
                refine wpAnyH_ready (rs := [10]) (by kernel_rfl) (by simp) (AllReadyH.cons (o := _) rfl (fun K hK => ?_) AllReadyH.nil)
                try simp only [List.getElem_toArray, List.getElem_cons_zero, List.getElem_cons_succ]
                go_simp
                refine (Send_any w6 w0.heap.size R N F (HP3.out.net.below HCB5.out) x y _ s.data.toList (HHAS.out.below HCB5.out) hsl hwl hdl5).mono ?_
                rintro e w5 ⟨F5, rfl, hn5, hk5, hf5⟩
                obtain ⟨k1, k2, k3⟩ := (HP3.out.below HCB5.out).first hn5 hk5 hf5
                have HN5 := Lib.hid k1
                have HR5 := Lib.hid k2
                have HA5 := Lib.hid k3
                have hz5 : w6.heap.size ≤ w5.heap.size := hk5.size
                have HB5 := Lib.hid ((HB3.out.trans (HCB5.out.mono HB3.out.size)).trans ((hk5.below HP3.out.net.base (by omega)).mono hz0))
                have HX5 := Lib.hid (HX6.out.same (hk5.block wr.heap.size hxl6 HFX.out))
                obtain ⟨-, z1, z2, z3⟩ := HX5.out.cells
                have HBUF5 := Lib.hid (HBUF6.out.same (hk5.block gb hgl6 HFG.out))
                have HF5G : Hid (¬ F5 gb) := Lib.hid (fun h => HFG.out (hf5 gb hgl6 h))
                have hgl5 : gb < w5.heap.size := by omega
                have hxl5 := lt_of_block HX5.out
                have hch6 := HCH5.out.keeps hk5 (fun g hg hFg => by
                  simp only [Value.ownBlock, Option.some.injEq] at hg
                  subst hg
                  have h1 := (HP3.out.net.own _ hFg).2
                  exact absurd h1 (Nat.lt_irrefl _))
                have HCH6 := Lib.hid hch6
                clear hn5 hk5 hf5 k1 k2 k3 hch6
                refine hK.out _ _ (⟨z1, z2, z3⟩) (fun hHeld => ?_)
                clear hK K
                try simp only [Act.put, List.setIfInBounds_toArray, List.set_cons_zero, List.set_cons_succ, List.getElem_toArray, List.getElem_cons_zero, List.getElem_cons_succ]
                refine wpAnyH_ready (rs := [19]) (by kernel_rfl) (by simp) (AllReadyH.cons (o := _) rfl (fun K hK => ?_) AllReadyH.nil)
                try simp only [List.getElem_toArray, List.getElem_cons_zero, List.getElem_cons_succ]
                go_simp
                refine (Ref.Send_any w5 w1.heap.size w1.heap.size N G HR5.out x y _ s.data.toList HCH6.out hsl hwl hdl5).mono ?_
                rintro e w7 ⟨G7, rfl, hr7, hk7, hg7⟩
                have HP7 := Lib.hid (Pair.second HN5.out HR5.out HA5.out hr7 hk7 hg7)
                have HB7 := Lib.hid (HB5.out.trans ((hk7.below HR5.out.base (by omega)).mono (by omega)))
                have hz7 := hk7.size
                have HBUF7 := Lib.hid (HBUF5.out.same (hk7.block gb hgl5 HGG.out))
                have HG7G : Hid (¬ G7 gb) := Lib.hid (fun h => HGG.out (hg7 gb hgl5 h))
                have HX7 := Lib.hid (HX5.out.same (hk7.block wr.heap.size hxl5 HGX.out))
                obtain ⟨-, v1, v2, v3⟩ := HX7.out.cells
                clear hr7 hk7 hg7
                refine hK.out _ _ (⟨v1, v2, v3⟩) (fun hHeld => ?_)
                clear hK K
                try simp only [Act.put, List.setIfInBounds_toArray, List.set_cons_zero, List.set_cons_succ, List.getElem_toArray, List.getElem_cons_zero, List.getElem_cons_succ]
                refine wpAnyH_take (i := 20) (oi := _) (v := ?_) rfl (by kernel_rfl) (by kernel_rfl) (by kernel_rfl) (fun _ _ _ h => h) (Or.inl ⟨by rfl, ?hy19⟩) (by assumption) ?_
                case hy19 =>
                  intro w9 hSw
                  try dsimp only at hSw
                  try simp only [List.getElem_toArray, List.getElem_cons_zero, List.getElem_cons_succ]
                  go_simp
                  try with_reducible rfl
                try simp only [Act.put, List.setIfInBounds_toArray, List.set_cons_zero, List.set_cons_succ, List.getElem_toArray, List.getElem_cons_zero, List.getElem_cons_succ]
                refine wpAnyH_done (by kernel_rfl) ?_ _
                have hlast : w1.heap.size ≤ w7.heap.size := by omega
                have hfin := HFINE.out.send x y s.data.toList (by rw [HSD.out]; exact hss)
                go_wp2
                go_meet
                refine ⟨?_, _, F5, G7, HP7.out, hfin, HB7.out, hlast, HBUF7.out, HF5G.out, HG7G.out⟩
                rfl
        have e0 : (op == 0) = false := by simp [o0]
        clear o0
        by_cases o1 : op = 1
        · have e1 : (op == 1) = true := by simp [o1]
          clear o1
          as_aux_lemma =>
            have HDE := Lib.hid (Deliver_any wy w0.heap.size R N F HPX.out.net x y hwl HFINE.out.sorted HDL.out)
            rcases HZ.out with ⟨j, hj, rfl, hid⟩ | ⟨rfl, hno⟩
            · have hpa := pkAt_some HFINE.out.sorted hj hid
              obtain ⟨pk, hpk⟩ : ∃ pk, N.wait[j] = pk := ⟨_, rfl⟩
              rw [hpk] at hpa
              have h2 : takeV N x = { N with wait := N.wait.eraseIdx j } := by unfold takeV; rw [without_some HFINE.out.sorted hj hid]
              have hdl : pk.data.length ≤ 140737488351232 := by rw [← hpk]; exact HFINE.out.data _ (List.getElem_mem _)
              have hFx : ¬ F wr.heap.size := fun h => by have := (HPAIR.out.net.own _ h).2; omega
              have hGx : ¬ G wr.heap.size := fun h => by have := (HPAIR.out.ref.own _ h).2; omega
              have HFX := Lib.hid hFx
              have HGX := Lib.hid hGx
              have HPA := Lib.hid hpa
              have H2 := Lib.hid h2
              have HPK := Lib.hid hpk
              clear hpa h2 hid hpk hFx hGx
              go_wp2_with fail
              refine HDE.out.mono ?_
              rintro e w3 ⟨hn3, hk3, hd3⟩
              unfold DeliverE at hd3
              rw [HPA.out] at hd3
              obtain ⟨bv, rfl, ha, hbo, -⟩ := hd3
              obtain ⟨k1, k2, k3⟩ := HPX.out.first hn3 hk3 (fun _ _ h => h)
              have HN3 := Lib.hid k1
              have HR3 := Lib.hid k2
              have HA3 := Lib.hid k3
              have HB3 := Lib.hid (HBX.out.trans ((hk3.below HPX.out.net.base (by omega)).mono hz0))
              have hz3 := hk3.size
              have HX3 := Lib.hid (HXAT.out.same (hk3.block wr.heap.size hxl HFX.out))
              have hxl3 := lt_of_block HX3.out
              obtain ⟨bp, bc, hbv, -, hbm⟩ := ha.form
              have hbG : ∀ g, bv.ownBlock = some g → ¬ G g := fun g hg hG => by
                rcases hbo g hg with h | h
                · exact k3 g h hG
                · have := (HPX.out.ref.own g hG).2; omega
              subst hbv
              have HHA := Lib.hid ha
              have HBG := Lib.hid hbG
              have hbc' : (bc : Int) ≤ 9223372036854775807 := by unfold maxLen at hbm; omega
              clear hn3 hk3 ha hbo k1 k2 k3 hbG hbm
              go_wp2_with fail
              refine (Ref.Take_any w3 w1.heap.size w1.heap.size N G HR3.out j hj hwl).mono ?_
              rintro e w4 ⟨G4, hr4, hk4, hg4, he4⟩
              rw [HPK.out] at he4
              obtain ⟨bw, rfl, hb4, -⟩ := he4
              rw [← H2.out] at hr4
              have HP4 := Lib.hid (Pair.second HN3.out HR3.out HA3.out hr4 hk4 hg4)
              have HB4 := Lib.hid (HB3.out.trans ((hk4.below HR3.out.base (by omega)).mono (by omega)))
              have hz4 := hk4.size
              have HX4 := Lib.hid (HX3.out.same (hk4.block wr.heap.size hxl3 HGX.out))
              have ha4 := HHA.out.keeps hk4 HBG.out
              obtain ⟨wp, wc, hwv, -, hwm⟩ := hb4.form
              subst hwv
              have hal := (Below.refl w4.heap.size w4).alloc (Nat.le_refl _) (.cells #[.int .i64 (pk.id : Int), .int .i64 pk.fr, .int .i64 pk.to, .slice wp pk.data.length wc] 49)
              have hpn := heap_alloc_new w4 (.cells #[.int .i64 (pk.id : Int), .int .i64 pk.fr, .int .i64 pk.to, .slice wp pk.data.length wc] 49)
              have ha5 := ha4.below hal
              have hb5 := hb4.below hal
              have HX5 := Lib.hid (HX4.out.same (hal.block wr.heap.size (lt_of_block HX4.out)))
              have HP5 := Lib.hid (HP4.out.below hal)
              have HB5 := Lib.hid (HB4.out.trans (hal.mono (by have := HB4.out.size; omega)))
              have hwc' : (wc : Int) ≤ 9223372036854775807 := by unfold maxLen at hwm; omega
              have hz5 := hal.size
              clear hr4 hk4 hg4 hb4 ha4 hal hwm
              go_upto_region 29 with fail
              generalize w4.alloc (.cells #[.int .i64 (pk.id : Int), .int .i64 pk.fr, .int .i64 pk.to, .slice wp pk.data.length wc] 49) = w5 at *
              obtain ⟨q0, q1, q2, q3⟩ := pk_block hpn
              obtain ⟨-, -, y2, -⟩ := HX5.out.cells
              have hs1 : (convert 25 9 (.slice bp (cutV y pk.data).length bc)).run Try.prog w5 = .ok (.string ⟨(cutV y pk.data).toArray⟩) w5 := HasA.string (w := w5) ha5 0
              by_cases hy0 : 0 ≤ y
              · obtain ⟨yn, rfl⟩ := Int.eq_ofNat_of_zero_le hy0
                by_cases hyl : yn < pk.data.length
                · have hcut : cutV (yn : Int) pk.data = pk.data.take yn := by unfold cutV; rw [if_pos ⟨hy0, by omega⟩, Int.toNat_natCast]
                  rw [hcut] at hs1 ⊢
                  obtain ⟨wp', wc', hrun, hhead⟩ := hb5.head yn (by omega)
                  have hs2 : (convert 25 9 (.slice wp' yn wc')).run Try.prog w5 = .ok (.string ⟨(pk.data.take yn).toArray⟩) w5 := HasA.string (w := w5) (hhead w5 hb5) 0
                  have hyl' : (yn : Int) < (pk.data.length : Int) := by omega
                  generalize (pk.data.take yn) = cutl at hs1 hs2 ⊢
                  clear hcut ha5 hb5 hhead hpn
                  go_wp2
                  go_meet
                  exact ⟨rfl, _, F, G4, HP5.out, HFINE.out.take x, HB5.out, by omega⟩
                · have hcut : cutV (yn : Int) pk.data = pk.data := by unfold cutV; rw [if_neg (by omega)]
                  rw [hcut] at hs1 ⊢
                  have hs2 : (convert 25 9 (.slice wp pk.data.length wc)).run Try.prog w5 = .ok (.string ⟨pk.data.toArray⟩) w5 := HasA.string (w := w5) hb5 0
                  have hyl' : ¬ (yn : Int) < (pk.data.length : Int) := by omega
                  have hyd : decide (yn < pk.data.length) = false := by simpa using hyl
                  clear hcut ha5 hb5 hpn
                  go_wp2
                  go_meet
                  exact ⟨rfl, _, F, G4, HP5.out, HFINE.out.take x, HB5.out, by omega⟩
              · have hcut : cutV y pk.data = pk.data := by unfold cutV; rw [if_neg (by omega)]
                rw [hcut] at hs1 ⊢
                have hs2 : (convert 25 9 (.slice wp pk.data.length wc)).run Try.prog w5 = .ok (.string ⟨pk.data.toArray⟩) w5 := HasA.string (w := w5) hb5 0
                have hyd : decide (0 ≤ y) = false := by simpa using hy0
                have hyn : y < 0 := by omega
                clear hcut ha5 hb5 hpn
                go_wp2
                go_meet
                exact ⟨rfl, _, F, G4, HP5.out, HFINE.out.take x, HB5.out, by omega⟩
            · have h2 : takeV N x = N := takeV_none hno
              have hpa := pkAt_none hno
              have H2 := Lib.hid h2
              have HPA := Lib.hid hpa
              clear h2 hpa hno
              go_wp2_with fail
              refine HDE.out.mono ?_
              rintro e w3 ⟨hn3, hk3, hd3⟩
              rw [H2.out] at hn3
              unfold DeliverE at hd3
              rw [HPA.out] at hd3
              subst hd3
              obtain ⟨k1, k2, k3⟩ := HPX.out.first hn3 hk3 (fun _ _ h => h)
              have HP3 : Hid (Pair w3 w0.heap.size R w1.heap.size w1.heap.size N F G) := Lib.hid ⟨k1, k2, k3⟩
              have HB3 := Lib.hid (HBX.out.trans ((hk3.below HPX.out.net.base (by omega)).mono hz0))
              have hz3 := hk3.size
              clear hn3 hk3 k1 k2 k3
              go_wp2
              go_meet
              exact ⟨rfl, N, F, G, HP3.out, HFINE.out.up, HB3.out, by omega⟩
        have e1 : (op == 1) = false := by simp [o1]
        clear o1
        by_cases o2 : op = 2
        · have e2 : (op == 2) = true := by simp [o2]
          clear o2
          as_aux_lemma =>
            have HDB := Lib.hid (Double_any wy w0.heap.size R N F HPX.out.net x hwl HFINE.out.sorted hsl HDL.out)
            rcases HZ.out with ⟨j, hj, rfl, hid⟩ | ⟨rfl, hno⟩
            · have hpa := pkAt_some HFINE.out.sorted hj hid
              obtain ⟨pk, hpk⟩ : ∃ pk, N.wait[j] = pk := ⟨_, rfl⟩
              rw [hpk] at hpa
              have h1 : doubleV N x = sendV N pk.fr pk.to pk.data := by unfold doubleV; rw [hpa]
              have h2 : doubleN N x = ((N.sent : Int) + 1, 0) := by unfold doubleN; rw [hpa]
              rw [h1, h2] at HDB
              have hdl : pk.data.length ≤ 140737488351232 := by rw [← hpk]; exact HFINE.out.data _ (List.getElem_mem _)
              have HPK := Lib.hid hpk
              clear hpa h1 h2 hid hpk
              go_wp2_with fail
              refine HDB.out.mono ?_
              rintro e w3 ⟨rfl, F3, hn3, hk3, hf3⟩
              obtain ⟨k1, k2, k3⟩ := HPX.out.first hn3 hk3 hf3
              have HN3 := Lib.hid k1
              have HR3 := Lib.hid k2
              have HA3 := Lib.hid k3
              have HB3 := Lib.hid (HBX.out.trans ((hk3.below HPX.out.net.base (by omega)).mono hz0))
              have hz3 := hk3.size
              obtain ⟨wv, fv, r0, r1, r2, r3, r4, rz, rh, rS, rG, rW, rf⟩ := HR3.out.cells
              obtain ⟨g, cap, bv, hv, q1, q2, p0, p1, p2, p3, hown, hbF⟩ := rW.out.atPk j hj
              subst hv
              have hcm : (cap : Int) ≤ 9223372036854775807 := by unfold maxLen at q2; omega
              have hj' : (j : Int) < (N.wait.length : Int) := by omega
              rw [HPK.out] at p0 p1 p2 hown
              have hhas := hown.has.wide
              obtain ⟨bp, bc, hbv, -, -⟩ := hhas.form
              subst hbv
              have hal := (Below.refl w3.heap.size w3).alloc (Nat.le_refl _) (.cells #[.int .i64 (pk.id : Int), .int .i64 pk.fr, .int .i64 pk.to, .slice bp pk.data.length bc] 49)
              have HAL := Lib.hid hal
              have hRS := Ref.Send_any _ w1.heap.size w1.heap.size N G (HR3.out.below hal) pk.fr pk.to _ pk.data (hhas.below hal) hsl hwl (by omega)
              rw [show (((N.sent + 1 : Nat)) : Int) = (N.sent : Int) + 1 from rfl] at hRS
              have HRS := Lib.hid hRS
              clear hn3 hk3 hf3 k1 k2 k3 hown hbF q2 hhas hal hRS r1 r2 r3 r4
              go_wp2_with fail
              refine HRS.out.mono ?_
              rintro e w4 ⟨G4, rfl, hr4, hk4, hg4⟩
              have HP4 := Lib.hid (Pair.second (HN3.out.below HAL.out) (HR3.out.below HAL.out) HA3.out hr4 hk4 hg4)
              have hz5 := HAL.out.size
              have HB4 := Lib.hid ((HB3.out.trans (HAL.out.mono (by omega))).trans ((hk4.below HR3.out.base (by omega)).mono (by omega)))
              have hz4 := hk4.size
              clear hr4 hk4 hg4
              go_wp2
              go_meet
              exact ⟨rfl, _, F3, G4, HP4.out, HFINE.out.send _ _ _ hdl, HB4.out, by omega⟩
            · have h1 : doubleV N x = N := by unfold doubleV; rw [pkAt_none hno]
              have h2 : doubleN N x = (0, 4) := by unfold doubleN; rw [pkAt_none hno]
              rw [h1, h2] at HDB
              clear h1 h2
              have HNO := Lib.hid hno
              clear hno
              go_wp2_with fail
              refine HDB.out.mono ?_
              rintro e w3 ⟨rfl, F3, hn3, hk3, hf3⟩
              obtain ⟨k1, k2, k3⟩ := HPX.out.first hn3 hk3 hf3
              have HP3 : Hid (Pair w3 w0.heap.size R w1.heap.size w1.heap.size N F3 G) := Lib.hid ⟨k1, k2, k3⟩
              have HB3 := Lib.hid (HBX.out.trans ((hk3.below HPX.out.net.base (by omega)).mono hz0))
              have hz3 := hk3.size
              clear hn3 hk3 hf3 k1 k2 k3
              go_wp2
              go_meet
              exact ⟨rfl, N, F3, G, HP3.out, HFINE.out.up, HB3.out, by omega⟩
        have e2 : (op == 2) = false := by simp [o2]
        clear o2
        by_cases o3 : op = 3
        · have e3 : (op == 3) = true := by simp [o3]
          clear o3
          as_aux_lemma =>
            have HDR := Lib.hid (Drop_any wy w0.heap.size R N F HPX.out.net x hwl HFINE.out.sorted)
            rcases HZ.out with ⟨j, hj, rfl, hid⟩ | ⟨rfl, hno⟩
            · have h1 : dropN N.wait x = 0 := by unfold dropN; rw [pkAt_some HFINE.out.sorted hj hid]; rfl
              have h2 : takeV N x = { N with wait := N.wait.eraseIdx j } := by unfold takeV; rw [without_some HFINE.out.sorted hj hid]
              rw [h1] at HDR
              have H2 := Lib.hid h2
              clear h1 h2 hid
              go_wp2_with fail
              refine HDR.out.mono ?_
              rintro e w3 ⟨rfl, hn3, hk3⟩
              obtain ⟨k1, k2, k3⟩ := HPX.out.first hn3 hk3 (fun _ _ h => h)
              have HN3 := Lib.hid k1
              have HR3 := Lib.hid k2
              have HA3 := Lib.hid k3
              have HB3 := Lib.hid (HBX.out.trans ((hk3.below HPX.out.net.base (by omega)).mono hz0))
              have hz3 := hk3.size
              clear hn3 hk3 k1 k2 k3
              go_wp2_with fail
              refine (Ref.Take_any w3 w1.heap.size w1.heap.size N G HR3.out j hj hwl).mono ?_
              rintro e w4 ⟨G4, hr4, hk4, hg4, bw, rfl, -, -⟩
              rw [← H2.out] at hr4
              have HP4 := Lib.hid (Pair.second HN3.out HR3.out HA3.out hr4 hk4 hg4)
              have HB4 := Lib.hid (HB3.out.trans ((hk4.below HR3.out.base (by omega)).mono (by omega)))
              have hz4 := hk4.size
              clear hr4 hk4 hg4
              go_wp2
              go_meet
              exact ⟨rfl, _, F, G4, HP4.out, HFINE.out.take x, HB4.out, by omega⟩
            · have h1 : dropN N.wait x = 4 := by unfold dropN; rw [pkAt_none hno]; rfl
              have h2 : takeV N x = N := takeV_none hno
              rw [h1, h2] at HDR
              clear h1 h2 hno
              go_wp2_with fail
              refine HDR.out.mono ?_
              rintro e w3 ⟨rfl, hn3, hk3⟩
              obtain ⟨k1, k2, k3⟩ := HPX.out.first hn3 hk3 (fun _ _ h => h)
              have HP3 : Hid (Pair w3 w0.heap.size R w1.heap.size w1.heap.size N F G) := Lib.hid ⟨k1, k2, k3⟩
              have HB3 := Lib.hid (HBX.out.trans ((hk3.below HPX.out.net.base (by omega)).mono hz0))
              have hz3 := hk3.size
              clear hn3 hk3 k1 k2 k3
              go_wp2
              go_meet
              exact ⟨rfl, N, F, G, HP3.out, HFINE.out.up, HB3.out, by omega⟩
        have e3 : (op == 3) = false := by simp [o3]
        clear o3
        by_cases o4 : op = 4
        · have e4 : (op == 4) = true := by simp [o4]
          clear o4
          as_aux_lemma =>
            have HTI := Lib.hid (Tick_any wy w0.heap.size R N F HPX.out.net HFINE.out.now x HX.out)
            obtain ⟨nw1, nw2⟩ := HFINE.out.now
            obtain ⟨hx1, hx2⟩ := HX.out
            by_cases ht : Ticks N x
            · rw [if_pos ht] at HTI
              obtain ⟨ht1, ht2⟩ := ht
              have h1 : tickV N x = { N with now := N.now + x } := by unfold tickV; rw [if_pos ⟨ht1, ht2⟩]
              have H1 := Lib.hid h1
              clear h1
              go_wp2_with fail
              refine HTI.out.mono ?_
              rintro e w3 ⟨rfl, hn3, hk3⟩
              obtain ⟨k1, k2, k3⟩ := HPX.out.first hn3 hk3 (fun _ _ h => h)
              have HN3 := Lib.hid k1
              have HR3 := Lib.hid k2
              have HA3 := Lib.hid k3
              have HB3 := Lib.hid (HBX.out.trans ((hk3.below HPX.out.net.base (by omega)).mono hz0))
              have hz3 := hk3.size
              obtain ⟨wv, fv, r0, r1, r2, r3, r4, rz, rh, rS, rG, rW, rf⟩ := HR3.out.cells
              clear hn3 hk3 k1 k2 k3
              go_wp2
              go_meet
              have hr4 : Ref.Net (w3.setCell ⟨w1.heap.size, 2, none⟩ (.int .i64 (N.now + x))) w1.heap.size w1.heap.size { N with now := N.now + x } G :=
                Ref.Net.put rh.out rS.out rG.out rW.out rf.out (World.size_setCell _ _ _) (fun k hk => Below.heap_setCell _ _ _ _ hk) (by rw [heap_setCell_same _ _ _ _ _ _ rh.out]; rfl)
              have hk4 : Keeps G w3 (w3.setCell ⟨w1.heap.size, 2, none⟩ (.int .i64 (N.now + x))) := (Keeps.refl G w3).setCell _ _ (fun _ => rS.out)
              rw [← H1.out] at hr4
              exact ⟨rfl, _, F, G, Pair.second HN3.out HR3.out HA3.out hr4 hk4 (fun _ _ h => h), HFINE.out.tick x, HB3.out.trans ((hk4.below HR3.out.base (by omega)).mono (by omega)), by have := hk4.size; omega⟩
            · rw [if_neg ht] at HTI
              have h1 : tickV N x = N := by unfold tickV; rw [if_neg ht]
              rw [h1] at HTI
              have hor : x < 0 ∨ 1152921504606846976 - N.now < x := by
                rcases Int.lt_or_le x 0 with h | h
                · exact .inl h
                · rcases Int.lt_or_le (1152921504606846976 - N.now) x with h' | h'
                  · exact .inr h'
                  · exact absurd ⟨h, h'⟩ ht
              clear h1 ht
              go_wp2_with fail
              refine HTI.out.mono ?_
              rintro e w3 ⟨rfl, hn3, hk3⟩
              obtain ⟨k1, k2, k3⟩ := HPX.out.first hn3 hk3 (fun _ _ h => h)
              have HP3 : Hid (Pair w3 w0.heap.size R w1.heap.size w1.heap.size N F G) := Lib.hid ⟨k1, k2, k3⟩
              have HB3 := Lib.hid (HBX.out.trans ((hk3.below HPX.out.net.base (by omega)).mono hz0))
              have hz3 := hk3.size
              obtain ⟨wv, fv, r0, r1, r2, r3, r4, rz, rh, rS, rG, rW, rf⟩ := k2.cells
              have HOR := Lib.hid hor
              clear hn3 hk3 k1 k2 k3 hor
              by_cases hx0 : x < 0
              · go_wp2
                go_meet
                exact ⟨rfl, N, F, G, HP3.out, HFINE.out.up, HB3.out, by omega⟩
              · have hx3 : 1152921504606846976 - N.now < x := HOR.out.resolve_left hx0
                have hx4 : 0 ≤ x := by omega
                have hx5 : decide (x < 0) = false := by simpa using hx0
                clear hx0
                go_wp2
                go_meet
                exact ⟨rfl, N, F, G, HP3.out, HFINE.out.up, HB3.out, by omega⟩
        have e4 : (op == 4) = false := by simp [o4]
        clear o4
        by_cases o5 : op = 5
        · have e5 : (op == 5) = true := by simp [o5]
          clear o5
          as_aux_lemma =>
            obtain ⟨y', hwr, hy'⟩ := u64_nat x
            have HY' := Lib.hid hy'
            have HWR := Lib.hid hwr
            have HFE := Lib.hid (Feed_any wy w0.heap.size R N F HPX.out.net y' (by have := HFINE.out.fedl; omega))
            have hFx : ¬ F wr.heap.size := fun h => by have := (HPAIR.out.net.own _ h).2; omega
            have HFX := Lib.hid hFx
            clear hwr hy' hFx
            go_wp2_with fail
            rw [HWR.out]
            refine HFE.out.mono ?_
            rintro e w3 ⟨F3, rfl, hn3, hk3, hf3⟩
            obtain ⟨k1, k2, k3⟩ := HPX.out.first hn3 hk3 hf3
            have HN3 := Lib.hid k1
            have HR3 := Lib.hid k2
            have HA3 := Lib.hid k3
            have HB3 := Lib.hid (HBX.out.trans ((hk3.below HPX.out.net.base (by omega)).mono hz0))
            have hz3 := hk3.size
            have HX3 := Lib.hid (HXAT.out.same (hk3.block wr.heap.size hxl HFX.out))
            obtain ⟨-, y1, -, -⟩ := HX3.out.cells
            have hxl3 := lt_of_block HX3.out
            obtain ⟨wv, fv, r0, r1, r2, r3, r4, rz, rh, rS, rG, rW, rf⟩ := HR3.out.cells
            have hSl := HR3.out.lt
            obtain ⟨pf, capf, hfv, _⟩ : ∃ p cap, fv = .slice p N.fed.length cap ∧ True := by obtain ⟨p, cap, hv, _⟩ := rf.out; exact ⟨p, cap, hv, trivial⟩
            subst hfv
            clear hn3 hk3 hf3 k1 k2 k3 r0 r1 r2 r4
            go_upto_region 59 with fail
            refine AnyL.begin (S := fun w' => w'.cell? ⟨w1.heap.size, 3, none⟩ = some (.slice pf N.fed.length capf) ∧ w'.cell? ⟨wr.heap.size, 1, none⟩ = some (.int .i64 x)) 12 (by kernel_rfl) ⟨r3, y1⟩ (fun hHeld => ?_)
            refine AnyL.take (i := 0) (oi := _) (v := ?_) 30 rfl (by kernel_rfl) (by kernel_rfl) (by kernel_rfl) (by kernel_rfl) (by kernel_rfl) (fun _ _ _ h => h) (Or.inl ⟨by rfl, ?hy20⟩) (by assumption) ?_
            case hy20 =>
              intro w9 hSw
              try dsimp only at hSw
              try simp only [List.getElem_toArray, List.getElem_cons_zero, List.getElem_cons_succ]
              go_simp
              try with_reducible rfl
            try simp only [Act.put, List.setIfInBounds_toArray, List.set_cons_zero, List.set_cons_succ, List.getElem_toArray, List.getElem_cons_zero, List.getElem_cons_succ]
            refine AnyL.take (i := 1) (oi := _) (v := ?_) 30 rfl (by kernel_rfl) (by kernel_rfl) (by kernel_rfl) (by kernel_rfl) (by kernel_rfl) (fun _ _ _ h => h) (Or.inl ⟨by rfl, ?hy21⟩) (by assumption) ?_
            case hy21 =>
              intro w9 hSw
              try dsimp only at hSw
              try simp only [List.getElem_toArray, List.getElem_cons_zero, List.getElem_cons_succ]
              go_simp
              try with_reducible rfl
            try simp only [Act.put, List.setIfInBounds_toArray, List.set_cons_zero, List.set_cons_succ, List.getElem_toArray, List.getElem_cons_zero, List.getElem_cons_succ]
            refine AnyL.take (i := 2) (oi := _) (v := ?_) 30 rfl (by kernel_rfl) (by kernel_rfl) (by kernel_rfl) (by kernel_rfl) (by kernel_rfl) (fun _ _ _ h => h) (Or.inl ⟨by rfl, ?hy22⟩) (by assumption) ?_
            case hy22 =>
              intro w9 hSw
              try dsimp only at hSw
              try simp only [List.getElem_toArray, List.getElem_cons_zero, List.getElem_cons_succ]
              go_simp
              try with_reducible rfl
            try simp only [Act.put, List.setIfInBounds_toArray, List.set_cons_zero, List.set_cons_succ, List.getElem_toArray, List.getElem_cons_zero, List.getElem_cons_succ]
            refine AnyL.take (i := 3) (oi := _) (v := ?_) 30 rfl (by kernel_rfl) (by kernel_rfl) (by kernel_rfl) (by kernel_rfl) (by kernel_rfl) (fun _ _ _ h => h) (Or.inl ⟨by rfl, ?hy23⟩) (by assumption) ?_
            case hy23 =>
              intro w9 hSw
              try dsimp only at hSw
              try simp only [List.getElem_toArray, List.getElem_cons_zero, List.getElem_cons_succ]
              go_simp
              try with_reducible rfl
            try simp only [Act.put, List.setIfInBounds_toArray, List.set_cons_zero, List.set_cons_succ, List.getElem_toArray, List.getElem_cons_zero, List.getElem_cons_succ]
            refine AnyL.take (i := 4) (oi := _) (v := ?_) 30 rfl (by kernel_rfl) (by kernel_rfl) (by kernel_rfl) (by kernel_rfl) (by kernel_rfl) (fun _ _ _ h => h) (Or.inl ⟨by rfl, ?hy24⟩) (by assumption) ?_
            case hy24 =>
              intro w9 hSw
              try dsimp only at hSw
              try simp only [List.getElem_toArray, List.getElem_cons_zero, List.getElem_cons_succ]
              go_simp
              try with_reducible rfl
            try simp only [Act.put, List.setIfInBounds_toArray, List.set_cons_zero, List.set_cons_succ, List.getElem_toArray, List.getElem_cons_zero, List.getElem_cons_succ]
            refine AnyL.take (i := 5) (oi := _) (v := ?_) 30 rfl (by kernel_rfl) (by kernel_rfl) (by kernel_rfl) (by kernel_rfl) (by kernel_rfl) (fun _ _ _ h => h) (Or.inl ⟨by rfl, ?hy25⟩) (by assumption) ?_
            case hy25 =>
              intro w9 hSw
              try dsimp only at hSw
              try simp only [List.getElem_toArray, List.getElem_cons_zero, List.getElem_cons_succ]
              go_simp
              try with_reducible rfl
            try simp only [Act.put, List.setIfInBounds_toArray, List.set_cons_zero, List.set_cons_succ, List.getElem_toArray, List.getElem_cons_zero, List.getElem_cons_succ]
            refine AnyL.take (i := 6) (oi := _) (v := ?_) 30 rfl (by kernel_rfl) (by kernel_rfl) (by kernel_rfl) (by kernel_rfl) (by kernel_rfl) (fun _ _ _ h => h) (Or.inl ⟨by rfl, ?hy26⟩) (by assumption) ?_
            case hy26 =>
              intro w9 hSw
              try dsimp only at hSw
              try simp only [List.getElem_toArray, List.getElem_cons_zero, List.getElem_cons_succ]
              go_simp
              try with_reducible rfl
            try simp only [Act.put, List.setIfInBounds_toArray, List.set_cons_zero, List.set_cons_succ, List.getElem_toArray, List.getElem_cons_zero, List.getElem_cons_succ]
            refine AnyL.take (i := 7) (oi := _) (v := (.int .u64 (y' : Int))) 30 rfl (by kernel_rfl) (by kernel_rfl) (by kernel_rfl) (by kernel_rfl) (by kernel_rfl) (fun _ _ _ h => h) (Or.inl ⟨by rfl, ?hy27⟩) (by assumption) ?_
            case hy27 =>
              intro w9 hSw
              try dsimp only at hSw
              try simp only [List.getElem_toArray, List.getElem_cons_zero, List.getElem_cons_succ]
              go_simp
              rw [HWR.out]
            try simp only [Act.put, List.setIfInBounds_toArray, List.set_cons_zero, List.set_cons_succ, List.getElem_toArray, List.getElem_cons_zero, List.getElem_cons_succ]
            refine AnyL.one (i := 8) (o := _) (by kernel_rfl) rfl (fun K hK => ?_)
            try simp only [List.getElem_toArray, List.getElem_cons_zero, List.getElem_cons_succ]
            go_simp
            have hbA : Below w3.heap.size w3 (w3.alloc (.cells #[.int .u64 (y' : Int)] 40)).drew := ((Below.refl w3.heap.size w3).alloc (Nat.le_refl _) _).drew
            have hcn : (w3.alloc (.cells #[.int .u64 (y' : Int)] 40)).drew.cell? ⟨w3.heap.size, 0, none⟩ = some (.int .u64 (y' : Int)) := cell_new' w3 (.int .u64 (y' : Int)) 40
            generalize (w3.alloc (.cells #[.int .u64 (y' : Int)] 40)).drew = wA at *
            have hzA := hbA.size
            have z0 : wA.cell? ⟨w1.heap.size, 3, none⟩ = some (.slice pf N.fed.length capf) := (hbA.cell (p := ⟨w1.heap.size, 3, none⟩) hSl).trans r3
            have z1 : wA.cell? ⟨wr.heap.size, 1, none⟩ = some (.int .i64 x) := (hbA.cell (p := ⟨wr.heap.size, 1, none⟩) hxl3).trans y1
            have HBA := Lib.hid hbA
            have HCN := Lib.hid hcn
            have hfA : FRow wA w1.heap.size (.slice pf N.fed.length capf) N.fed G := rf.out.same (fun _ _ h => h) (fun k c _ hc => hbA.block k (lt_of_block hc))
            have HFA := Lib.hid hfA
            clear hbA hcn hfA
            refine hK.out _ _ (fun _ => ⟨z0, z1⟩) (fun hHeld => ?_)
            replace hHeld := hHeld (by decide)
            clear hK K
            try simp only [Act.put, List.setIfInBounds_toArray, List.set_cons_zero, List.set_cons_succ, List.getElem_toArray, List.getElem_cons_zero, List.getElem_cons_succ]
            refine AnyL.one (i := 9) (o := _) (by kernel_rfl) rfl (fun K hK => ?_)
            refine step_append_fed (by rfl) (.tmp 262) (.tmp 266) (by rfl) w1.heap.size (.slice pf N.fed.length capf) N.fed G (by rfl) HFA.out w3.heap.size (by rfl) y' HCN.out (by have := HFINE.out.fedl; omega) (by omega) ?_
            intro v' w4 hf' hk' hn'
            have hk4 : Keeps G w3 w4 := (Keeps.of_below HBA.out).trans hk' (fun _ _ h => h)
            have hz4 := hk4.size
            have hT : ∀ (k : Nat) (c : Array Value) (T : TypeId), T ≠ 40 → w3.heap[k]? = some (.cells c T (0, 0)) → w4.heap[k]? = w3.heap[k]? := fun k c T hT hc => by
              have hkl := lt_of_block hc
              have e1 := HBA.out.block k hkl
              rw [hn' k (by omega) (fun c' hc' => by rw [e1, hc] at hc'; simp at hc'; exact hT hc'.2), e1]
            have hh' : w4.heap[w1.heap.size]? = some (.cells #[wv, .int .i64 (N.sent : Int), .int .i64 N.now, .slice pf N.fed.length capf, .int .u64 (N.seed : Int)] 42 (0, 0)) := (hT w1.heap.size _ 42 (by decide) rh.out).trans rh.out
            have hW' : Ref.WRow w4 w1.heap.size wv N.wait (Wid G wA w4) := rW.out.same (fun k _ hk => .inl hk) (fun k c _ hc => hT k c 49 (by decide) hc) (fun k c _ hc => hT k c 5 (by decide) hc)
            obtain ⟨d0, d1, d2, d3, d4, dz⟩ := net_cells hh'
            obtain ⟨-, d5, -, -⟩ := (HX3.out.same (hT wr.heap.size _ 44 (by decide) HX3.out)).cells
            have HF' := Lib.hid hf'
            have HK := Lib.hid hk4
            have HH' := Lib.hid hh'
            have HW' := Lib.hid hW'
            have hFF : ∀ k, Wid G wA w4 k → w1.heap.size ≤ k ∧ k < w4.heap.size := Wid.base (fun k hk => by have := rG.out k hk; omega) (by have := hk'.size; exact this) (by omega)
            have HFF := Lib.hid hFF
            obtain ⟨pv, nv, cv, hvv⟩ : ∃ p n c, v' = .slice p n c := by obtain ⟨p, cap, hv, _⟩ := hf'; exact ⟨p, _, cap, hv⟩
            subst hvv
            clear hf' hk' hn' hk4 hT hh' hW' hFF
            refine hK.out _ _ (fun _ => ⟨d3, d5⟩) (fun hHeld => ?_)
            replace hHeld := hHeld (by decide)
            clear hK K
            try simp only [Act.put, List.setIfInBounds_toArray, List.set_cons_zero, List.set_cons_succ, List.getElem_toArray, List.getElem_cons_zero, List.getElem_cons_succ]
            refine AnyL.take (i := 10) (oi := _) (v := ?_) 30 rfl (by kernel_rfl) (by kernel_rfl) (by kernel_rfl) (by kernel_rfl) (by kernel_rfl) (fun _ _ _ h => h) (Or.inl ⟨by rfl, ?hy28⟩) (by assumption) ?_
            case hy28 =>
              intro w9 hSw
              try dsimp only at hSw
              try simp only [List.getElem_toArray, List.getElem_cons_zero, List.getElem_cons_succ]
              go_simp
              try with_reducible rfl
            try simp only [Act.put, List.setIfInBounds_toArray, List.set_cons_zero, List.set_cons_succ, List.getElem_toArray, List.getElem_cons_zero, List.getElem_cons_succ]
            refine AnyL.take (i := 11) (oi := _) (v := ?_) 30 rfl (by kernel_rfl) (by kernel_rfl) (by kernel_rfl) (by kernel_rfl) (by kernel_rfl) (fun _ _ _ h => h) (Or.inl ⟨by rfl, ?hy29⟩) (by assumption) ?_
            case hy29 =>
              intro w9 hSw
              try dsimp only at hSw
              try simp only [List.getElem_toArray, List.getElem_cons_zero, List.getElem_cons_succ]
              go_simp
              try with_reducible rfl
            try simp only [Act.put, List.setIfInBounds_toArray, List.set_cons_zero, List.set_cons_succ, List.getElem_toArray, List.getElem_cons_zero, List.getElem_cons_succ]
            refine AnyL.one (i := 12) (o := _) (by kernel_rfl) rfl (fun K hK => ?_)
            try simp only [List.getElem_toArray, List.getElem_cons_zero, List.getElem_cons_succ]
            go_simp
            refine hK.out _ _ (fun h => absurd rfl h) (fun _ => ?_)
            clear hK K
            try simp only [Act.put, List.setIfInBounds_toArray, List.set_cons_zero, List.set_cons_succ, List.getElem_toArray, List.getElem_cons_zero, List.getElem_cons_succ]
            refine AnyL.done (by kernel_rfl) ?_ _
            go_wp2
            go_meet
            have hr4 : Ref.Net (w4.setCell ⟨w1.heap.size, 3, none⟩ (.slice pv nv cv)) w1.heap.size w1.heap.size { N with fed := N.fed ++ [y'] } (Wid G wA w4) := by
              refine Ref.Net.put HH'.out (.inl rS.out) HFF.out HW'.out HF'.out (World.size_setCell _ _ _) (fun k hk => Below.heap_setCell _ _ _ _ hk) ?_
              rw [heap_setCell_same _ _ _ _ _ _ HH'.out]
              rfl
            have hk4 := HK.out.setCell ⟨w1.heap.size, 3, none⟩ (.slice pv nv cv) (fun _ => rS.out)
            exact ⟨rfl, _, F3, _, Pair.second HN3.out HR3.out HA3.out hr4 hk4 (fun k hk hg => hg.elim id (fun h => absurd h.1 (by omega))), HFINE.out.feed y' HY'.out, HB3.out.trans ((hk4.below HR3.out.base (by omega)).mono (by omega)), by have := hk4.size; omega⟩
        have e5 : (op == 5) = false := by simp [o5]
        clear o5
        as_aux_lemma =>
          have HRA := Lib.hid (Rand_any wy w0.heap.size R N F HPX.out.net HFINE.out.fed)
          go_wp2_with fail
          refine HRA.out.mono ?_
          rintro e w3 ⟨rfl, hn3, hk3⟩
          obtain ⟨k1, k2, k3⟩ := HPX.out.first hn3 hk3 (fun _ _ h => h)
          have HN3 := Lib.hid k1
          have HR3 := Lib.hid k2
          have HA3 := Lib.hid k3
          have HB3 := Lib.hid (HBX.out.trans ((hk3.below HPX.out.net.base (by omega)).mono hz0))
          have hz3 := hk3.size
          clear hn3 hk3 k1 k2 k3
          go_wp2_with fail
          refine (Ref.Rand_any w3 w1.heap.size w1.heap.size N G HR3.out HFINE.out.fed (by have := HFINE.out.fedl; omega)).mono ?_
          rintro e w4 ⟨rfl, G4, hr4, hk4, hg4⟩
          have HP4 := Lib.hid (Pair.second HN3.out HR3.out HA3.out hr4 hk4 hg4)
          have HB4 := Lib.hid (HB3.out.trans ((hk4.below HR3.out.base (by omega)).mono (by omega)))
          have hz4 := hk4.size
          clear hr4 hk4 hg4
          go_wp2
          go_meet
          exact ⟨rfl, _, F, G4, HP4.out, HFINE.out.rand, HB4.out, by omega⟩
    · have hge' : ¬ (i : Int) < (n : Int) := by omega
      go_wp2
      go_ret
      exact ⟨rfl, HB.out⟩
end Go.Proofs.Ytaopnoaopcbkoaa
