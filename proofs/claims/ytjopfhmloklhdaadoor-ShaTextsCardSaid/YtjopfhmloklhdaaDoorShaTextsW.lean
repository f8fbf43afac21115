/-
  The walk of ShaTexts.
-/
import Derived.Test.YtjopfhmloklhdaaDoorShaEqualW
import Derived.Test.YtjopfhmloklhdaaDoorRefHex
import Derived.Deep.CutBlock
namespace Go.Proofs.YtjopfhmloklhdaaDoor
open Go.ChangeShapes Go.WideShapes Go.ChangeAt Go.RowKit Go.Deep
set_option linter.unusedVariables false
set_option linter.unusedSimpArgs false

theorem hexD_digV (c : UInt8) (h : digB c.toNat = true) : hexD (digV c.toNat) = c := by
  have hc := c.toNat_lt
  unfold digB at h
  simp only [Bool.or_eq_true, decide_eq_true_eq] at h
  rcases h with ⟨h1, h2⟩ | ⟨h1, h2⟩
  · have hv : digV c.toNat = c.toNat - 48 := by unfold digV; rw [if_pos ⟨h1, h2⟩]
    unfold hexD
    rw [hv, if_pos (by omega), show 48 + (c.toNat - 48) = c.toNat by omega]
    exact UInt8.ofNat_toNat
  · have hv : digV c.toNat = c.toNat - 87 := by unfold digV; rw [if_neg (by omega), if_pos ⟨h1, h2⟩]
    unfold hexD
    rw [hv, if_neg (by omega), show 87 + (c.toNat - 87) = c.toNat by omega]
    exact UInt8.ofNat_toNat
theorem digAll_at (l : List UInt8) (h : digAll l = true) (i : Nat) (hi : i < l.length) : digB (l.getD i 0).toNat = true := by
  unfold digAll at h
  rw [List.all_eq_true] at h
  rw [List.getD_eq_getElem?_getD, List.getElem?_eq_getElem hi]
  exact h _ (List.getElem_mem hi)
theorem hex_read (l : List UInt8) (hl : l.length = 64) (hd : digAll l = true) : hexOf (unN l 32) = l := by
  have key : ∀ i, i < 32 → (hexOf (unN l 32)).getD (2 * i) 0 = l.getD (2 * i) 0 ∧ (hexOf (unN l 32)).getD (2 * i + 1) 0 = l.getD (2 * i + 1) 0 := by
    intro i hi
    obtain ⟨h1, h2⟩ := hexOf_get (unN l 32) i (by rw [unN_len]; exact hi)
    have hu : (unN l 32).getD i 0 = unB l i := by
      unfold unN
      rw [List.getD_eq_getElem?_getD, List.getElem?_map, List.getElem?_range hi]
      rfl
    have d1 := digAll_at l hd (2 * i) (by omega)
    have d2 := digAll_at l hd (2 * i + 1) (by omega)
    have v1 := digV_lt (l.getD (2 * i) 0).toNat
    have v2 := digV_lt (l.getD (2 * i + 1) 0).toNat
    have hn : (unB l i).toNat = digV (l.getD (2 * i) 0).toNat * 16 + digV (l.getD (2 * i + 1) 0).toNat := by
      unfold unB
      rw [UInt8.toNat_ofNat', Nat.mod_eq_of_lt (by omega)]
    rw [h1, h2, hu, hn, show (digV (l.getD (2 * i) 0).toNat * 16 + digV (l.getD (2 * i + 1) 0).toNat) / 16 = digV (l.getD (2 * i) 0).toNat by omega, show (digV (l.getD (2 * i) 0).toNat * 16 + digV (l.getD (2 * i + 1) 0).toNat) % 16 = digV (l.getD (2 * i + 1) 0).toNat by omega, hexD_digV _ d1, hexD_digV _ d2]
    exact ⟨rfl, rfl⟩
  apply List.ext_getElem
  · rw [hexOf_len, unN_len, hl]
  · intro i h1 h2
    have e : ∀ (m : List UInt8) (h : i < m.length), m[i] = m.getD i 0 := fun m h => by rw [List.getD_eq_getElem?_getD, List.getElem?_eq_getElem h]; rfl
    rw [e _ h1, e _ h2]
    obtain ⟨k1, k2⟩ := key (i / 2) (by omega)
    rcases Nat.mod_two_eq_zero_or_one i with h0 | h0
    · rw [show 2 * (i / 2) = i by omega] at k1
      exact k1
    · rw [show 2 * (i / 2) + 1 = i by omega] at k2
      exact k2
/-- The first bytes put in an array. -/
def dN (b : List UInt8) (k : Nat) : List UInt8 := b.take k ++ zeros (32 - k)
theorem dN_len (b : List UInt8) (k : Nat) (h : k ≤ b.length) (hk : k ≤ 32) : (dN b k).length = 32 := by
  unfold dN
  rw [List.length_append, List.length_take]
  simp only [zeros, List.length_replicate]
  omega
theorem dN_set (b : List UInt8) (k : Nat) (h : k < b.length) (hk : k < 32) : (dN b k).set k b[k] = dN b (k + 1) := by
  unfold dN
  have hl : (b.take k).length = k := by rw [List.length_take]; omega
  rw [List.set_append_right _ _ (by omega), hl, Nat.sub_self, List.take_succ_eq_append_getElem h, List.append_assoc]
  congr 1
  rw [show 32 - k = (32 - (k + 1)) + 1 by omega]
  rfl
section
variable {P : Program} {ops : Array Oper} {S : World → Prop}
theorem wpList_run {rest : List Oper} {o : Oper} {a : Act} {w w' : World} {Q : Exit → Act → World → Prop} {v : Value} (hw : Region.wanted o (yielded ops a.tmps) = true) (hr : (execOp a.eval o).run P w = .ok (.value v) w') (h : wpList P ops Q rest (a.put o.dst v) w') : wpList P ops Q (o :: rest) a w :=
  wpList_step fun K hK => by
    rw [if_pos hw]
    unfold Oper.wp
    rw [hr, Oper.upon_value]
    exact hK _ _ h
theorem exec_load_row {o : Oper} {a : Act} {w : World} (ty : TypeId) (x : Operand) (ho : o.op = .load ty x) (g : Nat) (hx : a.eval x = .pointer (some ⟨g, 0, none⟩)) (t : TypeId) (cs : Array Value) (fr : Nat × Nat) (d : TypeDesc) (hg : w.heap[g]? = some (.cells cs t fr))
    (hu : P.underlying ty = some d) (hd : (match d with | .struct _ | .array _ _ => true | _ => false) = true) (hi : (P.info? ty).map (·.size) = some cs.size) : (execOp a.eval o).run P w = .ok (.value (.agg cs)) w := by
  unfold execOp
  simp only [ho, hx, Instr.loadAt, Instr.sureAddr, Sem.run_bind, Sem.run_pure, Result.andThen_ok, run_loadVar_row w g t ty cs fr d hg hu hd hi]
end
section
variable {ops : Array Oper} {S : World → Prop}
theorem exec_build_none {o : Oper} {a : Act} {w : World} (ho : o.op = .build 23 #[]) : (execOp a.eval o).run Tryd.prog w = .ok (.value (.agg (noBytes 32).toArray)) w := by
  unfold execOp
  have hb : Tryd.prog.built 23 ((#[] : Array (Nat × Operand)).map fun (i, x) => (i, a.eval x)).toList = some (noBytes 32).toArray := by
    rw [Array.map_empty]
    exact built_32
  simp only [ho, Sem.run_bind, run_build w 23 _ _ hb, Result.andThen_ok, Sem.run_pure]
theorem yieldsIf_neS {op : Oper} {a : Act} (hw : Region.wanted op (yielded ops a.tmps) = true) (x y : Operand) (t : TypeId) (ho : op.op = .binOp .neq 9 x y t) (l : ByteArray) (hx : a.eval x = .string l) (hy : a.eval y = .string l) : YieldsIf Tryd.prog ops S op (.bool false) a := by
  refine yieldsIf_run hw (fun w => ?_)
  have e : binOp .neq 9 (.string l) (.string l) = pure (.bool false) := by rw [binOp_string_neq, beq_self_eq_true]; rfl
  have hg : (eqGuard .neq 9 x y (.string l) (.string l)).run Tryd.prog w = .ok () w := by
    simp [eqGuard]
  unfold execOp
  simp only [ho, hx, hy, Sem.run_bind, hg, e, Result.andThen_ok, Sem.run_pure]
theorem rows_three {W : World} {g g' g'' : Nat} {D D' D'' : List UInt8} (h : BRow W 23 g D) (h' : BRow W 23 g' D') (h'' : BRow W 23 g'' D'') : ∀ p ∈ [(g, D), (g', D'), (g'', D'')], BRow W 23 p.1 p.2 := fun p hp => by
  simp only [List.mem_cons, List.not_mem_nil, or_false] at hp
  rcases hp with rfl | rfl | rfl
  · exact h
  · exact h'
  · exact h''
end
set_option maxRecDepth 100000 in
set_option maxHeartbeats 8000000 in
theorem ShaTexts_any (v : Value) (b : List UInt8) (s : ByteArray) (w : World) (hv : HasA w v b) (hsm : s.size ≤ maxLen) (hG : Grnd w) :
    Calls Tryd.prog 5 #[v, .string s] w fun e w' => e = .returned (.bool true) ∧ Below w.heap.size w w' := by
  obtain ⟨g, o, cap, p, hve, q1, q2, HP, HC⟩ := hv.open
  subst hve
  obtain ⟨m, hm⟩ : ∃ m, b.length = m := ⟨_, rfl⟩
  have hcm : (cap : Int) ≤ 9223372036854775807 := by unfold maxLen at q2; omega
  rw [hm] at q1 ⊢
  have HM := Lib.hid hm
  have HG := Lib.hid hG
  have HSM := Lib.hid hsm
  have hgs := hG.s
  have hgr := hG.r
  clear hv hm hG q2 hsm
  go_enter Tryd.func5, Tryd.ntmps5
  go_wp2_with fail
  refine (awake_any w HG.out).mono ?_
  rintro e w1 ⟨rfl, hb1⟩
  have HG1 := Lib.hid (HG.out.below hb1)
  have HB1 := Lib.hid hb1
  have hz1 := hb1.size
  have hr2 : BRow (w1.alloc (.cells (noBytes 32).toArray 23)) 23 w1.heap.size (dN b 0) := heap_alloc_new _ _
  have hb2 := (Below.refl w1.heap.size w1).alloc (Nat.le_refl _) (.cells (noBytes 32).toArray 23)
  have HR2 := Lib.hid hr2
  have HB2 := Lib.hid hb2
  clear hb1 hr2 hb2
  go_upto_region 4 with (refine wpList_alloc_of rfl 23 (noBytes 32).toArray rfl made32 ?_)
  generalize w1.alloc (.cells (noBytes 32).toArray 23) = w2 at *
  have hz2 := HB2.out.size
  have hg5 := HR2.out.lt
  generalize hg5e : w1.heap.size = g5 at *
  have hle1 : w1.heap.size ≤ g5 := by omega
  clear hg5e
  go_wp2_with fail
  go_loopw [6] (fun v6 wr => ∃ k : Nat, v6 = .int .i64 k ∧ k ≤ m ∧ k ≤ 32 ∧ BRow wr 23 g5 (dN b k) ∧ Below g5 w1 wr) (fun v6 _ => m - (intOf v6).toNat)
  case atStart => exact ⟨0, rfl, Nat.zero_le _, Nat.zero_le _, HR2.out, HB2.out⟩
  case round =>
    obtain ⟨k, rfl, hk1, hk2, hr, hb⟩ := hrel
    by_cases hcc : k < m ∧ k < 32
    · obtain ⟨c1, c2⟩ := hcc
      have c1' : (k : Int) < (m : Int) := by omega
      have c2' : (k : Int) < 32 := by omega
      obtain ⟨rfl, hgl⟩ := HP.out (by rw [HM.out]; omega)
      have hlk : k < b.length := by rw [HM.out]; exact c1
      have hgl5 : g < g5 := by omega
      have hx : wr.cell? ⟨g, o + k, none⟩ = some (.int .u8 (b[k].toNat : Int)) := (hb.cell (p := ⟨g, o + k, none⟩) hgl5).trans ((HB1.out.cell (p := ⟨g, o + k, none⟩) hgl).trans (HC.out k hlk))
      have hset := hr.set k b[k]
      rw [dN_set b k hlk c2] at hset
      have ck := hr.cell k (by rw [dN_len b k (by rw [HM.out]; exact hk1) hk2]; exact c2)
      have fk := hr.free k
      have hxl := b[k].toNat_lt
      have HSET := Lib.hid hset
      have HB := Lib.hid hb
      generalize b[k].toNat = x at *
      clear hset hr hb hlk
      go_wp2
      go_roundw
      case rel => exact ⟨k + 1, by go_num, c1, c2, HSET.out, HB.out.setCell (Nat.le_refl _) _⟩
      case measure => simp [intOf]; omega
    · have hdl := dN_len b k (by rw [HM.out]; exact hk1) hk2
      have hrh := read_hex (dN b k) hdl
      generalize dN b k = D at *
      have hx1 : (¬ (k : Int) < (m : Int)) ∨ ((k : Int) < (m : Int) ∧ ¬ (k : Int) < 32) := by omega
      have HR := Lib.hid hr
      have HB := Lib.hid hb
      have HDL := Lib.hid hdl
      have HRH := Lib.hid hrh
      have hzr := hb.size
      obtain ⟨a1, a2, a3⟩ := arr32' D hdl
      have A1 := Lib.hid a1
      have A2 := Lib.hid a2
      have A3 := Lib.hid a3
      have hg5r := hr.lt
      have hll : (Tryd.prog.info? 23).map (·.size) = some (Lib.byteCells D).length := by rw [bytes_len, hdl]; exact info32
      have HLL := Lib.hid hll
      have hw5 : w.heap.size ≤ g5 := by omega
      clear hr hb hdl hrh a1 a2 a3 hcc hll
      rcases hx1 with h1 | ⟨h1, h2⟩
      all_goals
        go_wp2_with (refine wpList_load_row rfl 23 (.tmp 5) rfl g5 rfl 23 (Lib.byteCells D).toArray (0, 0) _ HR.out Tryd.underlying23 rfl A1.out ?_)
        refine (Hex_any wr D HDL.out).mono ?_
        rintro e w4 ⟨rfl, hb4⟩
        go_wp2_with fail
        refine (Read_any w4 _ (by show (hexOf D).toArray.size ≤ maxLen; rw [List.size_toArray, hexOf_len, HDL.out]; unfold maxLen; decide)).mono ?_
        rintro e w5 ⟨rfl, hb5⟩
        rw [show (readV ((⟨(hexOf D).toArray⟩ : ByteArray).data.toList)) = (D, 0) from HRH.out]
        obtain ⟨hd6, hb6⟩ := laid_row w5 (noBytes 32).toArray (Lib.byteCells D).toArray 23 (by rw [A3.out]; rfl)
        have hd6' : BRow ((w5.alloc (.cells (noBytes 32).toArray 23)).setCells w5.heap.size 0 (Lib.byteCells D).toArray.toList) 23 w5.heap.size D := hd6
        have hz4 := hb4.size
        have hz5 := hb5.size
        have hs6 : ShN w w.heap.size [(w5.heap.size, D), (g5, D)] [] ((w5.alloc (.cells (noBytes 32).toArray 23)).setCells w5.heap.size 0 (Lib.byteCells D).toArray.toList) :=
          ⟨rows_two hd6' (((HR.out.below hb4 hg5r).below hb5 (by omega)).below hb6 (by omega)), has_nil, (((HG1.out.below ((HB.out.mono (by omega) : Below w1.heap.size w1 wr))).below hb4).below hb5).below hb6, HB1.out.trans ((HB.out.mono (by omega)).trans ((hb4.mono (by omega)).trans ((hb5.mono (by omega)).trans (hb6.mono (by omega))))), by have := hb6.size; omega⟩
        have HS6 := Lib.hid hs6
        have HTH := Lib.hid (there_alloc w5 (noBytes 32).toArray 23 (Lib.byteCells D).toArray.size (by rw [A3.out]; decide))
        clear hd6 hb6 hd6' hs6 hb4 hb5
        go_upto_region 9 with (first | (refine wpList_alloc_of rfl 23 (noBytes 32).toArray rfl made32 ?_) | (refine wpList_store_mid rfl 23 (.tmp 7) (.tmp 33) rfl w5.heap.size 0 (Lib.byteCells D).toArray rfl rfl HTH.out A1.out A2.out ?_))
        generalize ((w5.alloc (.cells (noBytes 32).toArray 23)).setCells w5.heap.size 0 (Lib.byteCells D).toArray.toList) = w6 at *
        generalize w5.heap.size = g7 at *
        go_wp2_with fail
        refine (Read_any w6 s HSM.out).mono ?_
        rintro e w7 ⟨rfl, hb7⟩
        have hyl : (readV s.data.toList).1.length = 32 := by
          unfold readV
          split
          · exact unN_len _ _
          · rfl
        have hq1 : (digAll s.data.toList && decide (s.data.toList.length = 64)) = true → (readV s.data.toList).2 = 0 ∧ hexOf (readV s.data.toList).1 = s.data.toList := fun hq => by
          rw [Bool.and_eq_true, decide_eq_true_eq] at hq
          have e : readV s.data.toList = (unN s.data.toList 32, 0) := by unfold readV; rw [if_pos ⟨hq.2, hq.1⟩]
          rw [e]
          exact ⟨rfl, hex_read _ hq.2 hq.1⟩
        have hq2 : (digAll s.data.toList && decide (s.data.toList.length = 64)) = false → (readV s.data.toList).2 = 14 ∧ (readV s.data.toList).1 = zeros 32 := fun hq => by
          have e : readV s.data.toList = (zeros 32, 14) := by
            unfold readV
            rw [if_neg (fun hh => by rw [hh.2, decide_eq_true hh.1] at hq; cases hq)]
          rw [e]
          exact ⟨rfl, rfl⟩
        obtain ⟨Y, hY⟩ : ∃ Y, (readV s.data.toList).1 = Y := ⟨_, rfl⟩
        obtain ⟨f, hf⟩ : ∃ f, (readV s.data.toList).2 = f := ⟨_, rfl⟩
        rw [hY] at hyl hq1 hq2
        rw [hf] at hq1 hq2
        rw [hY, hf]
        obtain ⟨y1, y2, y3⟩ := arr32' Y hyl
        obtain ⟨hd8, hb8⟩ := laid_row w7 (noBytes 32).toArray (Lib.byteCells Y).toArray 23 (by rw [y3]; rfl)
        have hd8' : BRow ((w7.alloc (.cells (noBytes 32).toArray 23)).setCells w7.heap.size 0 (Lib.byteCells Y).toArray.toList) 23 w7.heap.size Y := hd8
        have hs8 := (HS6.out.below hb7).below (hb8.mono (Nat.le_refl _))
        have hs9 : ShN w w.heap.size [(g7, D), (g5, D), (w7.heap.size, Y)] [] ((w7.alloc (.cells (noBytes 32).toArray 23)).setCells w7.heap.size 0 (Lib.byteCells Y).toArray.toList) :=
          ⟨rows_three (hs8.rows (g7, D) (List.mem_cons_self ..)) (hs8.rows (g5, D) (List.mem_cons_of_mem _ (List.mem_cons_self ..))) hd8', has_nil, hs8.g, hs8.bel, hs8.le⟩
        have HS9 := Lib.hid hs9
        have Y1 := Lib.hid y1
        have Y2 := Lib.hid y2
        have HYL := Lib.hid hyl
        have HQ1 := Lib.hid hq1
        have HQ2 := Lib.hid hq2
        have HTH2 := Lib.hid (there_alloc w7 (noBytes 32).toArray 23 (Lib.byteCells Y).toArray.size (by rw [y3]; decide))
        clear hb7 hyl hq1 hq2 hY hf y1 y2 y3 hd8 hb8 hd8' hs8 hs9
        go_upto_region 10 with (first | (refine wpList_alloc_of rfl 23 (noBytes 32).toArray rfl made32 ?_) | (refine wpList_store_mid rfl 23 (.tmp 9) (.tmp 38) rfl w7.heap.size 0 (Lib.byteCells Y).toArray rfl rfl HTH2.out Y1.out Y2.out ?_))
        generalize ((w7.alloc (.cells (noBytes 32).toArray 23)).setCells w7.heap.size 0 (Lib.byteCells Y).toArray.toList) = w9 at *
        generalize w7.heap.size = g9 at *
        have hs10 : ∀ W, (Instr.sliceAt 23 (.pointer (some ⟨g5, 0, none⟩)) none none none).run Tryd.prog W = .ok (.slice (some ⟨g5, 0, none⟩) 32 32) W := fun W => run_all32 _ W
        have m7 : (g7, D) ∈ [(g7, D), (g5, D), (g9, Y)] := List.mem_cons_self ..
        have m5 : (g5, D) ∈ [(g7, D), (g5, D), (g9, Y)] := List.mem_cons_of_mem _ (List.mem_cons_self ..)
        have m9 : (g9, Y) ∈ [(g7, D), (g5, D), (g9, Y)] := List.mem_cons_of_mem _ (List.mem_cons_of_mem _ (List.mem_cons_self ..))
        have M7 := Lib.hid m7
        have M5 := Lib.hid m5
        have M9 := Lib.hid m9
        clear m7 m5 m9
        refine wp_region_held_drew (S := ShN w w.heap.size [(g7, D), (g5, D), (g9, Y)] []) (by kernel_rfl) (HS9.out.below ((Below.refl _ _).drew)) (fun hHeld => ?_)
        refine wpAnyH_take (i := 0) (oi := _) (v := ?_) rfl (by kernel_rfl) (by kernel_rfl) (by kernel_rfl) (fun _ _ _ h => h) (Or.inl ⟨by kernel_rfl, ?hy1⟩) (by assumption) ?_
        case hy1 =>
          intro w9 hSw
          try dsimp only at hSw
          try simp only [List.getElem_toArray, List.getElem_cons_zero, List.getElem_cons_succ]
          go_simp
          try with_reducible rfl
        try simp only [Act.put, List.setIfInBounds_toArray, List.set_cons_zero, List.set_cons_succ, List.getElem_toArray, List.getElem_cons_zero, List.getElem_cons_succ]
        refine wpAnyH_take (i := 1) (oi := _) (v := ?_) rfl (by kernel_rfl) (by kernel_rfl) (by kernel_rfl) (fun _ _ _ h => h) (Or.inl ⟨by kernel_rfl, ?hy2⟩) (by assumption) ?_
        case hy2 =>
          intro w9 hSw
          try dsimp only at hSw
          try simp only [List.getElem_toArray, List.getElem_cons_zero, List.getElem_cons_succ]
          go_simp
          try with_reducible rfl
        try simp only [Act.put, List.setIfInBounds_toArray, List.set_cons_zero, List.set_cons_succ, List.getElem_toArray, List.getElem_cons_zero, List.getElem_cons_succ]
        refine wpAnyH_take (i := 2) (oi := _) (v := ?_) rfl (by kernel_rfl) (by kernel_rfl) (by kernel_rfl) (fun _ _ _ h => h) (Or.inl ⟨by kernel_rfl, ?hy3⟩) (by assumption) ?_
        case hy3 =>
          intro w9 hSw
          try dsimp only at hSw
          try simp only [List.getElem_toArray, List.getElem_cons_zero, List.getElem_cons_succ]
          go_simp
          try with_reducible rfl
        try simp only [Act.put, List.setIfInBounds_toArray, List.set_cons_zero, List.set_cons_succ, List.getElem_toArray, List.getElem_cons_zero, List.getElem_cons_succ]
        refine wpAnyH_take (i := 3) (oi := _) (v := ?_) rfl (by kernel_rfl) (by kernel_rfl) (by kernel_rfl) (fun _ _ _ h => h) ?hl4 (by assumption) ?_
        case hl4 => refine yieldsIf_load_mid ?_ 23 (.tmp 7) ?_ g7 0 ?_ (Lib.byteCells D) _ ?_ Tryd.underlying23 rfl HLL.out <;> first | exact fun _ hw => (hw.rows _ M7.out).range | kernel_rfl
        try simp only [Act.put, List.setIfInBounds_toArray, List.set_cons_zero, List.set_cons_succ, List.getElem_toArray, List.getElem_cons_zero, List.getElem_cons_succ]
        refine wpAnyH_take (i := 4) (oi := _) (v := ?_) rfl (by kernel_rfl) (by kernel_rfl) (by kernel_rfl) (fun _ _ _ h => h) ?hl5 (by assumption) ?_
        case hl5 => refine yieldsIf_load_mid ?_ 23 (.tmp 5) ?_ g5 0 ?_ (Lib.byteCells D) _ ?_ Tryd.underlying23 rfl HLL.out <;> first | exact fun _ hw => (hw.rows _ M5.out).range | kernel_rfl
        try simp only [Act.put, List.setIfInBounds_toArray, List.set_cons_zero, List.set_cons_succ, List.getElem_toArray, List.getElem_cons_zero, List.getElem_cons_succ]
        refine wpAnyH_take (i := 5) (oi := _) (v := ?_) rfl (by kernel_rfl) (by kernel_rfl) (by kernel_rfl) (fun _ _ _ h => h) ?hl6 (by assumption) ?_
        case hl6 => refine yieldsIf_ne32 ?_ (.tmp 43) (.tmp 44) 23 ?_ D D ?_ ?_ HDL.out HDL.out false (decide_eq_true rfl) <;> kernel_rfl
        try simp only [Act.put, List.setIfInBounds_toArray, List.set_cons_zero, List.set_cons_succ, List.getElem_toArray, List.getElem_cons_zero, List.getElem_cons_succ]
        refine wpAnyH_take (i := 6) (oi := _) (v := ?_) rfl (by kernel_rfl) (by kernel_rfl) (by kernel_rfl) (fun _ _ _ h => h) (Or.inl ⟨by kernel_rfl, ?hy7⟩) (by assumption) ?_
        case hy7 =>
          intro w9 hSw
          try dsimp only at hSw
          try simp only [List.getElem_toArray, List.getElem_cons_zero, List.getElem_cons_succ]
          go_simp
          try with_reducible rfl
        try simp only [Act.put, List.setIfInBounds_toArray, List.set_cons_zero, List.set_cons_succ, List.getElem_toArray, List.getElem_cons_zero, List.getElem_cons_succ]
        refine wpAnyH_take (i := 7) (oi := _) (v := ?_) rfl (by kernel_rfl) (by kernel_rfl) (by kernel_rfl) (fun _ _ _ h => h) (Or.inl ⟨by kernel_rfl, ?hy8⟩) (by assumption) ?_
        case hy8 =>
          intro w9 hSw
          try dsimp only at hSw
          try simp only [List.getElem_toArray, List.getElem_cons_zero, List.getElem_cons_succ]
          go_simp
          try with_reducible rfl
        try simp only [Act.put, List.setIfInBounds_toArray, List.set_cons_zero, List.set_cons_succ, List.getElem_toArray, List.getElem_cons_zero, List.getElem_cons_succ]
        refine wpAnyH_take (i := 8) (oi := _) (v := ?_) rfl (by kernel_rfl) (by kernel_rfl) (by kernel_rfl) (fun _ _ _ h => h) ?hl9 (by assumption) ?_
        case hl9 => refine yieldsIf_load_mid ?_ 23 (.tmp 5) ?_ g5 0 ?_ (Lib.byteCells D) _ ?_ Tryd.underlying23 rfl HLL.out <;> first | exact fun _ hw => (hw.rows _ M5.out).range | kernel_rfl
        try simp only [Act.put, List.setIfInBounds_toArray, List.set_cons_zero, List.set_cons_succ, List.getElem_toArray, List.getElem_cons_zero, List.getElem_cons_succ]
        refine wpAnyH_take (i := 10) (oi := _) (v := ?_) rfl (by kernel_rfl) (by kernel_rfl) (by kernel_rfl) (fun _ _ _ h => h) (Or.inl ⟨by kernel_rfl, ?hy10⟩) (by assumption) ?_
        case hy10 =>
          intro w9 hSw
          try dsimp only at hSw
          try simp only [List.getElem_toArray, List.getElem_cons_zero, List.getElem_cons_succ]
          go_simp
          try with_reducible rfl
        try simp only [Act.put, List.setIfInBounds_toArray, List.set_cons_zero, List.set_cons_succ, List.getElem_toArray, List.getElem_cons_zero, List.getElem_cons_succ]
        refine wpAnyH_ready (rs := [9]) (by kernel_rfl) (by simp) (AllReadyH.cons (o := _) rfl (fun K hK => ?_) AllReadyH.nil)
        try simp only [List.getElem_toArray, List.getElem_cons_zero, List.getElem_cons_succ]
        go_simp
        refine (Hex_any _ D HDL.out).mono ?_
        rintro e wa ⟨rfl, hb0⟩
        refine hK.out _ _ ((hHeld.below hb0)) (fun hHeld => ?_)
        clear hK K
        try simp only [Act.put, List.setIfInBounds_toArray, List.set_cons_zero, List.set_cons_succ, List.getElem_toArray, List.getElem_cons_zero, List.getElem_cons_succ]
        refine wpAnyH_ready (rs := [11]) (by kernel_rfl) (by simp) (AllReadyH.cons (o := _) rfl (fun K hK => ?_) AllReadyH.nil)
        try simp only [List.getElem_toArray, List.getElem_cons_zero, List.getElem_cons_succ]
        go_simp
        refine (RefHex_any _ _ D ((hHeld.rows _ M5.out).hasA 32 HDL.out.symm (by decide)) (by rw [HDL.out]; decide)).mono ?_
        rintro e wb ⟨rfl, hb1⟩
        refine hK.out _ _ ((hHeld.below hb1)) (fun hHeld => ?_)
        clear hK K
        try simp only [Act.put, List.setIfInBounds_toArray, List.set_cons_zero, List.set_cons_succ, List.getElem_toArray, List.getElem_cons_zero, List.getElem_cons_succ]
        refine wpAnyH_take (i := 12) (oi := _) (v := ?_) rfl (by kernel_rfl) (by kernel_rfl) (by kernel_rfl) (fun _ _ _ h => h) ?hl11 (by assumption) ?_
        case hl11 => refine yieldsIf_neS ?_ (.tmp 49) (.tmp 51) 9 ?_ ⟨(hexOf D).toArray⟩ ?_ ?_ <;> kernel_rfl
        try simp only [Act.put, List.setIfInBounds_toArray, List.set_cons_zero, List.set_cons_succ, List.getElem_toArray, List.getElem_cons_zero, List.getElem_cons_succ]
        refine wpAnyH_take (i := 13) (oi := _) (v := ?_) rfl (by kernel_rfl) (by kernel_rfl) (by kernel_rfl) (fun _ _ _ h => h) (Or.inl ⟨by kernel_rfl, ?hy12⟩) (by assumption) ?_
        case hy12 =>
          intro w9 hSw
          try dsimp only at hSw
          try simp only [List.getElem_toArray, List.getElem_cons_zero, List.getElem_cons_succ]
          go_simp
          try with_reducible rfl
        try simp only [Act.put, List.setIfInBounds_toArray, List.set_cons_zero, List.set_cons_succ, List.getElem_toArray, List.getElem_cons_zero, List.getElem_cons_succ]
        refine wpAnyH_done (by kernel_rfl) ?_ _
        have HSF := Lib.hid hHeld
        clear hHeld hb0 hb1 hs10
        go_wp2_with fail
        refine (Digits_any wb s HSM.out 64 (by decide)).mono ?_
        rintro e wc ⟨rfl, rfl⟩
        obtain ⟨q, hq⟩ : ∃ q, (digAll s.data.toList && decide (s.data.toList.length = 64)) = q := ⟨_, rfl⟩
        rw [hq]
        have HQ := Lib.hid hq
        clear hq
        cases q
        · obtain ⟨rfl, rfl⟩ := HQ2.out HQ.out
          have hb9 := HSF.out.rows _ M9.out
          unfold BRow at hb9
          have HB9 := Lib.hid hb9
          clear hb9
          go_wp2_with (first | (refine wpList_run (by kernel_rfl) (exec_load_row 23 (.tmp 9) rfl g9 rfl 23 _ (0, 0) _ HB9.out Tryd.underlying23 rfl Y1.out) ?_) | (refine wpList_run (by kernel_rfl) (exec_build_none rfl) ?_) | (refine wpList_run (by kernel_rfl) (exec_eq32 (.tmp 60) (.tmp 61) 23 rfl (zeros 32) (zeros 32) rfl rfl rfl rfl true (decide_eq_true rfl) _) ?_))
          go_ret
          exact ⟨rfl, HSF.out.bel⟩
        · obtain ⟨rfl, hhx⟩ := HQ1.out HQ.out
          have hb9 := HSF.out.rows _ M9.out
          unfold BRow at hb9
          have HB9 := Lib.hid hb9
          have HHX := Lib.hid hhx
          clear hb9 hhx
          go_wp2_with (first | (refine wpList_run (by kernel_rfl) (exec_load_row 23 (.tmp 9) rfl g9 rfl 23 _ (0, 0) _ HB9.out Tryd.underlying23 rfl Y1.out) ?_))
          refine (Hex_any _ Y HYL.out).mono ?_
          rintro e wd ⟨rfl, hbd⟩
          have HFD := Lib.hid (HSF.out.below hbd).bel
          have hsS : (⟨(hexOf Y).toArray⟩ : ByteArray) = s := by
            rw [HHX.out]
          rw [hsS]
          clear hsS hbd
          go_wp2
          go_ret
          exact ⟨by simp, HFD.out⟩
end Go.Proofs.YtjopfhmloklhdaaDoor
