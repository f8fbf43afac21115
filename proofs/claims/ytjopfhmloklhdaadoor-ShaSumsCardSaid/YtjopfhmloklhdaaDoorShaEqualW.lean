/-
  The walk of ShaEqual.
-/
import Derived.Test.YtjopfhmloklhdaaDoorShS
namespace Go.Proofs.YtjopfhmloklhdaaDoor
open Go.ChangeShapes Go.WideShapes Go.ChangeAt Go.RowKit Go.Deep
set_option linter.unusedVariables false
set_option linter.unusedSimpArgs false

section
variable {P : Program}
/-- Whatever bytes appended to a row of the call's own, as a step of a region that draws. -/
theorem step_append_has {ops : Array Oper} {o : Oper} {a : Act} {w : World} {K : Act → World → Prop} {Q : Exit → Act → World → Prop} {E : Prop} (hwt : Region.wanted o (yielded ops a.tmps) = true) (s x : Operand) (t : TypeId)
    (ho : o.op = .call { callee := .builtin .append, args := #[s, x], argTypes := #[t, t] })
    (base : Nat) (e : TypeId) (ht : P.underlying t = some (.slice e)) (hinfo : (P.info? e).map (fun i => (i.zero, i.size, i.bytes)) = some (some (.int .u8 0), 1, 1))
    (v : Value) (xs : List UInt8) (hs : a.eval s = v) (hown : Own w base e v xs) (y : Value) (l : List UInt8) (hx : a.eval x = y) (hy : HasA w y l) (hlen : xs.length + l.length ≤ 140737488355328) (hbase : base ≤ w.heap.size)
    (w0 : World) (hb : Below base w0 w)
    (hK : ∀ v' w', Own w' base e v' (xs ++ l) → Below base w0 w' → K (a.put o.dst v') w') :
    if Region.wanted o (yielded ops a.tmps) = true then Oper.wp P o a w K Q else E := by
  rw [if_pos hwt]
  obtain ⟨i, hi, hz, hz1, hz2⟩ := info_parts hinfo
  obtain ⟨p, cap, b, off, rfl, k1, k2, k3, kc⟩ := hy
  by_cases h0 : 0 < l.length
  · obtain ⟨rfl, hb'⟩ := k3 h0
    refine wp_append_own w s x t ho base e i (.int .u8 0) 1 1 ht hi hz hz1 hz2 rfl (by decide) v xs.length _ hs hown ⟨b, off, none⟩ l.length cap (Lib.byteCells l) hx (by rw [Lib.byteCells_length, Nat.mul_one]) (cells_at kc) (Lib.byteCells_one l)
      (by unfold maxLen; omega) (by omega) hbase fun v' w' h1 h2 _ => hK v' w' ?_ (hb.grown h2 hbase (fun k hk => (World.ownsRow.lt hown k hk).1))
    unfold Own
    rw [List.length_append, Lib.byteCells_append]
    exact h1
  · obtain rfl : l = [] := List.eq_nil_of_length_eq_zero (by omega)
    simp only [List.length_nil] at hx
    have hf : ∃ q m c, v = .slice q m c ∧ m ≤ c := by
      rcases hown.2 with ⟨hv, _⟩ | ⟨g, cap, cur, hv, _, _, h1, _⟩
      · exact ⟨none, 0, 0, hv, Nat.le_refl _⟩
      · exact ⟨_, _, _, hv, h1⟩
    cases p with
    | none =>
      obtain ⟨q, m, c, rfl, hmc⟩ := hf
      have hr := run_append_nothing (P := P) w t t o.type e i ht hi q m c hmc (.slice none 0 cap) (by rw [hz1]; exact Src.ofNil w ht cap)
      unfold Oper.wp
      simp [execOp, ho, resolve, invoke, builtin, hs, hx, hr, Result.andThen]
      have := hK _ w (by rw [List.append_nil]; exact hown) hb
      exact this
    | some ad =>
      refine wp_append_own w s x t ho base e i (.int .u8 0) 1 1 ht hi hz hz1 hz2 rfl (by decide) v xs.length _ hs hown ad 0 cap [] hx rfl (fun j u hu => by simp at hu) (fun u hu => by simp at hu)
        (by unfold maxLen; simp at hlen; omega) (by simp at hlen; omega) hbase fun v' w' h1 h2 _ => hK v' w' ?_ (hb.grown h2 hbase (fun k hk => (World.ownsRow.lt hown k hk).1))
      unfold Own
      rw [List.append_nil] at h1 ⊢
      rw [Nat.add_zero] at h1
      exact h1
/-- A row of no bytes. -/
theorem own_empty (w : World) (e : TypeId) : Own (w.alloc (.cells #[] e)) w.heap.size e (.slice (some ⟨w.heap.size, 0, none⟩) 0 0) [] := by
  refine ⟨rfl, .inr ⟨w.heap.size, 0, #[], rfl, Nat.le_refl _, heap_alloc_new _ _, Nat.le_refl _, Nat.zero_le _, rfl, rfl⟩⟩
end
section
variable {ops : Array Oper} {S : World → Prop}
theorem yieldsIf_text {op : Oper} {a : Act} (hw : Region.wanted op (yielded ops a.tmps) = true) (x : Operand) (ho : op.op = .convert 31 9 x) (v : Value) (l : List UInt8) (hx : a.eval x = v) (hS : ∀ w, S w → HasA w v l) : YieldsIf Tryd.prog ops S op (.string ⟨l.toArray⟩) a :=
  .inl ⟨hw, fun w hw' => by
    have hc : (convert 31 9 v).run Tryd.prog w = .ok (.string ⟨l.toArray⟩) w := by
      obtain ⟨p, cap, b, o, rfl, h1, h2, h3, h4⟩ := hS w hw'
      by_cases h0 : 0 < l.length
      · obtain ⟨rfl, _⟩ := h3 h0
        exact run_convert_bytes_back w 31 9 5 ⟨b, o, none⟩ cap l Tryd.underlying31 Tryd.underlying5 Tryd.underlying9 (fun j hj => by rw [add_plain]; exact h4 j hj)
      · obtain rfl : l = [] := List.eq_nil_of_length_eq_zero (by omega)
        cases p with
        | none => exact run_convert_bytes_nil w 31 5 Tryd.underlying31 Tryd.underlying5 0 cap 9 Tryd.underlying9
        | some ad => exact run_convert_bytes_back w 31 9 5 ad cap [] Tryd.underlying31 Tryd.underlying5 Tryd.underlying9 (fun j hj => absurd hj (Nat.not_lt_zero _))
    unfold execOp
    simp only [ho, hx, hc, Sem.run_bind, Sem.run_pure, Result.andThen_ok]⟩
end
set_option maxRecDepth 100000 in
set_option maxHeartbeats 8000000 in
theorem ShaEqual_any (v : Value) (a : List UInt8) (u : Value) (b : List UInt8) (w : World) (hv : HasA w v a) (ga : a.length ≤ 140737488351232) (hu : HasA w u b) (gb : b.length ≤ 140737488351232) (hG : Grnd w) :
    Calls Tryd.prog 7 #[v, u] w fun e w' => e = .returned (.bool true) ∧ Below w.heap.size w w' := by
  have hS0 : ShN w w.heap.size [] [(v, a), (u, b)] w := ⟨rows_nil, has_two hv hu, hG, Below.refl _ _, Nat.le_refl _⟩
  have HS0 := Lib.hid hS0
  have h1 : (v, a) ∈ [(v, a), (u, b)] := List.mem_cons_self ..
  have h2 : (u, b) ∈ [(v, a), (u, b)] := List.mem_cons_of_mem _ (List.mem_cons_self ..)
  have H1 := Lib.hid h1
  have H2 := Lib.hid h2
  obtain ⟨c, hc⟩ : ∃ c, decide (a = b) = c := ⟨_, rfl⟩
  have HC := Lib.hid hc
  have hq : decide ((⟨a.toArray⟩ : ByteArray).data.toList = (⟨b.toArray⟩ : ByteArray).data.toList) = c := hc
  have HQ := Lib.hid hq
  have haa : decide (a = a) = true := decide_eq_true rfl
  have HAA := Lib.hid haa
  have HGA := Lib.hid ga
  clear hv hu hG hS0 h1 h2 hc hq haa ga gb
  go_enter Tryd.func7, Tryd.ntmps7
  go_upto_region 1 with fail
  refine wp_region_held_drew (S := ShN w w.heap.size [] [(v, a), (u, b)]) (by kernel_rfl) (HS0.out.below ((Below.refl _ _).drew)) (fun hHeld => ?_)
  refine wpAnyH_ready (rs := [0]) (by kernel_rfl) (by simp) (AllReadyH.cons (o := _) rfl (fun K hK => ?_) AllReadyH.nil)
  try simp only [List.getElem_toArray, List.getElem_cons_zero, List.getElem_cons_succ]
  go_simp
  refine (awake_any _ hHeld.g).mono ?_
  rintro e wa ⟨rfl, hb0⟩
  refine hK.out _ _ ((hHeld.below hb0)) (fun hHeld => ?_)
  clear hK K
  try simp only [Act.put, List.setIfInBounds_toArray, List.set_cons_zero, List.set_cons_succ, List.getElem_toArray, List.getElem_cons_zero, List.getElem_cons_succ]
  refine wpAnyH_take (i := 1) (oi := _) (v := ?_) rfl (by kernel_rfl) (by kernel_rfl) (by kernel_rfl) (fun _ _ _ h => h) (Or.inl ⟨by kernel_rfl, ?hy1⟩) (by assumption) ?_
  case hy1 =>
    intro w9 hSw
    try dsimp only at hSw
    try simp only [List.getElem_toArray, List.getElem_cons_zero, List.getElem_cons_succ]
    go_simp
    try with_reducible rfl
  try simp only [Act.put, List.setIfInBounds_toArray, List.set_cons_zero, List.set_cons_succ, List.getElem_toArray, List.getElem_cons_zero, List.getElem_cons_succ]
  refine wpAnyH_take (i := 2) (oi := _) (v := ?_) rfl (by kernel_rfl) (by kernel_rfl) (by kernel_rfl) (fun _ _ _ h => h) (Or.inl ⟨by kernel_rfl, ?hy2⟩) (by assumption) ?_
  case hy2 =>
    intro w9 hSw
    try dsimp only at hSw
    try simp only [List.getElem_toArray, List.getElem_cons_zero, List.getElem_cons_succ]
    go_simp
    try with_reducible rfl
  try simp only [Act.put, List.setIfInBounds_toArray, List.set_cons_zero, List.set_cons_succ, List.getElem_toArray, List.getElem_cons_zero, List.getElem_cons_succ]
  refine wpAnyH_take (i := 3) (oi := _) (v := ?_) rfl (by kernel_rfl) (by kernel_rfl) (by kernel_rfl) (fun _ _ _ h => h) (Or.inl ⟨by kernel_rfl, ?hy3⟩) (by assumption) ?_
  case hy3 =>
    intro w9 hSw
    try dsimp only at hSw
    try simp only [List.getElem_toArray, List.getElem_cons_zero, List.getElem_cons_succ]
    go_simp
    try with_reducible rfl
  try simp only [Act.put, List.setIfInBounds_toArray, List.set_cons_zero, List.set_cons_succ, List.getElem_toArray, List.getElem_cons_zero, List.getElem_cons_succ]
  refine wpAnyH_take (i := 5) (oi := _) (v := ?_) rfl (by kernel_rfl) (by kernel_rfl) (by kernel_rfl) (fun _ _ _ h => h) (Or.inl ⟨by kernel_rfl, ?hy4⟩) (by assumption) ?_
  case hy4 =>
    intro w9 hSw
    try dsimp only at hSw
    try simp only [List.getElem_toArray, List.getElem_cons_zero, List.getElem_cons_succ]
    go_simp
    try with_reducible rfl
  try simp only [Act.put, List.setIfInBounds_toArray, List.set_cons_zero, List.set_cons_succ, List.getElem_toArray, List.getElem_cons_zero, List.getElem_cons_succ]
  refine wpAnyH_take (i := 6) (oi := _) (v := ?_) rfl (by kernel_rfl) (by kernel_rfl) (by kernel_rfl) (fun _ _ _ h => h) ?hl5 (by assumption) ?_
  case hl5 => refine yieldsIf_text ?_ (.tmp 10) ?_ v a ?_ ?_ <;> first | exact fun _ hw => hw.has _ H1.out | kernel_rfl
  try simp only [Act.put, List.setIfInBounds_toArray, List.set_cons_zero, List.set_cons_succ, List.getElem_toArray, List.getElem_cons_zero, List.getElem_cons_succ]
  refine wpAnyH_take (i := 7) (oi := _) (v := ?_) rfl (by kernel_rfl) (by kernel_rfl) (by kernel_rfl) (fun _ _ _ h => h) (Or.inl ⟨by kernel_rfl, ?hy6⟩) (by assumption) ?_
  case hy6 =>
    intro w9 hSw
    try dsimp only at hSw
    try simp only [List.getElem_toArray, List.getElem_cons_zero, List.getElem_cons_succ]
    go_simp
    try with_reducible rfl
  try simp only [Act.put, List.setIfInBounds_toArray, List.set_cons_zero, List.set_cons_succ, List.getElem_toArray, List.getElem_cons_zero, List.getElem_cons_succ]
  refine wpAnyH_take (i := 8) (oi := _) (v := ?_) rfl (by kernel_rfl) (by kernel_rfl) (by kernel_rfl) (fun _ _ _ h => h) ?hl7 (by assumption) ?_
  case hl7 => refine yieldsIf_text ?_ (.tmp 12) ?_ u b ?_ ?_ <;> first | exact fun _ hw => hw.has _ H2.out | kernel_rfl
  try simp only [Act.put, List.setIfInBounds_toArray, List.set_cons_zero, List.set_cons_succ, List.getElem_toArray, List.getElem_cons_zero, List.getElem_cons_succ]
  refine wpAnyH_take (i := 9) (oi := _) (v := ?_) rfl (by kernel_rfl) (by kernel_rfl) (by kernel_rfl) (fun _ _ _ h => h) ?hl8 (by assumption) ?_
  case hl8 => refine yieldsIf_eqS ?_ (.tmp 11) (.tmp 13) 9 ?_ _ _ ?_ ?_ c HQ.out <;> kernel_rfl
  try simp only [Act.put, List.setIfInBounds_toArray, List.set_cons_zero, List.set_cons_succ, List.getElem_toArray, List.getElem_cons_zero, List.getElem_cons_succ]
  refine wpAnyH_ready (rs := [4]) (by kernel_rfl) (by simp) (AllReadyH.cons (o := _) rfl (fun K hK => ?_) AllReadyH.nil)
  try simp only [List.getElem_toArray, List.getElem_cons_zero, List.getElem_cons_succ]
  go_simp
  refine (Equal_any _ _ a b _ (hHeld.has _ H1.out) (hHeld.has _ H2.out)).mono ?_
  rw [HC.out]
  rintro e wb ⟨rfl, nn, rfl⟩
  have hb1 := drewB wa nn
  refine hK.out _ _ ((hHeld.below hb1)) (fun hHeld => ?_)
  clear hK K
  try simp only [Act.put, List.setIfInBounds_toArray, List.set_cons_zero, List.set_cons_succ, List.getElem_toArray, List.getElem_cons_zero, List.getElem_cons_succ]
  refine wpAnyH_take (i := 10) (oi := _) (v := ?_) rfl (by kernel_rfl) (by kernel_rfl) (by kernel_rfl) (fun _ _ _ h => h) (Or.inl ⟨by kernel_rfl, ?hy9⟩) (by assumption) ?_
  case hy9 =>
    intro w9 hSw
    try dsimp only at hSw
    try simp only [List.getElem_toArray, List.getElem_cons_zero, List.getElem_cons_succ]
    go_simp
    try with_reducible rfl
  try simp only [Act.put, List.setIfInBounds_toArray, List.set_cons_zero, List.set_cons_succ, List.getElem_toArray, List.getElem_cons_zero, List.getElem_cons_succ]
  refine wpAnyH_take (i := 11) (oi := _) (v := ?_) rfl (by kernel_rfl) (by kernel_rfl) (by kernel_rfl) (fun _ _ _ h => h) (Or.inl ⟨by kernel_rfl, ?hy10⟩) (by assumption) ?_
  case hy10 =>
    intro w9 hSw
    try dsimp only at hSw
    try simp only [List.getElem_toArray, List.getElem_cons_zero, List.getElem_cons_succ]
    go_simp
    try with_reducible rfl
  try simp only [Act.put, List.setIfInBounds_toArray, List.set_cons_zero, List.set_cons_succ, List.getElem_toArray, List.getElem_cons_zero, List.getElem_cons_succ]
  refine wpAnyH_take (i := 12) (oi := _) (v := ?_) rfl (by kernel_rfl) (by kernel_rfl) (by kernel_rfl) (fun _ _ _ h => h) (Or.inl ⟨by kernel_rfl, ?hy11⟩) (by assumption) ?_
  case hy11 =>
    intro w9 hSw
    try dsimp only at hSw
    try simp only [List.getElem_toArray, List.getElem_cons_zero, List.getElem_cons_succ]
    go_simp
    try with_reducible rfl
  try simp only [Act.put, List.setIfInBounds_toArray, List.set_cons_zero, List.set_cons_succ, List.getElem_toArray, List.getElem_cons_zero, List.getElem_cons_succ]
  refine wpAnyH_take (i := 13) (oi := _) (v := ?_) rfl (by kernel_rfl) (by kernel_rfl) (by kernel_rfl) (fun _ _ _ h => h) (Or.inl ⟨by kernel_rfl, ?hy12⟩) (by assumption) ?_
  case hy12 =>
    intro w9 hSw
    try dsimp only at hSw
    try simp only [List.getElem_toArray, List.getElem_cons_zero, List.getElem_cons_succ]
    go_simp
    try with_reducible rfl
  try simp only [Act.put, List.setIfInBounds_toArray, List.set_cons_zero, List.set_cons_succ, List.getElem_toArray, List.getElem_cons_zero, List.getElem_cons_succ]
  refine wpAnyH_take (i := 15) (oi := _) (v := ?_) rfl (by kernel_rfl) (by kernel_rfl) (by kernel_rfl) (fun _ _ _ h => h) (Or.inl ⟨by kernel_rfl, ?hy13⟩) (by assumption) ?_
  case hy13 =>
    intro w9 hSw
    try dsimp only at hSw
    try simp only [List.getElem_toArray, List.getElem_cons_zero, List.getElem_cons_succ]
    go_simp
    try with_reducible rfl
  try simp only [Act.put, List.setIfInBounds_toArray, List.set_cons_zero, List.set_cons_succ, List.getElem_toArray, List.getElem_cons_zero, List.getElem_cons_succ]
  obtain ⟨wb, hwb⟩ : ∃ wb, wa.drewN nn = wb := ⟨_, rfl⟩
  rw [hwb] at hHeld ⊢
  have hSb := hHeld
  have hown := own_empty wb 5
  have hbe := (Below.refl wb.heap.size wb).alloc (Nat.le_refl _) (.cells #[] 5)
  have hze : wb.heap.size ≤ (wb.alloc (.cells #[] 5)).heap.size := hbe.size
  have hve : HasA (wb.alloc (.cells #[] 5)) v a := (hHeld.has _ H1.out).below hbe
  refine wpAnyH_ready (rs := [14]) (by kernel_rfl) (by simp) (AllReadyH.cons (o := _) rfl (fun K hK => ?_) AllReadyH.nil)
  try simp only [List.getElem_toArray, List.getElem_cons_zero, List.getElem_cons_succ]
  go_simp
  refine hK.out _ _ ((hHeld.below hbe)) (fun hHeld => ?_)
  clear hK K
  try simp only [Act.put, List.setIfInBounds_toArray, List.set_cons_zero, List.set_cons_succ, List.getElem_toArray, List.getElem_cons_zero, List.getElem_cons_succ]
  refine wpAnyH_ready (rs := [16]) (by kernel_rfl) (by simp) (AllReadyH.cons (o := _) rfl (fun K hK => ?_) AllReadyH.nil)
  refine step_append_has (by kernel_rfl) (.tmp 19) (.tmp 20) 31 rfl wb.heap.size 5 Tryd.underlying31 info_u8 _ [] rfl hown v a rfl hve (by have := HGA.out; show 0 + a.length ≤ _; omega) hze wb hbe (fun v5 w5 ho5 hb5 => ?_)
  refine hK.out _ _ ((hSb.below hb5)) (fun hHeld => ?_)
  clear hK K
  try simp only [Act.put, List.setIfInBounds_toArray, List.set_cons_zero, List.set_cons_succ, List.getElem_toArray, List.getElem_cons_zero, List.getElem_cons_succ]
  have hv5 : HasA w5 v5 a := ho5.has.wide
  refine wpAnyH_ready (rs := [17]) (by kernel_rfl) (by simp) (AllReadyH.cons (o := _) rfl (fun K hK => ?_) AllReadyH.nil)
  try simp only [List.getElem_toArray, List.getElem_cons_zero, List.getElem_cons_succ]
  go_simp
  refine (Equal_any _ _ a a _ (hHeld.has _ H1.out) hv5).mono ?_
  rw [HAA.out]
  rintro e wc ⟨rfl, n2, rfl⟩
  have hb6 := drewB w5 n2
  refine hK.out _ _ ((hHeld.below hb6)) (fun hHeld => ?_)
  clear hK K
  try simp only [Act.put, List.setIfInBounds_toArray, List.set_cons_zero, List.set_cons_succ, List.getElem_toArray, List.getElem_cons_zero, List.getElem_cons_succ]
  refine wpAnyH_take (i := 18) (oi := _) (v := ?_) rfl (by kernel_rfl) (by kernel_rfl) (by kernel_rfl) (fun _ _ _ h => h) (Or.inl ⟨by kernel_rfl, ?hy14⟩) (by assumption) ?_
  case hy14 =>
    intro w9 hSw
    try dsimp only at hSw
    try simp only [List.getElem_toArray, List.getElem_cons_zero, List.getElem_cons_succ]
    go_simp
    try with_reducible rfl
  try simp only [Act.put, List.setIfInBounds_toArray, List.set_cons_zero, List.set_cons_succ, List.getElem_toArray, List.getElem_cons_zero, List.getElem_cons_succ]
  refine wpAnyH_take (i := 19) (oi := _) (v := ?_) rfl (by kernel_rfl) (by kernel_rfl) (by kernel_rfl) (fun _ _ _ h => h) (Or.inl ⟨by kernel_rfl, ?hy15⟩) (by assumption) ?_
  case hy15 =>
    intro w9 hSw
    try dsimp only at hSw
    try simp only [List.getElem_toArray, List.getElem_cons_zero, List.getElem_cons_succ]
    go_simp
    try with_reducible rfl
  try simp only [Act.put, List.setIfInBounds_toArray, List.set_cons_zero, List.set_cons_succ, List.getElem_toArray, List.getElem_cons_zero, List.getElem_cons_succ]
  refine wpAnyH_done (by kernel_rfl) ?_ _
  have HFIN := Lib.hid hHeld.bel
  clear hHeld hSb hown hbe hze hve ho5 hb5 hv5 hb6 hb1 hb0 hwb
  go_wp2
  go_ret
  exact ⟨rfl, HFIN.out⟩
end Go.Proofs.YtjopfhmloklhdaaDoor
