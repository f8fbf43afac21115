/-
  Package sha: a digest told in digits.
-/
import Derived.Test.YtjopfhmloklhdaaDoorSum14
import Derived.Laws.AppendOwn
namespace Go.Proofs.YtjopfhmloklhdaaDoor
open Go.ChangeShapes Go.WideShapes Go.ChangeAt Go.RowKit Go.Deep
set_option linter.unusedVariables false
set_option linter.unusedSimpArgs false

section
variable {P : Program}
/-- Some bytes appended to a row of the call's own, as a step of a region that draws. -/
theorem step_append_own {ops : Array Oper} {o : Oper} {a : Act} {w : World} {K : Act → World → Prop} {Q : Exit → Act → World → Prop} {E : Prop} (hgd : o.guard = none) (s x : Operand) (t : TypeId)
    (ho : o.op = .call { callee := .builtin .append, args := #[s, x], argTypes := #[t, t] })
    (base : Nat) (e : TypeId) (ht : P.underlying t = some (.slice e)) (hinfo : (P.info? e).map (fun i => (i.zero, i.size, i.bytes)) = some (some (.int .u8 0), 1, 1))
    (v : Value) (xs : List UInt8) (hs : a.eval s = v) (hown : Own w base e v xs)
    (b off n cap : Nat) (l : List UInt8) (hn : n = l.length) (hx : a.eval x = .slice (some ⟨b, off, none⟩) n cap) (hy : ∀ j (h : j < l.length), w.cell? ⟨b, off + j, none⟩ = some (.int .u8 (l[j].toNat : Int))) (hlen : xs.length + l.length ≤ 140737488355328) (hbase : base ≤ w.heap.size)
    (w0 : World) (hb : Below base w0 w)
    (hK : ∀ v' w', Own w' base e v' (xs ++ l) → Below base w0 w' → K (a.put o.dst v') w') :
    if Region.wanted o (yielded ops a.tmps) = true then Oper.wp P o a w K Q else E := by
  have hw : Region.wanted o (yielded ops a.tmps) = true := by simp [Region.wanted, hgd]
  rw [if_pos hw]
  subst hn
  obtain ⟨i, hi, hz, hz1, hz2⟩ := info_parts hinfo
  refine wp_append_own w s x t ho base e i (.int .u8 0) 1 1 ht hi hz hz1 hz2 rfl (by decide) v xs.length _ hs hown ⟨b, off, none⟩ l.length cap (Lib.byteCells l) hx (by rw [Lib.byteCells_length, Nat.mul_one]) (cells_at hy) (Lib.byteCells_one l)
    (by unfold maxLen; omega) (by omega) hbase fun v' w' h1 h2 _ => hK v' w' ?_ (hb.grown h2 hbase (fun k hk => (World.ownsRow.lt hown k hk).1))
  unfold Own
  rw [List.length_append, Lib.byteCells_append]
  exact h1
end
/-- A digit of a number below sixteen. -/
def hexD (n : Nat) : UInt8 := if n < 10 then UInt8.ofNat (48 + n) else UInt8.ofNat (87 + n)
def hexB (b : UInt8) : List UInt8 := [hexD (b.toNat / 16), hexD (b.toNat % 16)]
def hexOf (l : List UInt8) : List UInt8 := l.flatMap hexB
theorem hexOf_len (l : List UInt8) : (hexOf l).length = 2 * l.length := by
  induction l with
  | nil => rfl
  | cons a r ih =>
    show (hexB a ++ hexOf r).length = _
    rw [List.length_append, ih, List.length_cons]
    show 2 + _ = _
    omega
theorem hexOf_snoc (l : List UInt8) (k : Nat) (h : k < l.length) : hexOf (l.take (k + 1)) = hexOf (l.take k) ++ hexB l[k] := by
  unfold hexOf
  rw [List.take_succ_eq_append_getElem h, List.flatMap_append, List.flatMap_singleton]
theorem run_digits (n : Nat) (hn : n < 16) (W : World) : (Instr.index 9 (.string ⟨#[48, 49, 50, 51, 52, 53, 54, 55, 56, 57, 97, 98, 99, 100, 101, 102]⟩) (.int .u8 (n : Int))).run Tryd.prog W = .ok (.int .u8 ((hexD n).toNat : Int)) W := by
  rcases (by omega : n = 0 ∨ n = 1 ∨ n = 2 ∨ n = 3 ∨ n = 4 ∨ n = 5 ∨ n = 6 ∨ n = 7 ∨ n = 8 ∨ n = 9 ∨ n = 10 ∨ n = 11 ∨ n = 12 ∨ n = 13 ∨ n = 14 ∨ n = 15) with rfl | rfl | rfl | rfl | rfl | rfl | rfl | rfl | rfl | rfl | rfl | rfl | rfl | rfl | rfl | rfl <;> kernel_rfl
theorem and15 (x : Nat) (h : x < 256) : bits .and .u8 (x : Int) 15 = ((x % 16 : Nat) : Int) := by
  have e := u8_and_nat x 15 h (by decide)
  rw [show ((15 : Nat) : Int) = 15 from rfl] at e
  rw [e]
  congr 1
  exact Nat.and_two_pow_sub_one_eq_mod x 4
theorem index_bytes (D : List UInt8) (hD : D.length = 32) (k : Nat) (hk : k < 32) (w : World) : (Instr.index 23 (.agg (Lib.byteCells D).toArray) (.int .i64 (k : Int))).run Tryd.prog w = .ok (.int .u8 ((D.getD k 0).toNat : Int)) w := by
  have hu : Tryd.prog.underlying 23 = some (.array 32 5) := Tryd.underlying23
  have hg : (Lib.byteCells D).toArray[k]? = some (.int .u8 ((D.getD k 0).toNat : Int)) := by
    rw [List.getElem?_toArray, byteCells_get (by omega), List.getD_eq_getElem?_getD, List.getElem?_eq_getElem (by omega)]
    rfl
  have hp : ∀ W, (Go.part 5 (Lib.byteCells D).toArray (k * 1)).run Tryd.prog W = .ok (.int .u8 ((D.getD k 0).toNat : Int)) W := fun W => by
    have ha : (isAgg 5).run Tryd.prog W = .ok false W := by kernel_rfl
    unfold Go.part
    rw [Nat.mul_one]
    simp [ha, hg]
  have hpos : (0 : Int) ≤ (k : Int) ∧ (k : Int) < ((32 : Nat) : Int) := by omega
  have hs := size_u8
  unfold Instr.index
  simp [asIntOf, run_underlying hu, hs]
  have h1 := hp w
  rw [Nat.mul_one] at h1
  rw [if_pos hk, h1, List.getD_eq_getElem?_getD]
section
variable {P : Program}
theorem yieldsIf_index_of {ops : Array Oper} {S : World → Prop} {op : Oper} {a : Act} (hw : Region.wanted op (yielded ops a.tmps) = true) (ty : TypeId) (x i : Operand) (ho : op.op = .index ty x i) (v : Value)
    (hr : ∀ w, (Instr.index ty (a.eval x) (a.eval i)).run P w = .ok v w) : YieldsIf P ops S op v a :=
  .inl ⟨hw, fun w _ => by
    unfold execOp
    simp only [ho, Sem.run_bind, Sem.run_pure, Result.andThen_ok, hr]⟩
theorem wpList_index_of {ops : Array Oper} {rest : List Oper} {o : Oper} {a : Act} {w : World} {Q : Exit → Act → World → Prop} (hg : o.guard = none) (ty : TypeId) (x i : Operand) (ho : o.op = .index ty x i) (v : Value)
    (hr : ∀ w, (Instr.index ty (a.eval x) (a.eval i)).run P w = .ok v w)
    (h : wpList P ops Q rest (a.put o.dst v) w) : wpList P ops Q (o :: rest) a w := by
  refine wpList_plain hg fun _ hK => ?_
  unfold Oper.wp execOp
  simp only [ho, hr, Sem.run_bind, Sem.run_pure, Result.andThen_ok]
  exact hK _ _ h
end
theorem two_bytes (w : World) (t : TypeId) (a b : UInt8) : ∀ j (h : j < [a, b].length), (w.alloc (.cells #[.int .u8 (a.toNat : Int), .int .u8 (b.toNat : Int)] t)).cell? ⟨w.heap.size, 0 + j, none⟩ = some (.int .u8 ([a, b][j].toNat : Int)) := fun j hj => by
  have hj2 : j < 2 := hj
  unfold World.cell?
  rw [heap_alloc_new]
  rcases (by omega : j = 0 ∨ j = 1) with rfl | rfl <;> rfl
set_option maxRecDepth 100000 in
set_option maxHeartbeats 4000000 in
theorem Hex_any (w : World) (D : List UInt8) (hD : D.length = 32) :
    Calls Tryd.prog 20 #[.agg (Lib.byteCells D).toArray] w fun e w' => e = .returned (.string ⟨(hexOf D).toArray⟩) ∧ Below w.heap.size w w' := by
  have hn1 : (w.alloc (.cells (Lib.byteCells D).toArray 23)).heap[w.heap.size]? = some (.cells (Lib.byteCells D).toArray 23 (0, 0)) := heap_alloc_new _ _
  have hb1 := (Below.refl w.heap.size w).alloc (Nat.le_refl _) (.cells (Lib.byteCells D).toArray 23)
  have hz1 := size_alloc1 w (.cells (Lib.byteCells D).toArray 23)
  have hix := index_bytes D hD
  have hi32 : (Tryd.prog.info? 23).map (·.size) = some (Lib.byteCells D).toArray.size := by rw [List.size_toArray, bytes_len, hD]; exact info32
  obtain ⟨C, hC⟩ : ∃ C, (Lib.byteCells D).toArray = C := ⟨_, rfl⟩
  rw [hC] at hn1 hb1 hz1 hix hi32 ⊢
  have HN1 := Lib.hid hn1
  have HB1 := Lib.hid hb1
  have HZ1 := Lib.hid hz1
  have HIX := Lib.hid hix
  have HI32 := Lib.hid hi32
  have HD := Lib.hid hD
  clear hn1 hb1 hD hC hix hi32 hz1
  go_enter Tryd.func20, Tryd.ntmps20
  go_upto_region 1 with fail
  generalize w.alloc (.cells C 23) = w1 at *
  go_upto_region 2 with (refine wpList_make_part rfl _ _ 31 rfl w1.heap.size 5 Tryd.underlying31 info_u8 .i64 .i64 0 64 0 64 rfl rfl rfl rfl (by decide) (by decide) (Nat.le_refl _) w1 (Below.refl _ _) (fun zs w2 hzl how hb2 => ?_))
  obtain rfl : zs = [] := List.eq_nil_of_length_eq_zero hzl.out
  have hz1 := HZ1.out
  have hn2 : w2.heap[w.heap.size]? = some (.cells C 23 (0, 0)) := (hb2.block _ (by omega)).trans HN1.out
  have HN2 := Lib.hid hn2
  have HOW := Lib.hid how
  have HB2 := Lib.hid hb2
  clear hn2 how hb2 hzl
  generalize (Value.slice (some ⟨w1.heap.size, 0, none⟩) 0 64) = v0 at *
  go_wp2_with (refine wpList_load_row rfl 23 (.tmp 1) rfl w.heap.size rfl 23 C (0, 0) _ HN2.out Tryd.underlying23 rfl HI32.out ?_)
  go_loopw [3, 5, 8] (fun v3 v5 v8 wr => ∃ k : Nat, v8 = .int .i64 k ∧ k ≤ 32 ∧ Own wr w1.heap.size 5 v3 (hexOf (D.take k)) ∧ Below w1.heap.size w1 wr) (fun _ _ v8 _ => 32 - (intOf v8).toNat)
  case atStart => exact ⟨0, rfl, Nat.zero_le _, HOW.out, HB2.out⟩
  case round =>
    obtain ⟨k, rfl, hk, how, hb⟩ := hrel
    rcases Nat.lt_or_ge k 32 with hlt | hge
    · have hlt' : (k : Int) < 32 := by omega
      have hlk : k < D.length := by rw [HD.out]; exact hlt
      have hx := HIX.out k hlt
      have hsn := hexOf_snoc D k hlk
      rw [show D.getD k 0 = D[k] by rw [List.getD_eq_getElem?_getD, List.getElem?_eq_getElem hlk]; rfl] at hx
      have hxl := D[k].toNat_lt
      have hll : (hexOf (D.take k)).length ≤ 64 := by rw [hexOf_len, List.length_take]; omega
      generalize D[k] = x at *
      have HSN := Lib.hid hsn
      generalize hexOf (D.take k) = xs at *
      have HX := Lib.hid hx
      have HOW3 := Lib.hid how
      have HB3 := Lib.hid hb
      obtain ⟨n, hn⟩ : ∃ n, x.toNat = n := ⟨_, rfl⟩
      rw [hn] at hxl
      have hhb : hexB x = [hexD (n / 16), hexD (n % 16)] := by unfold hexB; rw [hn]
      have HHB := Lib.hid hhb
      have hx2 := HX.out
      rw [hn] at hx2
      have HX2 := Lib.hid hx2
      have ha15 := and15 n hxl
      have hd1 : ∀ W, (Instr.index 9 (.string ⟨#[48, 49, 50, 51, 52, 53, 54, 55, 56, 57, 97, 98, 99, 100, 101, 102]⟩) (.int .u8 ((n : Int) / 16))).run Tryd.prog W = .ok (.int .u8 ((hexD (n / 16)).toNat : Int)) W := fun W => by
        rw [← run_digits (n / 16) (by omega) W]
        rfl
      have hd2 := run_digits (n % 16) (by omega)
      have HD1 := Lib.hid hd1
      have HD2 := Lib.hid hd2
      clear hsn hx how hb hn hhb hx2 hd1 hd2 HX hlk
      go_upto_region 5 with (refine wpList_index_of rfl 23 (.tmp 7) (.tmp 8) rfl (.int .u8 (n : Int)) HX2.out ?_)
      refine wp_region_held_drew (S := fun w' => True) (by kernel_rfl) trivial (fun hHeld => ?_)
      refine wpAnyH_take (i := 0) (oi := _) (v := ?_) rfl (by kernel_rfl) (by kernel_rfl) (by kernel_rfl) (fun _ _ _ h => h) (Or.inl ⟨by rfl, ?hy1⟩) (by assumption) ?_
      case hy1 =>
        intro w9 hSw
        try dsimp only at hSw
        try simp only [List.getElem_toArray, List.getElem_cons_zero, List.getElem_cons_succ]
        go_simp
        try with_reducible rfl
      try simp only [Act.put, List.setIfInBounds_toArray, List.set_cons_zero, List.set_cons_succ, List.getElem_toArray, List.getElem_cons_zero, List.getElem_cons_succ]
      refine wpAnyH_take (i := 1) (oi := _) (v := ?_) rfl (by kernel_rfl) (by kernel_rfl) (by kernel_rfl) (fun _ _ _ h => h) (Or.inl ⟨by rfl, ?hy2⟩) (by assumption) ?_
      case hy2 =>
        intro w9 hSw
        try dsimp only at hSw
        try simp only [List.getElem_toArray, List.getElem_cons_zero, List.getElem_cons_succ]
        go_simp
        try with_reducible rfl
      try simp only [Act.put, List.setIfInBounds_toArray, List.set_cons_zero, List.set_cons_succ, List.getElem_toArray, List.getElem_cons_zero, List.getElem_cons_succ]
      refine wpAnyH_take (i := 2) (oi := _) (v := ?_) rfl (by kernel_rfl) (by kernel_rfl) (by kernel_rfl) (fun _ _ _ h => h) (Or.inl ⟨by rfl, ?hy3⟩) (by assumption) ?_
      case hy3 =>
        intro w9 hSw
        try dsimp only at hSw
        try simp only [List.getElem_toArray, List.getElem_cons_zero, List.getElem_cons_succ]
        go_simp
        try with_reducible rfl
      try simp only [Act.put, List.setIfInBounds_toArray, List.set_cons_zero, List.set_cons_succ, List.getElem_toArray, List.getElem_cons_zero, List.getElem_cons_succ]
      refine wpAnyH_take (i := 3) (oi := _) (v := ?_) rfl (by kernel_rfl) (by kernel_rfl) (by kernel_rfl) (fun _ _ _ h => h) ?hl4 (by assumption) ?_
      case hl4 => refine yieldsIf_index_of ?_ 9 (.const (.string ⟨#[48, 49, 50, 51, 52, 53, 54, 55, 56, 57, 97, 98, 99, 100, 101, 102]⟩)) (.tmp 13) ?_ (.int .u8 ((hexD (n / 16)).toNat : Int)) ?_ <;> first | rfl | exact HD1.out
      try simp only [Act.put, List.setIfInBounds_toArray, List.set_cons_zero, List.set_cons_succ, List.getElem_toArray, List.getElem_cons_zero, List.getElem_cons_succ]
      refine wpAnyH_take (i := 4) (oi := _) (v := ?_) rfl (by kernel_rfl) (by kernel_rfl) (by kernel_rfl) (fun _ _ _ h => h) (Or.inl ⟨by rfl, ?hy5⟩) (by assumption) ?_
      case hy5 =>
        intro w9 hSw
        try dsimp only at hSw
        try simp only [List.getElem_toArray, List.getElem_cons_zero, List.getElem_cons_succ]
        go_simp
        try with_reducible rfl
      try simp only [Act.put, List.setIfInBounds_toArray, List.set_cons_zero, List.set_cons_succ, List.getElem_toArray, List.getElem_cons_zero, List.getElem_cons_succ]
      refine wpAnyH_take (i := 5) (oi := _) (v := ?_) rfl (by kernel_rfl) (by kernel_rfl) (by kernel_rfl) (fun _ _ _ h => h) (Or.inl ⟨by rfl, ?hy6⟩) (by assumption) ?_
      case hy6 =>
        intro w9 hSw
        try dsimp only at hSw
        try simp only [List.getElem_toArray, List.getElem_cons_zero, List.getElem_cons_succ]
        go_simp
        try with_reducible rfl
      try simp only [Act.put, List.setIfInBounds_toArray, List.set_cons_zero, List.set_cons_succ, List.getElem_toArray, List.getElem_cons_zero, List.getElem_cons_succ]
      refine wpAnyH_take (i := 6) (oi := _) (v := ?_) rfl (by kernel_rfl) (by kernel_rfl) (by kernel_rfl) (fun _ _ _ h => h) ?hl7 (by assumption) ?_
      case hl7 => refine yieldsIf_index_of ?_ 9 (.const (.string ⟨#[48, 49, 50, 51, 52, 53, 54, 55, 56, 57, 97, 98, 99, 100, 101, 102]⟩)) (.tmp 16) ?_ (.int .u8 ((hexD (n % 16)).toNat : Int)) ?_ <;> first | rfl | exact HD2.out
      try simp only [Act.put, List.setIfInBounds_toArray, List.set_cons_zero, List.set_cons_succ, List.getElem_toArray, List.getElem_cons_zero, List.getElem_cons_succ]
      refine wpAnyH_ready (rs := [7]) (by kernel_rfl) (by simp) (AllReadyH.cons (o := _) rfl (fun K hK => ?_) AllReadyH.nil)
      try simp only [List.getElem_toArray, List.getElem_cons_zero, List.getElem_cons_succ]
      go_simp
      refine hK.out _ _ (trivial) (fun hHeld => ?_)
      clear hK K
      try simp only [Act.put, List.setIfInBounds_toArray, List.set_cons_zero, List.set_cons_succ, List.getElem_toArray, List.getElem_cons_zero, List.getElem_cons_succ]
      have hown4 := (HOW3.out.alloc (.cells #[.int .u8 ((hexD (n / 16)).toNat : Int), .int .u8 ((hexD (n % 16)).toNat : Int)] 5)).drewN 1
      have hbel4 : Below w1.heap.size w1 (wr.alloc (.cells #[.int .u8 ((hexD (n / 16)).toNat : Int), .int .u8 ((hexD (n % 16)).toNat : Int)] 5)).drew := (HB3.out.alloc HB3.out.size _).drew
      have hcel4 := two_bytes wr 5 (hexD (n / 16)) (hexD (n % 16))
      have hsz4 : w1.heap.size ≤ (wr.alloc (.cells #[.int .u8 ((hexD (n / 16)).toNat : Int), .int .u8 ((hexD (n % 16)).toNat : Int)] 5)).drew.heap.size := hbel4.size
      refine wpAnyH_ready (rs := [8]) (by kernel_rfl) (by simp) (AllReadyH.cons (o := _) rfl (fun K hK => ?_) AllReadyH.nil)
      refine step_append_own rfl (.tmp 11) (.tmp 18) 31 rfl w1.heap.size 5 Tryd.underlying31 info_u8 _ xs rfl hown4 _ 0 2 2 [hexD (n / 16), hexD (n % 16)] rfl rfl hcel4 (by show xs.length + 2 ≤ _; omega) hsz4 w1 hbel4 (fun v4 w4 how4 hb4 => ?_)
      refine hK.out _ _ (trivial) (fun hHeld => ?_)
      clear hK K
      try simp only [Act.put, List.setIfInBounds_toArray, List.set_cons_zero, List.set_cons_succ, List.getElem_toArray, List.getElem_cons_zero, List.getElem_cons_succ]
      refine wpAnyH_take (i := 9) (oi := _) (v := ?_) rfl (by kernel_rfl) (by kernel_rfl) (by kernel_rfl) (fun _ _ _ h => h) (Or.inl ⟨by rfl, ?hy8⟩) (by assumption) ?_
      case hy8 =>
        intro w9 hSw
        try dsimp only at hSw
        try simp only [List.getElem_toArray, List.getElem_cons_zero, List.getElem_cons_succ]
        go_simp
        try with_reducible rfl
      try simp only [Act.put, List.setIfInBounds_toArray, List.set_cons_zero, List.set_cons_succ, List.getElem_toArray, List.getElem_cons_zero, List.getElem_cons_succ]
      refine wpAnyH_done (by kernel_rfl) ?_ _
      have HOW5 := Lib.hid how4
      have HB5 := Lib.hid hb4
      clear how4 hb4 hown4 hbel4 hcel4 hsz4
      go_wp2
      go_roundw
      case rel => exact ⟨k + 1, by go_num, hlt, by rw [HSN.out, HHB.out]; exact HOW5.out, HB5.out⟩
      case measure => simp [intOf]; omega
    · obtain rfl : k = 32 := by omega
      rw [List.take_of_length_le (Nat.le_of_eq HD.out)] at how
      have h8 : ¬ ((32 : Nat) : Int) < 32 := by decide
      have hcv := how.has.string (P := Tryd.prog) (src := 31) (dst := 9) (e := 5) Tryd.underlying31 Tryd.underlying5 Tryd.underlying9
      have HB := Lib.hid hb
      clear how hb
      go_wp2
      go_ret
      exact ⟨rfl, HB1.out.trans (HB.out.mono (by omega))⟩
end Go.Proofs.YtjopfhmloklhdaaDoor
