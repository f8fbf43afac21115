/-
  What the document tells of the sample: it holds.
-/
import Derived.Test.YtfdafoibclfpgaaMThinM
import Derived.Test.YtfdafoibclfpgaaMWalk1
namespace Go.Proofs.Ytfdafoibclfpgaa
open Go.ChangeShapes Go.WideShapes Go.ChangeAt Go.RowKit Go.Deep Go.Shelf
set_option linter.unusedVariables false
set_option linter.unusedSimpArgs false
attribute [local go_sem] Oper.semAt_some
/-- An item in a block of its own. -/
def XBox (W : World) (B : Nat) (x : Itm) : Prop := W.heap[B]? = some (.cells #[.string x.key, .int .u64 (x.seq : Int), .bool x.gone, .string x.val] 29 (0, 0))
theorem XBox.cells {W : World} {B : Nat} {x : Itm} (h : XBox W B x) : ItC W B 0 x := by
  unfold XBox at h
  exact ⟨by simp [World.cell?, h], by simp [World.cell?, h], by simp [World.cell?, h], by simp [World.cell?, h]⟩
theorem XBox.own {W W' : World} {B : Nat} {x : Itm} {row : Option Nat} (h : XBox W B x) (hg : W.grownBy W' row) (hr : ∀ r, row = some r → ∃ o : Obj, W.heap[r]? = some o ∧ o.isCells = false) : XBox W' B x :=
  (hg.block B (lt_of_block h) (fun e => by
    obtain ⟨o, h1, h2⟩ := hr B e.symm
    unfold XBox at h
    rw [h] at h1
    cases h1
    cases h2)).trans h
theorem one_list {w : World} {g : Nat} {T : TypeId} {v : Value} {l : List Itm} (h : w.heap[g]? = some (.cells #[v] T (0, 0))) (hk : HasK w encI v l) : HasI w (.slice (some ⟨g, 0, none⟩) 1 1) [l] := by
  refine ⟨_, 1, g, 0, rfl, Nat.le_refl _, by unfold maxLen; omega, fun _ => ⟨rfl, lt_of_block h⟩, fun j hj => ?_⟩
  obtain rfl : j = 0 := by simp at hj; omega
  exact ⟨v, by simp [World.cell?, h], hk⟩
theorem two_lists {w : World} {g : Nat} {T : TypeId} {v u : Value} {l k : List Itm} (h : w.heap[g]? = some (.cells #[v, u] T (0, 0))) (hk : HasK w encI v l) (hk2 : HasK w encI u k) : HasI w (.slice (some ⟨g, 0, none⟩) 2 2) [l, k] := by
  refine ⟨_, 2, g, 0, rfl, Nat.le_refl _, by unfold maxLen; omega, fun _ => ⟨rfl, lt_of_block h⟩, fun j hj => ?_⟩
  rcases (by simp at hj; omega : j = 0 ∨ j = 1) with rfl | rfl
  · exact ⟨v, by simp [World.cell?, h], hk⟩
  · exact ⟨u, by simp [World.cell?, h], hk2⟩
section
variable {F : Fence} {nF : Nat} {P : Program} {ops : Array Oper} {rest : List Oper} {o : Oper} {a : Act} {w : World} {Q : Exit → Act → World → Prop}
/-- Two texts held against one another, within a round. -/
theorem wpListIn_eqS (hg : o.guard = none) (x y : Operand) (t t' : TypeId) (ho : o.op = .binOp .eql t x y t') (l m : ByteArray) (hx : a.eval x = .string l) (hy : a.eval y = .string m) (b : Bool) (hb : kEq l m = b)
    (h : wpListIn F nF P ops Q rest (a.put o.dst (.bool b)) w) : wpListIn F nF P ops Q (o :: rest) a w := by
  refine wpListIn_plain hg fun K' hK' => ?_
  unfold Oper.wpIn
  refine ⟨by simp [Oper.about, ho], ?_⟩
  rw [Oper.semAt_plain F _ _ (by rw [ho]; intro c hc'; cases hc')]
  have hq : (binOp .eql t (.string l) (.string m)).run P w = .ok (.bool b) w := by
    have e : binOp .eql t (.string l) (.string m) = pure (.bool (kEq l m)) := by rw [binOp_string_eql]; rfl
    rw [e, hb]
    rfl
  have hgd : (eqGuard .eql t x y (.string l) (.string m)).run P w = .ok () w := by
    simp [eqGuard]
  have hr : (execOp a.eval o).run P w = .ok (.value (.bool b)) w := by
    unfold execOp
    simp only [ho, hx, hy, Sem.run_bind, hgd, hq, Result.andThen_ok, Sem.run_pure]
  rw [hr]
  exact hK' _ _ h
end
def BadKey (c : Code) (pre : List Itm) : Prop := c = .ret ∧ ∃ x ∈ pre, x.key = ⟨#[]⟩
theorem sample_keys : keysOk sampleL := fun x hx => by
  simp only [sampleL, List.mem_cons, List.not_mem_nil, or_false] at hx
  rcases hx with rfl | rfl | rfl | rfl <;> decide
/-- No panic leaves the body. -/
def NoP (Q : Exit → Act → World → Prop) : Exit → Act → World → Prop
  | .panic _, _, _ => False
  | e, a, w => Q e a w
theorem NoP.to {Q : Exit → Act → World → Prop} {e : Exit} {a : Act} {w : World} (h : NoP Q e a w) : Q e a w := by
  cases e <;> first | exact h | exact h.elim
theorem func_nil (g : Nat) (W : World) : (binOp .eql 36 (.func (.func 25) #[] #[.pointer (some ⟨g, 0, none⟩)]) .nilFunc).run Try.prog W = .ok (.bool false) W := by kernel_rfl
set_option maxRecDepth 100000 in
set_option maxHeartbeats 32000000 in
theorem Awake_any (w : World) : Calls Try.prog 9 #[] w fun e w' => e = .returned (.bool true) ∧ Below w.heap.size w w' := by
  refine (callsIn_wide (n := 9)).1 ?_
  refine callsIn_of_wp_marks Try.func9 rfl trivial ?_ rfl
  refine wpIn_wide.2 ?_
  refine wp_mono (Q := NoP (bodyPostM Fence.wide 9 Try.prog Try.f9 (fun e w' => e = .returned (.bool true) ∧ Below w.heap.size w w'))) ?_ (fun e a w h => h.to)
  simp only [Try.ntmps9, List.size_toArray, List.length_cons, List.length_nil, Nat.reduceAdd, Nat.reduceSub, Array.replicate_succ, Array.replicate_zero, List.push_toArray, List.append_toArray, List.nil_append, List.cons_append]
  have bB := Boxed.new w 4 (.bool false)
  have hB0 := (Below.refl w.heap.size w).alloc (Nat.le_refl _) (.cells #[.bool false] 4)
  go_wp2_with fail
  obtain ⟨wA, hwA⟩ : ∃ W, w.alloc (.cells #[.bool false] 4) = W := ⟨_, rfl⟩
  obtain ⟨B, hB⟩ : ∃ B, w.heap.size = B := ⟨_, rfl⟩
  rw [hwA] at bB hB0 ⊢
  rw [hB] at bB hB0 ⊢
  have HBB := Lib.hid hB
  have HAB := Lib.hid hB0
  clear hwA hB0 hB
  refine (Sample_any wA).mono ?_
  rintro e w1 ⟨p1, c1, rfl, hk1, hb1⟩
  have hba := (Below.refl w1.heap.size w1).alloc (Nat.le_refl _) (.cells #[.slice p1 4 c1] 23)
  have HL1 := Lib.hid (one_list (heap_alloc_new w1 (.cells #[.slice p1 4 c1] 23)) (hk1.below hba))
  have hsA : B ≤ wA.heap.size := by have := bB.lt; omega
  have hs1 : B ≤ w1.heap.size := Nat.le_trans hsA hb1.size
  have HB1 := Lib.hid ((HAB.out.trans (hb1.mono hsA)).trans (hba.mono hs1))
  have bB1 := (bB.kept (row := none) ⟨hb1.os, hb1.tape, hb1.output, hb1.size, fun k hk _ => hb1.block k hk⟩ (by simp)).alloc (.cells #[.slice p1 4 c1] 23)
  clear hk1 hb1 hba hsA hs1 bB
  go_wp2_with fail
  refine (Walk_any _ [sampleL] _ HL1.out (by simp [sampleL]) (by simp)).mono ?_
  rintro e w2 ⟨g, v2, m2, rfl, hg2, hgs2, ho2, hm2, hb2⟩
  obtain rfl := merged_one hm2
  have hs1 : B ≤ (w1.alloc (.cells #[.slice p1 4 c1] 23)).heap.size := by have := HB1.out.size; rw [HBB.out] at this; exact this
  have HB2 := Lib.hid (HB1.out.trans (hb2.mono hs1))
  have bB2 := bB1.kept (row := none) ⟨hb2.os, hb2.tape, hb2.output, hb2.size, fun k hk _ => hb2.block k hk⟩ (by simp)
  have hrow := RowB.of ho2.has
  have hgc : w2.cell? ⟨g, 0, none⟩ = some v2 := by simp [World.cell?, hg2]
  have hgl := lt_of_block hg2
  have hBlt := bB2.lt
  have hs2 : B ≤ w2.heap.size := Nat.le_trans hs1 hb2.size
  clear hb2 hs1 hm2 hg2 hgs2 ho2 bB1
  have hfn := func_nil g
  go_wp2_with fail
  have bC := Boxed.new w2 3 (.int .i64 0)
  have bBC := bB2.alloc (.cells #[.int .i64 0] 3)
  have hBC := HB2.out.alloc hs2 (.cells #[.int .i64 0] 3)
  have hb2a := (Below.refl w2.heap.size w2).alloc (Nat.le_refl _) (.cells #[.int .i64 0] 3)
  have hrowC := hrow.below hb2a
  have hgcC := (hb2a.cell (p := ⟨g, 0, none⟩) hgl).trans hgc
  have hszC : (w2.alloc (.cells #[.int .i64 0] 3)).heap.size = w2.heap.size + 1 := World.size_alloc _ _
  obtain ⟨W0, hW0⟩ : ∃ W0, w2.alloc (.cells #[.int .i64 0] 3) = W0 := ⟨_, rfl⟩
  obtain ⟨C, hC⟩ : ∃ C, w2.heap.size = C := ⟨_, rfl⟩
  rw [hW0] at bC bBC hBC hrowC hgcC hszC ⊢
  rw [hC] at bC hrowC hszC hs2 hgl hBlt ⊢
  clear hW0 hC hb2a hrow hgc bB2 HL1 HB1
  refine (wpIn_wide (n := 9)).1 ?_
  refine wpIn_rangeFunc_ownH rfl (by decide : 1 ≤ 9) (gf := 25) (lb := #[.pointer (some ⟨g, 0, none⟩)]) rfl trivial (enters_of Try.func25 (by kernel_rfl) rfl)
    (walk_stops Fence.wide 8 trivial rfl (by decide) g C v2 sampleL W0 (by omega) (by omega) hgcC hrowC) belowK_t (belowK_b (by omega)) (Below.refl _ _) (fun _ => rfl)
    (fun pre W => (Boxed W C 3 (.int .i64 (pre.length : Int)) ∧ Boxed W B 4 (.bool false)) ∧ Below B w W)
    (fun c pre _ => BadKey c pre)
    (OwnFrom.and (OwnFrom.and (Own.from (boxed_own C 3 (fun pre : List Itm => .int .i64 (pre.length : Int))) _) (Own.from (boxed_own B 4 (fun _ : List Itm => .bool false)) _)) (ownFrom_below (by rw [HBB.out]; exact Nat.le_refl _) (by omega)))
    (fun _ _ _ _ _ hs _ _ => hs)
    ⟨⟨bC, bBC⟩, hBC⟩
    (fun x a' W => ∃ Bx, W0.heap.size ≤ Bx ∧ XBox W Bx x ∧ a' = { tmps := List.toArray ((.pointer (some ⟨B, 0, none⟩) : Value) :: .func (.func 25) #[] #[.pointer (some ⟨g, 0, none⟩)] :: .pointer (some ⟨C, 0, none⟩) :: .pointer (some ⟨Bx, 0, none⟩) :: undef :: undef :: .slice p1 4 c1 :: .slice (some ⟨w1.heap.size, 0, none⟩) 1 1 :: .func (.func 25) #[] #[.pointer (some ⟨g, 0, none⟩)] :: .func (.func 25) #[] #[.pointer (some ⟨g, 0, none⟩)] :: .bool false :: .func (.func 25) #[] #[.pointer (some ⟨g, 0, none⟩)] :: .agg #[.string x.key, .int .u64 (x.seq : Int), .bool x.gone, .string x.val] :: undef :: undef :: undef :: undef :: undef :: undef :: undef :: undef :: undef :: undef :: undef :: undef :: undef :: undef :: undef :: undef :: undef :: undef :: undef :: undef :: undef :: undef :: undef :: undef :: undef :: undef :: undef :: undef :: undef :: undef :: undef :: undef :: undef :: undef :: undef :: undef :: undef :: undef :: undef :: undef :: undef :: undef :: undef :: undef :: undef :: undef :: undef :: undef :: undef :: undef :: undef :: undef :: undef :: undef :: undef :: undef :: []), defers := [] })
    (fun x a' _ X Y row hs hg hr => by obtain ⟨Bx, h1, h2, h3⟩ := hs; exact ⟨Bx, h1, h2.own hg (fun r e => (hr r e).2), h3⟩)
    ?assign ?body ?done ?stop
  case assign =>
    rintro l pre x W K ⟨⟨bS1, bB1⟩, hB1⟩ hK
    unfold Itm.v
    have hCW := bS1.lt
    have hBW : B ≤ W.heap.size := by have := bB1.lt; omega
    gi_wp2
    exact hK _ _ ((KeepsOthers.alloc _ _).from _) ((Below.refl _ W).alloc (by omega) _) ⟨⟨bS1.alloc _, bB1.alloc _⟩, hB1.alloc hBW _⟩ ⟨W.heap.size, by omega, heap_alloc_new W _, rfl⟩
  case body =>
    rintro l pre x a' W hl ⟨r, hr⟩ ⟨⟨bS1, bB1⟩, hB1⟩ ⟨Bx, hBx, bX, rfl⟩ hlt
    obtain ⟨k0, -, -, -⟩ := bX.cells
    have cS := bS1.cell
    have fS := bS1.frozen
    have fB := bB1.frozen
    have cB := bB1.cell
    have hl4 : pre.length < 4 := hlt
    have hI : (pre.length : Int) + 1 ≤ 9223372036854775807 := by omega
    have hI0 : (0 : Int) ≤ (pre.length : Int) := by omega
    obtain ⟨n, hn⟩ : ∃ n, pre.length = n := ⟨_, rfl⟩
    rw [hn] at cS hI hI0
    rcases hq : kEq x.key ⟨#[]⟩ with _ | _
    · iterate 11 (first | gi_guarded | gi_step | gi_upon)
      refine wpListIn_eqS rfl (.tmp 14) (.const (.string ⟨#[]⟩)) 9 9 rfl x.key ⟨#[]⟩ rfl rfl false hq ?_
      simp only [Act.put, List.setIfInBounds_toArray, List.set_cons_zero, List.set_cons_succ]
      gi_wp2
      refine ⟨(KeepsOthers.setCell _ _ _).from _, (Below.refl C W).setCell (p := ⟨C, 0, none⟩) (Nat.le_refl _) _, ⟨?_, bB1.other (by omega) _⟩, hB1.setCell (p := ⟨C, 0, none⟩) hs2 _⟩
      have e : ((pre ++ [x]).length : Int) = (n : Int) + 1 := by rw [List.length_append, hn]; rfl
      rw [e]
      exact bS1.set _
    · iterate 11 (first | gi_guarded | gi_step | gi_upon)
      refine wpListIn_eqS rfl (.tmp 14) (.const (.string ⟨#[]⟩)) 9 9 rfl x.key ⟨#[]⟩ rfl rfl true hq ?_
      simp only [Act.put, List.setIfInBounds_toArray, List.set_cons_zero, List.set_cons_succ]
      gi_wp2
      exact ⟨(KeepsOthers.setCell _ _ _).from _, rfl, x, List.mem_append_right _ (List.mem_singleton.2 rfl), (kEq_iff _ _).1 hq⟩
  case done =>
    rintro D xs W hD rfl ⟨⟨bS1, bB1⟩, hB1⟩ hK
    have cS := bS1.cell
    have hl4 : (sampleL.length : Int) = 4 := rfl
    rw [hl4] at cS
    clear hfn hrowC hgcC HB2 HAB bC bBC hBC hl4 hgl
    go_upto_region 10 with fail
    obtain ⟨S, hS⟩ : ∃ S, W.heap.size = S := ⟨_, rfl⟩
    have HSS := Lib.hid hS
    refine AnyL.begin (S := fun W' => Below W.heap.size W W') 10 (by kernel_rfl) (Below.refl _ _).drew (fun hHeld => ?_)
    refine AnyL.one (i := 0) (o := _) (by kernel_rfl) rfl (fun K hK => ?_)
    try simp only [List.getElem_toArray, List.getElem_cons_zero, List.getElem_cons_succ]
    go_simp
    refine (Sample_any _).mono ?_
    rintro e u3 ⟨p3, c3, rfl, hk3, hb3⟩
    obtain ⟨ph, ch, sh, hh⟩ := item_head hk3 2 (by decide)
    have hh3 := hh _ hk3
    have sh2 : ∀ W, (Instr.slice 23 (.slice p3 4 c3) none (some (.int .i64 2)) none).run Try.prog W = .ok (.slice ph 2 ch) W := fun W => by simpa using sh W
    clear sh hh
    refine hK.out _ _ (fun _ => (hHeld.trans (hb3.mono hHeld.size))) (fun hHeld => ?_)
    replace hHeld := hHeld (by decide)
    clear hK K
    try simp only [Act.put, List.setIfInBounds_toArray, List.set_cons_zero, List.set_cons_succ, List.getElem_toArray, List.getElem_cons_zero, List.getElem_cons_succ]
    refine AnyL.take (i := 1) (oi := _) (v := ?_) 30 rfl (by kernel_rfl) (by kernel_rfl) (by kernel_rfl) (by kernel_rfl) (by kernel_rfl) (fun _ _ _ h => h) (Or.inl ⟨by kernel_rfl, ?hy1⟩) (by assumption) ?_
    case hy1 =>
      intro w9 hSw
      try dsimp only at hSw
      try simp only [List.getElem_toArray, List.getElem_cons_zero, List.getElem_cons_succ]
      go_simp
      try with_reducible rfl
    try simp only [Act.put, List.setIfInBounds_toArray, List.set_cons_zero, List.set_cons_succ, List.getElem_toArray, List.getElem_cons_zero, List.getElem_cons_succ]
    refine AnyL.one (i := 2) (o := _) (by kernel_rfl) rfl (fun K hK => ?_)
    try simp only [List.getElem_toArray, List.getElem_cons_zero, List.getElem_cons_succ]
    go_simp
    refine (Sample_any _).mono ?_
    rintro e u4 ⟨p4, c4, rfl, hk4, hb4⟩
    obtain ⟨pt, ct, st, ht⟩ := item_tail hk4 1 (by decide)
    have ht4 := ht _ hk4
    have st2 : ∀ W, (Instr.slice 23 (.slice p4 4 c4) (some (.int .i64 1)) none none).run Try.prog W = .ok (.slice pt 3 ct) W := fun W => by have z := st W; rw [show sampleL.length - 1 = 3 from rfl] at z; simpa using z
    have hh4 := hh3.below hb4
    clear st ht hh3
    refine hK.out _ _ (fun _ => (hHeld.trans (hb4.mono hHeld.size))) (fun hHeld => ?_)
    replace hHeld := hHeld (by decide)
    clear hK K
    try simp only [Act.put, List.setIfInBounds_toArray, List.set_cons_zero, List.set_cons_succ, List.getElem_toArray, List.getElem_cons_zero, List.getElem_cons_succ]
    refine AnyL.take (i := 3) (oi := _) (v := ?_) 30 rfl (by kernel_rfl) (by kernel_rfl) (by kernel_rfl) (by kernel_rfl) (by kernel_rfl) (fun _ _ _ h => h) (Or.inl ⟨by kernel_rfl, ?hy2⟩) (by assumption) ?_
    case hy2 =>
      intro w9 hSw
      try dsimp only at hSw
      try simp only [List.getElem_toArray, List.getElem_cons_zero, List.getElem_cons_succ]
      go_simp
      try with_reducible rfl
    try simp only [Act.put, List.setIfInBounds_toArray, List.set_cons_zero, List.set_cons_succ, List.getElem_toArray, List.getElem_cons_zero, List.getElem_cons_succ]
    refine AnyL.one (i := 4) (o := _) (by kernel_rfl) rfl (fun K hK => ?_)
    try simp only [List.getElem_toArray, List.getElem_cons_zero, List.getElem_cons_succ]
    go_simp
    have hba5 := (Below.refl _ _).alloc (Nat.le_refl _) (.cells #[.slice ph 2 ch, .slice pt 3 ct] 23) (w := u4)
    have HL5 := Lib.hid (two_lists (heap_alloc_new u4 (.cells #[.slice ph 2 ch, .slice pt 3 ct] 23)) (hh4.below hba5) (ht4.below hba5))
    clear hba5
    refine hK.out _ _ (fun _ => (hHeld.alloc hHeld.size _)) (fun hHeld => ?_)
    replace hHeld := hHeld (by decide)
    clear hK K
    try simp only [Act.put, List.setIfInBounds_toArray, List.set_cons_zero, List.set_cons_succ, List.getElem_toArray, List.getElem_cons_zero, List.getElem_cons_succ]
    refine AnyL.one (i := 5) (o := _) (by kernel_rfl) rfl (fun K hK => ?_)
    try simp only [List.getElem_toArray, List.getElem_cons_zero, List.getElem_cons_succ]
    go_simp
    refine (Merge_any _ [sampleL.take 2, sampleL.drop 1] _ HL5.out (by simp [sampleL]) (by simp)).mono ?_
    rw [show mergeCode [sampleL.take 2, sampleL.drop 1] = 0 by unfold mergeCode; rw [sample_two]; rfl]
    rintro e u5 ⟨v5, m5, rfl, ho5, hm5, hb5⟩
    obtain rfl := merged_two hm5
    have HK5 := Lib.hid ho5.has
    clear ho5 hm5
    refine hK.out _ _ (fun _ => (hHeld.trans (hb5.mono hHeld.size))) (fun hHeld => ?_)
    replace hHeld := hHeld (by decide)
    clear hK K
    try simp only [Act.put, List.setIfInBounds_toArray, List.set_cons_zero, List.set_cons_succ, List.getElem_toArray, List.getElem_cons_zero, List.getElem_cons_succ]
    clear sh2 st2 hh4 ht4
    refine AnyL.take (i := 6) (oi := _) (v := ?_) 30 rfl (by kernel_rfl) (by kernel_rfl) (by kernel_rfl) (by kernel_rfl) (by kernel_rfl) (fun _ _ _ h => h) (Or.inl ⟨by kernel_rfl, ?hy3⟩) (by assumption) ?_
    case hy3 =>
      intro w9 hSw
      try dsimp only at hSw
      try simp only [List.getElem_toArray, List.getElem_cons_zero, List.getElem_cons_succ]
      go_simp
      try with_reducible rfl
    try simp only [Act.put, List.setIfInBounds_toArray, List.set_cons_zero, List.set_cons_succ, List.getElem_toArray, List.getElem_cons_zero, List.getElem_cons_succ]
    refine AnyL.take (i := 7) (oi := _) (v := ?_) 30 rfl (by kernel_rfl) (by kernel_rfl) (by kernel_rfl) (by kernel_rfl) (by kernel_rfl) (fun _ _ _ h => h) (Or.inl ⟨by kernel_rfl, ?hy4⟩) (by assumption) ?_
    case hy4 =>
      intro w9 hSw
      try dsimp only at hSw
      try simp only [List.getElem_toArray, List.getElem_cons_zero, List.getElem_cons_succ]
      go_simp
      try with_reducible rfl
    try simp only [Act.put, List.setIfInBounds_toArray, List.set_cons_zero, List.set_cons_succ, List.getElem_toArray, List.getElem_cons_zero, List.getElem_cons_succ]
    refine AnyL.take (i := 8) (oi := _) (v := ?_) 30 rfl (by kernel_rfl) (by kernel_rfl) (by kernel_rfl) (by kernel_rfl) (by kernel_rfl) (fun _ _ _ h => h) (Or.inl ⟨by kernel_rfl, ?hy5⟩) (by assumption) ?_
    case hy5 =>
      intro w9 hSw
      try dsimp only at hSw
      try simp only [List.getElem_toArray, List.getElem_cons_zero, List.getElem_cons_succ]
      go_simp
      try with_reducible rfl
    try simp only [Act.put, List.setIfInBounds_toArray, List.set_cons_zero, List.set_cons_succ, List.getElem_toArray, List.getElem_cons_zero, List.getElem_cons_succ]
    refine AnyL.take (i := 9) (oi := _) (v := ?_) 30 rfl (by kernel_rfl) (by kernel_rfl) (by kernel_rfl) (by kernel_rfl) (by kernel_rfl) (fun _ _ _ h => h) (Or.inl ⟨by kernel_rfl, ?hy6⟩) (by assumption) ?_
    case hy6 =>
      intro w9 hSw
      try dsimp only at hSw
      try simp only [List.getElem_toArray, List.getElem_cons_zero, List.getElem_cons_succ]
      go_simp
      try with_reducible rfl
    try simp only [Act.put, List.setIfInBounds_toArray, List.set_cons_zero, List.set_cons_succ, List.getElem_toArray, List.getElem_cons_zero, List.getElem_cons_succ]
    refine AnyL.one (i := 10) (o := _) (by kernel_rfl) rfl (fun K hK => ?_)
    try simp only [List.getElem_toArray, List.getElem_cons_zero, List.getElem_cons_succ]
    go_simp
    refine hK.out _ _ (fun h => absurd rfl h) (fun _ => ?_)
    clear hK K
    try simp only [Act.put, List.setIfInBounds_toArray, List.set_cons_zero, List.set_cons_succ, List.getElem_toArray, List.getElem_cons_zero, List.getElem_cons_succ]
    refine AnyL.done (by kernel_rfl) ?_ _
    have HB5 := Lib.hid hHeld
    have cS5 := (hHeld.cell (p := ⟨C, 0, none⟩) bS1.lt).trans cS
    clear cS
    go_wp2_with fail
    refine (Sample_any _).mono ?_
    rintro e u6 ⟨p6, c6, rfl, hk6, hb6⟩
    have HK6 := Lib.hid hk6
    have HB6 := Lib.hid (HB5.out.trans (hb6.mono HB5.out.size))
    have HK5 := Lib.hid (HK5.out.below hb6)
    clear hk6 hb6
    clear cS5
    go_wp2_with fail
    refine (Same_any _ _ _ _ _ HK5.out HK6.out (by decide)).mono ?_
    rw [sameB_refl]
    rintro e u7 ⟨rfl, hb7⟩
    have HB7 := Lib.hid (HB6.out.trans (hb7.mono HB6.out.size))
    clear hb7
    go_wp2_with fail
    refine (Sample_any _).mono ?_
    rintro e u8 ⟨p8, c8, rfl, hk8, hb8⟩
    have HK8 := Lib.hid hk8
    have HB8 := Lib.hid (HB7.out.trans (hb8.mono HB7.out.size))
    clear hk8 hb8
    go_wp2_with fail
    refine (Seen_any _ _ 4 _ HK8.out (by decide) sample_keys).mono ?_
    rintro e u9 ⟨v9, rfl, ho9, hb9⟩
    have HB9 := Lib.hid (HB8.out.trans (hb9.mono HB8.out.size))
    obtain ⟨p9, c9, rfl, -, -⟩ := ho9.sl
    rw [show (seenL 4 sampleL).length = 2 by rw [sample_seen4]; rfl]
    clear ho9 hb9
    go_wp2_with fail
    refine (Sample_any _).mono ?_
    rintro e u10 ⟨p10, c10, rfl, hk10, hb10⟩
    have HK10 := Lib.hid hk10
    have HB10 := Lib.hid (HB9.out.trans (hb10.mono HB9.out.size))
    clear hk10 hb10
    go_wp2_with fail
    refine (Seen_any _ _ 9 _ HK10.out (by decide) sample_keys).mono ?_
    rintro e u11 ⟨v11, rfl, ho11, hb11⟩
    have HB11 := Lib.hid (HB10.out.trans (hb11.mono HB10.out.size))
    obtain ⟨p11, c11, rfl, -, -⟩ := ho11.sl
    rw [sample_seen9]
    clear ho11 hb11
    go_wp2_with fail
    refine (Sample_any _).mono ?_
    rintro e u12 ⟨p12, c12, rfl, hk12, hb12⟩
    have HK12 := Lib.hid hk12
    have HB12 := Lib.hid (HB11.out.trans (hb12.mono HB11.out.size))
    clear hk12 hb12
    go_wp2_with fail
    refine (Thin_any _ _ _ [] false _ HK12.out (HasK.nil _ _) (by decide) (by decide)).mono ?_
    rintro e u13 ⟨v13, rfl, ho13, hb13⟩
    have HB13 := Lib.hid (HB12.out.trans (hb13.mono HB12.out.size))
    obtain ⟨p13, c13, rfl, -, -⟩ := ho13.sl
    rw [sample_thin1]
    clear ho13 hb13
    go_wp2_with fail
    refine (Sample_any _).mono ?_
    rintro e u14 ⟨p14, c14, rfl, hk14, hb14⟩
    have HK14 := Lib.hid hk14
    have HB14 := Lib.hid (HB13.out.trans (hb14.mono HB13.out.size))
    clear hk14 hb14
    go_wp2_with fail
    refine (Thin_any _ _ _ [] true _ HK14.out (HasK.nil _ _) (by decide) (by decide)).mono ?_
    rintro e u15 ⟨v15, rfl, ho15, hb15⟩
    have HB15 := Lib.hid (HB14.out.trans (hb15.mono HB14.out.size))
    obtain ⟨p15, c15, rfl, -, -⟩ := ho15.sl
    rw [sample_thin2]
    clear ho15 hb15
    go_wp2_with fail
    refine (Sample_any _).mono ?_
    rintro e u16 ⟨p16, c16, rfl, hk16, hb16⟩
    have HK16 := Lib.hid hk16
    have HB16 := Lib.hid (HB15.out.trans (hb16.mono HB15.out.size))
    clear hk16 hb16
    have hba := (Below.refl u16.heap.size u16).alloc (Nat.le_refl _) (.cells #[.int .u64 3] 27)
    have HKA := Lib.hid (HK16.out.below hba)
    have HNA := Lib.hid (own_num (w := u16) 0 3 (Nat.zero_le _)).has
    have HBA := Lib.hid (HB16.out.trans (hba.mono HB16.out.size))
    clear hba
    go_wp2_with fail
    refine (Thin_any _ _ _ [3] true _ HKA.out HNA.out (by decide) (by decide)).mono ?_
    rintro e u17 ⟨v17, rfl, ho17, hb17⟩
    have hb := HBA.out.trans (hb17.mono HBA.out.size)
    obtain ⟨p17, c17, rfl, -, -⟩ := ho17.sl
    rw [sample_thin3]
    have bB := bB1.kept (row := none) ⟨hb.os, hb.tape, hb.output, hb.size, fun k hk _ => hb.block k hk⟩ (by simp)
    have cB := bB.cell
    have fB := bB.frozen
    have hK17 := (hb.block D (lt_of_block hK)).trans hK
    have hBw := hB1.trans (hb.mono (by have := bB1.lt; omega))
    clear ho17 hb17
    go_wp2_with fail
    have hKs := (KeepsOthers.setCell u17 ⟨B, 0, none⟩ (.bool true)).same D _ hK17 rfl
    refine ⟨by simp, .inl ⟨_, _, rfl, run_takeDeferred hKs, ?_⟩⟩
    have hc5 := cell_kept (World.cell?_setCell_same' u17 ⟨B, 0, none⟩ (.bool true) (by rw [cB]; rfl)) (grownBy_putObj' _ D (.deferred none)) (fun r e => by cases e; exact ⟨_, hKs, rfl⟩)
    have hBs := hBw.setCell (p := ⟨B, 0, none⟩) (Nat.le_refl _) (.bool true)
    refine ⟨.bool true, ?_, rfl, ?_⟩
    · simp [results, Try.f9, go_sem, hc5]
    · rw [HBB.out]
      exact hBs.trans (belowK_b (w := W0) (n₀ := B) (by omega) _ D _ _ hD hKs rfl rfl)
  case stop =>
    rintro D c pre W hD hpre ⟨rfl, x, hx, hke⟩ hK
    have := hpre.subset hx
    simp [sampleL] at this
    rcases this with rfl | rfl | rfl | rfl <;> exact absurd hke (by decide)
end Go.Proofs.Ytfdafoibclfpgaa
