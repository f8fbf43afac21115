/-
  Two literals of bytes in one region that draws its order: whichever comes first, both are there behind them. No function of the project is named here.
-/
import Derived.Test.YtjopfhmloklhdaaDoorHasA
import Derived.Deep.RegionHeld
import Derived.Lib.SlBytesConst
namespace Go.Proofs.YtjopfhmloklhdaaDoor
open Go.ChangeShapes Go.WideShapes Go.ChangeAt Go.RowKit Go.Deep
set_option linter.unusedVariables false
set_option linter.unusedSimpArgs false

section
variable {P : Program} {ops : Array Oper} {Q : Exit → Act → World → Prop} {md : Region.Mode} {S : World → Prop}
/-- o's guard is not yielded by slot d. -/
def guardFree (ops : Array Oper) (o : Oper) (d : Nat) : Bool := match o.guard with
  | none => true
  | some (j, _) => match (ops[j]?).bind (·.dst) with
    | none => true
    | some d' => d' != d
theorem wanted_put {o : Oper} {a : Act} {d : Nat} {v : Value} (h : Region.wanted o (yielded ops a.tmps) = true) (hf : guardFree ops o d = true) : Region.wanted o (yielded ops (a.put (some d) v).tmps) = true := by
  unfold Region.wanted at *
  unfold guardFree at hf
  cases hg : o.guard with
  | none => rfl
  | some p =>
    obtain ⟨j, b⟩ := p
    rw [hg] at h hf
    simp only at h hf ⊢
    rw [beq_iff_eq] at h ⊢
    rw [← h]
    unfold yielded
    cases hd : (ops[j]?).bind (·.dst) with
    | none => rfl
    | some d' =>
      rw [hd] at hf
      simp only [bne_iff_ne, ne_eq] at hf
      simp only [Option.bind_some, Act.put]
      rw [Array.getElem?_setIfInBounds_ne (Ne.symm hf)]
theorem wpOp_value {i : Nat} {o : Oper} {K : Act → World → Prop} {a : Act} {W W' : World} {d : Nat} {v : Value} (ho : ops[i]? = some o) (hw : Region.wanted o (yielded ops a.tmps) = true) (hd : o.dst = some d)
    (hr : (execOp a.eval o).run P W = .ok (.value v) W') (hK : K (a.put (some d) v) W') : wpOp P ops Q i K a W := by
  unfold wpOp
  rw [ho]
  show if Region.wanted o (yielded ops a.tmps) = true then _ else _
  rw [if_pos hw]
  left
  unfold Oper.wp
  rw [hr, Oper.upon_value, hd]
  exact hK
theorem put_comm (a : Act) (d d' : Nat) (v v' : Value) (h : d ≠ d') : (a.put (some d) v).put (some d') v' = (a.put (some d') v').put (some d) v := by
  unfold Act.put
  simp only
  rw [Array.setIfInBounds_comm _ _ h]
theorem put_eval_same {a : Act} {d : Nat} {v : Value} (h : d < a.tmps.size) : (a.put (some d) v).eval (.tmp d) = v := by
  unfold Act.put Act.eval
  simp [h]
theorem put_eval_ne {a : Act} {d d' : Nat} {v : Value} (h : d ≠ d') : (a.put (some d) v).eval (.tmp d') = a.eval (.tmp d') := by
  unfold Act.put Act.eval
  simp only [Array.getD_eq_getD_getElem?]
  rw [Array.getElem?_setIfInBounds_ne h]
theorem put_size (a : Act) (d : Nat) (v : Value) : (a.put (some d) v).tmps.size = a.tmps.size := by simp [Act.put]
/-- A literal's row. -/
def LitRow (B : Nat) (W : World) (g : Nat) (C : Array Value) (e : TypeId) : Prop := B ≤ g ∧ ∃ fr, W.heap[g]? = some (.cells C e fr)
theorem LitRow.new {B : Nat} {W : World} {C : Array Value} {e : TypeId} (h : B ≤ W.heap.size) : LitRow B (W.alloc (.cells C e)) W.heap.size C e := ⟨h, _, heap_alloc_new _ _⟩
theorem LitRow.lt {B : Nat} {W : World} {g : Nat} {C : Array Value} {e : TypeId} (h : LitRow B W g C e) : g < W.heap.size := by
  obtain ⟨_, fr, hh⟩ := h
  exact lt_of_block hh
theorem LitRow.keep {B : Nat} {W W' : World} {g : Nat} {C : Array Value} {e : TypeId} (h : LitRow B W g C e) (hk : W'.heap[g]? = W.heap[g]?) : LitRow B W' g C e := by
  obtain ⟨h1, fr, hh⟩ := h
  exact ⟨h1, fr, hk.trans hh⟩
theorem LitRow.alloc {B : Nat} {W : World} {g : Nat} {C : Array Value} {e : TypeId} (h : LitRow B W g C e) (o : Obj) : LitRow B (W.alloc o) g C e :=
  h.keep (((Below.refl W.heap.size W).alloc (Nat.le_refl _) o).block g h.lt)
theorem LitRow.hasA {B : Nat} {W : World} {g : Nat} {C : Array Value} {e : TypeId} (h : LitRow B W g C e) (l : List UInt8) (hC : (Lib.byteCells l).toArray = C) (n : Nat) (hn : n = l.length) (hm : n ≤ 1000000) : HasA W (.slice (some ⟨g, 0, none⟩) n n) l := by
  have hlt := h.lt
  obtain ⟨h1, fr, hh⟩ := h
  subst hn hC
  refine ⟨_, l.length, g, 0, rfl, Nat.le_refl _, by unfold maxLen; omega, fun _ => ⟨rfl, hlt⟩, fun j hj => ?_⟩
  unfold World.cell?
  rw [hh, Nat.zero_add]
  show (Lib.byteCells l).toArray[j]? = _
  rw [List.getElem?_toArray, byteCells_get hj]
/-- A literal's row gets its mark. -/
theorem run_convert_lit (B : Nat) (W : World) (t e : TypeId) (C : Array Value) (g n : Nat) (ht : P.underlying t = some (.slice e)) (he : P.underlying e = some (.int .u8)) (hl : LitRow B W g C e) :
    ∃ W', (convert t t (.slice (some ⟨g, 0, none⟩) n n)).run P W = .ok (.slice (some ⟨g, 0, none⟩) n n) W' ∧ LitRow B W' g C e ∧ (∀ k, k ≠ g → W'.heap[k]? = W.heap[k]?) ∧ Below B W W' := by
  obtain ⟨hB, fr, hh⟩ := hl
  have hlt := lt_of_block hh
  have hsh : W.shape? g = some (e, C.size) := by
    unfold World.shape?
    rw [hh]
  have hex : ∃ fr', (W.freeze ⟨g, C.size, none⟩ 1).heap[g]? = some (.cells C e fr') := by
    unfold World.freeze
    rw [if_neg (by decide)]
    simp only [Array.getElem?_modify, hh]
    simp only [if_true, Option.map_some]
    exact ⟨_, rfl⟩
  have hot : ∀ k, k ≠ g → (W.freeze ⟨g, C.size, none⟩ 1).heap[k]? = W.heap[k]? := by
    intro k hk
    unfold World.freeze
    rw [if_neg (by decide)]
    simp only [Array.getElem?_modify]
    rw [if_neg (Ne.symm hk)]
  have hsz : (W.freeze ⟨g, C.size, none⟩ 1).heap.size = W.heap.size := by
    unfold World.freeze
    rw [if_neg (by decide)]
    simp
  have hos : (W.freeze ⟨g, C.size, none⟩ 1).os = W.os ∧ (W.freeze ⟨g, C.size, none⟩ 1).tape = W.tape ∧ (W.freeze ⟨g, C.size, none⟩ 1).output = W.output := by
    unfold World.freeze
    rw [if_neg (by decide)]
    exact ⟨rfl, rfl, rfl⟩
  refine ⟨W.freeze ⟨g, C.size, none⟩ 1, ?_, ⟨hB, hex⟩, hot, ⟨hos.1, hos.2.1, hos.2.2, Nat.le_of_eq hsz.symm, fun k hk => hot k (by omega)⟩⟩
  simp [convert, run_underlying ht, run_underlying he, markStringish, hsh]
theorem anyH_of {n : Nat} {ls : Array Bool} {a : Act} {W : World} {rs : List Nat} (hr : Region.ready md ops ls = rs) (hne : rs ≠ []) (h : ∀ i ∈ rs, wpOp P ops Q i (fun a' w' => S w' ∧ wpAnyH P md ops Q S n (ls.setIfInBounds i true) a' w') a W) : wpAnyH P md ops Q S (n + 1) ls a W := by
  refine ⟨fun e => absurd (hr.symm.trans e) hne, fun i hi => ?_⟩
  rw [hr] at hi
  exact h i hi
/-- Two literals, each made and marked. -/
theorem lit_pair {n : Nat} {listed : Array Bool} {a : Act} {w : World} (i i2 k k2 : Nat) (oi oi2 ok ok2 : Oper) (di di2 dk dk2 : Nat) (t e : TypeId) (C1 C2 : Array Value) (n1 n2 : Nat)
    (ht : P.underlying t = some (.slice e)) (he : P.underlying e = some (.int .u8))
    (hi : ops[i]? = some oi) (hi2 : ops[i2]? = some oi2) (hk : ops[k]? = some ok) (hk2 : ops[k2]? = some ok2)
    (hdi : oi.dst = some di) (hdi2 : oi2.dst = some di2) (hdk : ok.dst = some dk) (hdk2 : ok2.dst = some dk2)
    (hbi : ∀ (a' : Act) (W : World), (execOp a'.eval oi).run P W = .ok (.value (.slice (some ⟨W.heap.size, 0, none⟩) n1 n1)) (W.alloc (.cells C1 e)))
    (hbk : ∀ (a' : Act) (W : World), (execOp a'.eval ok).run P W = .ok (.value (.slice (some ⟨W.heap.size, 0, none⟩) n2 n2)) (W.alloc (.cells C2 e)))
    (hci : oi2.op = .convert t t (.tmp di)) (hck : ok2.op = .convert t t (.tmp dk))
    (hwi : Region.wanted oi (yielded ops a.tmps) = true) (hwi2 : Region.wanted oi2 (yielded ops a.tmps) = true) (hwk : Region.wanted ok (yielded ops a.tmps) = true) (hwk2 : Region.wanted ok2 (yielded ops a.tmps) = true)
    (hgf : ([oi, oi2, ok, ok2].all fun o => [di, di2, dk, dk2].all fun d => guardFree ops o d) = true)
    (hnd : (i ≠ i2 ∧ i ≠ k ∧ i ≠ k2 ∧ i2 ≠ k ∧ i2 ≠ k2 ∧ k ≠ k2) ∧ (di ≠ di2 ∧ di ≠ dk ∧ di ≠ dk2 ∧ di2 ≠ dk ∧ di2 ≠ dk2 ∧ dk ≠ dk2)) (hsi : di < a.tmps.size) (hsk : dk < a.tmps.size)
    (r00 : Region.ready md ops listed = [i, k]) (r10 : Region.ready md ops (listed.setIfInBounds i true) = [i2, k]) (r01 : Region.ready md ops (listed.setIfInBounds k true) = [i, k2])
    (r20 : Region.ready md ops ((listed.setIfInBounds i true).setIfInBounds i2 true) = [k]) (r11 : Region.ready md ops ((listed.setIfInBounds i true).setIfInBounds k true) = [i2, k2]) (r02 : Region.ready md ops ((listed.setIfInBounds k true).setIfInBounds k2 true) = [i])
    (r21 : Region.ready md ops (((listed.setIfInBounds i true).setIfInBounds i2 true).setIfInBounds k true) = [k2]) (r12 : Region.ready md ops (((listed.setIfInBounds i true).setIfInBounds k true).setIfInBounds k2 true) = [i2])
    (hS : ∀ W, Below w.heap.size w W → S W)
    (l1 l2 : List UInt8) (hC1 : (Lib.byteCells l1).toArray = C1) (hC2 : (Lib.byteCells l2).toArray = C2) (hn1 : n1 = l1.length) (hn2 : n2 = l2.length) (hm1 : n1 ≤ 1000000) (hm2 : n2 ≤ 1000000)
    (h : ∀ g1 g2 W, w.heap.size ≤ g1 → w.heap.size ≤ g2 → HasA W (.slice (some ⟨g1, 0, none⟩) n1 n1) l1 → HasA W (.slice (some ⟨g2, 0, none⟩) n2 n2) l2 → Below w.heap.size w W → S W →
      wpAnyH P md ops Q S n ((((listed.setIfInBounds i true).setIfInBounds i2 true).setIfInBounds k true).setIfInBounds k2 true) ((((a.put (some di) (.slice (some ⟨g1, 0, none⟩) n1 n1)).put (some di2) (.slice (some ⟨g1, 0, none⟩) n1 n1)).put (some dk) (.slice (some ⟨g2, 0, none⟩) n2 n2)).put (some dk2) (.slice (some ⟨g2, 0, none⟩) n2 n2)) W) :
    wpAnyH P md ops Q S (n + 4) listed a w := by
  obtain ⟨⟨x1, x2, x3, x4, x5, x6⟩, ⟨y1, y2, y3, y4, y5, y6⟩⟩ := hnd
  simp only [List.all_cons, List.all_nil, Bool.and_true, Bool.and_eq_true] at hgf
  obtain ⟨⟨f11, f12, f13, f14⟩, ⟨f21, f22, f23, f24⟩, ⟨f31, f32, f33, f34⟩, ⟨f41, f42, f43, f44⟩⟩ := hgf
  have cvi : ∀ (a' : Act) (W : World) (g : Nat), a'.eval (.tmp di) = .slice (some ⟨g, 0, none⟩) n1 n1 → LitRow w.heap.size W g C1 e → ∃ W', (execOp a'.eval oi2).run P W = .ok (.value (.slice (some ⟨g, 0, none⟩) n1 n1)) W' ∧ LitRow w.heap.size W' g C1 e ∧ (∀ k, k ≠ g → W'.heap[k]? = W.heap[k]?) ∧ Below w.heap.size W W' := fun a' W g he1 hl => by
    obtain ⟨W', q1, q2, q3, q4⟩ := run_convert_lit w.heap.size W t e C1 g n1 ht he hl
    exact ⟨W', by unfold execOp; simp only [hci, he1, q1, Sem.run_bind, Sem.run_pure, Result.andThen_ok], q2, q3, q4⟩
  have cvk : ∀ (a' : Act) (W : World) (g : Nat), a'.eval (.tmp dk) = .slice (some ⟨g, 0, none⟩) n2 n2 → LitRow w.heap.size W g C2 e → ∃ W', (execOp a'.eval ok2).run P W = .ok (.value (.slice (some ⟨g, 0, none⟩) n2 n2)) W' ∧ LitRow w.heap.size W' g C2 e ∧ (∀ k, k ≠ g → W'.heap[k]? = W.heap[k]?) ∧ Below w.heap.size W W' := fun a' W g he1 hl => by
    obtain ⟨W', q1, q2, q3, q4⟩ := run_convert_lit w.heap.size W t e C2 g n2 ht he hl
    exact ⟨W', by unfold execOp; simp only [hck, he1, q1, Sem.run_bind, Sem.run_pure, Result.andThen_ok], q2, q3, q4⟩
  -- both made, one or both not marked yet
  have s22 : ∀ g1 g2 W, LitRow w.heap.size W g1 C1 e → LitRow w.heap.size W g2 C2 e → Below w.heap.size w W → wpAnyH P md ops Q S n ((((listed.setIfInBounds i true).setIfInBounds i2 true).setIfInBounds k true).setIfInBounds k2 true) ((((a.put (some di) (.slice (some ⟨g1, 0, none⟩) n1 n1)).put (some di2) (.slice (some ⟨g1, 0, none⟩) n1 n1)).put (some dk) (.slice (some ⟨g2, 0, none⟩) n2 n2)).put (some dk2) (.slice (some ⟨g2, 0, none⟩) n2 n2)) W :=
    fun g1 g2 W h1 h2 hb => h g1 g2 W h1.1 h2.1 (h1.hasA l1 hC1 n1 hn1 hm1) (h2.hasA l2 hC2 n2 hn2 hm2) hb (hS W hb)
  have s21 : ∀ g1 g2 W, g1 ≠ g2 → LitRow w.heap.size W g1 C1 e → LitRow w.heap.size W g2 C2 e → Below w.heap.size w W → wpAnyH P md ops Q S (n + 1) (((listed.setIfInBounds i true).setIfInBounds i2 true).setIfInBounds k true) (((a.put (some di) (.slice (some ⟨g1, 0, none⟩) n1 n1)).put (some di2) (.slice (some ⟨g1, 0, none⟩) n1 n1)).put (some dk) (.slice (some ⟨g2, 0, none⟩) n2 n2)) W := fun g1 g2 W hg h1 h2 hb => by
    refine anyH_of r21 (by simp) (fun j hj => ?_)
    rw [List.mem_singleton] at hj
    subst hj
    obtain ⟨W', q1, q2, q3, q4⟩ := cvk (((a.put (some di) (.slice (some ⟨g1, 0, none⟩) n1 n1)).put (some di2) (.slice (some ⟨g1, 0, none⟩) n1 n1)).put (some dk) (.slice (some ⟨g2, 0, none⟩) n2 n2)) W g2 (put_eval_same (by rw [put_size, put_size]; exact hsk)) h2
    exact wpOp_value hk2 (wanted_put (wanted_put (wanted_put hwk2 f41) f42) f43) hdk2 q1 ⟨hS W' (hb.trans q4), s22 g1 g2 W' (h1.keep (q3 g1 hg)) q2 (hb.trans q4)⟩
  have s12 : ∀ g1 g2 W, g1 ≠ g2 → LitRow w.heap.size W g1 C1 e → LitRow w.heap.size W g2 C2 e → Below w.heap.size w W → wpAnyH P md ops Q S (n + 1) (((listed.setIfInBounds i true).setIfInBounds k true).setIfInBounds k2 true) (((a.put (some di) (.slice (some ⟨g1, 0, none⟩) n1 n1)).put (some dk) (.slice (some ⟨g2, 0, none⟩) n2 n2)).put (some dk2) (.slice (some ⟨g2, 0, none⟩) n2 n2)) W := fun g1 g2 W hg h1 h2 hb => by
    refine anyH_of r12 (by simp) (fun j hj => ?_)
    rw [List.mem_singleton] at hj
    subst hj
    obtain ⟨W', q1, q2, q3, q4⟩ := cvi (((a.put (some di) (.slice (some ⟨g1, 0, none⟩) n1 n1)).put (some dk) (.slice (some ⟨g2, 0, none⟩) n2 n2)).put (some dk2) (.slice (some ⟨g2, 0, none⟩) n2 n2)) W g1 (by rw [put_eval_ne (Ne.symm y3), put_eval_ne (Ne.symm y2)]; exact put_eval_same hsi) h1
    refine wpOp_value hi2 (wanted_put (wanted_put (wanted_put hwi2 f21) f23) f24) hdi2 q1 ⟨hS W' (hb.trans q4), ?_⟩
    have := s22 g1 g2 W' q2 (h2.keep (q3 g2 (Ne.symm hg))) (hb.trans q4)
    rw [put_comm _ dk2 di2 _ _ (Ne.symm y5), put_comm _ dk di2 _ _ (Ne.symm y4), Array.setIfInBounds_comm _ _ (Ne.symm x5), Array.setIfInBounds_comm _ _ (Ne.symm x4)]
    exact this
  have s11 : ∀ g1 g2 W, g1 ≠ g2 → LitRow w.heap.size W g1 C1 e → LitRow w.heap.size W g2 C2 e → Below w.heap.size w W → wpAnyH P md ops Q S (n + 2) ((listed.setIfInBounds i true).setIfInBounds k true) ((a.put (some di) (.slice (some ⟨g1, 0, none⟩) n1 n1)).put (some dk) (.slice (some ⟨g2, 0, none⟩) n2 n2)) W := fun g1 g2 W hg h1 h2 hb => by
    refine anyH_of r11 (by simp) (fun j hj => ?_)
    simp only [List.mem_cons, List.not_mem_nil, or_false] at hj
    rcases hj with rfl | rfl
    · obtain ⟨W', q1, q2, q3, q4⟩ := cvi ((a.put (some di) (.slice (some ⟨g1, 0, none⟩) n1 n1)).put (some dk) (.slice (some ⟨g2, 0, none⟩) n2 n2)) W g1 (by rw [put_eval_ne (Ne.symm y2)]; exact put_eval_same hsi) h1
      refine wpOp_value hi2 (wanted_put (wanted_put hwi2 f21) f23) hdi2 q1 ⟨hS W' (hb.trans q4), ?_⟩
      have := s21 g1 g2 W' hg q2 (h2.keep (q3 g2 (Ne.symm hg))) (hb.trans q4)
      rw [put_comm _ dk di2 _ _ (Ne.symm y4), Array.setIfInBounds_comm _ _ (Ne.symm x4)]
      exact this
    · obtain ⟨W', q1, q2, q3, q4⟩ := cvk ((a.put (some di) (.slice (some ⟨g1, 0, none⟩) n1 n1)).put (some dk) (.slice (some ⟨g2, 0, none⟩) n2 n2)) W g2 (put_eval_same (by rw [put_size]; exact hsk)) h2
      exact wpOp_value hk2 (wanted_put (wanted_put hwk2 f41) f43) hdk2 q1 ⟨hS W' (hb.trans q4), s12 g1 g2 W' hg (h1.keep (q3 g1 hg)) q2 (hb.trans q4)⟩
  -- one made and marked, the other not made
  have s20 : ∀ g1 W, LitRow w.heap.size W g1 C1 e → Below w.heap.size w W → wpAnyH P md ops Q S (n + 2) ((listed.setIfInBounds i true).setIfInBounds i2 true) ((a.put (some di) (.slice (some ⟨g1, 0, none⟩) n1 n1)).put (some di2) (.slice (some ⟨g1, 0, none⟩) n1 n1)) W := fun g1 W h1 hb => by
    refine anyH_of r20 (by simp) (fun j hj => ?_)
    rw [List.mem_singleton] at hj
    subst hj
    have hb' := hb.alloc hb.size (.cells C2 e)
    exact wpOp_value hk (wanted_put (wanted_put hwk f31) f32) hdk (hbk _ W) ⟨hS _ hb', s21 g1 W.heap.size _ (Nat.ne_of_lt h1.lt) (h1.alloc _) (LitRow.new hb.size) hb'⟩
  have s02 : ∀ g2 W, LitRow w.heap.size W g2 C2 e → Below w.heap.size w W → wpAnyH P md ops Q S (n + 2) ((listed.setIfInBounds k true).setIfInBounds k2 true) ((a.put (some dk) (.slice (some ⟨g2, 0, none⟩) n2 n2)).put (some dk2) (.slice (some ⟨g2, 0, none⟩) n2 n2)) W := fun g2 W h2 hb => by
    refine anyH_of r02 (by simp) (fun j hj => ?_)
    rw [List.mem_singleton] at hj
    subst hj
    have hb' := hb.alloc hb.size (.cells C1 e)
    refine wpOp_value hi (wanted_put (wanted_put hwi f13) f14) hdi (hbi _ W) ⟨hS _ hb', ?_⟩
    have := s12 W.heap.size g2 _ (Ne.symm (Nat.ne_of_lt h2.lt)) (LitRow.new hb.size) (h2.alloc _) hb'
    rw [put_comm _ dk2 di _ _ (Ne.symm y3), put_comm _ dk di _ _ (Ne.symm y2), Array.setIfInBounds_comm _ _ (Ne.symm x3), Array.setIfInBounds_comm _ _ (Ne.symm x2)]
    exact this
  have s10 : ∀ g1 W, LitRow w.heap.size W g1 C1 e → Below w.heap.size w W → wpAnyH P md ops Q S (n + 3) (listed.setIfInBounds i true) (a.put (some di) (.slice (some ⟨g1, 0, none⟩) n1 n1)) W := fun g1 W h1 hb => by
    refine anyH_of r10 (by simp) (fun j hj => ?_)
    simp only [List.mem_cons, List.not_mem_nil, or_false] at hj
    rcases hj with rfl | rfl
    · obtain ⟨W', q1, q2, q3, q4⟩ := cvi (a.put (some di) (.slice (some ⟨g1, 0, none⟩) n1 n1)) W g1 (put_eval_same hsi) h1
      exact wpOp_value hi2 (wanted_put hwi2 f21) hdi2 q1 ⟨hS W' (hb.trans q4), s20 g1 W' q2 (hb.trans q4)⟩
    · have hb' := hb.alloc hb.size (.cells C2 e)
      exact wpOp_value hk (wanted_put hwk f31) hdk (hbk _ W) ⟨hS _ hb', s11 g1 W.heap.size _ (Nat.ne_of_lt h1.lt) (h1.alloc _) (LitRow.new hb.size) hb'⟩
  have s01 : ∀ g2 W, LitRow w.heap.size W g2 C2 e → Below w.heap.size w W → wpAnyH P md ops Q S (n + 3) (listed.setIfInBounds k true) (a.put (some dk) (.slice (some ⟨g2, 0, none⟩) n2 n2)) W := fun g2 W h2 hb => by
    refine anyH_of r01 (by simp) (fun j hj => ?_)
    simp only [List.mem_cons, List.not_mem_nil, or_false] at hj
    rcases hj with rfl | rfl
    · have hb' := hb.alloc hb.size (.cells C1 e)
      refine wpOp_value hi (wanted_put hwi f13) hdi (hbi _ W) ⟨hS _ hb', ?_⟩
      have := s11 W.heap.size g2 _ (Ne.symm (Nat.ne_of_lt h2.lt)) (LitRow.new hb.size) (h2.alloc _) hb'
      rw [put_comm _ dk di _ _ (Ne.symm y2), Array.setIfInBounds_comm _ _ (Ne.symm x2)]
      exact this
    · obtain ⟨W', q1, q2, q3, q4⟩ := cvk (a.put (some dk) (.slice (some ⟨g2, 0, none⟩) n2 n2)) W g2 (put_eval_same hsk) h2
      exact wpOp_value hk2 (wanted_put hwk2 f43) hdk2 q1 ⟨hS W' (hb.trans q4), s02 g2 W' q2 (hb.trans q4)⟩
  refine anyH_of r00 (by simp) (fun j hj => ?_)
  simp only [List.mem_cons, List.not_mem_nil, or_false] at hj
  have hbA := (Below.refl w.heap.size w).alloc (Nat.le_refl _) (.cells C1 e)
  have hbB := (Below.refl w.heap.size w).alloc (Nat.le_refl _) (.cells C2 e)
  rcases hj with rfl | rfl
  · exact wpOp_value hi hwi hdi (hbi _ w) ⟨hS _ hbA, s10 w.heap.size _ (LitRow.new (Nat.le_refl _)) hbA⟩
  · exact wpOp_value hk hwk hdk (hbk _ w) ⟨hS _ hbB, s01 w.heap.size _ (LitRow.new (Nat.le_refl _)) hbB⟩
/-- One literal, made and marked. -/
theorem lit_one {n : Nat} {listed : Array Bool} {a : Act} {w : World} (i i2 : Nat) (oi oi2 : Oper) (di di2 : Nat) (t e : TypeId) (C1 : Array Value) (n1 : Nat)
    (ht : P.underlying t = some (.slice e)) (he : P.underlying e = some (.int .u8))
    (hi : ops[i]? = some oi) (hi2 : ops[i2]? = some oi2) (hdi : oi.dst = some di) (hdi2 : oi2.dst = some di2)
    (hbi : ∀ (a' : Act) (W : World), (execOp a'.eval oi).run P W = .ok (.value (.slice (some ⟨W.heap.size, 0, none⟩) n1 n1)) (W.alloc (.cells C1 e)))
    (hci : oi2.op = .convert t t (.tmp di))
    (hwi : Region.wanted oi (yielded ops a.tmps) = true) (hwi2 : Region.wanted oi2 (yielded ops a.tmps) = true) (hgf : guardFree ops oi2 di = true) (hsi : di < a.tmps.size)
    (r00 : Region.ready md ops listed = [i]) (r10 : Region.ready md ops (listed.setIfInBounds i true) = [i2])
    (hS : ∀ W, Below w.heap.size w W → S W)
    (l1 : List UInt8) (hC1 : (Lib.byteCells l1).toArray = C1) (hn1 : n1 = l1.length) (hm1 : n1 ≤ 1000000)
    (h : ∀ g1 W, w.heap.size ≤ g1 → HasA W (.slice (some ⟨g1, 0, none⟩) n1 n1) l1 → Below w.heap.size w W → S W →
      wpAnyH P md ops Q S n ((listed.setIfInBounds i true).setIfInBounds i2 true) ((a.put (some di) (.slice (some ⟨g1, 0, none⟩) n1 n1)).put (some di2) (.slice (some ⟨g1, 0, none⟩) n1 n1)) W) :
    wpAnyH P md ops Q S (n + 2) listed a w := by
  refine anyH_of r00 (by simp) (fun j hj => ?_)
  rw [List.mem_singleton] at hj
  subst hj
  have hbA := (Below.refl w.heap.size w).alloc (Nat.le_refl _) (.cells C1 e)
  refine wpOp_value hi hwi hdi (hbi _ w) ⟨hS _ hbA, anyH_of r10 (by simp) (fun j2 hj2 => ?_)⟩
  rw [List.mem_singleton] at hj2
  subst hj2
  have hl : LitRow w.heap.size (w.alloc (.cells C1 e)) w.heap.size C1 e := LitRow.new (Nat.le_refl _)
  obtain ⟨W', q1, q2, q3, q4⟩ := run_convert_lit w.heap.size (w.alloc (.cells C1 e)) t e C1 w.heap.size n1 ht he hl
  have hr : (execOp (a.put (some di) (.slice (some ⟨w.heap.size, 0, none⟩) n1 n1)).eval oi2).run P (w.alloc (.cells C1 e)) = .ok (.value (.slice (some ⟨w.heap.size, 0, none⟩) n1 n1)) W' := by
    unfold execOp
    simp only [hci, put_eval_same hsi, q1, Sem.run_bind, Sem.run_pure, Result.andThen_ok]
  exact wpOp_value hi2 (wanted_put hwi2 hgf) hdi2 hr ⟨hS W' (hbA.trans q4), h w.heap.size W' (Nat.le_refl _) (q2.hasA l1 hC1 n1 hn1 hm1) (hbA.trans q4) (hS W' (hbA.trans q4))⟩
/-- What an operation yields in whatever world. -/
theorem yieldsIf_run {op : Oper} {a : Act} {v : Value} (hw : Region.wanted op (yielded ops a.tmps) = true) (hr : ∀ w, (execOp a.eval op).run P w = .ok (.value v) w) : YieldsIf P ops S op v a := .inl ⟨hw, fun w _ => hr w⟩
end
end Go.Proofs.YtjopfhmloklhdaaDoor
