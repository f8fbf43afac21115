/-
  Package simnet: Send.
-/
import Derived.Test.YtaopnoaopcbkoaaAnyL
import Derived.Deep.RegionLaw
import Derived.Deep.AppendLies
namespace Go.Proofs.Ytaopnoaopcbkoaa
open Go.ChangeShapes Go.WideShapes Go.ChangeAt Go.RowKit Go.Deep
set_option linter.unusedVariables false
set_option linter.unusedSimpArgs false

section
variable {P : Program}
/-- Whatever bytes are appended to nil, as a step of a region that draws. -/
theorem step_append_new {ops : Array Oper} {o : Oper} {a : Act} {w : World} {K : Act → World → Prop} {Q : Exit → Act → World → Prop} {E : Prop} (hgd : o.guard = none) (s x : Operand) (t : TypeId)
    (ho : o.op = .call { callee := .builtin .append, args := #[s, x], argTypes := #[t, t] })
    (e : TypeId) (ht : P.underlying t = some (.slice e)) (hinfo : (P.info? e).map (fun i => (i.zero, i.size, i.bytes)) = some (some (.int .u8 0), 1, 1))
    (hs : a.eval s = .slice none 0 0) (y : Value) (l : List UInt8) (hx : a.eval x = y) (hy : HasA w y l) (hlen : l.length ≤ 140737488355328)
    (hK : ∀ v' w', Own w' w.heap.size e v' l → Below w.heap.size w w' → K (a.put o.dst v') w') :
    if Region.wanted o (yielded ops a.tmps) = true then Oper.wp P o a w K Q else E := by
  have hw : Region.wanted o (yielded ops a.tmps) = true := by simp [Region.wanted, hgd]
  rw [if_pos hw]
  obtain ⟨i, hi, hz, hz1, hz2⟩ := info_parts hinfo
  obtain ⟨p, cap, b, off, rfl, k1, k2, k3, kc⟩ := hy
  by_cases h0 : 0 < l.length
  · obtain ⟨rfl, hb'⟩ := k3 h0
    refine wp_append_own w s x t ho w.heap.size e i (.int .u8 0) 1 1 ht hi hz hz1 hz2 rfl (by decide) (.slice none 0 0) 0 [] hs (World.ownsRow_nil w _ e 1) ⟨b, off, none⟩ l.length cap (Lib.byteCells l) hx (by rw [Lib.byteCells_length, Nat.mul_one]) (cells_at kc) (Lib.byteCells_one l)
      (by unfold maxLen; omega) (by omega) (Nat.le_refl _) fun v' w' h1 h2 _ => hK v' w' ?_ ⟨h2.os, h2.tape, h2.output, h2.size, fun k hk => h2.block k hk (by simp [Value.ownBlock])⟩
    unfold Own
    rw [List.nil_append, Nat.zero_add] at h1
    exact h1
  · obtain rfl : l = [] := List.eq_nil_of_length_eq_zero (by omega)
    simp only [List.length_nil] at hx
    cases p with
    | none =>
      have hr := run_append_nothing (P := P) w t t o.type e i ht hi none 0 0 (Nat.le_refl _) (.slice none 0 cap) (by rw [hz1]; exact Src.ofNil w ht cap)
      unfold Oper.wp
      simp [execOp, ho, resolve, invoke, builtin, hs, hx, hr, Result.andThen]
      exact hK _ _ (Own.nil _ _ _) (Below.refl _ _)
    | some ad =>
      refine wp_append_own w s x t ho w.heap.size e i (.int .u8 0) 1 1 ht hi hz hz1 hz2 rfl (by decide) (.slice none 0 0) 0 [] hs (World.ownsRow_nil w _ e 1) ad 0 cap [] hx rfl (fun j u hu => by simp at hu) (fun u hu => by simp at hu)
        (by unfold maxLen; omega) (by omega) (Nat.le_refl _) fun v' w' h1 h2 _ => hK v' w' h1 ⟨h2.os, h2.tape, h2.output, h2.size, fun k hk => h2.block k hk (by simp [Value.ownBlock])⟩
end
theorem WRow.form' {w : World} {B : Nat} {v : Value} {L : List Pk} {F : Nat → Prop} (h : WRow w B v L F) : ∀ z, v ≠ .int .u8 z := by
  obtain ⟨Ps, _, hr, _⟩ := h
  rcases hr.2 with ⟨hv, _⟩ | ⟨g, cap, cur, hv, _⟩ <;> (intro z; rw [hv]; simp)
theorem FRow.form' {w : World} {B : Nat} {v : Value} {L : List Nat} {F : Nat → Prop} (h : FRow w B v L F) : ∀ z, v ≠ .int .u8 z := by
  obtain ⟨p, cap, hv, _⟩ := h
  intro z; rw [hv]; simp
theorem HasA.apart {w w1 : World} {v : Value} {l : List UInt8} {R : Nat} {x0 x3 : Value} {a c : Int} {b : Int} {T : TypeId} (h : HasA w v l) (hh : w.heap[R]? = some (.cells #[x0, .int .i64 a, .int .i64 b, x3, .int .u64 c] T (0, 0))) (ho : ∀ k, k ≠ R → w1.heap[k]? = w.heap[k]?) (hs : w1.heap.size = w.heap.size) (h0 : ∀ z, x0 ≠ .int .u8 z) (h3 : ∀ z, x3 ≠ .int .u8 z) : HasA w1 v l := by
  obtain ⟨p, cap, bb, o, rfl, k1, k2, k3, kc⟩ := h
  refine ⟨p, cap, bb, o, rfl, k1, k2, fun h => ⟨(k3 h).1, by rw [hs]; exact (k3 h).2⟩, fun j hj => ?_⟩
  have hc := kc j hj
  have hne : bb ≠ R := fun e => by
    subst e
    simp only [World.cell?, hh] at hc
    match hoj : o + j, hc with
    | 0, hc => exact h0 _ (by simpa [hoj] using hc)
    | 1, hc => simp [hoj] at hc
    | 2, hc => simp [hoj] at hc
    | 3, hc => exact h3 _ (by simpa [hoj] using hc)
    | 4, hc => simp [hoj] at hc
    | n + 5, hc => simp [hoj] at hc
  have e : w1.cell? ⟨bb, o + j, none⟩ = w.cell? ⟨bb, o + j, none⟩ := World.cell?_of_block (a := ⟨bb, o + j, none⟩) (ho bb hne)
  rw [e]; exact hc
/-- A row of packets grew: rows of bytes are as they were. -/
theorem own_grown4 {w w' : World} {B B' n : Nat} {v x : Value} {vs : List Value} {l : List UInt8} {e T : TypeId} (hne : T ≠ e) (h1 : w.ownsRow B' e 4 v n vs) (ho : Own w B T x l) (hg : w.grownBy w' v.ownBlock) : Own w' B T x l := by
  refine World.ownsRow.kept ho hg ?_
  rcases ho.2 with ⟨rfl, _⟩ | ⟨g, cap, cur, rfl, _, hh, _⟩
  · exact .inl rfl
  · refine .inr fun he => ?_
    rcases h1.2 with ⟨rfl, _⟩ | ⟨g', cap', cur', rfl, _, hh', _⟩
    · cases he
    · simp only [Value.ownBlock, Option.some.injEq] at he
      subst he
      rw [hh] at hh'
      simp only [Option.some.injEq, Obj.cells.injEq] at hh'
      exact hne hh'.2.1
theorem WRow.later {w w2 : World} {B : Nat} {v : Value} {L : List Pk} {F : Nat → Prop} (h : WRow w B v L F) (hb : Below w.heap.size w w2) : WRow w2 B v L F :=
  h.same (fun _ _ h => h) (fun k c _ hc => hb.block k (lt_of_block hc)) (fun k c _ hc => hb.block k (lt_of_block hc))
theorem pk_cells (w : World) (p : Pk × Value) (a : Int) (T : TypeId) (f : Nat × Nat) (ha : a = (p.1.id : Int)) : ∀ j u, (pkCells p)[j]? = some u → (w.alloc (.cells #[.int .i64 a, .int .i64 p.1.fr, .int .i64 p.1.to, p.2] T f)).cell? ⟨w.heap.size, j, none⟩ = some u := by
  subst ha
  intro j u hj
  have h := heap_alloc_new w (.cells #[.int .i64 (p.1.id : Int), .int .i64 p.1.fr, .int .i64 p.1.to, p.2] T f)
  unfold World.cell?
  rw [h]
  match j, hj with
  | 0, hj => simpa [pkCells] using hj
  | 1, hj => simpa [pkCells] using hj
  | 2, hj => simpa [pkCells] using hj
  | 3, hj => simpa [pkCells] using hj
theorem size_up (w : World) (o : Obj) : w.heap.size ≤ (w.alloc o).heap.size := ((Below.refl w.heap.size w).alloc (Nat.le_refl _) o).size
/-- A packet appended to what waits, as a step of a region that draws. -/
theorem step_append_pk {ops : Array Oper} {o : Oper} {a : Act} {w : World} {K : Act → World → Prop} {Q : Exit → Act → World → Prop} {E : Prop} (hgd : o.guard = none) (s x : Operand)
    (ho : o.op = .call { callee := .builtin .append, args := #[s, x], argTypes := #[66, 66] }) (B : Nat) (v : Value) (L : List Pk) (F G : Nat → Prop) (hs : a.eval s = v) (hW : WRow w B v L F) (hFG : ∀ k, F k → G k)
    (p : Pk × Value) (hp : Own w B 5 p.2 p.1.data) (hpG : ∀ g, p.2.ownBlock = some g → G g) (g1 : Nat) (hx : a.eval x = .slice (some ⟨g1, 0, none⟩) 1 1) (hc : ∀ j u, (pkCells p)[j]? = some u → w.cell? ⟨g1, j, none⟩ = some u)
    (hlen : L.length ≤ 1099511627776) (hB : B ≤ w.heap.size)
    (hK : ∀ v' w', WRow w' B v' (L ++ [p.1]) (Wid G w w') → Keeps F w w' → (∀ k, k < w.heap.size → (∀ c, w.heap[k]? ≠ some (.cells c 72 (0, 0))) → w'.heap[k]? = w.heap[k]?) → K (a.put o.dst v') w') :
    if Region.wanted o (yielded ops a.tmps) = true then Oper.wp Try.prog o a w K Q else E := by
  obtain ⟨i, hi, hz, hz1, hz2⟩ := info_parts info_pk
  obtain ⟨Ps, e, hr, hg, hps⟩ := hW
  have hone : p.2.oneCell' = true := by
    obtain ⟨q, cap, hv, _⟩ := hp.has.form
    rw [hv]; rfl
  refine step_append_lies w hgd s x 66 ho B 72 i _ 4 48 Try.underlying66 hi hz hz1 hz2 rfl (by decide) v L.length _ hs hr ⟨g1, 0, none⟩ 1 1 (pkCells p) hx rfl (fun j u hj => by rw [add_plain, Nat.zero_add]; exact hc j u hj) (pkCells_one p hone)
    (by decide) (by unfold maxLen; omega) (by omega) hB w.heap.size rfl fun g cap w' h1 h2 h3 h4 => hK _ w' ⟨Ps ++ [p], by rw [List.map_append, e]; rfl, ?_, fun g' hg' => ?_, fun q hq => ?_⟩ ⟨h2.os, h2.tape, h2.output, h2.size, fun k hk hn => h2.block k hk (fun h' => hn (hg k h'.symm))⟩ (fun k hk hn => h2.block k hk (fun h' => ?_))
  · rw [rowOf_append, List.length_append]
    have e2 : rowOf [p] = pkCells p := by rw [rowOf_cons, rowOf_nil, List.append_nil]
    rw [e2]
    exact h1
  · simp only [Value.ownBlock, Option.some.injEq] at hg'
    subst hg'
    rcases h3 with h3 | h3
    · exact .inl (hFG _ (hg _ h3))
    · exact .inr ⟨by omega, h4⟩
  · rcases List.mem_append.1 hq with hq | hq
    · obtain ⟨k1, k2⟩ := hps q hq
      exact ⟨own_grown4 (by decide) hr k1 h2, fun g hg' => .inl (hFG g (k2 g hg'))⟩
    · simp only [List.mem_singleton] at hq
      subst hq
      exact ⟨own_grown4 (by decide) hr hp h2, fun g hg' => .inl (hpG g hg')⟩
  · rcases hr.2 with ⟨hv, _⟩ | ⟨g0, cap, cur, hv, _, hh, _⟩
    · rw [hv] at h'; simp [Value.ownBlock] at h'
    · rw [hv] at h'
      simp only [Value.ownBlock, Option.some.injEq] at h'
      exact hn cur (by rw [h']; exact hh)
/-- What Send does. -/
def sendV (N : NetV) (fr to : Int) (l : List UInt8) : NetV := { N with sent := N.sent + 1, wait := N.wait ++ [⟨N.sent + 1, fr, to, l⟩] }
set_option maxRecDepth 100000 in
set_option maxHeartbeats 4000000 in
theorem Send_any (w : World) (B R : Nat) (N : NetV) (F : Nat → Prop) (h : Net w B R N F) (fr to : Int) (bv : Value) (l : List UInt8) (hb : HasA w bv l) (hs : N.sent ≤ 1099511627776) (hw : N.wait.length ≤ 1099511627776) (hl : l.length ≤ 140737488355328) :
    Calls Try.prog 17 #[.pointer (some ⟨R, 0, none⟩), .int .i64 fr, .int .i64 to, bv] w fun e w' => ∃ F', e = .returned (.int .i64 ((N.sent + 1 : Nat) : Int)) ∧ Net w' B R (sendV N fr to l) F' ∧ Keeps F w w' ∧ (∀ k, k < w.heap.size → F' k → F k) := by
  have HH := Lib.hid h
  obtain ⟨wv, fv, c0, c1, c2, c3, c4, hz, hh, hR, hF, hW, hf⟩ := h.cells
  have hRl := h.lt
  have hBw : B ≤ w.heap.size := by have := hF.out R hR.out; omega
  have HBV := Lib.hid hb
  obtain ⟨pb, cb, rfl, hkb, hmb⟩ := hb.form
  have hmb' : (cb : Int) ≤ 9223372036854775807 := by unfold maxLen at hmb; omega
  have HMB := Lib.hid hmb
  clear h hb hmb
  obtain ⟨w1, hw1⟩ : ∃ w1, w1 = w.setCell ⟨R, 1, none⟩ (.int .i64 ((N.sent : Int) + 1)) := ⟨_, rfl⟩
  have hz1 : w1.heap.size = w.heap.size := by rw [hw1]; exact World.size_setCell _ _ _
  have hother : ∀ k, k ≠ R → w1.heap[k]? = w.heap[k]? := fun k hk => by rw [hw1]; exact Below.heap_setCell _ _ _ _ hk
  have hh1 : w1.heap[R]? = some (.cells #[wv, .int .i64 ((N.sent : Int) + 1), .int .i64 N.now, fv, .int .u64 (N.seed : Int)] 68 (0, 0)) := by
    rw [hw1, heap_setCell_same _ _ _ _ _ _ hh.out]; rfl
  have hb1 : HasA w1 (.slice pb l.length cb) l := HBV.out.apart hh.out hother hz1 (WRow.form' hW.out) (FRow.form' hf.out)
  obtain ⟨d0, d1, d2, d3, d4, dz⟩ := net_cells hh1
  have hW1 : WRow w1 B wv N.wait F := hW.out.same (fun _ _ h => h) (fun k c _ hc => hother k (fun e => by subst e; rw [hh.out] at hc; cases hc)) (fun k c _ hc => hother k (fun e => by subst e; rw [hh.out] at hc; cases hc))
  have hf1 : FRow w1 B fv N.fed F := hf.out.same (fun _ _ h => h) (fun k c _ hc => hother k (fun e => by subst e; rw [hh.out] at hc; cases hc))
  have hk1 : Keeps F w w1 := by rw [hw1]; exact (Keeps.refl F w).setCell _ _ (fun _ => hR.out)
  have HB1 := Lib.hid hb1
  have HW1 := Lib.hid hW1
  have HF1 := Lib.hid hf1
  have HK1 := Lib.hid hk1
  have HH1 := Lib.hid hh1
  have HW1E := Lib.hid hw1
  have HO := Lib.hid hother
  clear hb1 hW1 hf1 hk1 hh1 hother hw1
  obtain ⟨pw, nw, cw, hwv⟩ : ∃ p n c, wv = .slice p n c := by
    obtain ⟨Ps, _, hr, _⟩ := hW.out
    rcases hr.2 with ⟨hv, _⟩ | ⟨g, cap, cur, hv, _⟩
    · exact ⟨_, _, _, hv⟩
    · exact ⟨_, _, _, hv⟩
  subst hwv
  go_enter Try.func17, Try.ntmps17
  go_wp2_with fail
  rw [← HW1E.out]
  refine AnyL.begin (S := fun w' => w'.cell? ⟨R, 0, none⟩ = some (.slice pw nw cw) ∧ w'.cell? ⟨R, 1, none⟩ = some (.int .i64 ((N.sent : Int) + 1))) 18 (by kernel_rfl) ⟨d0, d1⟩ (fun hHeld => ?_)
  refine AnyL.take (i := 0) (oi := _) (v := ?_) 30 rfl (by kernel_rfl) (by kernel_rfl) (by kernel_rfl) (by kernel_rfl) (by kernel_rfl) (fun _ _ _ h => h) (Or.inl ⟨by rfl, ?hy⟩) (by assumption) ?rest
  case hy =>
    intro w9 hSw
    try dsimp only at hSw
    try simp only [List.getElem_toArray, List.getElem_cons_zero, List.getElem_cons_succ]
    go_simp
    try with_reducible rfl
  case rest =>
    try simp only [Act.put, List.setIfInBounds_toArray, List.set_cons_zero, List.set_cons_succ, List.getElem_toArray, List.getElem_cons_zero, List.getElem_cons_succ]
    refine AnyL.take (i := 1) (oi := _) (v := ?_) 30 rfl (by kernel_rfl) (by kernel_rfl) (by kernel_rfl) (by kernel_rfl) (by kernel_rfl) (fun _ _ _ h => h) (Or.inl ⟨by rfl, ?hy⟩) (by assumption) ?rest
    case hy =>
      intro w9 hSw
      try dsimp only at hSw
      try simp only [List.getElem_toArray, List.getElem_cons_zero, List.getElem_cons_succ]
      go_simp
      try with_reducible rfl
    case rest =>
      try simp only [Act.put, List.setIfInBounds_toArray, List.set_cons_zero, List.set_cons_succ, List.getElem_toArray, List.getElem_cons_zero, List.getElem_cons_succ]
      refine AnyL.take (i := 2) (oi := _) (v := ?_) 30 rfl (by kernel_rfl) (by kernel_rfl) (by kernel_rfl) (by kernel_rfl) (by kernel_rfl) (fun _ _ _ h => h) (Or.inl ⟨by rfl, ?hy⟩) (by assumption) ?rest
      case hy =>
        intro w9 hSw
        try dsimp only at hSw
        try simp only [List.getElem_toArray, List.getElem_cons_zero, List.getElem_cons_succ]
        go_simp
        try with_reducible rfl
      case rest =>
        try simp only [Act.put, List.setIfInBounds_toArray, List.set_cons_zero, List.set_cons_succ, List.getElem_toArray, List.getElem_cons_zero, List.getElem_cons_succ]
        refine AnyL.take (i := 3) (oi := _) (v := ?_) 30 rfl (by kernel_rfl) (by kernel_rfl) (by kernel_rfl) (by kernel_rfl) (by kernel_rfl) (fun _ _ _ h => h) (Or.inl ⟨by rfl, ?hy⟩) (by assumption) ?rest
        case hy =>
          intro w9 hSw
          try dsimp only at hSw
          try simp only [List.getElem_toArray, List.getElem_cons_zero, List.getElem_cons_succ]
          go_simp
          try with_reducible rfl
        case rest =>
          try simp only [Act.put, List.setIfInBounds_toArray, List.set_cons_zero, List.set_cons_succ, List.getElem_toArray, List.getElem_cons_zero, List.getElem_cons_succ]
          refine AnyL.take (i := 4) (oi := _) (v := ?_) 30 rfl (by kernel_rfl) (by kernel_rfl) (by kernel_rfl) (by kernel_rfl) (by kernel_rfl) (fun _ _ _ h => h) (Or.inl ⟨by rfl, ?hy⟩) (by assumption) ?rest
          case hy =>
            intro w9 hSw
            try dsimp only at hSw
            try simp only [List.getElem_toArray, List.getElem_cons_zero, List.getElem_cons_succ]
            go_simp
            try with_reducible rfl
          case rest =>
            try simp only [Act.put, List.setIfInBounds_toArray, List.set_cons_zero, List.set_cons_succ, List.getElem_toArray, List.getElem_cons_zero, List.getElem_cons_succ]
            refine AnyL.take (i := 5) (oi := _) (v := ?_) 30 rfl (by kernel_rfl) (by kernel_rfl) (by kernel_rfl) (by kernel_rfl) (by kernel_rfl) (fun _ _ _ h => h) (Or.inl ⟨by rfl, ?hy⟩) (by assumption) ?rest
            case hy =>
              intro w9 hSw
              try dsimp only at hSw
              try simp only [List.getElem_toArray, List.getElem_cons_zero, List.getElem_cons_succ]
              go_simp
              try with_reducible rfl
            case rest =>
              try simp only [Act.put, List.setIfInBounds_toArray, List.set_cons_zero, List.set_cons_succ, List.getElem_toArray, List.getElem_cons_zero, List.getElem_cons_succ]
              refine AnyL.take (i := 6) (oi := _) (v := ?_) 30 rfl (by kernel_rfl) (by kernel_rfl) (by kernel_rfl) (by kernel_rfl) (by kernel_rfl) (fun _ _ _ h => h) (Or.inl ⟨by rfl, ?hy⟩) (by assumption) ?rest
              case hy =>
                intro w9 hSw
                try dsimp only at hSw
                try simp only [List.getElem_toArray, List.getElem_cons_zero, List.getElem_cons_succ]
                go_simp
                try with_reducible rfl
              case rest =>
                try simp only [Act.put, List.setIfInBounds_toArray, List.set_cons_zero, List.set_cons_succ, List.getElem_toArray, List.getElem_cons_zero, List.getElem_cons_succ]
                refine AnyL.take (i := 7) (oi := _) (v := ?_) 30 rfl (by kernel_rfl) (by kernel_rfl) (by kernel_rfl) (by kernel_rfl) (by kernel_rfl) (fun _ _ _ h => h) (Or.inl ⟨by rfl, ?hy⟩) (by assumption) ?rest
                case hy =>
                  intro w9 hSw
                  try dsimp only at hSw
                  try simp only [List.getElem_toArray, List.getElem_cons_zero, List.getElem_cons_succ]
                  go_simp
                  try with_reducible rfl
                case rest =>
                  try simp only [Act.put, List.setIfInBounds_toArray, List.set_cons_zero, List.set_cons_succ, List.getElem_toArray, List.getElem_cons_zero, List.getElem_cons_succ]
                  refine AnyL.take (i := 8) (oi := _) (v := ?_) 30 rfl (by kernel_rfl) (by kernel_rfl) (by kernel_rfl) (by kernel_rfl) (by kernel_rfl) (fun _ _ _ h => h) (Or.inl ⟨by rfl, ?hy⟩) (by assumption) ?rest
                  case hy =>
                    intro w9 hSw
                    try dsimp only at hSw
                    try simp only [List.getElem_toArray, List.getElem_cons_zero, List.getElem_cons_succ]
                    go_simp
                    try with_reducible rfl
                  case rest =>
                    try simp only [Act.put, List.setIfInBounds_toArray, List.set_cons_zero, List.set_cons_succ, List.getElem_toArray, List.getElem_cons_zero, List.getElem_cons_succ]
                    refine AnyL.take (i := 9) (oi := _) (v := ?_) 30 rfl (by kernel_rfl) (by kernel_rfl) (by kernel_rfl) (by kernel_rfl) (by kernel_rfl) (fun _ _ _ h => h) (Or.inl ⟨by rfl, ?hy⟩) (by assumption) ?rest
                    case hy =>
                      intro w9 hSw
                      try dsimp only at hSw
                      try simp only [List.getElem_toArray, List.getElem_cons_zero, List.getElem_cons_succ]
                      go_simp
                      try with_reducible rfl
                    case rest =>
                      try simp only [Act.put, List.setIfInBounds_toArray, List.set_cons_zero, List.set_cons_succ, List.getElem_toArray, List.getElem_cons_zero, List.getElem_cons_succ]
                      refine AnyL.take (i := 10) (oi := _) (v := ?_) 30 rfl (by kernel_rfl) (by kernel_rfl) (by kernel_rfl) (by kernel_rfl) (by kernel_rfl) (fun _ _ _ h => h) (Or.inl ⟨by rfl, ?hy⟩) (by assumption) ?rest
                      case hy =>
                        intro w9 hSw
                        try dsimp only at hSw
                        try simp only [List.getElem_toArray, List.getElem_cons_zero, List.getElem_cons_succ]
                        go_simp
                        try with_reducible rfl
                      case rest =>
                        try simp only [Act.put, List.setIfInBounds_toArray, List.set_cons_zero, List.set_cons_succ, List.getElem_toArray, List.getElem_cons_zero, List.getElem_cons_succ]
                        refine AnyL.take (i := 11) (oi := _) (v := ?_) 30 rfl (by kernel_rfl) (by kernel_rfl) (by kernel_rfl) (by kernel_rfl) (by kernel_rfl) (fun _ _ _ h => h) (Or.inl ⟨by rfl, ?hy⟩) (by assumption) ?rest
                        case hy =>
                          intro w9 hSw
                          try dsimp only at hSw
                          try simp only [List.getElem_toArray, List.getElem_cons_zero, List.getElem_cons_succ]
                          go_simp
                          try with_reducible rfl
                        case rest =>
                          try simp only [Act.put, List.setIfInBounds_toArray, List.set_cons_zero, List.set_cons_succ, List.getElem_toArray, List.getElem_cons_zero, List.getElem_cons_succ]
                          refine AnyL.one (i := 12) (o := _) (by kernel_rfl) rfl (fun K hK => ?_)
                          refine step_append_new ?hgd (.const (.slice none 0 0)) (.tmp 27) 25 ?ho 5 Try.underlying25 info_u8 ?hs (.slice pb l.length cb) l ?hx ?hy hl ?hK
                          case hgd => rfl
                          case ho => rfl
                          case hs => rfl
                          case hx => rfl
                          case hy => exact HB1.out
                          intro v2 w2 ho2 hb2
                          obtain ⟨q2, e2, hv2, -⟩ := ho2.has.form
                          subst hv2
                          have hb2' : Below w1.heap.size w1 w2 := ⟨hb2.os, hb2.tape, hb2.output, hb2.size, hb2.block⟩
                          have ho2' : Own w2 w1.heap.size 5 (.slice q2 l.length e2) l := ho2
                          have HB2 := Lib.hid hb2'
                          have HO2 := Lib.hid ho2'
                          have hsz2 := hb2'.size
                          have hhR2 := (hb2'.block R (by omega)).trans HH1.out
                          obtain ⟨e0, e1, e2', e3, e4, ez⟩ := net_cells hhR2
                          have hR2 : R < w2.heap.size := by omega
                          have hal0 : ∀ o, (w2.alloc o).cell? ⟨R, 0, none⟩ = some (.slice pw nw cw) := fun o => (World.cell?_alloc_lt _ _ _ (show (⟨R, 0, none⟩ : Addr).block < w2.heap.size from hR2)).trans e0
                          have hal1 : ∀ o, (w2.alloc o).cell? ⟨R, 1, none⟩ = some (.int .i64 ((N.sent : Int) + 1)) := fun o => (World.cell?_alloc_lt _ _ _ (show (⟨R, 1, none⟩ : Addr).block < w2.heap.size from hR2)).trans e1
                          clear ho2 hb2 hb2' ho2' hhR2
                          refine hK.out _ _ (fun _ => ⟨e0, e1⟩) (fun hHeld => ?_)
                          replace hHeld := hHeld (by decide)
                          clear hK K
                          try simp only [Act.put, List.setIfInBounds_toArray, List.set_cons_zero, List.set_cons_succ, List.getElem_toArray, List.getElem_cons_zero, List.getElem_cons_succ]
                          refine AnyL.take (i := 13) (oi := _) (v := ?_) 30 rfl (by kernel_rfl) (by kernel_rfl) (by kernel_rfl) (by kernel_rfl) (by kernel_rfl) (fun _ _ _ h => h) (Or.inl ⟨by rfl, ?hy⟩) (by assumption) ?rest
                          case hy =>
                            intro w9 hSw
                            try dsimp only at hSw
                            try simp only [List.getElem_toArray, List.getElem_cons_zero, List.getElem_cons_succ]
                            go_simp
                            try with_reducible rfl
                          case rest =>
                            try simp only [Act.put, List.setIfInBounds_toArray, List.set_cons_zero, List.set_cons_succ, List.getElem_toArray, List.getElem_cons_zero, List.getElem_cons_succ]
                            refine AnyL.one (i := 14) (o := _) (by kernel_rfl) rfl (fun K hK => ?_)
                            try simp only [List.getElem_toArray, List.getElem_cons_zero, List.getElem_cons_succ]
                            go_simp
                            refine hK.out _ _ (fun _ => ⟨hal0 _, hal1 _⟩) (fun hHeld => ?_)
                            replace hHeld := hHeld (by decide)
                            clear hK K
                            try simp only [Act.put, List.setIfInBounds_toArray, List.set_cons_zero, List.set_cons_succ, List.getElem_toArray, List.getElem_cons_zero, List.getElem_cons_succ]
                            refine AnyL.one (i := 15) (o := _) (by kernel_rfl) rfl (fun K hK => ?_)
                            refine step_append_pk (by rfl) (.tmp 20) (.tmp 30) (by rfl) B (.slice pw nw cw) N.wait F (fun k => F k ∨ (w.heap.size ≤ k ∧ k < (w2.alloc (.cells #[.int .i64 ((N.sent : Int) + 1), .int .i64 fr, .int .i64 to, .slice q2 l.length e2] 72)).heap.size)) (by rfl) (by exact HW1.out.later (HB2.out.alloc hsz2 _)) (fun k hk => .inl hk) (⟨N.sent + 1, fr, to, l⟩, .slice q2 l.length e2) (by exact (HO2.out.mono (by omega)).alloc _) (fun g hg => .inr (by have h1 := World.ownsRow.lt HO2.out g hg; have h2 := size_up w2 (.cells #[.int .i64 ((N.sent : Int) + 1), .int .i64 fr, .int .i64 to, .slice q2 l.length e2] 72); omega)) w2.heap.size (by rfl) (by exact pk_cells w2 _ _ _ _ (by simp)) hw (by have := (HB2.out.alloc hsz2 (.cells #[.int .i64 ((N.sent : Int) + 1), .int .i64 fr, .int .i64 to, .slice q2 l.length e2] 72)).size; omega) ?_
                            intro v3 w3 hw3 hk3 hn3
                            have hbW : Below w1.heap.size w1 (w2.alloc (.cells #[.int .i64 ((N.sent : Int) + 1), .int .i64 fr, .int .i64 to, .slice q2 l.length e2] 72)) := HB2.out.alloc hsz2 _
                            have hT : ∀ (k : Nat) (c : Array Value) (T : TypeId), T ≠ 72 → w1.heap[k]? = some (.cells c T (0, 0)) → w3.heap[k]? = w1.heap[k]? := fun k c T hT hc => by
                              have hkl := lt_of_block hc
                              have e1 := hbW.block k hkl
                              have e2 := hbW.size
                              rw [hn3 k (by omega) (fun c' hc' => by rw [e1, hc] at hc'; simp at hc'; exact hT hc'.2), e1]
                            have hh3 := (hT R _ 68 (by decide) HH1.out).trans HH1.out
                            obtain ⟨g0, g1, g2, g3, g4, gz⟩ := net_cells hh3
                            obtain ⟨pv3, nv3, cv3, hv3⟩ : ∃ p n c, v3 = .slice p n c := by
                              obtain ⟨Ps, _, hr, _⟩ := hw3
                              rcases hr.2 with ⟨hv, _⟩ | ⟨g, cap, cur, hv, _⟩
                              · exact ⟨_, _, _, hv⟩
                              · exact ⟨_, _, _, hv⟩
                            subst hv3
                            have HW3 := Lib.hid hw3
                            have HK3 := Lib.hid hk3
                            have HT3 := Lib.hid hT
                            have HBW := Lib.hid hbW
                            have HH3 := Lib.hid hh3
                            clear hw3 hk3 hn3 hT hh3 hbW
                            refine hK.out _ _ (fun _ => ⟨g0, g1⟩) (fun hHeld => ?_)
                            replace hHeld := hHeld (by decide)
                            clear hK K
                            try simp only [Act.put, List.setIfInBounds_toArray, List.set_cons_zero, List.set_cons_succ, List.getElem_toArray, List.getElem_cons_zero, List.getElem_cons_succ]
                            refine AnyL.take (i := 16) (oi := _) (v := ?_) 30 rfl (by kernel_rfl) (by kernel_rfl) (by kernel_rfl) (by kernel_rfl) (by kernel_rfl) (fun _ _ _ h => h) (Or.inl ⟨by rfl, ?hy⟩) (by assumption) ?rest
                            case hy =>
                              intro w9 hSw
                              try dsimp only at hSw
                              try simp only [List.getElem_toArray, List.getElem_cons_zero, List.getElem_cons_succ]
                              go_simp
                              try with_reducible rfl
                            case rest =>
                              try simp only [Act.put, List.setIfInBounds_toArray, List.set_cons_zero, List.set_cons_succ, List.getElem_toArray, List.getElem_cons_zero, List.getElem_cons_succ]
                              refine AnyL.take (i := 17) (oi := _) (v := ?_) 30 rfl (by kernel_rfl) (by kernel_rfl) (by kernel_rfl) (by kernel_rfl) (by kernel_rfl) (fun _ _ _ h => h) (Or.inl ⟨by rfl, ?hy⟩) (by assumption) ?rest
                              case hy =>
                                intro w9 hSw
                                try dsimp only at hSw
                                try simp only [List.getElem_toArray, List.getElem_cons_zero, List.getElem_cons_succ]
                                go_simp
                                try with_reducible rfl
                              case rest =>
                                try simp only [Act.put, List.setIfInBounds_toArray, List.set_cons_zero, List.set_cons_succ, List.getElem_toArray, List.getElem_cons_zero, List.getElem_cons_succ]
                                refine AnyL.one (i := 18) (o := _) (by kernel_rfl) rfl (fun K hK => ?_)
                                try simp only [List.getElem_toArray, List.getElem_cons_zero, List.getElem_cons_succ]
                                go_simp
                                refine hK.out _ _ (fun h => absurd rfl h) (fun _ => ?_)
                                clear hK K
                                try simp only [Act.put, List.setIfInBounds_toArray, List.set_cons_zero, List.set_cons_succ, List.getElem_toArray, List.getElem_cons_zero, List.getElem_cons_succ]
                                refine AnyL.done (by kernel_rfl) ?_ _
                                go_wp2
                                go_ret
                                refine ⟨rfl, _, Net.put HH3.out (.inl (.inl hR.out)) ?_ HW3.out (HF1.out.same (fun k _ hk => .inl (.inl hk)) (fun k c _ hc => HT3.out k c 40 (by decide) hc)) (World.size_setCell _ _ _) (fun k hk => Below.heap_setCell _ _ _ _ hk) ?_, ?_, ?_⟩
                                · intro k hk
                                  have s1 := HBW.out.size
                                  have s2 := HK3.out.size
                                  rcases hk with (hk | hk) | hk
                                  · have := hF.out k hk; omega
                                  · omega
                                  · omega
                                · rw [heap_setCell_same _ _ _ _ _ _ HH3.out]
                                  rfl
                                · exact ((HK1.out.trans (Keeps.of_below HBW.out) (fun _ _ h => h) (F' := F)).trans HK3.out (fun _ _ h => h)).setCell _ _ (fun _ => hR.out)
                                · intro k hk hf
                                  have s1 := HBW.out.size
                                  rcases hf with (hf | hf) | hf
                                  · exact hf
                                  · omega
                                  · omega
end Go.Proofs.Ytaopnoaopcbkoaa
