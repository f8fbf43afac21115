/-
  The statement MergeParts, walked: a sorted list that is shared out is merged into itself.
-/
import Derived.Test.YtfdafoibclfpgaaMKeepsW
namespace Go.Proofs.Ytfdafoibclfpgaa
open Go.ChangeShapes Go.WideShapes Go.ChangeAt Go.RowKit Go.Deep
set_option linter.unusedVariables false
set_option linter.unusedSimpArgs false
section
variable {P : Program} {α : Type}
/-- Elements appended, at least one, as a step of a region that draws; where the new row lies. -/
theorem step_append_at {w : World} {ops : Array Oper} {o : Oper} {a : Act} {K : Act → World → Prop} {Q : Exit → Act → World → Prop} {F : Prop} (hgd : o.guard = none) (s x : Operand) (t : TypeId)
    (ho : o.op = .call { callee := .builtin .append, args := #[s, x], argTypes := #[t, t] })
    (base : Nat) (e : TypeId) (E : Enc α) (z : Value) (by_ : Nat) (ht : P.underlying t = some (.slice e)) (hinfo : (P.info? e).map (fun i => (i.zero, i.size, i.bytes)) = some (some z, E.k, by_)) (hzk : z.cells.size = E.k) (h8 : by_ ≤ 100)
    (v : Value) (L : List α) (hs : a.eval s = v) (hown : OwnK w base e E v L)
    (y : Value) (M : List α) (hx : a.eval x = y) (hy : HasK w E y M) (hM : 0 < M.length) (hlen : L.length + M.length ≤ 1000000000) (hbase : base ≤ w.heap.size) (w0 : World) (hb : Below base w0 w)
    (hK : ∀ v' w', OwnK w' base e E v' (L ++ M) → Below base w0 w' → w.grownBy w' v.ownBlock → (v'.ownBlock = v.ownBlock ∨ v'.ownBlock = some w.heap.size) → K (a.put o.dst v') w') :
    if Region.wanted o (yielded ops a.tmps) = true then Oper.wp P o a w K Q else F := by
  have hw : Region.wanted o (yielded ops a.tmps) = true := by simp [Region.wanted, hgd]
  rw [if_pos hw]
  obtain ⟨i, hi, hz, hz1, hz2⟩ := k_parts hinfo
  obtain ⟨p, cap, b, off, rfl, k1, k2, k3, kc⟩ := hy
  obtain ⟨rfl, hbl⟩ := k3 hM
  obtain ⟨v', w', hr, h2, h3, h4, h5⟩ := run_append_own_at (P := P) w base t o.type e i z E.k by_ ht hi hz hz1 hz2 hzk E.pos v L.length _ hown ⟨b, off, none⟩ M.length cap (flatK E M) (flatK_len E M) (HasK.news kc) (flatK_one E M)
    (by unfold maxLen; omega) (by have := Nat.mul_le_mul_left (L.length + M.length) h8; omega) hbase
  unfold Oper.wp execOp
  simp only [ho, resolve, invoke, builtin, Sem.run_bind, Sem.run_pure, Result.andThen_ok, List.map_toArray, List.map_cons, List.map_nil, hs, hx, hr]
  refine hK v' w' ?_ (hb.grown h3 hbase (fun k hk => (World.ownsRow.lt hown k hk).1)) h3 h5
  unfold OwnK
  rw [List.length_append, flatK_append]
  exact h2
end
theorem and3 (z : Int) : ∃ k : Nat, k < 4 ∧ bits .and .i64 z 3 = (k : Int) := by
  refine ⟨(BitVec.ofInt 64 z).toNat % 4, Nat.mod_lt _ (by decide), ?_⟩
  have h : (BitVec.ofInt 64 z &&& BitVec.ofInt 64 3).toNat = (BitVec.ofInt 64 z).toNat % 4 := by
    rw [BitVec.toNat_and]
    exact Nat.and_two_pow_sub_one_eq_mod _ 2
  show IntKind.i64.wrap ((BitVec.ofInt 64 z &&& BitVec.ofInt 64 3).toNat : Int) = _
  rw [h, IntKind.wrap_i64]
  omega
theorem OwnK.none_nil {w : World} {B : Nat} {e : TypeId} {v : Value} {l : List Itm} (h : OwnK w B e encI v l) (hn : v.ownBlock = none) (w' : World) : OwnK w' B e encI v l := by
  rcases h.2 with ⟨rfl, hz⟩ | ⟨g, cap, cur, rfl, _⟩
  · exact ⟨h.1, .inl ⟨rfl, hz⟩⟩
  · simp [Value.ownBlock] at hn
/-- Four rows in a block, each the call's own. -/
structure P4 (W : World) (A C : Nat) (vs : Nat → Value) (ps : Nat → List Itm) : Prop where
  blk : W.heap[A]? = some (.cells #[vs 0, vs 1, vs 2, vs 3] 45 (0, 0))
  own : ∀ k, k < 4 → OwnK W C 29 encI (vs k) (ps k)
  off : ∀ i j, i < 4 → j < 4 → i ≠ j → (vs i).ownBlock = (vs j).ownBlock → (vs i).ownBlock = none
def updF {β : Type} (f : Nat → β) (k : Nat) (x : β) (i : Nat) : β := if i = k then x else f i
theorem updF_same {β : Type} (f : Nat → β) (k : Nat) (x : β) : updF f k x k = x := if_pos rfl
theorem updF_other {β : Type} (f : Nat → β) {k i : Nat} (x : β) (h : i ≠ k) : updF f k x i = f i := if_neg h
theorem P4.cell {W : World} {A C : Nat} {vs : Nat → Value} {ps : Nat → List Itm} (h : P4 W A C vs ps) (k : Nat) (hk : k < 4) : W.cell? ⟨A, k, none⟩ = some (vs k) := by
  simp only [World.cell?, h.blk]
  rcases (by omega : k = 0 ∨ k = 1 ∨ k = 2 ∨ k = 3) with rfl | rfl | rfl | rfl <;> rfl
theorem P4.frozen {W : World} {A C : Nat} {vs : Nat → Value} {ps : Nat → List Itm} (h : P4 W A C vs ps) (k : Nat) : W.frozen? ⟨A, k, none⟩ = false := by
  simp [World.frozen?, h.blk]
theorem P4.put {W U U' : World} {A C : Nat} {vs : Nat → Value} {ps : Nat → List Itm} (h : P4 W A C vs ps) (hA : A < C) (hb : Below W.heap.size W U) {k : Nat} (hk : k < 4) {v' : Value} {x : Itm}
    (ho : OwnK U' C 29 encI v' (ps k ++ [x])) (hg : U.grownBy U' (vs k).ownBlock) (hat : v'.ownBlock = (vs k).ownBlock ∨ v'.ownBlock = some U.heap.size) : P4 (U'.setCell ⟨A, k, none⟩ v') A C (updF vs k v') (updF ps k (ps k ++ [x])) := by
  have hAk : (vs k).ownBlock ≠ some A := fun e => by have := ((h.own k hk).lt A e).1; omega
  have hAl := lt_of_block h.blk
  have hblkU : U'.heap[A]? = some (.cells #[vs 0, vs 1, vs 2, vs 3] 45 (0, 0)) := (hg.block A (Nat.lt_of_lt_of_le hAl hb.size) (fun e => hAk e.symm)).trans ((hb.block A hAl).trans h.blk)
  have hset : ∀ {v : Value} {l : List Itm}, OwnK U' C 29 encI v l → OwnK (U'.setCell ⟨A, k, none⟩ v') C 29 encI v l := fun {v l} ho => ho.same fun g hgv => by
    have := (ho.lt g hgv).1
    exact Below.heap_setCell _ _ _ _ (fun e => by have e' : g = A := e; omega)
  refine ⟨?_, fun j hj => ?_, fun i j hi hj hij e => ?_⟩
  · rw [heap_setCell_same _ _ _ _ _ _ hblkU]
    congr 2
    rcases (by omega : k = 0 ∨ k = 1 ∨ k = 2 ∨ k = 3) with rfl | rfl | rfl | rfl <;> rfl
  · by_cases hjk : j = k
    · subst hjk
      rw [updF_same, updF_same]
      exact hset ho
    · rw [updF_other _ _ hjk, updF_other _ _ hjk]
      by_cases hn : (vs j).ownBlock = none
      · exact (h.own j hj).none_nil hn _
      · exact hset (((h.own j hj).below hb).kept hg (fun e => hn (h.off j k hj hk hjk e)))
  · have hlt : ∀ m, m < 4 → ∀ g, (vs m).ownBlock = some g → g < U.heap.size := fun m hm g e => Nat.lt_of_lt_of_le ((h.own m hm).lt g e).2 hb.size
    by_cases hik : i = k
    · subst hik
      rw [updF_same] at e ⊢
      rw [updF_other _ _ (fun e => hij e.symm)] at e
      rcases hat with hat | hat
      · rw [hat] at e ⊢
        exact h.off i j hi hj hij e
      · rw [hat] at e
        have := hlt j hj _ e.symm
        omega
    · rw [updF_other _ _ hik] at e ⊢
      by_cases hjk : j = k
      · subst hjk
        rw [updF_same] at e
        rcases hat with hat | hat
        · rw [hat] at e
          exact h.off i j hi hj hij e
        · rw [hat] at e
          have := hlt i hi _ e
          omega
      · rw [updF_other _ _ hjk] at e
        exact h.off i j hi hj hij e
/-- The first i items, shared out. -/
structure Share (l : List Itm) (i : Nat) (ps : Nat → List Itm) : Prop where
  sub : ∀ k, k < 4 → (ps k).Sublist (l.take i)
  all : ∀ x ∈ l.take i, ∃ k, k < 4 ∧ x ∈ ps k
theorem Share.start (l : List Itm) : Share l 0 (fun _ => []) := ⟨fun _ _ => List.nil_sublist _, fun x hx => by simp at hx⟩
theorem Share.put {l : List Itm} {i : Nat} {ps : Nat → List Itm} (h : Share l i ps) (hi : i < l.length) {k : Nat} (hk : k < 4) {x : Itm} (hx : l[i] = x) : Share l (i + 1) (updF ps k (ps k ++ [x])) := by
  have ht : l.take (i + 1) = l.take i ++ [x] := by rw [List.take_succ_eq_append_getElem hi, hx]
  refine ⟨fun j hj => ?_, fun y hy => ?_⟩
  · rw [ht]
    by_cases hjk : j = k
    · subst hjk
      rw [updF_same]
      exact (h.sub j hj).append (List.Sublist.refl _)
    · rw [updF_other _ _ hjk]
      exact (h.sub j hj).trans (List.sublist_append_left _ _)
  · rw [ht] at hy
    rcases List.mem_append.1 hy with hy | hy
    · obtain ⟨j, hj, hyj⟩ := h.all y hy
      by_cases hjk : j = k
      · subst hjk
        exact ⟨j, hj, by rw [updF_same]; exact List.mem_append_left _ hyj⟩
      · exact ⟨j, hj, by rw [updF_other _ _ hjk]; exact hyj⟩
    · obtain rfl := List.mem_singleton.1 hy
      exact ⟨k, hk, by rw [updF_same]; exact List.mem_append_right _ (List.mem_singleton.2 rfl)⟩
theorem Share.merged {l : List Itm} {ps : Nat → List Itm} (h : Share l l.length ps) (hl : SortedI l) {a b c d : Nat} (ha : a < 4) (hb : b < 4) (hc : c < 4) (hd : d < 4) (hall : ∀ k, k < 4 → k = a ∨ k = b ∨ k = c ∨ k = d) :
    mergeCode [ps a, ps b, ps c, ps d] = 0 ∧ ∀ m, mergedOf [ps a, ps b, ps c, ps d] m → m = l := by
  have hs : ∀ k, k < 4 → sortedB (ps k) = true := fun k hk => by
    have := h.sub k hk
    rw [List.take_length] at this
    exact (sortedB_iff _).2 (List.Pairwise.sublist this hl)
  have hA : [ps a, ps b, ps c, ps d].all sortedB = true := by simp [hs a ha, hs b hb, hs c hc, hs d hd]
  refine ⟨by unfold mergeCode; rw [hA]; rfl, fun m hm => (hm.1 hA).ext (Merged.one hl) fun k s => ?_⟩
  rw [show ([l] : List (List Itm)).flatten = l by simp]
  refine at_mem hl (fun x => ?_) k s
  rw [List.mem_flatten]
  constructor
  · rintro ⟨q, hq, hx⟩
    simp only [List.mem_cons, List.not_mem_nil, or_false] at hq
    have hk : ∃ k, k < 4 ∧ q = ps k := by
      rcases hq with rfl | rfl | rfl | rfl
      · exact ⟨a, ha, rfl⟩
      · exact ⟨b, hb, rfl⟩
      · exact ⟨c, hc, rfl⟩
      · exact ⟨d, hd, rfl⟩
    obtain ⟨k, hk, rfl⟩ := hk
    have := (h.sub k hk).subset hx
    rw [List.take_length] at this
    exact this
  · intro hx
    obtain ⟨k, hk, hxk⟩ := h.all x (by rw [List.take_length]; exact hx)
    refine ⟨ps k, ?_, hxk⟩
    rcases hall k hk with rfl | rfl | rfl | rfl <;> simp
theorem four_lists {w : World} {g : Nat} {T : TypeId} {v0 v1 v2 v3 : Value} {l0 l1 l2 l3 : List Itm} (h : w.heap[g]? = some (.cells #[v0, v1, v2, v3] T (0, 0))) (h0 : HasK w encI v0 l0) (h1 : HasK w encI v1 l1) (h2 : HasK w encI v2 l2) (h3 : HasK w encI v3 l3) : HasI w (.slice (some ⟨g, 0, none⟩) 4 4) [l0, l1, l2, l3] := by
  refine ⟨_, 4, g, 0, rfl, Nat.le_refl _, by unfold maxLen; omega, fun _ => ⟨rfl, lt_of_block h⟩, fun j hj => ?_⟩
  rcases (by simp at hj; omega : j = 0 ∨ j = 1 ∨ j = 2 ∨ j = 3) with rfl | rfl | rfl | rfl
  · exact ⟨v0, by simp [World.cell?, h], h0⟩
  · exact ⟨v1, by simp [World.cell?, h], h1⟩
  · exact ⟨v2, by simp [World.cell?, h], h2⟩
  · exact ⟨v3, by simp [World.cell?, h], h3⟩
end Go.Proofs.Ytfdafoibclfpgaa
