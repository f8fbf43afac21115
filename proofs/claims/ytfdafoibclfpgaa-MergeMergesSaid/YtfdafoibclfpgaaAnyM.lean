/-
  A region that draws, walked with a condition on the world that need not stand behind the last operation.
-/
import Derived.Test.YtfdafoibclfpgaaHasA
import Derived.Deep.RegionHeld
namespace Go.Proofs.Ytfdafoibclfpgaa
open Go.ChangeShapes Go.WideShapes Go.ChangeAt Go.RowKit Go.Deep
set_option linter.unusedVariables false

section
variable {P : Program} {ops : Array Oper} {Q : Exit → Act → World → Prop} {md : Region.Mode} {S : World → Prop}
/-- Whatever is listed has what it waits for listed. -/
def closedB (md : Region.Mode) (ops : Array Oper) (ls : Array Bool) : Bool :=
  (List.range ops.size).all fun j => !(ls.getD j false) || match ops[j]? with
    | some o => o.after.toList.all fun e => !(Region.binds md e) || ls.getD e.on false
    | none => true
/-- z waits for i, step by step. -/
def waitsB (md : Region.Mode) (ops : Array Oper) : Nat → Nat → Nat → Bool
  | 0, _, _ => false
  | n + 1, z, i => match ops[z]? with
    | some o => o.after.toList.any fun e => Region.binds md e && (e.on == i || waitsB md ops n e.on i)
    | none => false
theorem closedB_at {ls : Array Bool} (h : closedB md ops ls = true) {j : Nat} {o : Oper} (ho : ops[j]? = some o) (hj : ls.getD j false = true) : ∀ e ∈ o.after, Region.binds md e = true → ls.getD e.on false = true := by
  intro e he hb
  have h1 := List.all_eq_true.1 h j (List.mem_range.2 (Array.getElem?_eq_some_iff.1 ho).1)
  simp only [ho, hj, Bool.not_true, Bool.false_or] at h1
  have h2 := List.all_eq_true.1 h1 e (Array.mem_toList_iff.2 he)
  simpa [hb] using h2
theorem closedB_of {ls : Array Bool} (h : ∀ (j : Nat) (o : Oper), ops[j]? = some o → ls.getD j false = true → ∀ e ∈ o.after, Region.binds md e = true → ls.getD e.on false = true) : closedB md ops ls = true := by
  refine List.all_eq_true.2 fun j hj => ?_
  cases hl : ls.getD j false with
  | false => rfl
  | true =>
    simp only [Bool.not_true, Bool.false_or]
    cases ho : ops[j]? with
    | none => rfl
    | some o =>
      refine List.all_eq_true.2 fun e he => ?_
      cases hb : Region.binds md e with
      | false => rfl
      | true => simpa using h j o ho hl e (Array.mem_toList_iff.1 he) hb
theorem waitsB_listed {ls : Array Bool} (hc : closedB md ops ls = true) (i : Nat) : ∀ (n z : Nat), waitsB md ops n z i = true → (∀ o, ops[z]? = some o → ∀ e ∈ o.after, Region.binds md e = true → ls.getD e.on false = true) → ls.getD i false = true
  | 0, _, h, _ => by cases h
  | n + 1, z, h, hz => by
    unfold waitsB at h
    cases ho : ops[z]? with
    | none => rw [ho] at h; cases h
    | some o =>
      rw [ho] at h
      obtain ⟨e, he, h2⟩ := List.any_eq_true.1 h
      rw [Bool.and_eq_true, Bool.or_eq_true] at h2
      have hl := hz o ho e (Array.mem_toList_iff.1 he) h2.1
      rcases h2.2 with h3 | h3
      · rw [beq_iff_eq] at h3; rw [← h3]; exact hl
      · exact waitsB_listed hc i n e.on h3 (fun o' ho' => closedB_at hc ho' hl)
theorem listed_set {ls : Array Bool} {k j : Nat} (h : ls.getD j false = true) : (ls.setIfInBounds k true).getD j false = true := getD_set_true h
theorem closedB_set {ls : Array Bool} (hc : closedB md ops ls = true) {k : Nat} (hk : k ∈ Region.ready md ops ls) : closedB md ops (ls.setIfInBounds k true) = true := by
  refine closedB_of fun j o ho hj e he hb => ?_
  obtain ⟨_, ok, hok, hall⟩ := mem_ready.1 hk
  by_cases hkj : k = j
  · subst hkj
    rw [hok] at ho
    cases ho
    exact listed_set (hall e he hb)
  · rw [getD_set_ne false hkj] at hj
    exact listed_set (closedB_at hc ho hj e he hb)
/-- Whatever comes up; S stands behind each operation but number z. -/
def AnyL (P : Program) (md : Region.Mode) (ops : Array Oper) (Q : Exit → Act → World → Prop) (S : World → Prop) (z : Nat) : Nat → Array Bool → Act → World → Prop
  | 0, ls, a, w => Region.ready md ops ls = [] ∧ Q .normal a w
  | n + 1, ls, a, w => (Region.ready md ops ls = [] → Q .normal a w) ∧
    ∀ i ∈ Region.ready md ops ls, wpOp P ops Q i (fun a' w' => (i ≠ z → S w') ∧ AnyL P md ops Q S z n (ls.setIfInBounds i true) a' w') a w
theorem AnyL.any {z : Nat} : ∀ (n : Nat) (ls : Array Bool) (a : Act) (w : World), AnyL P md ops Q S z n ls a w → wpAny P md ops Q n ls a w
  | 0, _, _, _, h => h
  | n + 1, _, _, _, h => ⟨h.1, fun i hi => wpOp_mono (fun a' w' h' => AnyL.any n _ a' w' h'.2) (h.2 i hi)⟩
theorem AnyL.step {z i : Nat} {oi : Oper} {v : Value} (hi : ops[i]? = some oi) (hsel : ∀ (j : Nat) (o : Oper) cs b, ops[j]? = some o → o.op ≠ .select cs b)
    (hQ : ∀ c a w, Q (.panic c) (a.put oi.dst v) w → Q (.panic c) a w) (m : Nat) (hw : waitsB md ops m z i = true) (n : Nat) : ∀ (ls : Array Bool) (a : Act) (w : World), closedB md ops ls = true →
      (∀ j oj, ops[j]? = some oj → j ≠ i → ls.getD j true = false → (∀ e ∈ oj.after, Region.binds md e = true → e.on ≠ i) → oi.apart ops oj = true) →
      i ∈ Region.ready md ops ls → YieldsIf P ops S oi v a → S w →
      AnyL P md ops Q S z n (ls.setIfInBounds i true) (a.put oi.dst v) w → AnyL P md ops Q S z (n + 1) ls a w := by
  induction n with
  | zero =>
    intro ls a w hcl hfr hir hyi hSw hrest
    refine ⟨fun e => absurd hir (by rw [e]; exact List.not_mem_nil), fun k hk => ?_⟩
    rcases Decidable.em (k = i) with e | e
    · subst e; exact hyi.wpOp hi hSw ⟨fun _ => hSw, hrest⟩
    · have hmem := ready_mono hk e
      rw [hrest.1] at hmem
      exact absurd hmem List.not_mem_nil
  | succ n IH =>
    intro ls a w hcl hfr hir hyi hSw hrest
    refine ⟨fun e => absurd hir (by rw [e]; exact List.not_mem_nil), fun k hk => ?_⟩
    rcases Decidable.em (k = i) with e | e
    · subst e; exact hyi.wpOp hi hSw ⟨fun _ => hSw, hrest⟩
    · have hstep := hrest.2 k (ready_mono hk e)
      obtain ⟨hunl, ok, hok, hafter⟩ := mem_ready.1 hk
      have hil := (mem_ready.1 hir).1
      have hclash : ls.getD i false = true → False := fun t => by
        by_cases hlt : i < ls.size
        · have e1 : ls.getD i true = ls.getD i false := by simp [hlt]
          rw [e1, t] at hil; cases hil
        · have : ls[i]? = none := Array.getElem?_eq_none (by omega)
          simp [this] at t
      have hno : ∀ e ∈ ok.after, Region.binds md e = true → e.on ≠ i := by
        intro d hd hb heq
        have t := hafter d hd hb
        rw [heq] at t
        exact hclash t
      have hkz : k ≠ z := fun hkz => hclash (waitsB_listed hcl i m z hw (fun o ho => by
        subst hkz
        rw [hok] at ho
        cases ho
        exact hafter))
      have hboth := wpOp_putIf hok (hfr k ok hok e hunl hno) (fun cs b => hsel i oi cs b hi) (fun cs b => hsel k ok cs b hok) hQ hyi hstep
      refine wpOp_mono (fun a' w' ⟨hy', hL, hrec⟩ => ?_) hboth
      have hir' : i ∈ Region.ready md ops (ls.setIfInBounds k true) := ready_mono hir (fun h => e h.symm)
      have hSw' : S w' := hL hkz
      refine ⟨fun _ => hSw', IH _ a' w' (closedB_set hcl hk) (fun j oj hj hji hun hno' => hfr j oj hj hji (by
        by_cases hkj : k = j
        · subst hkj; exact hunl
        · rw [getD_set_ne true hkj] at hun; exact hun) hno') hir' hy' hSw' ?_⟩
      rw [Array.setIfInBounds_comm _ _ e]
      exact hrec
theorem AnyL.take {z i : Nat} {oi : Oper} {v : Value} {n : Nat} {ls : Array Bool} {a : Act} {w : World} (m : Nat) (hi : ops[i]? = some oi) (hw : waitsB md ops m z i = true) (hc : closedB md ops ls = true)
    (hs : Region.noSelect ops = true) (hf : Region.free md ops ls i = true) (hr : (Region.ready md ops ls).contains i = true)
    (hQ : ∀ c a w, Q (.panic c) (a.put oi.dst v) w → Q (.panic c) a w) (hy : YieldsIf P ops S oi v a) (hS : S w)
    (h : AnyL P md ops Q S z n (ls.setIfInBounds i true) (a.put oi.dst v) w) : AnyL P md ops Q S z (n + 1) ls a w :=
  AnyL.step hi (Region.noSelect_spec hs) hQ m hw n ls a w hc (Region.free_spec hi hf) (by simpa using hr) hy hS h
/-- One operation alone may come up. -/
theorem AnyL.one {z i : Nat} {o : Oper} {n : Nat} {ls : Array Bool} {a : Act} {w : World} (hr : Region.ready md ops ls = [i]) (ho : ops[i]? = some o)
    (h : ∀ K' : Act → World → Prop, Shut (∀ a w, (i ≠ z → S w) → ((i ≠ z → S w) → AnyL P md ops Q S z n (ls.setIfInBounds i true) a w) → K' a w) → if Region.wanted o (yielded ops a.tmps) = true then Oper.wp P o a w K' Q else K' (a.put o.dst undef) w) :
    AnyL P md ops Q S z (n + 1) ls a w :=
  ⟨fun e => (by rw [hr] at e; cases e), fun j hj => by
    rw [hr] at hj
    obtain rfl := List.mem_singleton.1 hj
    exact wpOp_step ho (fun K' hK => h K' (fun a w hS hL => hK a w ⟨hS, hL hS⟩))⟩
theorem AnyL.done {z : Nat} {ls : Array Bool} {a : Act} {w : World} (hr : Region.ready md ops ls = []) (h : Q .normal a w) : ∀ n, AnyL P md ops Q S z n ls a w
  | 0 => ⟨hr, h⟩
  | _ + 1 => ⟨fun _ => h, by rw [hr]; simp⟩
theorem AnyL.begin {id : Nat} {a : Act} {w : World} (z : Nat) (hm : P.follows .mixedOrders = true) (hS : S w.drew)
    (h : S w.drew → AnyL P .any ops Q S z ops.size (Array.replicate ops.size false) a w.drew) : (Code.region id ops true).wp P Q a w :=
  wp_region_any hm (AnyL.any _ _ _ _ (h hS))
end
end Go.Proofs.Ytfdafoibclfpgaa
