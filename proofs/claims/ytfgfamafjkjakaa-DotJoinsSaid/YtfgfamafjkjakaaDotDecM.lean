/-
  How a set of dots is read from bytes: plain mathematics; a reader while other blocks are written.
-/
import Derived.Test.YtfgfamafjkjakaaDotEnc
import Derived.Test.YtfgfamafjkjakaaReader2
import Derived.Laws.ResultCell
namespace Go.Proofs.Ytfgfamafjkjakaa
open Go.ChangeShapes Go.WideShapes Go.ChangeAt Go.RowKit Go.Deep
set_option linter.unusedVariables false
set_option linter.unusedSimpArgs false
theorem rI_most (l : List UInt8) (at_ : Nat) (f : Bool) (most : Int) (hm : 0 ≤ most) : ((rI l at_ f most).1 : Int) ≤ most := by
  unfold rI
  split
  · exact hm
  · rename_i h
    simp only [not_or] at h
    simp only
    omega
/-- The steps: whether they go, the numbers, where it stands. -/
def rStep (l : List UInt8) : Nat → Nat → Bool → Nat → Nat → List Nat → Bool × List Nat × Nat × Bool
  | 0, at_, f, last, least, acc => (true, acc, at_, f)
  | c + 1, at_, f, last, least, acc =>
    if (rI l at_ f 1099511627776).1 < least ∨ 1099511627776 < last + (rI l at_ f 1099511627776).1 then (false, [], (rI l at_ f 1099511627776).2.1, (rI l at_ f 1099511627776).2.2)
    else rStep l c (rI l at_ f 1099511627776).2.1 (rI l at_ f 1099511627776).2.2 (last + (rI l at_ f 1099511627776).1) 1 (acc ++ [last + (rI l at_ f 1099511627776).1])
theorem rStep_bad {l : List UInt8} {c at_ : Nat} {f : Bool} {last least : Nat} {acc : List Nat} {x a1 : Nat} {f1 : Bool} (hr : rI l at_ f 1099511627776 = (x, a1, f1)) (h : x < least ∨ 1099511627776 < last + x) : rStep l (c + 1) at_ f last least acc = (false, [], a1, f1) := by
  unfold rStep
  rw [hr]
  exact if_pos h
theorem rStep_good {l : List UInt8} {c at_ : Nat} {f : Bool} {last least : Nat} {acc : List Nat} {x a1 : Nat} {f1 : Bool} (hr : rI l at_ f 1099511627776 = (x, a1, f1)) (h : ¬ (x < least ∨ 1099511627776 < last + x)) : rStep l (c + 1) at_ f last least acc = rStep l c a1 f1 (last + x) 1 (acc ++ [last + x]) := by
  conv => lhs; unfold rStep
  rw [hr]
  exact if_neg h
/-- A device's numbers. -/
def rNum (l : List UInt8) (at_ : Nat) (f : Bool) : (Nm × Bool) × Nat × Bool :=
  let u := rI l at_ f 1099511627776
  let n := rI l u.2.1 u.2.2 4096
  let s := rStep l n.1 n.2.1 n.2.2 u.1 2 []
  if s.1 then ((⟨u.1, s.2.1⟩, live ⟨u.1, s.2.1⟩ && !s.2.2.2), s.2.2.1, s.2.2.2) else ((Nm.zero, false), s.2.2.1, s.2.2.2)
theorem rStep_form (l : List UInt8) (u : Nat) : ∀ (c at_ : Nat) (f : Bool) (last least : Nat) (acc : List Nat), rising acc → (∀ x ∈ acc, u + 1 < x ∧ x ≤ last) → u ≤ last → last ≤ 1099511627776 → (acc = [] → least = 2) → 1 ≤ least →
    (rStep l c at_ f last least acc).1 = true → rising (rStep l c at_ f last least acc).2.1 ∧ (∀ x ∈ (rStep l c at_ f last least acc).2.1, u + 1 < x ∧ x ≤ 1099511627776) ∧ (rStep l c at_ f last least acc).2.1.length ≤ acc.length + c
  | 0, at_, f, last, least, acc, h1, h2, _, h3, _, _, _ => ⟨h1, fun x hx => ⟨(h2 x hx).1, Nat.le_trans (h2 x hx).2 h3⟩, Nat.le_refl _⟩
  | c + 1, at_, f, last, least, acc, h1, h2, hul, h3, h4, h5, hok => by
    obtain ⟨x, hx⟩ : ∃ x, rI l at_ f 1099511627776 = x := ⟨_, rfl⟩
    obtain ⟨x, a1, f1⟩ := x
    by_cases hb : x < least ∨ 1099511627776 < last + x
    · rw [rStep_bad hx hb] at hok
      cases hok
    · rw [rStep_good hx hb] at hok ⊢
      have := rStep_form l u c a1 f1 (last + x) 1 (acc ++ [last + x])
        (rising_append h1 ⟨(fun y h => nomatch h), trivial⟩ (fun a ha b hb' => by
          obtain rfl := List.mem_singleton.1 hb'
          have := (h2 a ha).2; omega))
        (fun y hy => by
          rcases List.mem_append.1 hy with hy | hy
          · have := h2 y hy; omega
          · obtain rfl := List.mem_singleton.1 hy
            refine ⟨?_, Nat.le_refl _⟩
            by_cases ha : acc = []
            · have := h4 ha; omega
            · obtain ⟨z, hz⟩ := List.exists_mem_of_ne_nil _ ha
              have := h2 z hz; omega)
        (by omega) (by omega) (fun e => by simp at e) (Nat.le_refl _) hok
      refine ⟨this.1, this.2.1, ?_⟩
      have h := this.2.2
      rw [List.length_append, List.length_singleton] at h
      omega
theorem rNum_ok {l : List UInt8} {at_ : Nat} {f : Bool} {q : Nm} {a1 : Nat} {f1 : Bool} (h : rNum l at_ f = ((q, true), a1, f1)) : q.Ok ∧ q.more.length ≤ 4096 ∧ live q = true ∧ f1 = false := by
  have hu := rI_most l at_ f 1099511627776 (by decide)
  unfold rNum at h
  simp only at h
  generalize rI l at_ f 1099511627776 = u at *
  have hn := rI_most l u.2.1 u.2.2 4096 (by decide)
  generalize rI l u.2.1 u.2.2 4096 = n at *
  have hf := rStep_form l u.1 n.1 n.2.1 n.2.2 u.1 2 [] trivial (fun x hx => nomatch hx) (Nat.le_refl _) (by omega) (fun _ => rfl) (by omega)
  generalize rStep l n.1 n.2.1 n.2.2 u.1 2 [] = s at *
  split at h
  · rename_i hs
    obtain ⟨k1, k2, k3⟩ := hf hs
    simp only [Prod.mk.injEq] at h
    obtain ⟨⟨rfl, h2⟩, rfl, rfl⟩ := h
    simp only [Bool.and_eq_true, Bool.not_eq_true'] at h2
    simp only [List.length_nil, Nat.zero_add] at k3
    exact ⟨⟨k1, fun x hx => (k2 x hx).1, by show u.1 ≤ _; omega, fun x hx => (k2 x hx).2⟩, by show s.2.1.length ≤ _; omega, h2.1, h2.2⟩
  · simp only [Prod.mk.injEq] at h
    exact absurd h.1.2 Bool.false_ne_true
/-- A reader stays while no block up to its own is written. -/
theorem Rd.under {w w' : World} {B R : Nat} {l : List UInt8} {at_ : Nat} {f : Bool} (h : Rd w B R l at_ f) (hs : w.heap.size ≤ w'.heap.size) (hb : ∀ k, k ≤ R → w'.heap[k]? = w.heap[k]?) : Rd w' B R l at_ f := by
  obtain ⟨sv, hh, h1, h2, h3, h4⟩ := h
  refine ⟨sv, (hb R (Nat.le_refl _)).trans hh, h1, h2, ?_, h4⟩
  rcases h3 with h3 | ⟨b, o, cap, rfl, k1, k2, k3, kc⟩
  · exact .inl h3
  · exact .inr ⟨b, o, cap, rfl, k1, k2, Nat.lt_of_lt_of_le k3 hs, fun j hj => (World.cell?_of_block (hb b (Nat.le_of_lt (h4 b rfl).2))).trans (kc j hj)⟩
section
variable {P : Program}
theorem results_cell_row_tmp {fn : Func} (p u : Tmp) {ty : TypeId} (h : fn.results = #[.cell p ty, .tmp u]) (tmps : Array Value) (w : World) (g : Nat) (t : TypeId) (cs : Array Value) (fr : Nat × Nat) (d : TypeDesc) (v : Value)
    (hv : tmps.getD u undef = v) (hp : tmps.getD p undef = .pointer (some ⟨g, 0, none⟩)) (hg : w.heap[g]? = some (.cells cs t fr))
    (hu : P.underlying ty = some d) (hd : (match d with | .struct _ | .array _ _ => true | _ => false) = true) (hi : (P.info? ty).map (·.size) = some cs.size) :
    (results fn tmps).run P w = .ok (.tuple #[.agg cs, v]) w := by
  have hp' : tmps[p]?.getD undef = .pointer (some ⟨g, 0, none⟩) := by simpa using hp
  rw [results_cell_tmp h, hv]
  simp [hp', asAddr, run_loadVar_row w g t ty cs fr d hg hu hd hi, Result.andThen]
end
end Go.Proofs.Ytfgfamafjkjakaa
