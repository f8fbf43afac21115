/-
  Bytes appended, wherever they point. No function of the project is named here.
-/
import Derived.Test.YtfdafoibclfpgaaSlices
namespace Go.Proofs.Ytfdafoibclfpgaa
open Go.ChangeShapes Go.WideShapes Go.ChangeAt Go.RowKit Go.Deep
set_option linter.unusedVariables false

theorem info_u8 : (Try.prog.info? 5).map (fun i => (i.zero, i.size, i.bytes)) = some (some (.int .u8 0), 1, 1) := by kernel_rfl
theorem Own.below {w w' : World} {B : Nat} {e : TypeId} {v : Value} {l : List UInt8} (h : Own w B e v l) (hb : Below w.heap.size w w') : Own w' B e v l := by
  refine ⟨h.1, h.2.imp id fun ⟨g, cap, cur, hv, hg, hh, r⟩ => ⟨g, cap, cur, hv, hg, (hb.block g (lt_of_block hh)).trans hh, r⟩⟩
section
variable {P : Program}
/-- Whatever bytes are appended to a row of the call's own. -/
theorem wpList_append_hasA {w : World} {ops : Array Oper} {rest : List Oper} {o : Oper} {a : Act} {Q : Exit → Act → World → Prop} (hgd : o.guard = none) (s x : Operand) (t : TypeId)
    (ho : o.op = .call { callee := .builtin .append, args := #[s, x], argTypes := #[t, t] })
    (base : Nat) (e : TypeId) (ht : P.underlying t = some (.slice e)) (hinfo : (P.info? e).map (fun i => (i.zero, i.size, i.bytes)) = some (some (.int .u8 0), 1, 1))
    (v : Value) (xs : List UInt8) (hs : a.eval s = v) (hown : Own w base e v xs)
    (y : Value) (l zs : List UInt8) (hx : a.eval x = y) (hy : HasA w y l) (hzs : zs = xs ++ l) (hlen : xs.length + l.length ≤ 140737488355328) (hbase : base ≤ w.heap.size) (w0 : World) (hb : Below base w0 w)
    (h : ∀ v' w', Own w' base e v' zs → Below base w0 w' → wpList P ops Q rest (a.put o.dst v') w') : wpList P ops Q (o :: rest) a w := by
  by_cases h0 : 0 < l.length
  · obtain ⟨p, cap, b, off, rfl, k1, k2, k3, kc⟩ := hy
    obtain ⟨rfl, hb'⟩ := k3 h0
    exact wpList_append_has hgd s x t ho base e ht hinfo v xs hs hown _ l zs hx (.inr ⟨b, off, cap, rfl, k1, k2, hb', kc⟩) hzs hlen hbase w0 hb h
  · obtain rfl : l = [] := List.eq_nil_of_length_eq_zero (by omega)
    obtain ⟨p, cap, b, off, rfl, k1, k2, k3, kc⟩ := hy
    obtain ⟨i, hi, hz, hz1, hz2⟩ := info_parts hinfo
    rw [List.append_nil] at hzs
    subst hzs
    cases p with
    | none =>
      have hf : ∃ q m c, v = .slice q m c ∧ m ≤ c := by
        rcases hown.2 with ⟨hv, _⟩ | ⟨g, cap, cur, hv, _, _, h1, _⟩
        · exact ⟨none, 0, 0, hv, Nat.le_refl _⟩
        · exact ⟨_, _, _, hv, h1⟩
      obtain ⟨q, m, c, rfl, hmc⟩ := hf
      have hr := run_append_nothing (P := P) w t t o.type e i ht hi q m c hmc (.slice none 0 cap) (by rw [hz1]; exact Src.ofNil w ht cap)
      refine wpList_plain hgd fun K hK => ?_
      unfold Oper.wp
      simp only [List.length_nil] at hx
      simp [execOp, ho, resolve, invoke, builtin, hs, hx, hr, Result.andThen]
      exact hK _ _ (h _ w hown hb)
    | some ad =>
      refine wpList_append_own w hgd s x t ho base e i (.int .u8 0) 1 1 ht hi hz hz1 hz2 rfl (by decide) v zs.length _ hs hown ad 0 cap [] hx rfl (fun j u hu => by simp at hu) (fun u hu => by simp at hu)
        (by unfold maxLen; simp at hlen; omega) (by simp at hlen; omega) hbase fun v' w' h1 h2 _ => h v' w' ?_ (hb.grown h2 hbase (fun k hk => (hown.lt k hk).1))
      unfold Own
      rw [List.append_nil, Nat.add_zero] at h1
      exact h1
end

end Go.Proofs.Ytfdafoibclfpgaa
