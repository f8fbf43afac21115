/-
  Bytes appended to a row of the call's own, with what the append left alone and where the new row lies. Over any program; no function of the project is named here.
-/
import Derived.Test.YtfgfamafjkjakaaHasA
import Derived.Test.YtfgfamafjkjakaaAppA
import Derived.Maps.AppendAt
namespace Go.Proofs.Ytfgfamafjkjakaa
open Go.ChangeShapes Go.WideShapes Go.ChangeAt Go.RowKit Go.Deep
set_option linter.unusedVariables false
section
variable {P : Program}
theorem wpList_append_hasG {w : World} {ops : Array Oper} {rest : List Oper} {o : Oper} {a : Act} {Q : Exit → Act → World → Prop} (hgd : o.guard = none) (s x : Operand) (t : TypeId)
    (ho : o.op = .call { callee := .builtin .append, args := #[s, x], argTypes := #[t, t] })
    (base : Nat) (e : TypeId) (ht : P.underlying t = some (.slice e)) (hinfo : (P.info? e).map (fun i => (i.zero, i.size, i.bytes)) = some (some (.int .u8 0), 1, 1))
    (v : Value) (xs : List UInt8) (hs : a.eval s = v) (hown : Own w base e v xs)
    (y : Value) (l : List UInt8) (hx : a.eval x = y) (hy : HasA w y l) (hl : 0 < l.length) (hlen : xs.length + l.length ≤ 140737488355328) (hbase : base ≤ w.heap.size) (w0 : World) (hb : Below base w0 w) (G : Nat) (hG : G < w.heap.size) (hne : v.ownBlock ≠ some G)
    (h : ∀ v' w', Own w' base e v' (xs ++ l) → Below base w0 w' → w'.heap[G]? = w.heap[G]? → v'.ownBlock ≠ some G → w.heap.size ≤ w'.heap.size → wpList P ops Q rest (a.put o.dst v') w') : wpList P ops Q (o :: rest) a w := by
  obtain ⟨i, hi, hz, hz1, hz2⟩ := info_parts hinfo
  obtain ⟨p, cap, b, off, rfl, k1, k2, k3, kc⟩ := hy
  obtain ⟨rfl, hbl⟩ := k3 hl
  refine wpList_append_own_at w hgd s x t ho base e i (.int .u8 0) 1 1 ht hi hz hz1 hz2 rfl (by decide) v xs.length _ hs hown ⟨b, off, none⟩ l.length cap (Lib.byteCells l) hx (by rw [Lib.byteCells_length, Nat.mul_one]) (cells_at kc) (Lib.byteCells_one l)
    (by unfold maxLen; omega) (by omega) hbase fun v' w' h1 h2 _ h4 => h v' w' ?_ (hb.grown h2 hbase (fun k hk => (World.ownsRow.lt hown k hk).1)) (h2.block G hG (fun e => hne e.symm)) ?_ h2.size
  · unfold Own
    rw [List.length_append, Lib.byteCells_append]
    exact h1
  · rcases h4 with h4 | h4
    · rw [h4]; exact hne
    · rw [h4]; intro e; simp only [Option.some.injEq] at e; omega
end
end Go.Proofs.Ytfgfamafjkjakaa
