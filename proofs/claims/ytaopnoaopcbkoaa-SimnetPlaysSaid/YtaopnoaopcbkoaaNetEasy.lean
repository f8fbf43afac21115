/-
  Package simnet: New, Sent, Now, Tick.
-/
import Derived.Test.YtaopnoaopcbkoaaNetMem
import Derived.Laws.BitsAllLaws
namespace Go.Proofs.Ytaopnoaopcbkoaa
open Go.ChangeShapes Go.WideShapes Go.ChangeAt Go.RowKit Go.Deep
set_option linter.unusedVariables false
set_option linter.unusedSimpArgs false

def zeroNet : NetV := ⟨[], 0, 0, [], 0⟩
set_option maxRecDepth 100000 in
set_option maxHeartbeats 2000000 in
theorem New_any (w : World) : Calls Try.prog 9 #[] w fun e w' => ∃ R F, e = .returned (.pointer (some ⟨R, 0, none⟩)) ∧ Net w' w.heap.size R zeroNet F ∧ Below w.heap.size w w' := by
  go_enter Try.func9, Try.ntmps9
  go_wp2
  go_ret
  have hh := heap_alloc_new w (.cells #[.slice none 0 0, .int .i64 0, .int .i64 0, .slice none 0 0, .int .u64 0] 68 (0, 0))
  refine ⟨w.heap.size, fun k => k = w.heap.size, rfl, ⟨_, _, hh, rfl, fun k hk => by subst hk; exact ⟨Nat.le_refl _, lt_of_block hh⟩, ⟨[], rfl, World.ownsRow_nil _ _ _ _, fun g h => by simp [Value.ownBlock] at h, fun p hp => by simp at hp⟩, ⟨none, 0, rfl, Nat.le_refl _, Nat.zero_le _, fun h => absurd h (Nat.lt_irrefl _)⟩⟩, (Below.refl _ _).alloc (Nat.le_refl _) _⟩
set_option maxRecDepth 100000 in
set_option maxHeartbeats 2000000 in
theorem Sent_any (w : World) (B R : Nat) (N : NetV) (F : Nat → Prop) (h : Net w B R N F) : Calls Try.prog 24 #[.pointer (some ⟨R, 0, none⟩)] w fun e w' => e = .returned (.int .i64 (N.sent : Int)) ∧ w' = w := by
  obtain ⟨wv, fv, c0, c1, c2, c3, c4, hz, hh, hR, hF, hW, hf⟩ := h.cells
  go_enter Try.func24, Try.ntmps24
  go_wp2
  go_ret
  exact ⟨rfl, rfl⟩
set_option maxRecDepth 100000 in
set_option maxHeartbeats 2000000 in
theorem Now_any (w : World) (B R : Nat) (N : NetV) (F : Nat → Prop) (h : Net w B R N F) : Calls Try.prog 14 #[.pointer (some ⟨R, 0, none⟩)] w fun e w' => e = .returned (.int .i64 N.now) ∧ w' = w := by
  obtain ⟨wv, fv, c0, c1, c2, c3, c4, hz, hh, hR, hF, hW, hf⟩ := h.cells
  go_enter Try.func14, Try.ntmps14
  go_wp2
  go_ret
  exact ⟨rfl, rfl⟩
/-- What a tick does. -/
def Ticks (N : NetV) (d : Int) : Prop := 0 ≤ d ∧ d ≤ 1152921504606846976 - N.now
instance (N : NetV) (d : Int) : Decidable (Ticks N d) := by unfold Ticks; infer_instance
def tickV (N : NetV) (d : Int) : NetV := if Ticks N d then { N with now := N.now + d } else N
set_option maxRecDepth 100000 in
set_option maxHeartbeats 2000000 in
theorem Tick_any (w : World) (B R : Nat) (N : NetV) (F : Nat → Prop) (h : Net w B R N F) (hn : 0 ≤ N.now ∧ N.now ≤ 1152921504606846976) (d : Int) (hd : -9223372036854775808 ≤ d ∧ d ≤ 9223372036854775807) :
    Calls Try.prog 13 #[.pointer (some ⟨R, 0, none⟩), .int .i64 d] w fun e w' => e = .returned (.int .i64 (if Ticks N d then 0 else 1)) ∧ Net w' B R (tickV N d) F ∧ Keeps F w w' := by
  obtain ⟨hn0, hn1⟩ := hn
  obtain ⟨hd0, hd1⟩ := hd
  have H := Lib.hid h
  obtain ⟨wv, fv, c0, c1, c2, c3, c4, hz, hh, hR, hF, hW, hf⟩ := h.cells
  clear h
  by_cases ht : Ticks N d
  · have HT := Lib.hid ht
    obtain ⟨t0, t1⟩ := ht
    go_enter Try.func13, Try.ntmps13
    go_wp2
    go_ret
    refine ⟨by first | rfl | (rw [if_pos HT.out]; rfl), ?_, (Keeps.refl F w).setCell _ _ (fun _ => hR.out)⟩
    unfold tickV
    rw [if_pos HT.out]
    refine Net.put hh.out hR.out hF.out hW.out hf.out (World.size_setCell _ _ _) (fun k hk => Below.heap_setCell _ _ _ _ hk) ?_
    rw [heap_setCell_same _ _ _ _ _ _ hh.out]
    rfl
  · have HT := Lib.hid ht
    have hor : d < 0 ∨ (0 ≤ d ∧ 1152921504606846976 - N.now < d) := by unfold Ticks at ht; omega
    clear ht
    rcases hor with t0 | ⟨t0, t1⟩
    · go_enter Try.func13, Try.ntmps13
      go_wp2
      go_ret
      exact ⟨by first | rfl | (rw [if_neg HT.out]; rfl), by unfold tickV; rw [if_neg HT.out]; exact H.out, Keeps.refl _ _⟩
    · have t0' : ¬ d < 0 := by omega
      go_enter Try.func13, Try.ntmps13
      go_wp2
      go_ret
      exact ⟨by first | rfl | (rw [if_neg HT.out]; rfl), by unfold tickV; rw [if_neg HT.out]; exact H.out, Keeps.refl _ _⟩
end Go.Proofs.Ytaopnoaopcbkoaa
