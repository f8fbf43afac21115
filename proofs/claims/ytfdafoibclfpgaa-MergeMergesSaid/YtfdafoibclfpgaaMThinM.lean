/-
  What thinning leaves does not hang on the order of the moments; the chapter's sample.
-/
import Derived.Test.YtfdafoibclfpgaaMThin
namespace Go.Proofs.Ytfdafoibclfpgaa
open Go.ChangeShapes Go.WideShapes Go.ChangeAt Go.RowKit Go.Deep
set_option linter.unusedVariables false
set_option linter.unusedSimpArgs false
theorem keptI_congr {a b : List Nat} (h : ∀ m, m ∈ a ↔ m ∈ b) (p : Option Itm) (x : Itm) : keptI a p x = keptI b p x := by
  cases p with
  | none => rfl
  | some y =>
    show (a.any fun m => decide (x.seq ≤ m) && decide (m < y.seq)) = (b.any fun m => decide (x.seq ≤ m) && decide (m < y.seq))
    rw [Bool.eq_iff_iff, List.any_eq_true, List.any_eq_true]
    exact ⟨fun ⟨m, hm, e⟩ => ⟨m, (h m).1 hm, e⟩, fun ⟨m, hm, e⟩ => ⟨m, (h m).2 hm, e⟩⟩
theorem keptL_congr {a b : List Nat} (h : ∀ m, m ∈ a ↔ m ∈ b) : ∀ (l : List Itm) (p : Option Itm), keptL a p l = keptL b p l
  | [], p => by rw [keptL_nil, keptL_nil]
  | x :: r, p => by rw [keptL, keptL, keptI_congr h, keptL_congr h r]
theorem thinF_congr {a b : List Nat} (h : ∀ m, m ∈ a ↔ m ∈ b) (bt : Bool) : ∀ (f : Nat) (l : List Itm), thinF a bt f l = thinF b bt f l
  | 0, l => by rw [thinF, thinF]
  | f + 1, [] => rfl
  | f + 1, x :: r => by rw [thinF_step, thinF_step, thinF_congr h bt f]; unfold thinKeyL; rw [keptL_congr h]
theorem thinC_eq (keep : List Nat) (bt : Bool) (l : List Itm) : thinC keep bt l = if sortedB l then thinL (alwaysN :: keep) bt l else [] := by
  unfold thinC thinL
  rw [thinF_congr (fun m => mem_sortN (alwaysN :: keep) m)]
def sampleL : List Itm := [⟨⟨#[97]⟩, 5, true, ⟨#[]⟩⟩, ⟨⟨#[97]⟩, 3, false, ⟨#[120]⟩⟩, ⟨⟨#[97]⟩, 1, false, ⟨#[121]⟩⟩, ⟨⟨#[98]⟩, 2, false, ⟨#[122]⟩⟩]
theorem kEq_data (a b : ByteArray) : kEq a b = (a.data.toList == b.data.toList) := by unfold kEq; rw [Lib.toList_data, Lib.toList_data]
theorem kLt_data (a b : ByteArray) : kLt a b = Op.bytesLess a.data.toList b.data.toList := by unfold kLt; rw [Lib.toList_data, Lib.toList_data]
theorem sample_sorted : sortedB sampleL = true := by simp [sampleL, sortedB, aheadI, kEq_data, kLt_data, Op.bytesLess]
theorem sample_sortedI : SortedI sampleL := (sortedB_iff _).1 sample_sorted
theorem sample_two : [sampleL.take 2, sampleL.drop 1].all sortedB = true := by simp [sampleL, sortedB, aheadI, kEq_data, kLt_data, Op.bytesLess]
theorem sample_seen4 : seenL 4 sampleL = [⟨⟨#[97]⟩, 3, false, ⟨#[120]⟩⟩, ⟨⟨#[98]⟩, 2, false, ⟨#[122]⟩⟩] := by simp [sampleL, seenL, seenGo, kEq_data]
theorem sample_seen9 : (seenL 9 sampleL).length = 1 := by simp [sampleL, seenL, seenGo, kEq_data]
theorem sample_thin1 : (thinC [] false sampleL).length = 2 := by rw [thinC_eq, sample_sorted]; simp [sampleL, thinL, thinF, groupL, thinKeyL, keptL, keptI, kEq_data, alwaysN]
theorem sample_thin2 : (thinC [] true sampleL).length = 1 := by rw [thinC_eq, sample_sorted]; simp [sampleL, thinL, thinF, groupL, thinKeyL, keptL, keptI, kEq_data, alwaysN, cutGone]
theorem sample_thin3 : (thinC [3] true sampleL).length = 3 := by rw [thinC_eq, sample_sorted]; simp [sampleL, thinL, thinF, groupL, thinKeyL, keptL, keptI, kEq_data, alwaysN, cutGone]
theorem merged_one {m : List Itm} (h : mergedOf [sampleL] m) : m = sampleL := (h.1 (by simp [sample_sorted])).ext (Merged.one sample_sortedI) (fun _ _ => rfl)
theorem merged_two {m : List Itm} (h : mergedOf [sampleL.take 2, sampleL.drop 1] m) : m = sampleL := (h.1 sample_two).ext (Merged.one sample_sortedI) (fun k s => by
  simp only [sampleL, List.take_succ_cons, List.take_zero, List.drop_succ_cons, List.drop_zero, List.flatten_cons, List.flatten_nil, List.append_nil, List.cons_append, List.nil_append, atI_cons]
  split <;> try rfl
  split <;> rfl)
theorem has_flat {w : World} {g : Nat} {T : TypeId} {l : List Itm} {n : Nat} (hn : l.length = n) (h : w.heap[g]? = some (.cells (flatK encI l).toArray T (0, 0))) (hl : l.length ≤ 1000000) : HasK w encI (.slice (some ⟨g, 0, none⟩) n n) l := by
  subst hn
  refine ⟨_, l.length, g, 0, rfl, Nat.le_refl _, by unfold maxLen; omega, fun _ => ⟨rfl, lt_of_block h⟩, fun i hi j u hu => ?_⟩
  have hj : j < encI.k := by rw [← encI.len l[i]]; exact (List.getElem?_eq_some_iff.1 hu).1
  simp only [World.cell?, h]
  rw [← Array.getElem?_toList, List.toList_toArray, Nat.zero_add, flatK_get encI l i hi j hj]
  exact hu
set_option maxRecDepth 100000 in
set_option maxHeartbeats 4000000 in
theorem Sample_any (w : World) : Calls Try.prog 12 #[] w fun e w' => ∃ p c, e = .returned (.slice p 4 c) ∧ HasK w' encI (.slice p 4 c) sampleL ∧ Below w.heap.size w w' := by
  go_enter Try.func12, Try.ntmps12
  go_wp2
  go_ret
  exact ⟨_, _, rfl, has_flat (T := 29) rfl (heap_alloc_new w _) (by decide), (Below.refl _ _).alloc (Nat.le_refl _) _⟩
end Go.Proofs.Ytfdafoibclfpgaa
