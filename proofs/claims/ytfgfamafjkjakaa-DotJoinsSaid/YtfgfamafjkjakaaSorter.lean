/-
  Package slices, of numbers: a row that is sorted in place; the insertion sort.
  Package slices, of numbers: the heap sort.
  Package slices, of numbers: the heap sort as a whole; a range turned round.
  Package slices, of numbers: a range turned round; the partitions.
  Package slices, of numbers: the partition.
  Package slices, of numbers: the choice of a pivot: some place of the range.
  Package slices, of numbers: patterns broken: some numbers exchanged.
  Package slices, of numbers: patterns broken: three numbers exchanged with others of the range.
-/
import Derived.Test.YtfgfamafjkjakaaDotFind
import Derived.Test.YtfgfamafjkjakaaDotSet
import Derived.Sort.LotA
import Derived.Deep.DeepCutAuto
import Derived.Deep.CutBlock
import Derived.Deep.QuietTactic
import Derived.BigQuiet
import Derived.IntWalk
import Derived.RegionTactic
import Derived.BigRegion
import Derived.ChangeAlike
import Derived.Sort.LotB
import Derived.Sort.LotC
import Derived.Laws.BitsAllLaws
import Derived.Sort.LotD1
namespace Go.Proofs.Ytfgfamafjkjakaa
open Go.ChangeShapes Go.WideShapes Go.ChangeAt Go.RowKit Go.Deep
set_option linter.unusedVariables false
set_option linter.unusedSimpArgs false
/-- Block R alone was written, and has as many cells as before. -/
structure Kq (R : Nat) (w w' : World) : Prop extends Kp R w w' where
  shape : ∀ cur T, w.heap[R]? = some (.cells cur T (0, 0)) → ∃ cur', w'.heap[R]? = some (.cells cur' T (0, 0)) ∧ cur'.size = cur.size
theorem Kq.refl (R : Nat) (w : World) : Kq R w w := ⟨Kp.refl R w, fun cur _ h => ⟨cur, h, rfl⟩⟩
theorem Kq.of_below {R : Nat} {w w' : World} (h : Below w.heap.size w w') : Kq R w w' := ⟨Kp.of_below h, fun cur _ hc => ⟨cur, (h.block R (lt_of_block hc)).trans hc, rfl⟩⟩
theorem Kq.trans {R : Nat} {a b c : World} (h : Kq R a b) (k : Kq R b c) : Kq R a c := ⟨h.toKp.trans k.toKp, fun cur T hc => by
  obtain ⟨c1, h1, e1⟩ := h.shape cur T hc
  obtain ⟨c2, h2, e2⟩ := k.shape c1 T h1
  exact ⟨c2, h2, e2.trans e1⟩⟩
theorem Kq.setCell (R o : Nat) (w : World) (v : Value) : Kq R w (w.setCell ⟨R, o, none⟩ v) := ⟨Kp.setCell R o w v, fun cur T hc => ⟨_, heap_setCell_same _ _ _ _ _ _ hc, by rw [Array.size_setIfInBounds]⟩⟩
theorem Kq.drewN (R : Nat) (w : World) (n : Nat) : Kq R w (w.drewN n) := ⟨Kp.drewN R w n, fun cur _ h => ⟨cur, h, rfl⟩⟩
theorem Kq.drew (R : Nat) (w : World) : Kq R w w.drew := ⟨⟨rfl, rfl, rfl, Nat.le_refl _, fun _ _ _ => rfl⟩, fun cur _ h => ⟨cur, h, rfl⟩⟩
theorem Kq.below {R B : Nat} {w w' : World} (h : Kq R w w') (hR : B ≤ R) (hB : B ≤ w.heap.size) : Below B w w' := h.toKp.below hR hB
theorem Kq.over {g s : Nat} {w w1 w2 : World} (h : Kq g w w1) (k : Kq s w1 w2) (hs : w.heap.size ≤ s) : Kq g w w2 :=
  ⟨⟨k.os.trans h.os, k.tape.trans h.tape, k.output.trans h.output, Nat.le_trans h.size k.size, fun i hi hg => (k.block i (Nat.lt_of_lt_of_le hi h.size) (by omega)).trans (h.block i hi hg)⟩, fun cur T hc => by
    have hg := lt_of_block hc
    obtain ⟨c1, h1, e1⟩ := h.shape cur T hc
    exact ⟨c1, (k.block g (lt_of_block h1) (by omega)).trans h1, e1⟩⟩
/-- Block g begins with the numbers d, free to be written. -/
structure Arr (w : World) (g : Nat) (d : Array Nat) : Prop where
  cell : ∀ i, i < d.size → w.cell? ⟨g, i, none⟩ = some (.int .u64 ((d[i]! : Nat) : Int))
  nf : ∀ j, w.frozen? ⟨g, j, none⟩ = false
  lt : g < w.heap.size
theorem Arr.drewN {w : World} {g : Nat} {d : Array Nat} (h : Arr w g d) (n : Nat) : Arr (w.drewN n) g d := ⟨h.cell, h.nf, h.lt⟩
theorem Arr.drew {w : World} {g : Nat} {d : Array Nat} (h : Arr w g d) : Arr w.drew g d := ⟨h.cell, h.nf, h.lt⟩
theorem Arr.below {w w' : World} {g : Nat} {d : Array Nat} (h : Arr w g d) (hb : Below w.heap.size w w') : Arr w' g d :=
  ⟨fun i hi => (hb.cell (p := ⟨g, i, none⟩) h.lt).trans (h.cell i hi), fun j => (hb.frozen (p := ⟨g, j, none⟩) h.lt).trans (h.nf j), Nat.lt_of_lt_of_le h.lt hb.size⟩
theorem cell_set {w : World} {g i : Nat} {x : Value} {v : Value} (h : w.cell? ⟨g, i, none⟩ = some v) (j : Nat) : (w.setCell ⟨g, i, none⟩ x).cell? ⟨g, j, none⟩ = if j = i then some x else w.cell? ⟨g, j, none⟩ := by
  by_cases e : j = i
  · subst e
    rw [if_pos rfl]
    exact World.cell?_setCell_same _ _ _ h
  · rw [if_neg e]
    exact World.cell?_setCell_other _ _ _ _ (fun e2 => e (by simp only [Addr.mk.injEq, and_true, true_and] at e2; exact e2.symm))
/-- Two numbers exchanged. -/
theorem Arr.swp {w : World} {g : Nat} {d : Array Nat} (h : Arr w g d) {i j x y : Nat} (hi : i < d.size) (hj : j < d.size) (hx : d[i]! = x) (hy : d[j]! = y) :
    Arr ((w.setCell ⟨g, i, none⟩ (.int .u64 (y : Int))).setCell ⟨g, j, none⟩ (.int .u64 (x : Int))) g (Sort.swp d i j) := by
  refine ⟨fun k hk => ?_, fun k => ?_, ?_⟩
  · rw [Sort.swp_size] at hk
    have h1 : (w.setCell ⟨g, i, none⟩ (.int .u64 (y : Int))).cell? ⟨g, j, none⟩ = some (if j = i then .int .u64 (y : Int) else .int .u64 (y : Int)) := by
      rw [cell_set (h.cell i hi), h.cell j hj, hy]
      split <;> rfl
    rw [cell_set h1, cell_set (h.cell i hi), Sort.swp_get d hi hj, hx, hy, h.cell k hk]
    split
    · rfl
    · split <;> rfl
  · rw [World.frozen?_setCell, World.frozen?_setCell]
    exact h.nf k
  · rw [World.size_setCell, World.size_setCell]
    exact h.lt
theorem Arr.second {w : World} {g : Nat} {d : Array Nat} (h : Arr w g d) {i j y : Nat} (hi : i < d.size) (hj : j < d.size) (hy : d[j]! = y) :
    (w.setCell ⟨g, i, none⟩ (.int .u64 (y : Int))).cell? ⟨g, j, none⟩ = some (.int .u64 (y : Int)) := by
  rw [cell_set (h.cell i hi), h.cell j hj, hy]
  split <;> rfl
theorem swp_kp (g i j : Nat) (w : World) (x y : Value) : Kq g w ((w.setCell ⟨g, i, none⟩ x).setCell ⟨g, j, none⟩ y) := (Kq.setCell g i w x).trans (Kq.setCell g j _ y)
theorem swo_ltB : Sort.SWO ltB where
  irrefl x := decide_eq_false (Nat.lt_irrefl x)
  trans x y z h1 h2 := by
    unfold ltB at *
    rw [decide_eq_true_eq] at *
    omega
  ntrans x y z h1 h2 := by
    unfold ltB at *
    rw [decide_eq_false_iff_not] at *
    omega
theorem less_quiet (x y : Nat) (w : World) : Calls Try.prog 53 #[.int .u64 (x : Int), .int .u64 (y : Int)] w fun e w' => e = .returned (.bool (ltB x y)) ∧ w' = w := (cmpLess_any x y w).mono fun _ _ ⟨h1, h2⟩ => ⟨h1, h2.symm⟩
theorem less_q {x y : Nat} {q : Bool} (h : ltB x y = q) (w : World) : Calls Try.prog 53 #[.int .u64 (x : Int), .int .u64 (y : Int)] w fun e w' => e = .returned (.bool q) ∧ w' = w := by
  subst h
  exact less_quiet x y w
theorem insInner_end (a j : Nat) (d : Array Nat) (h : j ≤ a ∨ ltB d[j]! d[j - 1]! = false) : Sort.insInner ltB a j d = d := by
  cases j with
  | zero => rfl
  | succ k =>
    unfold Sort.insInner
    rw [Nat.add_sub_cancel] at h
    rw [if_neg]
    rw [Bool.and_eq_true, decide_eq_true_eq]
    rcases h with h | h
    · omega
    · rw [h]; simp
theorem insInner_next (a j k : Nat) (d : Array Nat) (hk : j = k + 1) (h1 : a < j) (h2 : ltB d[j]! d[k]! = true) : Sort.insInner ltB a j d = Sort.insInner ltB a k (Sort.swp d j k) := by
  subst hk
  conv => lhs; unfold Sort.insInner
  rw [if_pos]
  rw [Bool.and_eq_true, decide_eq_true_eq]
  exact ⟨h1, h2⟩
theorem insOuter_next (a b i : Nat) (d : Array Nat) (h : i < b) : Sort.insOuter ltB a b i d = Sort.insOuter ltB a b (i + 1) (Sort.insInner ltB a i d) := by
  conv => lhs; unfold Sort.insOuter
  rw [if_pos h]
theorem insOuter_end (a b i : Nat) (d : Array Nat) (h : b ≤ i) : Sort.insOuter ltB a b i d = d := by
  unfold Sort.insOuter
  rw [if_neg (by omega)]
/-- What a call that sorts holds and leaves. -/
def Sorts (g n : Nat) (w : World) (D : Array Nat) (e : Ending) (w' : World) : Prop := e = .returned (.tuple #[]) ∧ Arr w' g D ∧ Kq g w w' ∧ D.size = n
set_option maxRecDepth 100000 in
set_option maxHeartbeats 32000000 in
theorem Insertion_any (g n cap a b : Nat) (d : Array Nat) (w : World) (hA : Arr w g d) (hn : d.size = n) (hnc : n ≤ cap) (hcap : (cap : Int) ≤ 9223372036854775807) (hn62 : (n : Int) ≤ 4611686018427387904) (hb : b ≤ n) (hab : a ≤ b) :
    Calls Try.prog 57 #[.slice (some ⟨g, 0, none⟩) n cap, .int .i64 (a : Int), .int .i64 (b : Int)] w fun e w' => Sorts g n w (Sort.insertionSort ltB d a b) e w' := by
  have HA := Lib.hid hA
  have HN := Lib.hid hn
  have haI : (a : Int) ≤ 4611686018427387904 := by omega
  have haI0 : (0 : Int) ≤ (a : Int) := by omega
  clear hA hn
  go_enter Try.func57, Try.ntmps57
  go_wp2_with fail
  go_loopw [6] (fun v6 wr => ∃ (i : Nat) (dk : Array Nat), v6 = .int .i64 (i : Int) ∧ a + 1 ≤ i ∧ i ≤ b + 1 ∧ dk.size = n ∧ Arr wr g dk ∧ Kq g w wr ∧ Hid (Sort.insOuter ltB a b i dk = Sort.insOuter ltB a b (a + 1) d)) (fun v6 _ => b + 1 - (intOf v6).toNat)
  case atStart => exact ⟨a + 1, d, rfl, Nat.le_refl _, by omega, HN.out, HA.out, Kq.refl _ _, Lib.hid rfl⟩
  case round =>
    obtain ⟨i, dk, rfl, hi1, hi2, hs, h0, hk0, HO⟩ := hrel
    obtain ⟨W0, rfl⟩ : ∃ W0, W0 = wr := ⟨wr, rfl⟩
    have H0 := Lib.hid h0
    have HK0 := Lib.hid hk0
    have HS := Lib.hid hs
    clear h0 hk0 hs
    rcases Nat.lt_or_ge i b with hlt | hge
    · have hI : (i : Int) < (b : Int) := by omega
      go_wp2_with fail
      go_loopw [7] (fun v7 wr => ∃ (j : Nat) (dj : Array Nat), v7 = .int .i64 (j : Int) ∧ a ≤ j ∧ j ≤ i ∧ dj.size = n ∧ Arr wr g dj ∧ Kq g w wr ∧ Hid (Sort.insInner ltB a j dj = Sort.insInner ltB a i dk)) (fun v7 _ => (intOf v7).toNat)
      case atStart => exact ⟨i, dk, rfl, by omega, Nat.le_refl _, HS.out, H0.out, HK0.out, Lib.hid rfl⟩
      case round =>
        obtain ⟨j, dj, rfl, hj1, hj2, hs, h1, hk1, HI⟩ := hrel
        obtain ⟨W1, rfl⟩ : ∃ W1, W1 = wr := ⟨wr, rfl⟩
        have H1 := Lib.hid h1
        have HK1 := Lib.hid hk1
        have HS1 := Lib.hid hs
        clear h1 hk1 hs
        have fin : (j ≤ a ∨ ltB dj[j]! dj[j - 1]! = false) → ∀ k, ∃ (i' : Nat) (dk' : Array Nat), Value.int .i64 ((i : Int) + 1) = .int .i64 (i' : Int) ∧ a + 1 ≤ i' ∧ i' ≤ b + 1 ∧ dk'.size = n ∧ Arr (W1.drewN k) g dk' ∧ Kq g w (W1.drewN k) ∧ Hid (Sort.insOuter ltB a b i' dk' = Sort.insOuter ltB a b (a + 1) d) := fun h k =>
          ⟨i + 1, dj, by go_num, by omega, by omega, HS1.out, H1.out.drewN k, HK1.out.trans (Kq.drewN g W1 k), Lib.hid (by rw [← HO.out, insOuter_next a b i dk hlt, ← HI.out, insInner_end a j dj h])⟩
        have FIN := Lib.hid fin
        clear fin
        rcases Nat.lt_or_ge a j with hja | hja
        · obtain ⟨k, hk⟩ : ∃ k, j = k + 1 := ⟨j - 1, by omega⟩
          have hjn : j < dj.size := by rw [HS1.out]; omega
          have hkn0 : k < dj.size := by rw [HS1.out]; omega
          have cy := H1.out.cell j hjn
          have cx := H1.out.cell k hkn0
          have hnx := insInner_next a j k dj hk hja
          have hfn := FIN.out
          rw [show j - 1 = k by omega] at hfn
          have hsw := fun (W : World) (hW : Arr W g dj) (x y : Nat) (hx : dj[j]! = x) (hy : dj[k]! = y) => hW.swp (i := j) (j := k) (x := x) (y := y) hjn hkn0 hx hy
          obtain ⟨y, hy⟩ : ∃ y, dj[j]! = y := ⟨_, rfl⟩
          obtain ⟨x, hx⟩ : ∃ x, dj[k]! = x := ⟨_, rfl⟩
          rw [hy] at cy hnx hfn
          rw [hx] at cx hnx hfn
          have HNX := Lib.hid hnx
          have HFN := Lib.hid hfn
          have HSW := Lib.hid (fun (W : World) (hW : Arr W g dj) => hsw W hW y x hy hx)
          have HSC := Lib.hid (fun (W : World) (hW : Arr W g dj) => hW.second hjn hkn0 hx)
          have hja1 : (a : Int) < (j : Int) := by omega
          have hk1' : IntKind.i64.wrap ((j : Int) - 1) = (k : Int) := by rw [IntWalk.i64_in _ (by omega)]; omega
          have hkn : (k : Int) < (n : Int) := by omega
          have hjnI : (j : Int) < (n : Int) := by omega
          have hk0' : (0 : Int) ≤ (k : Int) := by omega
          have hj0' : (0 : Int) ≤ (j : Int) := by omega
          have hz1 := H1.out.nf k
          have hz2 := H1.out.nf j
          obtain ⟨q, hq⟩ : ∃ q, ltB y x = q := ⟨_, rfl⟩
          rw [hq] at HNX HFN
          have HQ := Lib.hid hq
          have HKK := Lib.hid hk
          clear hnx hfn hsw hy hx hq FIN hjn hkn0 hk
          go_upto_region 4 with fail
          go_cut [30] (fun v wz => v = .bool q ∧ ∃ kq, wz = W1.drewN kq)
          case first =>
            go_quiet ((go_at_call 53; exact Calls.quiet_of_same (less_q HQ.out _)))
            go_wp2
            go_meet
            exact ⟨rfl, _, rfl⟩
          case rest =>
            obtain ⟨rfl, kq, rfl⟩ := hcut
            cases q with
            | true =>
              go_upto_region 6 with fail
              have hs2 := HSC.out _ (H1.out.drewN (kq + 1))
              go_region
              go_wp2
              go_roundw
              case rel => exact ⟨k, _, rfl, by have := HKK.out; omega, by have := HKK.out; omega, by rw [Sort.swp_size]; exact HS1.out, HSW.out _ (H1.out.drewN (kq + 1)), (HK1.out.trans (Kq.drewN g W1 (kq + 1))).trans (swp_kp g j k _ _ _), Lib.hid (by rw [← HNX.out rfl]; exact HI.out)⟩
              case measure => have := HKK.out; simp [intOf] <;> omega
            | false =>
              go_wp2
              go_roundw
              case rel => exact HFN.out (.inr rfl) kq
              case measure => simp [intOf] <;> omega
        · have hja1 : ¬ (a : Int) < (j : Int) := by omega
          go_upto_region 4 with fail
          go_cut [30] (fun v wz => v = .bool false ∧ ∃ kq, wz = W1.drewN kq)
          case first =>
            go_quiet (fail)
            go_wp2
            go_meet
            exact ⟨rfl, _, rfl⟩
          case rest =>
            obtain ⟨rfl, kq, rfl⟩ := hcut
            go_wp2
            go_roundw
            case rel => exact FIN.out (.inl hja) kq
            case measure => simp [intOf] <;> omega
    · have hI : ¬ (i : Int) < (b : Int) := by omega
      go_wp2
      first | go_end0 | (refine bodyPost_end (results_none rfl _ _ _) rfl ?_)
      have h1 := HO.out
      rw [insOuter_end a b i dk hge] at h1
      exact ⟨rfl, by unfold Sort.insertionSort; rw [← h1]; exact H0.out, HK0.out, by unfold Sort.insertionSort; rw [← h1]; exact HS.out⟩
end Go.Proofs.Ytfgfamafjkjakaa
namespace Go.Proofs.Ytfgfamafjkjakaa
open Go.ChangeShapes Go.WideShapes Go.ChangeAt Go.RowKit Go.Deep
set_option linter.unusedVariables false
set_option linter.unusedSimpArgs false
theorem int_eq {a b : Int} (h : a = b) : Value.int .i64 a = .int .i64 b := by rw [h]
theorem wrap_sum {a b c : Nat} (h : a + b = c) (hc : (c : Int) ≤ 4611686018427387904) : IntKind.i64.wrap ((a : Int) + (b : Int)) = (c : Int) := by
  rw [IntWalk.i64_in _ (by omega)]
  omega
theorem wrap_one {a c : Nat} (h : a + 1 = c) (hc : (c : Int) ≤ 4611686018427387904) : IntKind.i64.wrap ((a : Int) + 1) = (c : Int) := by
  rw [IntWalk.i64_in _ (by omega)]
  omega
theorem wrap_less {a c : Nat} (h : a = c + 1) (hc : (c : Int) ≤ 4611686018427387904) : IntKind.i64.wrap ((a : Int) - 1) = (c : Int) := by
  rw [IntWalk.i64_in _ (by omega)]
  omega
theorem sift_end {hi f r : Nat} {d : Array Nat} (h : hi ≤ 2 * r + 1) : Sort.siftDown ltB hi f r d = d := by
  unfold Sort.siftDown
  rw [dif_pos h]
theorem sift_next {hi f r c : Nat} {d : Array Nat} (h : ¬ hi ≤ 2 * r + 1) (hc : c = if (decide (2 * r + 1 + 1 < hi) && ltB d[f + (2 * r + 1)]! d[f + (2 * r + 1) + 1]!) = true then 2 * r + 2 else 2 * r + 1) :
    Sort.siftDown ltB hi f r d = if ltB d[f + r]! d[f + c]! = true then Sort.siftDown ltB hi f c (Sort.swp d (f + r) (f + c)) else d := by
  conv => lhs; unfold Sort.siftDown
  rw [dif_neg h]
  cases hq : (decide (2 * r + 1 + 1 < hi) && ltB d[f + (2 * r + 1)]! d[f + (2 * r + 1) + 1]!) with
  | true =>
    rw [hq, if_pos rfl] at hc
    subst hc
    rw [if_pos rfl]
    cases hl : ltB d[f + r]! d[f + (2 * r + 2)]! with
    | true =>
      rw [Bool.and_eq_true, decide_eq_true_eq] at hq
      rw [if_neg (by simp), dif_pos (by omega), if_pos rfl]
    | false => rw [if_pos (by simp), if_neg (by simp)]
  | false =>
    rw [hq, if_neg (by simp)] at hc
    subst hc
    rw [if_neg (by simp)]
    cases hl : ltB d[f + r]! d[f + (2 * r + 1)]! with
    | true => rw [if_neg (by simp), if_pos rfl]
    | false => rw [if_pos (by simp), if_neg (by simp)]
set_option maxRecDepth 100000 in
set_option maxHeartbeats 32000000 in
theorem Sift_any (g n cap lo hi f : Nat) (d : Array Nat) (w : World) (hA : Arr w g d) (hn : d.size = n) (hnc : n ≤ cap) (hcap : (cap : Int) ≤ 9223372036854775807) (hn40 : (n : Int) ≤ 1099511627776) (hh : f + hi ≤ n) (hlo : (lo : Int) ≤ 1099511627776) :
    Calls Try.prog 69 #[.slice (some ⟨g, 0, none⟩) n cap, .int .i64 (lo : Int), .int .i64 (hi : Int), .int .i64 (f : Int)] w fun e w' => Sorts g n w (Sort.siftDown ltB hi f lo d) e w' := by
  have HA := Lib.hid hA
  have HN := Lib.hid hn
  have hh0 : (hi : Int) ≤ 1099511627776 := by omega
  have hf0 : (f : Int) ≤ 1099511627776 := by omega
  clear hA hn
  go_enter Try.func69, Try.ntmps69
  go_wp2_with fail
  go_loopw [8] (fun v8 wr => ∃ (r : Nat) (dk : Array Nat), v8 = .int .i64 (r : Int) ∧ (r : Int) ≤ 1099511627776 ∧ dk.size = n ∧ Arr wr g dk ∧ Kq g w wr ∧ Hid (Sort.siftDown ltB hi f r dk = Sort.siftDown ltB hi f lo d)) (fun v8 _ => 1099511627776 - (intOf v8).toNat)
  case atStart => exact ⟨lo, d, rfl, hlo, HN.out, HA.out, Kq.refl _ _, Lib.hid rfl⟩
  case round =>
    obtain ⟨r, dk, rfl, hr, hs, h0, hk0, HO⟩ := hrel
    obtain ⟨W0, rfl⟩ : ∃ W0, W0 = wr := ⟨wr, rfl⟩
    have H0 := Lib.hid h0
    have HK0 := Lib.hid hk0
    have HS := Lib.hid hs
    obtain ⟨c1, hc1⟩ : ∃ c1, 2 * r + 1 = c1 := ⟨_, rfl⟩
    have hc1I : (c1 : Int) ≤ 4611686018427387904 := by omega
    have HC1 := Lib.hid hc1
    clear h0 hk0 hs hc1
    go_upto_region 1 with fail
    go_cut [9] (fun v wz => v = .int .i64 (c1 : Int) ∧ W0 = wz)
    case first =>
      go_wp2
      go_meet
      exact ⟨int_eq (by have := HC1.out; omega), rfl⟩
    case rest =>
      obtain ⟨rfl, rfl⟩ := hcut
      have hc1 := HC1.out
      rcases Nat.lt_or_ge c1 hi with hlt | hge
      · have hI : ¬ (hi : Int) ≤ (c1 : Int) := by omega
        obtain ⟨fr, hfr⟩ : ∃ x, f + r = x := ⟨_, rfl⟩
        obtain ⟨fc, hfc⟩ : ∃ x, f + c1 = x := ⟨_, rfl⟩
        obtain ⟨fd, hfd⟩ : ∃ x, fc + 1 = x := ⟨_, rfl⟩
        obtain ⟨q, hq⟩ : ∃ q, (decide (2 * r + 1 + 1 < hi) && ltB dk[f + (2 * r + 1)]! dk[f + (2 * r + 1) + 1]!) = q := ⟨_, rfl⟩
        obtain ⟨c, hc⟩ : ∃ c, c = if (decide (2 * r + 1 + 1 < hi) && ltB dk[f + (2 * r + 1)]! dk[f + (2 * r + 1) + 1]!) = true then 2 * r + 2 else 2 * r + 1 := ⟨_, rfl⟩
        have hnx := sift_next (d := dk) (f := f) (by omega : ¬ hi ≤ 2 * r + 1) hc
        rw [HO.out] at hnx
        rw [hq] at hc
        have hchi : c < hi := by
          rw [hc]
          split
          · rename_i h
            rw [h] at hq
            rw [Bool.and_eq_true, decide_eq_true_eq] at hq
            omega
          · omega
        rw [hc1, hfc, hfd] at hq
        have HNX := Lib.hid hnx
        have HC := Lib.hid hc
        have HQ := Lib.hid hq
        have HFR := Lib.hid hfr
        have HFC := Lib.hid hfc
        have HFD := Lib.hid hfd
        have hfcn : fc < n := by omega
        have hc1I2 : (c1 : Int) ≤ 1099511627776 := by omega
        have hfcI : (fc : Int) ≤ 1099511627776 := by omega
        clear hnx hc hq hfr hfc hfd hc1
        go_upto_region 3 with fail
        go_cut [36] (fun v wz => v = .bool q ∧ ∃ kq, wz = W0.drewN kq)
        case first =>
          rcases Nat.lt_or_ge (c1 + 1) hi with h2 | h2
          · have cy := H0.out.cell fc (by rw [HS.out]; omega)
            have cx := H0.out.cell fd (by rw [HS.out]; have := HFC.out; have := HFD.out; omega)
            obtain ⟨y, hy⟩ : ∃ y, dk[fc]! = y := ⟨_, rfl⟩
            obtain ⟨x, hx⟩ : ∃ x, dk[fd]! = x := ⟨_, rfl⟩
            have hq2 := HQ.out
            rw [decide_eq_true h2, Bool.true_and, hy, hx] at hq2
            rw [hy] at cy
            rw [hx] at cx
            have HQ2 := Lib.hid hq2
            have hfcnI : (fc : Int) < (n : Int) := by omega
            have hfdn : (fd : Int) < (n : Int) := by have := HFC.out; have := HFD.out; omega
            have hfc0 : (0 : Int) ≤ (fc : Int) := by omega
            have hfd0 : (0 : Int) ≤ (fd : Int) := by omega
            have hw3 : (c1 : Int) + 1 < (hi : Int) := by omega
            have hw4 : IntKind.i64.wrap ((c1 : Int) + 1) = (c1 : Int) + 1 := IntWalk.i64_in _ (by omega)
            have hw1 := wrap_sum HFC.out (by omega)
            have hw2 := wrap_one HFD.out (by omega)
            clear hy hx hq2
            go_quiet ((go_at_call 53; exact Calls.quiet_of_same (less_q HQ2.out _)))
            go_wp2
            go_meet
            exact ⟨rfl, _, rfl⟩
          · have hqf : q = false := by rw [← HQ.out, decide_eq_false (by omega), Bool.false_and]
            subst hqf
            have hw3 : ¬ (c1 : Int) + 1 < (hi : Int) := by omega
            have hw5 : decide ((c1 : Int) + 1 < (hi : Int)) = false := decide_eq_false hw3
            have hw4 : IntKind.i64.wrap ((c1 : Int) + 1) = (c1 : Int) + 1 := IntWalk.i64_in _ (by omega)
            go_quiet (fail)
            clear hw3 hw4 hw5
            go_wp2
            go_meet
            exact ⟨rfl, _, rfl⟩
        case rest =>
          obtain ⟨rfl, kq, rfl⟩ := hcut
          have h1 := H0.out.drewN kq
          have hk1 := HK0.out.trans (Kq.drewN g W0 kq)
          obtain ⟨W1, hW1⟩ : ∃ W1, W0.drewN kq = W1 := ⟨_, rfl⟩
          rw [hW1] at h1 hk1 ⊢
          have H1 := Lib.hid h1
          have HK1 := Lib.hid hk1
          clear h1 hk1 hW1 H0 HK0 HQ
          go_upto_if 36 with (fail)
          go_cut [9] (fun v wz => v = .int .i64 (c : Int) ∧ W1 = wz)
          case first =>
            have hcc := HC.out
            cases q with
            | true =>
              rw [if_pos rfl] at hcc
              have HCC := Lib.hid hcc
              clear hcc
              go_wp2
              go_meet
              exact ⟨int_eq (by have := HCC.out; have := HC1.out; omega), rfl⟩
            | false =>
              rw [if_neg (by simp)] at hcc
              have HCC := Lib.hid hcc
              clear hcc
              go_wp2
              go_meet
              exact ⟨int_eq (by have := HCC.out; have := HC1.out; omega), rfl⟩
          case rest =>
            obtain ⟨rfl, rfl⟩ := hcut
            have hcr : r < c := by have h1 := HC1.out; have h2 := HC.out; split at h2 <;> omega
            have hfr := HFR.out
            obtain ⟨fe, hfe⟩ : ∃ x, f + c = x := ⟨_, rfl⟩
            have hfrn0 : fr < dk.size := by rw [HS.out]; omega
            have hfen0 : fe < dk.size := by rw [HS.out]; omega
            have cy := H1.out.cell fr hfrn0
            have cx := H1.out.cell fe hfen0
            have hnx := HNX.out
            rw [hfr, hfe] at hnx
            have HSW := Lib.hid (fun (W : World) (hW : Arr W g dk) (x y : Nat) (hx : dk[fr]! = x) (hy : dk[fe]! = y) => hW.swp (i := fr) (j := fe) (x := x) (y := y) hfrn0 hfen0 hx hy)
            have HSC := Lib.hid (fun (W : World) (hW : Arr W g dk) (y : Nat) (hy : dk[fe]! = y) => hW.second (i := fr) (j := fe) hfrn0 hfen0 hy)
            obtain ⟨y, hy⟩ : ∃ y, dk[fr]! = y := ⟨_, rfl⟩
            obtain ⟨x, hx⟩ : ∃ x, dk[fe]! = x := ⟨_, rfl⟩
            rw [hy] at cy hnx
            rw [hx] at cx hnx
            obtain ⟨q2, hq2⟩ : ∃ q, ltB y x = q := ⟨_, rfl⟩
            rw [hq2] at hnx
            have HNX2 := Lib.hid hnx
            have HQ2 := Lib.hid hq2
            have HX := Lib.hid hx
            have HY := Lib.hid hy
            have hz1 := H1.out.nf fr
            have hz2 := H1.out.nf fe
            have hfrn : (fr : Int) < (n : Int) := by omega
            have hfen : (fe : Int) < (n : Int) := by omega
            have hfr0 : (0 : Int) ≤ (fr : Int) := by omega
            have hfe0 : (0 : Int) ≤ (fe : Int) := by omega
            have hcI : (c : Int) ≤ 1099511627776 := by omega
            have hmeas : 1099511627776 - c < 1099511627776 - r := by omega
            have hw1 := wrap_sum hfr (by omega)
            have hw2 := wrap_sum hfe (by omega)
            clear hnx hq2 hx hy hfr hfe hfrn0 hfen0 HNX
            go_upto_region 5 with fail
            go_cut [52] (fun v wz => v = .bool (!q2) ∧ ∃ kq, wz = W1.drewN kq)
            case first =>
              go_quiet ((go_at_call 53; exact Calls.quiet_of_same (less_q HQ2.out _)))
              go_wp2
              go_meet
              exact ⟨rfl, _, rfl⟩
            case rest =>
              obtain ⟨rfl, kq, rfl⟩ := hcut
              cases q2 with
              | false =>
                have hfin := HNX2.out
                rw [if_neg (by simp)] at hfin
                have HF := Lib.hid hfin
                clear hfin hw1 hw2
                go_wp2
                first | go_end0 | (refine bodyPost_ret (results_none rfl _ _ _) rfl ?_) | (refine bodyPost_end (results_none rfl _ _ _) rfl ?_)
                exact ⟨rfl, by rw [HF.out]; exact H1.out.drewN kq, HK1.out.trans (Kq.drewN g W1 kq), by rw [HF.out]; exact HS.out⟩
              | true =>
                have hfin := HNX2.out
                rw [if_pos rfl] at hfin
                have HF := Lib.hid hfin
                clear hfin
                go_upto_region 6 with fail
                have hs2 := HSC.out _ (H1.out.drewN (kq + 1)) x HX.out
                go_region
                clear hw1 hw2
                go_wp2
                go_roundw
                case rel => exact ⟨c, _, rfl, hcI, by rw [Sort.swp_size]; exact HS.out, HSW.out _ (H1.out.drewN (kq + 1)) y x HY.out HX.out, (HK1.out.trans (Kq.drewN g W1 (kq + 1))).trans (swp_kp g fr fe _ _ _), Lib.hid HF.out.symm⟩
                case measure => simp [intOf] <;> omega
      · have hI : (hi : Int) ≤ (c1 : Int) := by omega
        have hfin := HO.out
        rw [sift_end (by omega)] at hfin
        have HF := Lib.hid hfin
        clear hfin hc1
        go_wp2
        first | go_end0 | (refine bodyPost_end (results_none rfl _ _ _) rfl ?_) | (refine bodyPost_ret (results_none rfl _ _ _) rfl ?_)
        exact ⟨rfl, by rw [← HF.out]; exact H0.out, HK0.out, by rw [← HF.out]; exact HS.out⟩
end Go.Proofs.Ytfgfamafjkjakaa
namespace Go.Proofs.Ytfgfamafjkjakaa
open Go.ChangeShapes Go.WideShapes Go.ChangeAt Go.RowKit Go.Deep
set_option linter.unusedVariables false
set_option linter.unusedSimpArgs false
set_option maxRecDepth 100000 in
set_option maxHeartbeats 32000000 in
theorem Heap_any (g n cap a b : Nat) (d : Array Nat) (w : World) (hA : Arr w g d) (hn : d.size = n) (hnc : n ≤ cap) (hcap : (cap : Int) ≤ 9223372036854775807) (hn40 : (n : Int) ≤ 1099511627776) (hb : b ≤ n) (hab : a < b) :
    Calls Try.prog 58 #[.slice (some ⟨g, 0, none⟩) n cap, .int .i64 (a : Int), .int .i64 (b : Int)] w fun e w' => Sorts g n w (Sort.heapSort ltB d a b) e w' := by
  have HA := Lib.hid hA
  have HN := Lib.hid hn
  obtain ⟨h, hh⟩ : ∃ h, b - a = h := ⟨_, rfl⟩
  obtain ⟨k0, hk0⟩ : ∃ k, (h - 1) / 2 = k := ⟨_, rfl⟩
  have haI : (a : Int) ≤ 1099511627776 := by omega
  have hbI : (b : Int) ≤ 1099511627776 := by omega
  have habI : (a : Int) ≤ (b : Int) := by omega
  have hh1 : (1 : Int) ≤ (h : Int) := by omega
  have hh2 : (h : Int) ≤ 1099511627776 := by omega
  have hk02 : k0 < h := by omega
  have hah : a + h ≤ n := by omega
  have HH := Lib.hid hh
  have HK0 := Lib.hid hk0
  have hdef : Sort.heapSort ltB d a b = Sort.heapPop ltB a h (Sort.heapBuild ltB h a (k0 + 1) d) := by
    unfold Sort.heapSort
    rw [hh, hk0]
  have HDF := Lib.hid hdef
  clear hA hn hh hk0 hdef
  go_enter Try.func58, Try.ntmps58
  go_upto_region 2 with fail
  go_cut [8] (fun v wz => v = .int .i64 (h : Int) ∧ w = wz)
  case first =>
    go_wp2
    go_meet
    exact ⟨int_eq (by have := HH.out; omega), rfl⟩
  case rest =>
    obtain ⟨rfl, rfl⟩ := hcut
    go_upto_region 3 with fail
    go_cut [9] (fun v wz => v = .int .i64 (k0 : Int) ∧ w = wz)
    case first =>
      go_wp2
      go_meet
      exact ⟨int_eq (by have := HK0.out; omega), rfl⟩
    case rest =>
      obtain ⟨rfl, rfl⟩ := hcut
      go_wp2_with fail
      go_loopw [9] (fun v9 wr => ∃ (k : Nat) (dk : Array Nat), (k = 0 ∧ v9 = .int .i64 (-1) ∨ ∃ m, k = m + 1 ∧ v9 = .int .i64 (m : Int)) ∧ k ≤ k0 + 1 ∧ dk.size = n ∧ Arr wr g dk ∧ Kq g w wr ∧ Hid (Sort.heapBuild ltB h a k dk = Sort.heapBuild ltB h a (k0 + 1) d)) (fun v9 _ => (intOf v9 + 1).toNat)
      case atStart => exact ⟨k0 + 1, d, .inr ⟨k0, rfl, rfl⟩, Nat.le_refl _, HN.out, HA.out, Kq.refl _ _, Lib.hid rfl⟩
      case round =>
        obtain ⟨k, dk, hv, hkk, hs, h0, hk0, HO⟩ := hrel
        obtain ⟨W0, rfl⟩ : ∃ W0, W0 = wr := ⟨wr, rfl⟩
        have H0 := Lib.hid h0
        have HKP := Lib.hid hk0
        have HS := Lib.hid hs
        clear h0 hk0 hs
        rcases hv with ⟨rfl, rfl⟩ | ⟨m, rfl, rfl⟩
        · have hfin := HO.out
          have hfin2 : Sort.heapBuild ltB h a (k0 + 1) d = dk := hfin.symm
          rw [hfin2] at HDF
          clear hfin hfin2 HO
          go_upto_region 7 with fail
          go_cut [10] (fun v wz => (∃ m, h = m + 1 ∧ v = .int .i64 (m : Int)) ∧ W0 = wz)
          case first =>
            go_wp2
            go_meet
            exact ⟨⟨h - 1, by omega, int_eq (by omega)⟩, rfl⟩
          case rest =>
            obtain ⟨⟨m0, hm0, rfl⟩, rfl⟩ := hcut
            have HM0 := Lib.hid hm0
            clear hm0
            go_wp2_with fail
            go_loopw [10] (fun v10 wr => ∃ (k : Nat) (dj : Array Nat), (k = 0 ∧ v10 = .int .i64 (-1) ∨ ∃ m, k = m + 1 ∧ v10 = .int .i64 (m : Int)) ∧ k ≤ h ∧ dj.size = n ∧ Arr wr g dj ∧ Kq g w wr ∧ Hid (Sort.heapPop ltB a k dj = Sort.heapPop ltB a h dk)) (fun v10 _ => (intOf v10 + 1).toNat)
            case atStart => exact ⟨h, dk, .inr ⟨m0, HM0.out, rfl⟩, Nat.le_refl _, HS.out, H0.out, HKP.out, Lib.hid rfl⟩
            case round =>
              obtain ⟨k, dj, hv, hkk, hs, h1, hk1, HP⟩ := hrel
              obtain ⟨W1, rfl⟩ : ∃ W1, W1 = wr := ⟨wr, rfl⟩
              have H1 := Lib.hid h1
              have HK1 := Lib.hid hk1
              have HS1 := Lib.hid hs
              clear h1 hk1 hs
              rcases hv with ⟨rfl, rfl⟩ | ⟨m, rfl, rfl⟩
              · have hfin : dj = Sort.heapSort ltB d a b := by rw [HDF.out, ← HP.out]; rfl
                have HF := Lib.hid hfin
                clear hfin
                go_wp2
                first | go_end0 | (refine bodyPost_end (results_none rfl _ _ _) rfl ?_) | (refine bodyPost_ret (results_none rfl _ _ _) rfl ?_)
                exact ⟨rfl, by rw [← HF.out]; exact H1.out, HK1.out, by rw [← HF.out]; exact HS1.out⟩
              · obtain ⟨am, ham⟩ : ∃ x, a + m = x := ⟨_, rfl⟩
                have ha1 : a < dj.size := by rw [HS1.out]; omega
                have ham1 : am < dj.size := by rw [HS1.out]; omega
                have cy := H1.out.cell a ha1
                have cx := H1.out.cell am ham1
                have HSW := Lib.hid (fun (W : World) (hW : Arr W g dj) (x y : Nat) (hx : dj[a]! = x) (hy : dj[am]! = y) => hW.swp (i := a) (j := am) (x := x) (y := y) ha1 ham1 hx hy)
                have HSC := Lib.hid (fun (W : World) (hW : Arr W g dj) (y : Nat) (hy : dj[am]! = y) => hW.second (i := a) (j := am) ha1 ham1 hy)
                obtain ⟨y, hy⟩ : ∃ y, dj[a]! = y := ⟨_, rfl⟩
                obtain ⟨x, hx⟩ : ∃ x, dj[am]! = x := ⟨_, rfl⟩
                rw [hy] at cy
                rw [hx] at cx
                have HX := Lib.hid hx
                have HY := Lib.hid hy
                have hz1 := H1.out.nf a
                have hz2 := H1.out.nf am
                have haN : (a : Int) < (n : Int) := by omega
                have hamN : (am : Int) < (n : Int) := by omega
                have ha0 : (0 : Int) ≤ (a : Int) := by omega
                have ham0 : (0 : Int) ≤ (am : Int) := by omega
                have hm00 : (0 : Int) ≤ (m : Int) := by omega
                have hmI : (m : Int) ≤ 1099511627776 := by omega
                have ham2 : a + m ≤ n := by omega
                have hw1 := wrap_sum ham (by omega)
                have HP2 := Lib.hid (show Sort.heapPop ltB a m (Sort.siftDown ltB m a 0 (Sort.swp dj a am)) = Sort.heapPop ltB a h dk by rw [← HP.out, ← ham]; rfl)
                clear hx hy ha1 ham1 ham HP
                go_upto_region 10 with fail
                have hs2 := HSC.out _ H1.out x HX.out
                go_region
                clear hw1 cy cx hz1 hz2 hs2
                have h2 := (HSW.out _ H1.out y x HY.out HX.out).drew
                have hk2 := (HK1.out.trans (swp_kp g a am W1 (.int .u64 (x : Int)) (.int .u64 (y : Int)))).trans (Kq.drewN g _ 1)
                have H2 := Lib.hid h2
                have HK2 := Lib.hid hk2
                clear h2 hk2
                go_wp2_with fail
                refine (Sift_any g n cap 0 m a _ _ H2.out (by rw [Sort.swp_size]; exact HS1.out) hnc hcap hn40 ham2 (by decide)).mono ?_
                rintro e w3 ⟨rfl, h3, hk3, hs3⟩
                have H3 := Lib.hid h3
                have HK3 := Lib.hid (HK2.out.trans hk3)
                have HS3 := Lib.hid hs3
                clear h3 hk3 hs3
                go_wp2
                go_roundw
                case rel => exact ⟨m, _, (Nat.eq_zero_or_pos m).elim (fun e => .inl ⟨e, by subst e; rfl⟩) (fun e => .inr ⟨m - 1, by omega, int_eq (by omega)⟩), by omega, HS3.out, H3.out, HK3.out, HP2⟩
                case measure => simp [intOf] <;> omega
        · have hm00 : (0 : Int) ≤ (m : Int) := by omega
          have hmI : (m : Int) ≤ 1099511627776 := by omega
          go_wp2_with fail
          refine (Sift_any g n cap m h a dk W0 H0.out HS.out hnc hcap hn40 hah hmI).mono ?_
          rintro e w3 ⟨rfl, h3, hk3, hs3⟩
          have H3 := Lib.hid h3
          have HK3 := Lib.hid (HKP.out.trans hk3)
          have HS3 := Lib.hid hs3
          clear h3 hk3 hs3
          go_wp2
          go_roundw
          case rel => exact ⟨m, _, (Nat.eq_zero_or_pos m).elim (fun e => .inl ⟨e, by subst e; rfl⟩) (fun e => .inr ⟨m - 1, by omega, int_eq (by omega)⟩), by omega, HS3.out, H3.out, HK3.out, Lib.hid (by rw [← HO.out]; rfl)⟩
          case measure => simp [intOf] <;> omega
end Go.Proofs.Ytfgfamafjkjakaa
namespace Go.Proofs.Ytfgfamafjkjakaa
open Go.ChangeShapes Go.WideShapes Go.ChangeAt Go.RowKit Go.Deep
set_option linter.unusedVariables false
set_option linter.unusedSimpArgs false
theorem rev_next (i j : Nat) (d : Array Nat) (h : i < j) : Sort.reverseLoop i j d = Sort.reverseLoop (i + 1) (j - 1) (Sort.swp d i j) := by
  conv => lhs; unfold Sort.reverseLoop
  rw [if_pos h]
theorem rev_end (i j : Nat) (d : Array Nat) (h : ¬ i < j) : Sort.reverseLoop i j d = d := by
  unfold Sort.reverseLoop
  rw [if_neg h]
set_option maxRecDepth 100000 in
set_option maxHeartbeats 32000000 in
theorem Reverse_any (g n cap a b : Nat) (d : Array Nat) (w : World) (hA : Arr w g d) (hn : d.size = n) (hnc : n ≤ cap) (hcap : (cap : Int) ≤ 9223372036854775807) (hn40 : (n : Int) ≤ 1099511627776) (hb : b ≤ n) (hab : a < b) :
    Calls Try.prog 61 #[.slice (some ⟨g, 0, none⟩) n cap, .int .i64 (a : Int), .int .i64 (b : Int)] w fun e w' => Sorts g n w (Sort.reverseRange d a b) e w' := by
  have HA := Lib.hid hA
  have HN := Lib.hid hn
  obtain ⟨b1, hb1⟩ : ∃ x, b - 1 = x := ⟨_, rfl⟩
  have hb1I : (b : Int) - 1 = (b1 : Int) := by omega
  have hbI : (b : Int) ≤ 1099511627776 := by omega
  have hb1n : b1 < n := by omega
  have hDF : Sort.reverseRange d a b = Sort.reverseLoop a b1 d := by unfold Sort.reverseRange; rw [hb1]
  have HDF := Lib.hid hDF
  have HB1 := Lib.hid hb1I
  clear hA hn hb1 hDF hb1I
  go_enter Try.func61, Try.ntmps61
  go_upto_region 1 with fail
  go_cut [7] (fun v wz => v = .int .i64 (b1 : Int) ∧ w = wz)
  case first =>
    go_wp2
    go_meet
    exact ⟨int_eq HB1.out, rfl⟩
  case rest =>
    obtain ⟨rfl, rfl⟩ := hcut
    go_wp2_with fail
    go_loopw [6, 7] (fun v6 v7 wr => ∃ (i j : Nat) (dk : Array Nat), v6 = .int .i64 (i : Int) ∧ v7 = .int .i64 (j : Int) ∧ i ≤ n ∧ j < n ∧ dk.size = n ∧ Arr wr g dk ∧ Kq g w wr ∧ Hid (Sort.reverseLoop i j dk = Sort.reverseLoop a b1 d)) (fun _ v7 _ => (intOf v7).toNat)
    case atStart => exact ⟨a, b1, d, rfl, rfl, by omega, hb1n, HN.out, HA.out, Kq.refl _ _, Lib.hid rfl⟩
    case round =>
      obtain ⟨i, j, dk, rfl, rfl, hi, hj, hs, h0, hk0, HO⟩ := hrel
      obtain ⟨W0, rfl⟩ : ∃ W0, W0 = wr := ⟨wr, rfl⟩
      have H0 := Lib.hid h0
      have HK0 := Lib.hid hk0
      have HS := Lib.hid hs
      clear h0 hk0 hs
      rcases Nat.lt_or_ge i j with hlt | hge
      · have hI : (i : Int) < (j : Int) := by omega
        have ha : i < (dk).size := by rw [HS.out]; omega
        have hb : j < (dk).size := by rw [HS.out]; omega
        have ci := H0.out.cell i ha
        have cj := H0.out.cell j hb
        have HSW := Lib.hid (fun (x y : Nat) (hx : (dk)[i]! = x) (hy : (dk)[j]! = y) => H0.out.swp (i := i) (j := j) (x := x) (y := y) ha hb hx hy)
        have HSC := Lib.hid (fun (y : Nat) (hy : (dk)[j]! = y) => H0.out.second (i := i) (j := j) ha hb hy)
        obtain ⟨x, hx⟩ : ∃ x, (dk)[i]! = x := ⟨_, rfl⟩
        obtain ⟨y, hy⟩ : ∃ y, (dk)[j]! = y := ⟨_, rfl⟩
        rw [hx] at ci
        rw [hy] at cj
        have HX := Lib.hid hx
        have HY := Lib.hid hy
        have zi := H0.out.nf i
        have zj := H0.out.nf j
        have hiN : (i : Int) < (n : Int) := by omega
        have hjN : (j : Int) < (n : Int) := by omega
        have hi0 : (0 : Int) ≤ (i : Int) := by omega
        have hj0 : (0 : Int) ≤ (j : Int) := by omega
        clear hx hy ha hb
        go_upto_region 3 with fail
        have hs := HSC.out y HY.out
        go_region
        clear ci cj zi zj hs
        have H2 := Lib.hid ((HSW.out x y HX.out HY.out).drew)
        have HK2 := Lib.hid ((HK0.out.trans (swp_kp g i j W0 (.int .u64 (y : Int)) (.int .u64 (x : Int)))).trans (Kq.drew g _))
        clear HSW HSC HX HY
        have hnI : (n : Int) ≤ 1099511627776 := by omega
        go_wp2
        go_roundw
        case rel => exact ⟨i + 1, j - 1, _, by go_num, int_eq (by omega), by omega, by omega, by rw [Sort.swp_size]; exact HS.out, H2.out, HK2.out, Lib.hid (by rw [← HO.out, rev_next i j dk hlt])⟩
        case measure => simp [intOf] <;> omega
      · have hI : ¬ (i : Int) < (j : Int) := by omega
        have hfin : dk = Sort.reverseRange d a b := by rw [HDF.out, ← HO.out, rev_end i j dk (by omega)]
        have HF := Lib.hid hfin
        clear hfin
        go_wp2
        first | go_end0 | (refine bodyPost_end (results_none rfl _ _ _) rfl ?_) | (refine bodyPost_ret (results_none rfl _ _ _) rfl ?_)
        exact ⟨rfl, by rw [← HF.out]; exact H0.out, HK0.out, by rw [← HF.out]; exact HS.out⟩

theorem up_next {p : Nat → Bool} {d : Array Nat} {j i : Nat} (_ : Unit) (_ : Unit) (h : (decide (i ≤ j) && p d[i]!) = true) : Sort.scanUp p d j i = Sort.scanUp p d j (i + 1) := by
  conv => lhs; unfold Sort.scanUp
  rw [if_pos h]
theorem up_end {p : Nat → Bool} {d : Array Nat} {j i : Nat} (_ : Unit) (_ : Unit) (h : (decide (i ≤ j) && p d[i]!) = false) : Sort.scanUp p d j i = i := by
  unfold Sort.scanUp
  rw [if_neg (by rw [h]; exact Bool.false_ne_true)]
theorem down_next {p : Nat → Bool} {d : Array Nat} {i j : Nat} (_ : Unit) (_ : Unit) (h1 : 1 ≤ j) (h : (decide (i ≤ j) && p d[j]!) = true) : Sort.scanDown p d i j = Sort.scanDown p d i (j - 1) := by
  obtain ⟨k, rfl⟩ : ∃ k, j = k + 1 := ⟨j - 1, by omega⟩
  conv => lhs; unfold Sort.scanDown
  rw [if_pos h]
  rfl
theorem down_end {p : Nat → Bool} {d : Array Nat} {i j : Nat} (_ : Unit) (_ : Unit) (h : (decide (i ≤ j) && p d[j]!) = false) : Sort.scanDown p d i j = j := by
  cases j with
  | zero => rfl
  | succ k =>
    unfold Sort.scanDown
    rw [if_neg (by rw [h]; exact Bool.false_ne_true)]
set_option maxRecDepth 100000 in
set_option maxHeartbeats 64000000 in
theorem PartEq_any (g n cap a b pv : Nat) (d : Array Nat) (w : World) (hA : Arr w g d) (hn : d.size = n) (hnc : n ≤ cap) (hcap : (cap : Int) ≤ 9223372036854775807) (hn40 : (n : Int) ≤ 1099511627776) (hb : b ≤ n) (hp1 : a ≤ pv) (hp2 : pv < b) :
    Calls Try.prog 63 #[.slice (some ⟨g, 0, none⟩) n cap, .int .i64 (a : Int), .int .i64 (b : Int), .int .i64 (pv : Int)] w fun e w' => e = .returned (.int .i64 ((Sort.partitionEqual ltB d a b pv).1 : Int)) ∧ Arr w' g (Sort.partitionEqual ltB d a b pv).2 ∧ Kq g w w' ∧ (Sort.partitionEqual ltB d a b pv).2.size = n := by
  have HA := Lib.hid hA
  have HS0 := Lib.hid hn
  have HK0 := Lib.hid (Kq.refl g w)
  obtain ⟨b1, hb1⟩ : ∃ x, b - 1 = x := ⟨_, rfl⟩
  have hb1I : (b : Int) - 1 = (b1 : Int) := by omega
  have hbI : (b : Int) ≤ 1099511627776 := by omega
  have haI : (a : Int) ≤ 1099511627776 := by omega
  have hb1n : b1 < n := by omega
  have hab : a < b1 + 1 := by omega
  have han : a < n := by omega
  obtain ⟨R, hR⟩ : ∃ R, Sort.partitionEqual ltB d a b pv = R := ⟨_, rfl⟩
  have hDF : Sort.partEqLoop ltB a (a + 1) b1 (Sort.swp d a pv) = R := by rw [← hR]; unfold Sort.partitionEqual; rw [hb1]
  rw [hR]
  have HDF := Lib.hid hDF
  have HB1 := Lib.hid hb1I
  clear hA hn hb1 hDF hb1I hR
  go_enter Try.func63, Try.ntmps63
  have ha : a < (d).size := by rw [HS0.out]; omega
  have hb : pv < (d).size := by rw [HS0.out]; omega
  have ci := HA.out.cell a ha
  have cj := HA.out.cell pv hb
  have HSW := Lib.hid (fun (x y : Nat) (hx : (d)[a]! = x) (hy : (d)[pv]! = y) => HA.out.swp (i := a) (j := pv) (x := x) (y := y) ha hb hx hy)
  have HSC := Lib.hid (fun (y : Nat) (hy : (d)[pv]! = y) => HA.out.second (i := a) (j := pv) ha hb hy)
  obtain ⟨x, hx⟩ : ∃ x, (d)[a]! = x := ⟨_, rfl⟩
  obtain ⟨y, hy⟩ : ∃ y, (d)[pv]! = y := ⟨_, rfl⟩
  rw [hx] at ci
  rw [hy] at cj
  have HX := Lib.hid hx
  have HY := Lib.hid hy
  have zi := HA.out.nf a
  have zj := HA.out.nf pv
  have hiN : (a : Int) < (n : Int) := by omega
  have hjN : (pv : Int) < (n : Int) := by omega
  have hi0 : (0 : Int) ≤ (a : Int) := by omega
  have hj0 : (0 : Int) ≤ (pv : Int) := by omega
  clear hx hy ha hb
  go_upto_region 1 with fail
  have hs := HSC.out y HY.out
  go_region
  clear ci cj zi zj hs
  have H1 := Lib.hid ((HSW.out x y HX.out HY.out).drew)
  have HK1 := Lib.hid ((HK0.out.trans (swp_kp g a pv w (.int .u64 (y : Int)) (.int .u64 (x : Int)))).trans (Kq.drew g _))
  clear HSW HSC HX HY
  obtain ⟨w1, hw1⟩ : ∃ zz, ((w.setCell ⟨g, a, none⟩ (.int .u64 (y : Int))).setCell ⟨g, pv, none⟩ (.int .u64 (x : Int))).drew = zz := ⟨_, rfl⟩
  rw [hw1] at H1 HK1 ⊢
  clear hw1
  obtain ⟨d1, hd1⟩ : ∃ x, Sort.swp d a pv = x := ⟨_, rfl⟩
  have hs1 : d1.size = n := by rw [← hd1, Sort.swp_size]; exact HS0.out
  rw [hd1] at H1 HDF
  have HS1 := Lib.hid hs1
  clear hd1 hs1 HS0
  go_upto_region 2 with fail
  go_cut [9, 10] (fun v9 v10 wz => v9 = .int .i64 ((a + 1 : Nat) : Int) ∧ v10 = .int .i64 (b1 : Int) ∧ w1 = wz)
  case first =>
    go_wp2
    go_meet
    exact ⟨int_eq (by omega), int_eq HB1.out, rfl⟩
  case rest =>
    obtain ⟨rfl, rfl, rfl⟩ := hcut
    go_wp2_with fail
    go_loopw [9, 10] (fun v9 v10 wr => ∃ (i j : Nat) (dk : Array Nat), v9 = .int .i64 (i : Int) ∧ v10 = .int .i64 (j : Int) ∧ a < i ∧ i ≤ j + 1 ∧ j < n ∧ dk.size = n ∧ Arr wr g dk ∧ Kq g w wr ∧ Hid (Sort.partEqLoop ltB a i j dk = R)) (fun v9 v10 _ => (intOf v10 + 1 - intOf v9).toNat)
    case atStart => exact ⟨a + 1, b1, d1, rfl, rfl, by omega, by omega, hb1n, HS1.out, H1.out, HK1.out, HDF⟩
    case round =>
      obtain ⟨i, j, dk, rfl, rfl, hai, hij, hjn, hs, h0, hk0, HO⟩ := hrel
      obtain ⟨W0, rfl⟩ : ∃ W0, W0 = wr := ⟨wr, rfl⟩
      have H0 := Lib.hid h0
      have HK0 := Lib.hid hk0
      have HS := Lib.hid hs
      clear h0 hk0 hs
      obtain ⟨rA, hrA⟩ : ∃ x, Sort.scanUp (fun x => !ltB (dk)[a]! x) (dk) j i = x := ⟨_, rfl⟩
      have HRA := Lib.hid hrA
      clear hrA
      go_wp2_with fail
      go_loopw [9] (fun z wr => ∃ uA : Nat, z = .int .i64 (uA : Int) ∧ i ≤ uA ∧ uA ≤ j + 1 ∧ Hid (Sort.scanUp (fun x => !ltB (dk)[a]! x) (dk) j uA = rA) ∧ Arr wr g (dk) ∧ Kq g w wr) (fun z _ => j + 1 - (intOf z).toNat)
      case atStart => exact ⟨i, rfl, by omega, by omega, HRA, H0.out, HK0.out⟩
      case round =>
        obtain ⟨uA, rfl, raA, rbA, HRA', h_, hk_⟩ := hrel
        obtain ⟨WA, rfl⟩ : ∃ WA, WA = wr := ⟨wr, rfl⟩
        have HA := Lib.hid h_
        have HKA := Lib.hid hk_
        clear h_ hk_
        obtain ⟨cbA, hcb⟩ : ∃ q, (decide (uA ≤ j) && (fun x => !ltB (dk)[a]! x) (dk)[uA]!) = q := ⟨_, rfl⟩
        have HCBA := Lib.hid hcb
        clear hcb
        go_upto_region 3 with fail
        go_cut [43] (fun v wz => v = .bool cbA ∧ ∃ kq, wz = WA.drewN kq)
        case first =>
          by_cases hle : uA ≤ j
          · have hleI : (uA : Int) ≤ (j : Int) := by omega
            have hvn : uA < n := by omega
            have haA : a < (dk).size := by rw [HS.out]; omega
            have hbA : uA < (dk).size := by rw [HS.out]; omega
            have ciA := HA.out.cell a haA
            have cjA := HA.out.cell uA hbA
            obtain ⟨xA, hxA⟩ : ∃ x, (dk)[a]! = x := ⟨_, rfl⟩
            obtain ⟨yA, hyA⟩ : ∃ y, (dk)[uA]! = y := ⟨_, rfl⟩
            rw [hxA] at ciA
            rw [hyA] at cjA
            obtain ⟨qA, hqA⟩ : ∃ q, ltB xA yA = q := ⟨_, rfl⟩
            have HQA := Lib.hid hqA
            have HLA : Hid (ltB (dk)[a]! (dk)[uA]! = qA) := by rw [hxA, hyA]; exact HQA
            have hiNA : (a : Int) < (n : Int) := by omega
            have hjNA : (uA : Int) < (n : Int) := by omega
            have hi0A : (0 : Int) ≤ (a : Int) := by omega
            have hj0A : (0 : Int) ≤ (uA : Int) := by omega
            clear hxA hyA haA hbA hqA
            have hce : cbA = (!qA) := by rw [← HCBA.out, decide_eq_true hle, Bool.true_and]; show (!ltB _ _) = _; rw [HLA.out]
            subst hce
            go_quiet ((go_at_call 53; exact Calls.quiet_of_same (less_q HQA.out _)))
            go_wp2
            go_meet
            exact ⟨rfl, _, rfl⟩
          · have hleI : ¬ (uA : Int) ≤ (j : Int) := by omega
            have hce : cbA = false := by rw [← HCBA.out, decide_eq_false hle, Bool.false_and]
            subst hce
            go_quiet (fail)
            go_wp2
            go_meet
            exact ⟨rfl, _, rfl⟩
        case rest =>
          obtain ⟨rfl, kq, rfl⟩ := hcut
          have h1_ := HA.out.drewN kq
          have hk1_ := HKA.out.trans (Kq.drewN g WA kq)
          obtain ⟨VA, hW_⟩ : ∃ VA, WA.drewN kq = VA := ⟨_, rfl⟩
          rw [hW_] at h1_ hk1_ ⊢
          have HVA := Lib.hid h1_
          have HKVA := Lib.hid hk1_
          clear h1_ hk1_ hW_
          cases cbA with
          | true =>
            have hnI : (n : Int) ≤ 1099511627776 := by omega
            have hcc : uA ≤ j := by
              have := HCBA.out
              rw [Bool.and_eq_true, decide_eq_true_eq] at this
              exact this.1
            have hvI : (uA : Int) ≤ 1099511627776 := by omega
            go_wp2
            go_roundw
            case rel => exact ⟨uA + 1, int_eq (by omega), by omega, by omega, Lib.hid ((up_next (p := fun x => !ltB (dk)[a]! x) () () HCBA.out).symm.trans HRA'.out), HVA.out, HKVA.out⟩
            case measure => simp [intOf] <;> omega
          | false =>
            obtain rfl : uA = rA := (up_end (p := fun x => !ltB (dk)[a]! x) () () HCBA.out).symm.trans HRA'.out
            obtain ⟨rB, hrB⟩ : ∃ x, Sort.scanDown (fun x => ltB (dk)[a]! x) (dk) uA j = x := ⟨_, rfl⟩
            have HRB := Lib.hid hrB
            clear hrB
            go_wp2_with fail
            go_loopw [10] (fun z wr => ∃ uB : Nat, z = .int .i64 (uB : Int) ∧ uA ≤ uB + 1 ∧ uB ≤ j ∧ Hid (Sort.scanDown (fun x => ltB (dk)[a]! x) (dk) uA uB = rB) ∧ Arr wr g (dk) ∧ Kq g w wr) (fun z _ => (intOf z).toNat)
            case atStart => exact ⟨j, rfl, by omega, by omega, HRB, HVA.out, HKVA.out⟩
            case round =>
              obtain ⟨uB, rfl, raB, rbB, HRB', h_, hk_⟩ := hrel
              obtain ⟨WB, rfl⟩ : ∃ WB, WB = wr := ⟨wr, rfl⟩
              have HB := Lib.hid h_
              have HKB := Lib.hid hk_
              clear h_ hk_
              obtain ⟨cbB, hcb⟩ : ∃ q, (decide (uA ≤ uB) && (fun x => ltB (dk)[a]! x) (dk)[uB]!) = q := ⟨_, rfl⟩
              have HCBB := Lib.hid hcb
              clear hcb
              go_upto_region 5 with fail
              go_cut [59] (fun v wz => v = .bool cbB ∧ ∃ kq, wz = WB.drewN kq)
              case first =>
                by_cases hle : uA ≤ uB
                · have hleI : (uA : Int) ≤ (uB : Int) := by omega
                  have hvn : uB < n := by omega
                  have haB : a < (dk).size := by rw [HS.out]; omega
                  have hbB : uB < (dk).size := by rw [HS.out]; omega
                  have ciB := HB.out.cell a haB
                  have cjB := HB.out.cell uB hbB
                  obtain ⟨xB, hxB⟩ : ∃ x, (dk)[a]! = x := ⟨_, rfl⟩
                  obtain ⟨yB, hyB⟩ : ∃ y, (dk)[uB]! = y := ⟨_, rfl⟩
                  rw [hxB] at ciB
                  rw [hyB] at cjB
                  obtain ⟨qB, hqB⟩ : ∃ q, ltB xB yB = q := ⟨_, rfl⟩
                  have HQB := Lib.hid hqB
                  have HLB : Hid (ltB (dk)[a]! (dk)[uB]! = qB) := by rw [hxB, hyB]; exact HQB
                  have hiNB : (a : Int) < (n : Int) := by omega
                  have hjNB : (uB : Int) < (n : Int) := by omega
                  have hi0B : (0 : Int) ≤ (a : Int) := by omega
                  have hj0B : (0 : Int) ≤ (uB : Int) := by omega
                  clear hxB hyB haB hbB hqB
                  have hce : cbB = (qB) := by rw [← HCBB.out, decide_eq_true hle, Bool.true_and]; show (ltB _ _) = _; rw [HLB.out]
                  subst hce
                  go_quiet ((go_at_call 53; exact Calls.quiet_of_same (less_q HQB.out _)))
                  go_wp2
                  go_meet
                  exact ⟨rfl, _, rfl⟩
                · have hleI : ¬ (uA : Int) ≤ (uB : Int) := by omega
                  have hce : cbB = false := by rw [← HCBB.out, decide_eq_false hle, Bool.false_and]
                  subst hce
                  go_quiet (fail)
                  go_wp2
                  go_meet
                  exact ⟨rfl, _, rfl⟩
              case rest =>
                obtain ⟨rfl, kq, rfl⟩ := hcut
                have h1_ := HB.out.drewN kq
                have hk1_ := HKB.out.trans (Kq.drewN g WB kq)
                obtain ⟨VB, hW_⟩ : ∃ VB, WB.drewN kq = VB := ⟨_, rfl⟩
                rw [hW_] at h1_ hk1_ ⊢
                have HVB := Lib.hid h1_
                have HKVB := Lib.hid hk1_
                clear h1_ hk1_ hW_
                cases cbB with
                | true =>
                  have hnI : (n : Int) ≤ 1099511627776 := by omega
                  have hcc : uA ≤ uB := by
                    have := HCBB.out
                    rw [Bool.and_eq_true, decide_eq_true_eq] at this
                    exact this.1
                  have hvI : (uB : Int) ≤ 1099511627776 := by omega
                  go_wp2
                  go_roundw
                  case rel => exact ⟨uB - 1, int_eq (by omega), by omega, by omega, Lib.hid ((down_next (p := fun x => ltB (dk)[a]! x) () () (by omega) HCBB.out).symm.trans HRB'.out), HVB.out, HKVB.out⟩
                  case measure => simp [intOf] <;> omega
                | false =>
                  obtain rfl : uB = rB := (down_end (p := fun x => ltB (dk)[a]! x) () () HCBB.out).symm.trans HRB'.out
                  have hpe := Sort.partEqLoop_eq ltB a i j dk
                  rw [HRA.out, HRB.out, HO.out] at hpe
                  rcases Nat.lt_or_ge uB uA with hlt | hge
                  · rw [if_pos hlt] at hpe
                    subst hpe
                    have hltI : (uB : Int) < (uA : Int) := by omega
                    go_wp2
                    go_ret
                    exact ⟨rfl, HVB.out, HKVB.out, HS.out⟩
                  · rw [if_neg (by omega)] at hpe
                    have HPE := Lib.hid hpe
                    have hne : uA < uB := by
                      rcases Nat.lt_or_ge uA uB with h | h
                      · exact h
                      · obtain rfl : uA = uB := by omega
                        have h1 := HCBA.out
                        have h2 := HCBB.out
                        rw [decide_eq_true (by omega), Bool.true_and] at h1 h2
                        have h1' : (!ltB dk[a]! dk[uA]!) = false := h1
                        have h2' : ltB dk[a]! dk[uA]! = false := h2
                        rw [h2'] at h1'
                        cases h1'
                    have hgeI : ¬ (uB : Int) < (uA : Int) := by omega
                    clear hpe
                    have haS : uA < (dk).size := by rw [HS.out]; omega
                    have hbS : uB < (dk).size := by rw [HS.out]; omega
                    have ciS := HVB.out.cell uA haS
                    have cjS := HVB.out.cell uB hbS
                    have HSWS := Lib.hid (fun (x y : Nat) (hx : (dk)[uA]! = x) (hy : (dk)[uB]! = y) => HVB.out.swp (i := uA) (j := uB) (x := x) (y := y) haS hbS hx hy)
                    have HSCS := Lib.hid (fun (y : Nat) (hy : (dk)[uB]! = y) => HVB.out.second (i := uA) (j := uB) haS hbS hy)
                    obtain ⟨xS, hxS⟩ : ∃ x, (dk)[uA]! = x := ⟨_, rfl⟩
                    obtain ⟨yS, hyS⟩ : ∃ y, (dk)[uB]! = y := ⟨_, rfl⟩
                    rw [hxS] at ciS
                    rw [hyS] at cjS
                    have HXS := Lib.hid hxS
                    have HYS := Lib.hid hyS
                    have ziS := HVB.out.nf uA
                    have zjS := HVB.out.nf uB
                    have hiNS : (uA : Int) < (n : Int) := by omega
                    have hjNS : (uB : Int) < (n : Int) := by omega
                    have hi0S : (0 : Int) ≤ (uA : Int) := by omega
                    have hj0S : (0 : Int) ≤ (uB : Int) := by omega
                    clear hxS hyS haS hbS
                    go_upto_region 8 with fail
                    have hsS := HSCS.out yS HYS.out
                    go_region
                    clear ciS cjS ziS zjS hsS
                    have H2 := Lib.hid ((HSWS.out xS yS HXS.out HYS.out).drew)
                    have HK2 := Lib.hid ((HKVB.out.trans (swp_kp g uA uB VB (.int .u64 (yS : Int)) (.int .u64 (xS : Int)))).trans (Kq.drew g _))
                    clear HSWS HSCS HXS HYS
                    have hnI : (n : Int) ≤ 1099511627776 := by omega
                    have huB : (uB : Int) ≤ 1099511627776 := by omega
                    have huA : (uA : Int) ≤ 1099511627776 := by omega
                    go_wp2
                    go_roundw
                    case rel => exact ⟨uA + 1, uB - 1, _, by go_num, int_eq (by omega), by omega, by omega, by omega, by rw [Sort.swp_size]; exact HS.out, H2.out, HK2.out, Lib.hid HPE.out.symm⟩
                    case measure => simp [intOf] <;> omega
end Go.Proofs.Ytfgfamafjkjakaa
namespace Go.Proofs.Ytfgfamafjkjakaa
open Go.ChangeShapes Go.WideShapes Go.ChangeAt Go.RowKit Go.Deep
set_option linter.unusedVariables false
set_option linter.unusedSimpArgs false
theorem part_is {d d1 : Array Nat} {a b b1 pv i j : Nat} (hb : b - 1 = b1) (h1 : Sort.swp d a pv = d1) (hi : Sort.scanUp (fun x => ltB x d1[a]!) d1 b1 (a + 1) = i) (hj : Sort.scanDown (fun x => !ltB x d1[a]!) d1 i b1 = j) :
    Sort.partition ltB d a b pv = if j < i then (j, true, Sort.swp d1 j a) else ((Sort.partLoop ltB a (i + 1) (j - 1) (Sort.swp d1 i j)).1, false, Sort.swp (Sort.partLoop ltB a (i + 1) (j - 1) (Sort.swp d1 i j)).2 (Sort.partLoop ltB a (i + 1) (j - 1) (Sort.swp d1 i j)).1 a) := by
  subst h1
  subst hb
  subst hi
  subst hj
  rfl
set_option maxRecDepth 100000 in
set_option maxHeartbeats 64000000 in
theorem Part_any (g n cap a b pv : Nat) (d : Array Nat) (w : World) (hA : Arr w g d) (hn : d.size = n) (hnc : n ≤ cap) (hcap : (cap : Int) ≤ 9223372036854775807) (hn40 : (n : Int) ≤ 1099511627776) (hb : b ≤ n) (hp1 : a ≤ pv) (hp2 : pv < b) :
    Calls Try.prog 64 #[.slice (some ⟨g, 0, none⟩) n cap, .int .i64 (a : Int), .int .i64 (b : Int), .int .i64 (pv : Int)] w fun e w' => e = .returned (.tuple #[.int .i64 ((Sort.partition ltB d a b pv).1 : Int), .bool (Sort.partition ltB d a b pv).2.1]) ∧ Arr w' g (Sort.partition ltB d a b pv).2.2 ∧ Kq g w w' ∧ (Sort.partition ltB d a b pv).2.2.size = n := by
  have HA := Lib.hid hA
  have HS0 := Lib.hid hn
  have HK0 := Lib.hid (Kq.refl g w)
  obtain ⟨b1, hb1⟩ : ∃ x, b - 1 = x := ⟨_, rfl⟩
  have hb1I : (b : Int) - 1 = (b1 : Int) := by omega
  have hbI : (b : Int) ≤ 1099511627776 := by omega
  have haI : (a : Int) ≤ 1099511627776 := by omega
  have hb1n : b1 < n := by omega
  have hab : a < b1 + 1 := by omega
  have han : a < n := by omega
  obtain ⟨R, hR⟩ : ∃ R, Sort.partition ltB d a b pv = R := ⟨_, rfl⟩
  rw [hR]
  have HRR := Lib.hid hR
  have HBB := Lib.hid hb1
  have HB1 := Lib.hid hb1I
  clear hA hn hb1 hb1I hR
  go_enter Try.func64, Try.ntmps64
  have ha : a < (d).size := by rw [HS0.out]; omega
  have hb : pv < (d).size := by rw [HS0.out]; omega
  have ci := HA.out.cell a ha
  have cj := HA.out.cell pv hb
  have HSW := Lib.hid (fun (x y : Nat) (hx : (d)[a]! = x) (hy : (d)[pv]! = y) => HA.out.swp (i := a) (j := pv) (x := x) (y := y) ha hb hx hy)
  have HSC := Lib.hid (fun (y : Nat) (hy : (d)[pv]! = y) => HA.out.second (i := a) (j := pv) ha hb hy)
  obtain ⟨x, hx⟩ : ∃ x, (d)[a]! = x := ⟨_, rfl⟩
  obtain ⟨y, hy⟩ : ∃ y, (d)[pv]! = y := ⟨_, rfl⟩
  rw [hx] at ci
  rw [hy] at cj
  have HX := Lib.hid hx
  have HY := Lib.hid hy
  have zi := HA.out.nf a
  have zj := HA.out.nf pv
  have hiN : (a : Int) < (n : Int) := by omega
  have hjN : (pv : Int) < (n : Int) := by omega
  have hi0 : (0 : Int) ≤ (a : Int) := by omega
  have hj0 : (0 : Int) ≤ (pv : Int) := by omega
  clear hx hy ha hb
  go_upto_region 1 with fail
  have hs := HSC.out y HY.out
  go_region
  clear ci cj zi zj hs
  have H1 := Lib.hid ((HSW.out x y HX.out HY.out).drew)
  have HK1 := Lib.hid ((HK0.out.trans (swp_kp g a pv w (.int .u64 (y : Int)) (.int .u64 (x : Int)))).trans (Kq.drew g _))
  clear HSW HSC HX HY
  obtain ⟨w1, hw1⟩ : ∃ zz, ((w.setCell ⟨g, a, none⟩ (.int .u64 (y : Int))).setCell ⟨g, pv, none⟩ (.int .u64 (x : Int))).drew = zz := ⟨_, rfl⟩
  rw [hw1] at H1 HK1 ⊢
  clear hw1
  obtain ⟨d1, hd1⟩ : ∃ x, Sort.swp d a pv = x := ⟨_, rfl⟩
  have hs1 : d1.size = n := by rw [← hd1, Sort.swp_size]; exact HS0.out
  rw [hd1] at H1
  have HS := Lib.hid hs1
  have HD1 := Lib.hid hd1
  clear hd1 hs1 HS0
  go_upto_region 2 with fail
  go_cut [10, 11] (fun v9 v10 wz => v9 = .int .i64 ((a + 1 : Nat) : Int) ∧ v10 = .int .i64 (b1 : Int) ∧ w1 = wz)
  case first =>
    go_wp2
    go_meet
    exact ⟨int_eq (by omega), int_eq HB1.out, rfl⟩
  case rest =>
    obtain ⟨rfl, rfl, rfl⟩ := hcut
    obtain ⟨i, hi⟩ : ∃ i, a + 1 = i := ⟨_, rfl⟩
    rw [hi]
    have HI := Lib.hid hi
    have hai : a < i := by omega
    have hij : i ≤ b1 + 1 := by omega
    clear hi
    obtain ⟨rA, hrA⟩ : ∃ x, Sort.scanUp (fun x => ltB x (d1)[a]!) (d1) b1 i = x := ⟨_, rfl⟩
    have HRA := Lib.hid hrA
    clear hrA
    go_wp2_with fail
    go_loopw [10] (fun z wr => ∃ uA : Nat, z = .int .i64 (uA : Int) ∧ i ≤ uA ∧ uA ≤ b1 + 1 ∧ Hid (Sort.scanUp (fun x => ltB x (d1)[a]!) (d1) b1 uA = rA) ∧ Arr wr g (d1) ∧ Kq g w wr) (fun z _ => b1 + 1 - (intOf z).toNat)
    case atStart => exact ⟨i, rfl, by omega, by omega, HRA, H1.out, HK1.out⟩
    case round =>
      obtain ⟨uA, rfl, raA, rbA, HRA', h_, hk_⟩ := hrel
      obtain ⟨WA, rfl⟩ : ∃ WA, WA = wr := ⟨wr, rfl⟩
      have HA := Lib.hid h_
      have HKA := Lib.hid hk_
      clear h_ hk_
      obtain ⟨cbA, hcb⟩ : ∃ q, (decide (uA ≤ b1) && (fun x => ltB x (d1)[a]!) (d1)[uA]!) = q := ⟨_, rfl⟩
      have HCBA := Lib.hid hcb
      clear hcb
      go_upto_region 3 with fail
      go_cut [43] (fun v wz => v = .bool cbA ∧ ∃ kq, wz = WA.drewN kq)
      case first =>
        by_cases hle : uA ≤ b1
        · have hleI : (uA : Int) ≤ (b1 : Int) := by omega
          have hvn : uA < n := by omega
          have haA : uA < (d1).size := by rw [HS.out]; omega
          have hbA : a < (d1).size := by rw [HS.out]; omega
          have ciA := HA.out.cell uA haA
          have cjA := HA.out.cell a hbA
          obtain ⟨xA, hxA⟩ : ∃ x, (d1)[uA]! = x := ⟨_, rfl⟩
          obtain ⟨yA, hyA⟩ : ∃ y, (d1)[a]! = y := ⟨_, rfl⟩
          rw [hxA] at ciA
          rw [hyA] at cjA
          obtain ⟨qA, hqA⟩ : ∃ q, ltB xA yA = q := ⟨_, rfl⟩
          have HQA := Lib.hid hqA
          have HLA : Hid (ltB (d1)[uA]! (d1)[a]! = qA) := by rw [hxA, hyA]; exact HQA
          have hiNA : (uA : Int) < (n : Int) := by omega
          have hjNA : (a : Int) < (n : Int) := by omega
          have hi0A : (0 : Int) ≤ (uA : Int) := by omega
          have hj0A : (0 : Int) ≤ (a : Int) := by omega
          clear hxA hyA haA hbA hqA
          have hce : cbA = (qA) := by rw [← HCBA.out, decide_eq_true hle, Bool.true_and]; show (ltB _ _) = _; rw [HLA.out]
          subst hce
          go_quiet ((go_at_call 53; exact Calls.quiet_of_same (less_q HQA.out _)))
          go_wp2
          go_meet
          exact ⟨rfl, _, rfl⟩
        · have hleI : ¬ (uA : Int) ≤ (b1 : Int) := by omega
          have hce : cbA = false := by rw [← HCBA.out, decide_eq_false hle, Bool.false_and]
          subst hce
          go_quiet (fail)
          go_wp2
          go_meet
          exact ⟨rfl, _, rfl⟩
      case rest =>
        obtain ⟨rfl, kq, rfl⟩ := hcut
        have h1_ := HA.out.drewN kq
        have hk1_ := HKA.out.trans (Kq.drewN g WA kq)
        obtain ⟨VA, hW_⟩ : ∃ VA, WA.drewN kq = VA := ⟨_, rfl⟩
        rw [hW_] at h1_ hk1_ ⊢
        have HVA := Lib.hid h1_
        have HKVA := Lib.hid hk1_
        clear h1_ hk1_ hW_
        cases cbA with
        | true =>
          have hnI : (n : Int) ≤ 1099511627776 := by omega
          have hcc : uA ≤ b1 := by
            have := HCBA.out
            rw [Bool.and_eq_true, decide_eq_true_eq] at this
            exact this.1
          have hvI : (uA : Int) ≤ 1099511627776 := by omega
          go_wp2
          go_roundw
          case rel => exact ⟨uA + 1, int_eq (by omega), by omega, by omega, Lib.hid ((up_next (p := fun x => ltB x (d1)[a]!) () () HCBA.out).symm.trans HRA'.out), HVA.out, HKVA.out⟩
          case measure => simp [intOf] <;> omega
        | false =>
          obtain rfl : uA = rA := (up_end (p := fun x => ltB x (d1)[a]!) () () HCBA.out).symm.trans HRA'.out
          obtain ⟨rB, hrB⟩ : ∃ x, Sort.scanDown (fun x => !ltB x (d1)[a]!) (d1) uA b1 = x := ⟨_, rfl⟩
          have HRB := Lib.hid hrB
          clear hrB
          go_wp2_with fail
          go_loopw [11] (fun z wr => ∃ uB : Nat, z = .int .i64 (uB : Int) ∧ uA ≤ uB + 1 ∧ uB ≤ b1 ∧ Hid (Sort.scanDown (fun x => !ltB x (d1)[a]!) (d1) uA uB = rB) ∧ Arr wr g (d1) ∧ Kq g w wr) (fun z _ => (intOf z).toNat)
          case atStart => exact ⟨b1, rfl, by omega, by omega, HRB, HVA.out, HKVA.out⟩
          case round =>
            obtain ⟨uB, rfl, raB, rbB, HRB', h_, hk_⟩ := hrel
            obtain ⟨WB, rfl⟩ : ∃ WB, WB = wr := ⟨wr, rfl⟩
            have HB := Lib.hid h_
            have HKB := Lib.hid hk_
            clear h_ hk_
            obtain ⟨cbB, hcb⟩ : ∃ q, (decide (uA ≤ uB) && (fun x => !ltB x (d1)[a]!) (d1)[uB]!) = q := ⟨_, rfl⟩
            have HCBB := Lib.hid hcb
            clear hcb
            go_upto_region 5 with fail
            go_cut [60] (fun v wz => v = .bool cbB ∧ ∃ kq, wz = WB.drewN kq)
            case first =>
              by_cases hle : uA ≤ uB
              · have hleI : (uA : Int) ≤ (uB : Int) := by omega
                have hvn : uB < n := by omega
                have haB : uB < (d1).size := by rw [HS.out]; omega
                have hbB : a < (d1).size := by rw [HS.out]; omega
                have ciB := HB.out.cell uB haB
                have cjB := HB.out.cell a hbB
                obtain ⟨xB, hxB⟩ : ∃ x, (d1)[uB]! = x := ⟨_, rfl⟩
                obtain ⟨yB, hyB⟩ : ∃ y, (d1)[a]! = y := ⟨_, rfl⟩
                rw [hxB] at ciB
                rw [hyB] at cjB
                obtain ⟨qB, hqB⟩ : ∃ q, ltB xB yB = q := ⟨_, rfl⟩
                have HQB := Lib.hid hqB
                have HLB : Hid (ltB (d1)[uB]! (d1)[a]! = qB) := by rw [hxB, hyB]; exact HQB
                have hiNB : (uB : Int) < (n : Int) := by omega
                have hjNB : (a : Int) < (n : Int) := by omega
                have hi0B : (0 : Int) ≤ (uB : Int) := by omega
                have hj0B : (0 : Int) ≤ (a : Int) := by omega
                clear hxB hyB haB hbB hqB
                have hce : cbB = (!qB) := by rw [← HCBB.out, decide_eq_true hle, Bool.true_and]; show (!ltB _ _) = _; rw [HLB.out]
                subst hce
                go_quiet ((go_at_call 53; exact Calls.quiet_of_same (less_q HQB.out _)))
                go_wp2
                go_meet
                exact ⟨rfl, _, rfl⟩
              · have hleI : ¬ (uA : Int) ≤ (uB : Int) := by omega
                have hce : cbB = false := by rw [← HCBB.out, decide_eq_false hle, Bool.false_and]
                subst hce
                go_quiet (fail)
                go_wp2
                go_meet
                exact ⟨rfl, _, rfl⟩
            case rest =>
              obtain ⟨rfl, kq, rfl⟩ := hcut
              have h1_ := HB.out.drewN kq
              have hk1_ := HKB.out.trans (Kq.drewN g WB kq)
              obtain ⟨VB, hW_⟩ : ∃ VB, WB.drewN kq = VB := ⟨_, rfl⟩
              rw [hW_] at h1_ hk1_ ⊢
              have HVB := Lib.hid h1_
              have HKVB := Lib.hid hk1_
              clear h1_ hk1_ hW_
              cases cbB with
              | true =>
                have hnI : (n : Int) ≤ 1099511627776 := by omega
                have hcc : uA ≤ uB := by
                  have := HCBB.out
                  rw [Bool.and_eq_true, decide_eq_true_eq] at this
                  exact this.1
                have hvI : (uB : Int) ≤ 1099511627776 := by omega
                go_wp2
                go_roundw
                case rel => exact ⟨uB - 1, int_eq (by omega), by omega, by omega, Lib.hid ((down_next (p := fun x => !ltB x (d1)[a]!) () () (by omega) HCBB.out).symm.trans HRB'.out), HVB.out, HKVB.out⟩
                case measure => simp [intOf] <;> omega
              | false =>
                obtain rfl : uB = rB := (down_end (p := fun x => !ltB x (d1)[a]!) () () HCBB.out).symm.trans HRB'.out
                have hpi := part_is HBB.out HD1.out (by rw [HI.out]; exact HRA.out) HRB.out
                rw [HRR.out] at hpi
                rcases Nat.lt_or_ge uB uA with hlt | hge
                · rw [if_pos hlt] at hpi
                  have HPI := Lib.hid hpi
                  have hltI : (uB : Int) < (uA : Int) := by omega
                  clear hpi
                  have haS : uB < (d1).size := by rw [HS.out]; omega
                  have hbS : a < (d1).size := by rw [HS.out]; omega
                  have ciS := HVB.out.cell uB haS
                  have cjS := HVB.out.cell a hbS
                  have HSWS := Lib.hid (fun (x y : Nat) (hx : (d1)[uB]! = x) (hy : (d1)[a]! = y) => HVB.out.swp (i := uB) (j := a) (x := x) (y := y) haS hbS hx hy)
                  have HSCS := Lib.hid (fun (y : Nat) (hy : (d1)[a]! = y) => HVB.out.second (i := uB) (j := a) haS hbS hy)
                  obtain ⟨xS, hxS⟩ : ∃ x, (d1)[uB]! = x := ⟨_, rfl⟩
                  obtain ⟨yS, hyS⟩ : ∃ y, (d1)[a]! = y := ⟨_, rfl⟩
                  rw [hxS] at ciS
                  rw [hyS] at cjS
                  have HXS := Lib.hid hxS
                  have HYS := Lib.hid hyS
                  have ziS := HVB.out.nf uB
                  have zjS := HVB.out.nf a
                  have hiNS : (uB : Int) < (n : Int) := by omega
                  have hjNS : (a : Int) < (n : Int) := by omega
                  have hi0S : (0 : Int) ≤ (uB : Int) := by omega
                  have hj0S : (0 : Int) ≤ (a : Int) := by omega
                  clear hxS hyS haS hbS
                  go_upto_region 8 with fail
                  have hsS := HSCS.out yS HYS.out
                  go_region
                  clear ciS cjS ziS zjS hsS
                  have H2 := Lib.hid ((HSWS.out xS yS HXS.out HYS.out).drew)
                  have HK2 := Lib.hid ((HKVB.out.trans (swp_kp g uB a VB (.int .u64 (yS : Int)) (.int .u64 (xS : Int)))).trans (Kq.drew g _))
                  clear HSWS HSCS HXS HYS
                  go_wp2
                  go_ret2
                  exact ⟨by rw [HPI.out]; rfl, by rw [HPI.out]; exact H2.out, HK2.out, by rw [HPI.out]; show (Sort.swp d1 uB a).size = n; rw [Sort.swp_size]; exact HS.out⟩
                · rw [if_neg (by omega)] at hpi
                  have HPI := Lib.hid hpi
                  have hne : uA < uB := by
                    rcases Nat.lt_or_ge uA uB with h | h
                    · exact h
                    · obtain rfl : uA = uB := by omega
                      have h1 := HCBA.out
                      have h2 := HCBB.out
                      rw [decide_eq_true (by omega), Bool.true_and] at h1 h2
                      have h1' : ltB d1[uA]! d1[a]! = false := h1
                      have h2' : (!ltB d1[uA]! d1[a]!) = false := h2
                      rw [h1'] at h2'
                      cases h2'
                  have hgeI : ¬ (uB : Int) < (uA : Int) := by omega
                  clear hpi
                  have haS : uA < (d1).size := by rw [HS.out]; omega
                  have hbS : uB < (d1).size := by rw [HS.out]; omega
                  have ciS := HVB.out.cell uA haS
                  have cjS := HVB.out.cell uB hbS
                  have HSWS := Lib.hid (fun (x y : Nat) (hx : (d1)[uA]! = x) (hy : (d1)[uB]! = y) => HVB.out.swp (i := uA) (j := uB) (x := x) (y := y) haS hbS hx hy)
                  have HSCS := Lib.hid (fun (y : Nat) (hy : (d1)[uB]! = y) => HVB.out.second (i := uA) (j := uB) haS hbS hy)
                  obtain ⟨xS, hxS⟩ : ∃ x, (d1)[uA]! = x := ⟨_, rfl⟩
                  obtain ⟨yS, hyS⟩ : ∃ y, (d1)[uB]! = y := ⟨_, rfl⟩
                  rw [hxS] at ciS
                  rw [hyS] at cjS
                  have HXS := Lib.hid hxS
                  have HYS := Lib.hid hyS
                  have ziS := HVB.out.nf uA
                  have zjS := HVB.out.nf uB
                  have hiNS : (uA : Int) < (n : Int) := by omega
                  have hjNS : (uB : Int) < (n : Int) := by omega
                  have hi0S : (0 : Int) ≤ (uA : Int) := by omega
                  have hj0S : (0 : Int) ≤ (uB : Int) := by omega
                  clear hxS hyS haS hbS
                  go_upto_region 10 with fail
                  have hsS := HSCS.out yS HYS.out
                  go_region
                  clear ciS cjS ziS zjS hsS
                  have H2 := Lib.hid ((HSWS.out xS yS HXS.out HYS.out).drew)
                  have HK2 := Lib.hid ((HKVB.out.trans (swp_kp g uA uB VB (.int .u64 (yS : Int)) (.int .u64 (xS : Int)))).trans (Kq.drew g _))
                  clear HSWS HSCS HXS HYS
                  obtain ⟨w2, hw2⟩ : ∃ zz, ((VB.setCell ⟨g, uA, none⟩ (.int .u64 (yS : Int))).setCell ⟨g, uB, none⟩ (.int .u64 (xS : Int))).drew = zz := ⟨_, rfl⟩
                  rw [hw2] at H2 HK2 ⊢
                  clear hw2
                  obtain ⟨PL, hPL⟩ : ∃ R, Sort.partLoop ltB a (uA + 1) (uB - 1) (Sort.swp d1 uA uB) = R := ⟨_, rfl⟩
                  rw [hPL] at HPI
                  have HPL := Lib.hid hPL
                  have hs2 : (Sort.swp d1 uA uB).size = n := by rw [Sort.swp_size]; exact HS.out
                  have HS2 := Lib.hid hs2
                  have huAI : (uA : Int) ≤ 1099511627776 := by omega
                  have huBI : (uB : Int) ≤ 1099511627776 := by omega
                  obtain ⟨ia, hia⟩ : ∃ x, uA + 1 = x := ⟨_, rfl⟩
                  obtain ⟨ja, hja⟩ : ∃ x, uB - 1 = x := ⟨_, rfl⟩
                  rw [hia, hja] at HPL
                  have hiaI : (uA : Int) + 1 = (ia : Int) := by omega
                  have hjaI : (uB : Int) - 1 = (ja : Int) := by omega
                  have hai2 : a < ia := by omega
                  have hij2 : ia ≤ ja + 1 := by omega
                  have hjn2 : ja < n := by omega
                  have HIA := Lib.hid hiaI
                  have HJA := Lib.hid hjaI
                  clear hPL hs2 hia hja hiaI hjaI
                  go_upto_region 11 with fail
                  go_cut [10] (fun v wz => v = .int .i64 (ia : Int) ∧ w2 = wz)
                  case first =>
                    go_wp2
                    go_meet
                    exact ⟨int_eq HIA.out, rfl⟩
                  case rest =>
                    obtain ⟨rfl, rfl⟩ := hcut
                    go_upto_region 12 with fail
                    go_cut [11] (fun v wz => v = .int .i64 (ja : Int) ∧ w2 = wz)
                    case first =>
                      go_wp2
                      go_meet
                      exact ⟨int_eq HJA.out, rfl⟩
                    case rest =>
                      obtain ⟨rfl, rfl⟩ := hcut
                      clear HCBA HCBB
                      go_wp2_with fail
                      go_loopw [10, 11] (fun v9 v10 wr => ∃ (i j : Nat) (dk : Array Nat), v9 = .int .i64 (i : Int) ∧ v10 = .int .i64 (j : Int) ∧ a < i ∧ i ≤ j + 1 ∧ j < n ∧ dk.size = n ∧ Arr wr g dk ∧ Kq g w wr ∧ Hid (Sort.partLoop ltB a i j dk = PL)) (fun v9 v10 _ => (intOf v10 + 1 - intOf v9).toNat)
                      case atStart => exact ⟨ia, ja, _, rfl, rfl, hai2, hij2, hjn2, HS2.out, H2.out, HK2.out, HPL⟩
                      case round =>
                        obtain ⟨i, j, dk, rfl, rfl, hai, hij, hjn, hs, h0, hk0, HO⟩ := hrel
                        obtain ⟨W0, rfl⟩ : ∃ W0, W0 = wr := ⟨wr, rfl⟩
                        have H0 := Lib.hid h0
                        have HK0 := Lib.hid hk0
                        have HS := Lib.hid hs
                        clear h0 hk0 hs
                        obtain ⟨rC, hrC⟩ : ∃ x, Sort.scanUp (fun x => ltB x (dk)[a]!) (dk) j i = x := ⟨_, rfl⟩
                        have HRC := Lib.hid hrC
                        clear hrC
                        go_wp2_with fail
                        go_loopw [10] (fun z wr => ∃ uC : Nat, z = .int .i64 (uC : Int) ∧ i ≤ uC ∧ uC ≤ j + 1 ∧ Hid (Sort.scanUp (fun x => ltB x (dk)[a]!) (dk) j uC = rC) ∧ Arr wr g (dk) ∧ Kq g w wr) (fun z _ => j + 1 - (intOf z).toNat)
                        case atStart => exact ⟨i, rfl, by omega, by omega, HRC, H0.out, HK0.out⟩
                        case round =>
                          obtain ⟨uC, rfl, raC, rbC, HRC', h_, hk_⟩ := hrel
                          obtain ⟨WC, rfl⟩ : ∃ WC, WC = wr := ⟨wr, rfl⟩
                          have HC := Lib.hid h_
                          have HKC := Lib.hid hk_
                          clear h_ hk_
                          obtain ⟨cbC, hcb⟩ : ∃ q, (decide (uC ≤ j) && (fun x => ltB x (dk)[a]!) (dk)[uC]!) = q := ⟨_, rfl⟩
                          have HCBC := Lib.hid hcb
                          clear hcb
                          go_upto_region 13 with fail
                          go_cut [112] (fun v wz => v = .bool cbC ∧ ∃ kq, wz = WC.drewN kq)
                          case first =>
                            by_cases hle : uC ≤ j
                            · have hleI : (uC : Int) ≤ (j : Int) := by omega
                              have hvn : uC < n := by omega
                              have haC : uC < (dk).size := by rw [HS.out]; omega
                              have hbC : a < (dk).size := by rw [HS.out]; omega
                              have ciC := HC.out.cell uC haC
                              have cjC := HC.out.cell a hbC
                              obtain ⟨xC, hxC⟩ : ∃ x, (dk)[uC]! = x := ⟨_, rfl⟩
                              obtain ⟨yC, hyC⟩ : ∃ y, (dk)[a]! = y := ⟨_, rfl⟩
                              rw [hxC] at ciC
                              rw [hyC] at cjC
                              obtain ⟨qC, hqC⟩ : ∃ q, ltB xC yC = q := ⟨_, rfl⟩
                              have HQC := Lib.hid hqC
                              have HLC : Hid (ltB (dk)[uC]! (dk)[a]! = qC) := by rw [hxC, hyC]; exact HQC
                              have hiNC : (uC : Int) < (n : Int) := by omega
                              have hjNC : (a : Int) < (n : Int) := by omega
                              have hi0C : (0 : Int) ≤ (uC : Int) := by omega
                              have hj0C : (0 : Int) ≤ (a : Int) := by omega
                              clear hxC hyC haC hbC hqC
                              have hce : cbC = (qC) := by rw [← HCBC.out, decide_eq_true hle, Bool.true_and]; show (ltB _ _) = _; rw [HLC.out]
                              subst hce
                              go_quiet ((go_at_call 53; exact Calls.quiet_of_same (less_q HQC.out _)))
                              go_wp2
                              go_meet
                              exact ⟨rfl, _, rfl⟩
                            · have hleI : ¬ (uC : Int) ≤ (j : Int) := by omega
                              have hce : cbC = false := by rw [← HCBC.out, decide_eq_false hle, Bool.false_and]
                              subst hce
                              go_quiet (fail)
                              go_wp2
                              go_meet
                              exact ⟨rfl, _, rfl⟩
                          case rest =>
                            obtain ⟨rfl, kq, rfl⟩ := hcut
                            have h1_ := HC.out.drewN kq
                            have hk1_ := HKC.out.trans (Kq.drewN g WC kq)
                            obtain ⟨VC, hW_⟩ : ∃ VC, WC.drewN kq = VC := ⟨_, rfl⟩
                            rw [hW_] at h1_ hk1_ ⊢
                            have HVC := Lib.hid h1_
                            have HKVC := Lib.hid hk1_
                            clear h1_ hk1_ hW_
                            cases cbC with
                            | true =>
                              have hnI : (n : Int) ≤ 1099511627776 := by omega
                              have hcc : uC ≤ j := by
                                have := HCBC.out
                                rw [Bool.and_eq_true, decide_eq_true_eq] at this
                                exact this.1
                              have hvI : (uC : Int) ≤ 1099511627776 := by omega
                              go_wp2
                              go_roundw
                              case rel => exact ⟨uC + 1, int_eq (by omega), by omega, by omega, Lib.hid ((up_next (p := fun x => ltB x (dk)[a]!) () () HCBC.out).symm.trans HRC'.out), HVC.out, HKVC.out⟩
                              case measure => simp [intOf] <;> omega
                            | false =>
                              obtain rfl : uC = rC := (up_end (p := fun x => ltB x (dk)[a]!) () () HCBC.out).symm.trans HRC'.out
                              obtain ⟨rD, hrD⟩ : ∃ x, Sort.scanDown (fun x => !ltB x (dk)[a]!) (dk) uC j = x := ⟨_, rfl⟩
                              have HRD := Lib.hid hrD
                              clear hrD
                              go_wp2_with fail
                              go_loopw [11] (fun z wr => ∃ uD : Nat, z = .int .i64 (uD : Int) ∧ uC ≤ uD + 1 ∧ uD ≤ j ∧ Hid (Sort.scanDown (fun x => !ltB x (dk)[a]!) (dk) uC uD = rD) ∧ Arr wr g (dk) ∧ Kq g w wr) (fun z _ => (intOf z).toNat)
                              case atStart => exact ⟨j, rfl, by omega, by omega, HRD, HVC.out, HKVC.out⟩
                              case round =>
                                obtain ⟨uD, rfl, raD, rbD, HRD', h_, hk_⟩ := hrel
                                obtain ⟨WD, rfl⟩ : ∃ WD, WD = wr := ⟨wr, rfl⟩
                                have HD := Lib.hid h_
                                have HKD := Lib.hid hk_
                                clear h_ hk_
                                obtain ⟨cbD, hcb⟩ : ∃ q, (decide (uC ≤ uD) && (fun x => !ltB x (dk)[a]!) (dk)[uD]!) = q := ⟨_, rfl⟩
                                have HCBD := Lib.hid hcb
                                clear hcb
                                go_upto_region 15 with fail
                                go_cut [129] (fun v wz => v = .bool cbD ∧ ∃ kq, wz = WD.drewN kq)
                                case first =>
                                  by_cases hle : uC ≤ uD
                                  · have hleI : (uC : Int) ≤ (uD : Int) := by omega
                                    have hvn : uD < n := by omega
                                    have haD : uD < (dk).size := by rw [HS.out]; omega
                                    have hbD : a < (dk).size := by rw [HS.out]; omega
                                    have ciD := HD.out.cell uD haD
                                    have cjD := HD.out.cell a hbD
                                    obtain ⟨xD, hxD⟩ : ∃ x, (dk)[uD]! = x := ⟨_, rfl⟩
                                    obtain ⟨yD, hyD⟩ : ∃ y, (dk)[a]! = y := ⟨_, rfl⟩
                                    rw [hxD] at ciD
                                    rw [hyD] at cjD
                                    obtain ⟨qD, hqD⟩ : ∃ q, ltB xD yD = q := ⟨_, rfl⟩
                                    have HQD := Lib.hid hqD
                                    have HLD : Hid (ltB (dk)[uD]! (dk)[a]! = qD) := by rw [hxD, hyD]; exact HQD
                                    have hiND : (uD : Int) < (n : Int) := by omega
                                    have hjND : (a : Int) < (n : Int) := by omega
                                    have hi0D : (0 : Int) ≤ (uD : Int) := by omega
                                    have hj0D : (0 : Int) ≤ (a : Int) := by omega
                                    clear hxD hyD haD hbD hqD
                                    have hce : cbD = (!qD) := by rw [← HCBD.out, decide_eq_true hle, Bool.true_and]; show (!ltB _ _) = _; rw [HLD.out]
                                    subst hce
                                    go_quiet ((go_at_call 53; exact Calls.quiet_of_same (less_q HQD.out _)))
                                    go_wp2
                                    go_meet
                                    exact ⟨rfl, _, rfl⟩
                                  · have hleI : ¬ (uC : Int) ≤ (uD : Int) := by omega
                                    have hce : cbD = false := by rw [← HCBD.out, decide_eq_false hle, Bool.false_and]
                                    subst hce
                                    go_quiet (fail)
                                    go_wp2
                                    go_meet
                                    exact ⟨rfl, _, rfl⟩
                                case rest =>
                                  obtain ⟨rfl, kq, rfl⟩ := hcut
                                  have h1_ := HD.out.drewN kq
                                  have hk1_ := HKD.out.trans (Kq.drewN g WD kq)
                                  obtain ⟨VD, hW_⟩ : ∃ VD, WD.drewN kq = VD := ⟨_, rfl⟩
                                  rw [hW_] at h1_ hk1_ ⊢
                                  have HVD := Lib.hid h1_
                                  have HKVD := Lib.hid hk1_
                                  clear h1_ hk1_ hW_
                                  cases cbD with
                                  | true =>
                                    have hnI : (n : Int) ≤ 1099511627776 := by omega
                                    have hcc : uC ≤ uD := by
                                      have := HCBD.out
                                      rw [Bool.and_eq_true, decide_eq_true_eq] at this
                                      exact this.1
                                    have hvI : (uD : Int) ≤ 1099511627776 := by omega
                                    go_wp2
                                    go_roundw
                                    case rel => exact ⟨uD - 1, int_eq (by omega), by omega, by omega, Lib.hid ((down_next (p := fun x => !ltB x (dk)[a]!) () () (by omega) HCBD.out).symm.trans HRD'.out), HVD.out, HKVD.out⟩
                                    case measure => simp [intOf] <;> omega
                                  | false =>
                                    obtain rfl : uD = rD := (down_end (p := fun x => !ltB x (dk)[a]!) () () HCBD.out).symm.trans HRD'.out
                                    have hpe := Sort.partLoop_eq ltB a i j dk
                                    rw [HRC.out, HRD.out, HO.out] at hpe
                                    rcases Nat.lt_or_ge uD uC with hlt | hge
                                    · rw [if_pos hlt] at hpe
                                      rw [hpe] at HPI
                                      have hltI : (uD : Int) < (uC : Int) := by omega
                                      clear hpe
                                      have haT : uD < (dk).size := by rw [HS.out]; omega
                                      have hbT : a < (dk).size := by rw [HS.out]; omega
                                      have ciT := HVD.out.cell uD haT
                                      have cjT := HVD.out.cell a hbT
                                      have HSWT := Lib.hid (fun (x y : Nat) (hx : (dk)[uD]! = x) (hy : (dk)[a]! = y) => HVD.out.swp (i := uD) (j := a) (x := x) (y := y) haT hbT hx hy)
                                      have HSCT := Lib.hid (fun (y : Nat) (hy : (dk)[a]! = y) => HVD.out.second (i := uD) (j := a) haT hbT hy)
                                      obtain ⟨xT, hxT⟩ : ∃ x, (dk)[uD]! = x := ⟨_, rfl⟩
                                      obtain ⟨yT, hyT⟩ : ∃ y, (dk)[a]! = y := ⟨_, rfl⟩
                                      rw [hxT] at ciT
                                      rw [hyT] at cjT
                                      have HXT := Lib.hid hxT
                                      have HYT := Lib.hid hyT
                                      have ziT := HVD.out.nf uD
                                      have zjT := HVD.out.nf a
                                      have hiNT : (uD : Int) < (n : Int) := by omega
                                      have hjNT : (a : Int) < (n : Int) := by omega
                                      have hi0T : (0 : Int) ≤ (uD : Int) := by omega
                                      have hj0T : (0 : Int) ≤ (a : Int) := by omega
                                      clear hxT hyT haT hbT
                                      go_upto_region 21 with fail
                                      have hsT := HSCT.out yT HYT.out
                                      go_region
                                      clear ciT cjT ziT zjT hsT
                                      have H3 := Lib.hid ((HSWT.out xT yT HXT.out HYT.out).drew)
                                      have HK3 := Lib.hid ((HKVD.out.trans (swp_kp g uD a VD (.int .u64 (yT : Int)) (.int .u64 (xT : Int)))).trans (Kq.drew g _))
                                      clear HSWT HSCT HXT HYT
                                      go_wp2
                                      go_ret2
                                      exact ⟨by rw [HPI.out]; rfl, by rw [HPI.out]; exact H3.out, HK3.out, by rw [HPI.out]; show (Sort.swp dk uD a).size = n; rw [Sort.swp_size]; exact HS.out⟩
                                    · rw [if_neg (by omega)] at hpe
                                      have HPE := Lib.hid hpe
                                      have hne : uC < uD := by
                                        rcases Nat.lt_or_ge uC uD with h | h
                                        · exact h
                                        · obtain rfl : uC = uD := by omega
                                          have h1 := HCBC.out
                                          have h2 := HCBD.out
                                          rw [decide_eq_true (by omega), Bool.true_and] at h1 h2
                                          have h1' : ltB dk[uC]! dk[a]! = false := h1
                                          have h2' : (!ltB dk[uC]! dk[a]!) = false := h2
                                          rw [h1'] at h2'
                                          cases h2'
                                      have hgeI : ¬ (uD : Int) < (uC : Int) := by omega
                                      clear hpe
                                      have haT : uC < (dk).size := by rw [HS.out]; omega
                                      have hbT : uD < (dk).size := by rw [HS.out]; omega
                                      have ciT := HVD.out.cell uC haT
                                      have cjT := HVD.out.cell uD hbT
                                      have HSWT := Lib.hid (fun (x y : Nat) (hx : (dk)[uC]! = x) (hy : (dk)[uD]! = y) => HVD.out.swp (i := uC) (j := uD) (x := x) (y := y) haT hbT hx hy)
                                      have HSCT := Lib.hid (fun (y : Nat) (hy : (dk)[uD]! = y) => HVD.out.second (i := uC) (j := uD) haT hbT hy)
                                      obtain ⟨xT, hxT⟩ : ∃ x, (dk)[uC]! = x := ⟨_, rfl⟩
                                      obtain ⟨yT, hyT⟩ : ∃ y, (dk)[uD]! = y := ⟨_, rfl⟩
                                      rw [hxT] at ciT
                                      rw [hyT] at cjT
                                      have HXT := Lib.hid hxT
                                      have HYT := Lib.hid hyT
                                      have ziT := HVD.out.nf uC
                                      have zjT := HVD.out.nf uD
                                      have hiNT : (uC : Int) < (n : Int) := by omega
                                      have hjNT : (uD : Int) < (n : Int) := by omega
                                      have hi0T : (0 : Int) ≤ (uC : Int) := by omega
                                      have hj0T : (0 : Int) ≤ (uD : Int) := by omega
                                      clear hxT hyT haT hbT
                                      go_upto_region 18 with fail
                                      have hsT := HSCT.out yT HYT.out
                                      go_region
                                      clear ciT cjT ziT zjT hsT
                                      have H3 := Lib.hid ((HSWT.out xT yT HXT.out HYT.out).drew)
                                      have HK3 := Lib.hid ((HKVD.out.trans (swp_kp g uC uD VD (.int .u64 (yT : Int)) (.int .u64 (xT : Int)))).trans (Kq.drew g _))
                                      clear HSWT HSCT HXT HYT
                                      have hnI : (n : Int) ≤ 1099511627776 := by omega
                                      have huB2 : (uD : Int) ≤ 1099511627776 := by omega
                                      have huA2 : (uC : Int) ≤ 1099511627776 := by omega
                                      go_wp2
                                      go_roundw
                                      case rel => exact ⟨uC + 1, uD - 1, _, by go_num, int_eq (by omega), by omega, by omega, by omega, by rw [Sort.swp_size]; exact HS.out, H3.out, HK3.out, Lib.hid HPE.out.symm⟩
                                      case measure => simp [intOf] <;> omega
end Go.Proofs.Ytfgfamafjkjakaa
namespace Go.Proofs.Ytfgfamafjkjakaa
open Go.ChangeShapes Go.WideShapes Go.ChangeAt Go.RowKit Go.Deep
set_option linter.unusedVariables false
set_option linter.unusedSimpArgs false
theorem Arr.kp {w w' : World} {g s : Nat} {d : Array Nat} (h : Arr w g d) (hk : Kq s w w') (hne : g ≠ s) : Arr w' g d := by
  have hb := hk.block g h.lt hne
  exact ⟨fun i hi => (World.cell?_of_block (a := ⟨g, i, none⟩) hb).trans (h.cell i hi), fun j => by have := h.nf j; simp only [World.frozen?, hb] at this ⊢; exact this, Nat.lt_of_lt_of_le h.lt hk.size⟩
/-- A count in a block of its own. -/
def Cnt (w : World) (s c : Nat) : Prop := w.heap[s]? = some (.cells #[.int .i64 (c : Int)] 3 (0, 0))
theorem Cnt.cell {w : World} {s c : Nat} (h : Cnt w s c) : w.cell? ⟨s, 0, none⟩ = some (.int .i64 (c : Int)) ∧ w.frozen? ⟨s, 0, none⟩ = false := by
  unfold Cnt at h
  exact ⟨by simp [World.cell?, h], by simp [World.frozen?, h]⟩
theorem Cnt.set {w : World} {s c : Nat} (h : Cnt w s c) (c' : Nat) : Cnt (w.setCell ⟨s, 0, none⟩ (.int .i64 (c' : Int))) s c' := by
  unfold Cnt at h ⊢
  rw [heap_setCell_same _ _ _ _ _ _ h]
  rfl
set_option maxRecDepth 100000 in
set_option maxHeartbeats 32000000 in
theorem Order2_any (g n cap a b s c : Nat) (d : Array Nat) (w : World) (hA : Arr w g d) (hn : d.size = n) (hnc : n ≤ cap) (hcap : (cap : Int) ≤ 9223372036854775807) (hn40 : (n : Int) ≤ 1099511627776) (ha : a < n) (hb : b < n) (hc : Cnt w s c) (hcc : c ≤ 100) :
    Calls Try.prog 75 #[.slice (some ⟨g, 0, none⟩) n cap, .int .i64 (a : Int), .int .i64 (b : Int), .pointer (some ⟨s, 0, none⟩)] w fun e w' => ∃ x y c', e = .returned (.tuple #[.int .i64 ((x : Nat) : Int), .int .i64 ((y : Nat) : Int)]) ∧ (x = a ∧ y = b ∨ x = b ∧ y = a) ∧ c' ≤ c + 1 ∧ Cnt w' s c' ∧ Kq s w w' := by
  have HA := Lib.hid hA
  have HS := Lib.hid hn
  have HC := Lib.hid hc
  obtain ⟨e0, z0⟩ := hc.cell
  have hcI : (c : Int) ≤ 100 := by omega
  clear hA hn hc
  go_enter Try.func75, Try.ntmps75
  have haA : b < (d).size := by rw [HS.out]; omega
  have hbA : a < (d).size := by rw [HS.out]; omega
  have ciA := HA.out.cell b haA
  have cjA := HA.out.cell a hbA
  obtain ⟨xA, hxA⟩ : ∃ x, (d)[b]! = x := ⟨_, rfl⟩
  obtain ⟨yA, hyA⟩ : ∃ y, (d)[a]! = y := ⟨_, rfl⟩
  rw [hxA] at ciA
  rw [hyA] at cjA
  obtain ⟨q, hqA⟩ : ∃ q, ltB xA yA = q := ⟨_, rfl⟩
  have HQA := Lib.hid hqA
  have HLA : Hid (ltB (d)[b]! (d)[a]! = q) := by rw [hxA, hyA]; exact HQA
  have hiNA : (b : Int) < (n : Int) := by omega
  have hjNA : (a : Int) < (n : Int) := by omega
  have hi0A : (0 : Int) ≤ (b : Int) := by omega
  have hj0A : (0 : Int) ≤ (a : Int) := by omega
  clear hxA hyA haA hbA hqA
  go_upto_region 1 with fail
  go_cut [18] (fun v wz => v = .bool q ∧ ∃ kq, wz = w.drewN kq)
  case first =>
    go_quiet ((go_at_call 53; exact Calls.quiet_of_same (less_q HQA.out _)))
    go_wp2
    go_meet
    exact ⟨rfl, _, rfl⟩
  case rest =>
    obtain ⟨rfl, kq, rfl⟩ := hcut
    cases q with
    | true =>
      have hst := Cnt.set (w := w.drewN kq) HC.out (c + 1)
      have HST := Lib.hid hst
      have hcI2 : ((c + 1 : Nat) : Int) = (c : Int) + 1 := by omega
      have HCI := Lib.hid hcI2
      clear hst ciA cjA hcI2
      go_wp2
      go_ret2
      exact ⟨b, a, c + 1, rfl, .inr ⟨rfl, rfl⟩, Nat.le_refl _, by have := HST.out; rw [HCI.out] at this; exact this, (Kq.drewN s w kq).trans (Kq.setCell s 0 _ _)⟩
    | false =>
      clear ciA cjA
      go_wp2
      go_ret2
      exact ⟨a, b, c, rfl, .inl ⟨rfl, rfl⟩, Nat.le_succ _, HC.out, Kq.drewN s w kq⟩
set_option maxRecDepth 100000 in
set_option maxHeartbeats 32000000 in
theorem Median_any (g n cap a b m s c : Nat) (d : Array Nat) (w : World) (hA : Arr w g d) (hn : d.size = n) (hnc : n ≤ cap) (hcap : (cap : Int) ≤ 9223372036854775807) (hn40 : (n : Int) ≤ 1099511627776) (ha : a < n) (hb : b < n) (hm : m < n) (hc : Cnt w s c) (hcc : c ≤ 90) (hsg : g ≠ s) :
    Calls Try.prog 73 #[.slice (some ⟨g, 0, none⟩) n cap, .int .i64 (a : Int), .int .i64 (b : Int), .int .i64 (m : Int), .pointer (some ⟨s, 0, none⟩)] w fun e w' => ∃ x c', e = .returned (.int .i64 ((x : Nat) : Int)) ∧ (x = a ∨ x = b ∨ x = m) ∧ c' ≤ c + 3 ∧ Cnt w' s c' ∧ Kq s w w' := by
  have HA := Lib.hid hA
  have HC := Lib.hid hc
  have HN := Lib.hid hn
  clear hA hc hn
  go_enter Try.func73, Try.ntmps73
  go_wp2_with fail
  refine (Order2_any g n cap a b s c d w HA.out HN.out hnc hcap hn40 ha hb HC.out (by omega)).mono ?_
  rintro e w1 ⟨x1, y1, c1, rfl, h1, hc1, hcn1, hk1⟩
  have HC1 := Lib.hid hcn1
  have HA1 := Lib.hid (HA.out.kp hk1 hsg)
  have HK1 := Lib.hid hk1
  have H1 := Lib.hid h1
  have hx1 : x1 < n := by omega
  have hy1 : y1 < n := by omega
  clear hcn1 hk1 h1
  go_wp2_with fail
  refine (Order2_any g n cap y1 m s c1 d w1 HA1.out HN.out hnc hcap hn40 hy1 hm HC1.out (by omega)).mono ?_
  rintro e w2 ⟨x2, y2, c2, rfl, h2, hc2, hcn2, hk2⟩
  have HC2 := Lib.hid hcn2
  have HA2 := Lib.hid (HA1.out.kp hk2 hsg)
  have HK2 := Lib.hid (HK1.out.trans hk2)
  have H2 := Lib.hid h2
  have hx2 : x2 < n := by omega
  clear hcn2 hk2 h2
  go_wp2_with fail
  refine (Order2_any g n cap x1 x2 s c2 d w2 HA2.out HN.out hnc hcap hn40 hx1 hx2 HC2.out (by omega)).mono ?_
  rintro e w3 ⟨x3, y3, c3, rfl, h3, hc3, hcn3, hk3⟩
  have HC3 := Lib.hid hcn3
  have HK3 := Lib.hid (HK2.out.trans hk3)
  have H3 := Lib.hid h3
  clear hcn3 hk3 h3
  go_wp2
  go_ret
  exact ⟨y3, c3, rfl, by have h1 := H1.out; have h2 := H2.out; have h3 := H3.out; omega, by omega, HC3.out, HK3.out⟩
set_option maxRecDepth 100000 in
set_option maxHeartbeats 32000000 in
theorem MedAdj_any (g n cap a s c : Nat) (d : Array Nat) (w : World) (hA : Arr w g d) (hn : d.size = n) (hnc : n ≤ cap) (hcap : (cap : Int) ≤ 9223372036854775807) (hn40 : (n : Int) ≤ 1099511627776) (ha : a + 1 < n) (ha1 : 1 ≤ a) (hc : Cnt w s c) (hcc : c ≤ 90) (hsg : g ≠ s) :
    Calls Try.prog 72 #[.slice (some ⟨g, 0, none⟩) n cap, .int .i64 (a : Int), .pointer (some ⟨s, 0, none⟩)] w fun e w' => ∃ x c', e = .returned (.int .i64 ((x : Nat) : Int)) ∧ a ≤ x + 1 ∧ x ≤ a + 1 ∧ c' ≤ c + 3 ∧ Cnt w' s c' ∧ Kq s w w' := by
  have HA := Lib.hid hA
  have HC := Lib.hid hc
  have HN := Lib.hid hn
  have haI : (a : Int) ≤ 1099511627776 := by omega
  obtain ⟨am, ham⟩ : ∃ x, a - 1 = x := ⟨_, rfl⟩
  have hamI : (a : Int) - 1 = (am : Int) := by omega
  have hamn : am < n := by omega
  have hamr : a = am + 1 := by omega
  have HAM := Lib.hid hamr
  have HAMI := Lib.hid hamI
  clear hA hc hn ham hamI hamr
  go_enter Try.func72, Try.ntmps72
  go_wp2_with fail
  have hcall := Median_any g n cap am a (a + 1) s c d w HA.out HN.out hnc hcap hn40 hamn (by omega) ha HC.out hcc hsg
  rw [show ((a + 1 : Nat) : Int) = (a : Int) + 1 by omega, ← HAMI.out] at hcall
  refine hcall.mono ?_
  rintro e w1 ⟨x1, c1, rfl, h1, hc1, hcn1, hk1⟩
  have HC1 := Lib.hid hcn1
  have HK1 := Lib.hid hk1
  have H1 := Lib.hid h1
  clear hcn1 hk1 h1 hcall
  go_wp2
  go_ret
  exact ⟨x1, c1, rfl, by have := HAM.out; have := H1.out; omega, by have := HAM.out; have := H1.out; omega, hc1, HC1.out, HK1.out⟩
set_option maxRecDepth 100000 in
set_option maxHeartbeats 32000000 in
theorem Pivot_any (g n cap a b : Nat) (d : Array Nat) (w : World) (hA : Arr w g d) (hn : d.size = n) (hnc : n ≤ cap) (hcap : (cap : Int) ≤ 9223372036854775807) (hn40 : (n : Int) ≤ 1099511627776) (hb : b ≤ n) (hab : a + 12 < b) :
    Calls Try.prog 60 #[.slice (some ⟨g, 0, none⟩) n cap, .int .i64 (a : Int), .int .i64 (b : Int)] w fun e w' => ∃ p h, e = .returned (.tuple #[.int .i64 ((p : Nat) : Int), .int .i64 ((h : Nat) : Int)]) ∧ a ≤ p ∧ p < b ∧ (h = 0 ∨ h = 1 ∨ h = 2) ∧ Below w.heap.size w w' := by
  have HA := Lib.hid hA
  have HN := Lib.hid hn
  obtain ⟨l, hl⟩ : ∃ l, b - a = l := ⟨_, rfl⟩
  obtain ⟨i, hi⟩ : ∃ x, a + l / 4 * 1 = x := ⟨_, rfl⟩
  obtain ⟨j, hj⟩ : ∃ x, a + l / 4 * 2 = x := ⟨_, rfl⟩
  obtain ⟨k, hk⟩ : ∃ x, a + l / 4 * 3 = x := ⟨_, rfl⟩
  have haI : (a : Int) ≤ 1099511627776 := by omega
  have hbI : (b : Int) ≤ 1099511627776 := by omega
  have hlI : (l : Int) ≤ 1099511627776 := by omega
  have hl0 : (0 : Int) ≤ (l : Int) := by omega
  have hl8 : (8 : Int) ≤ (l : Int) := by omega
  have hiB : a + 3 ≤ i ∧ i + 3 < b := by omega
  have hjB : a + 3 ≤ j ∧ j + 3 < b := by omega
  have hkB : a + 3 ≤ k ∧ k + 3 ≤ b := by omega
  have HL := Lib.hid hl
  have HI := Lib.hid hi
  have HJ := Lib.hid hj
  have HK := Lib.hid hk
  clear hA hn hl hi hj hk
  go_enter Try.func60, Try.ntmps60
  go_upto_region 1 with fail
  go_cut [8] (fun v wz => v = .int .i64 (l : Int) ∧ w = wz)
  case first =>
    go_wp2
    go_meet
    exact ⟨int_eq (by have := HL.out; omega), rfl⟩
  case rest =>
    obtain ⟨rfl, rfl⟩ := hcut
    go_upto_region 3 with fail
    have hb1 := (Below.refl w.heap.size w).alloc (Nat.le_refl _) (.cells #[.int .i64 0] 3)
    have hc1 : Cnt (w.alloc (.cells #[.int .i64 0] 3)) w.heap.size 0 := heap_alloc_new _ _
    have hA1 := HA.out.below hb1
    have hgs : g ≠ w.heap.size := by have := HA.out.lt; omega
    generalize (w.alloc (.cells #[.int .i64 0] 3)) = w1 at *
    obtain ⟨s, hs⟩ : ∃ s, w.heap.size = s := ⟨_, rfl⟩
    rw [hs] at hb1 hc1 hgs ⊢
    have HB1 := Lib.hid hb1
    have HC1 := Lib.hid hc1
    have HA1 := Lib.hid hA1
    have HSS := Lib.hid hs
    clear hb1 hc1 hA1 hs

    go_cut [10] (fun v wz => v = .int .i64 (i : Int) ∧ w1 = wz)
    case first =>
      go_wp2
      go_meet
      exact ⟨int_eq (by have := HI.out; omega), rfl⟩
    case rest =>
      obtain ⟨rfl, rfl⟩ := hcut
      go_upto_region 4 with fail
      go_cut [11] (fun v wz => v = .int .i64 (j : Int) ∧ w1 = wz)
      case first =>
        go_wp2
        go_meet
        exact ⟨int_eq (by have := HJ.out; omega), rfl⟩
      case rest =>
        obtain ⟨rfl, rfl⟩ := hcut
        go_upto_region 5 with fail
        go_cut [12] (fun v wz => v = .int .i64 (k : Int) ∧ w1 = wz)
        case first =>
          go_wp2
          go_meet
          exact ⟨int_eq (by have := HK.out; omega), rfl⟩
        case rest =>
          obtain ⟨rfl, rfl⟩ := hcut
          have HKR : Hid (Kq s w1 w1) := Lib.hid (Kq.refl _ _)
          rcases Nat.lt_or_ge l 50 with h50 | h50
          · have h50I : ¬ (50 : Int) ≤ (l : Int) := by omega
            go_wp2_with fail
            refine (Median_any g n cap i j k s 0 d w1 HA1.out HN.out hnc hcap hn40 (by omega) (by omega) (by omega) HC1.out (by omega) hgs).mono ?_
            rintro e w6 ⟨x6, c6, rfl, r1, r2, hcn6, hk6⟩
            obtain ⟨e6, z6⟩ := hcn6.cell
            have hfin : Below w.heap.size w w6 := by
              have h1 := HB1.out
              have h2 := (HKR.out.trans hk6).below (B := s) (Nat.le_refl _) (by have := HB1.out.size; have := HSS.out; omega)
              rw [HSS.out]
              exact h1.trans h2
            have HFN := Lib.hid hfin
            have hx6 : a ≤ x6 ∧ x6 < b := by omega
            obtain ⟨hx61, hx62⟩ := hx6
            clear hcn6 hk6 hfin r1
            rcases Nat.eq_zero_or_pos c6 with rfl | hc6
            · go_wp2
              go_ret2
              exact ⟨x6, 1, rfl, hx61, hx62, .inr (.inl rfl), HFN.out⟩
            · have hc60 : ((c6 : Int) == 0) = false := beq_eq_false_iff_ne.2 (by omega)
              rcases Decidable.em (c6 = 12) with rfl | hc12
              · go_wp2
                go_ret2
                exact ⟨x6, 2, rfl, hx61, hx62, .inr (.inr rfl), HFN.out⟩
              · have hc61 : ((c6 : Int) == 12) = false := beq_eq_false_iff_ne.2 (by omega)
                go_wp2
                go_ret2
                exact ⟨x6, 0, rfl, hx61, hx62, .inl rfl, HFN.out⟩
          · have h50I : (50 : Int) ≤ (l : Int) := by omega
            have hkB2 : k + 3 < b := by have := HK.out; have := HL.out; omega
            go_wp2_with fail
            refine (MedAdj_any g n cap i s 0 d w1 HA1.out HN.out hnc hcap hn40 (by omega) (by omega) HC1.out (by omega) hgs).mono ?_
            rintro e w2 ⟨x2, c2, rfl, p1, p2, p3, hcn2, hk2⟩
            have HC2 := Lib.hid hcn2
            have HA2 := Lib.hid (HA1.out.kp hk2 hgs)
            have HK2 := Lib.hid hk2
            clear hcn2 hk2
            go_wp2_with fail
            refine (MedAdj_any g n cap j s c2 d w2 HA2.out HN.out hnc hcap hn40 (by omega) (by omega) HC2.out (by omega) hgs).mono ?_
            rintro e w3 ⟨x3, c3, rfl, p4, p5, p6, hcn3, hk3⟩
            have HC3 := Lib.hid hcn3
            have HA3 := Lib.hid (HA2.out.kp hk3 hgs)
            have HK3 := Lib.hid (HK2.out.trans hk3)
            clear hcn3 hk3
            go_wp2_with fail
            refine (MedAdj_any g n cap k s c3 d w3 HA3.out HN.out hnc hcap hn40 (by omega) (by omega) HC3.out (by omega) hgs).mono ?_
            rintro e w4 ⟨x4, c4, rfl, p7, p8, p9, hcn4, hk4⟩
            have HC4 := Lib.hid hcn4
            have HA4 := Lib.hid (HA3.out.kp hk4 hgs)
            have HK4 := Lib.hid (HK3.out.trans hk4)
            clear hcn4 hk4
            go_wp2_with fail
            refine (Median_any g n cap x2 x3 x4 s c4 d w4 HA4.out HN.out hnc hcap hn40 (by omega) (by omega) (by omega) HC4.out (by omega) hgs).mono ?_
            rintro e w6 ⟨x6, c6, rfl, r1, r2, hcn6, hk6⟩
            obtain ⟨e6, z6⟩ := hcn6.cell
            have hfin : Below w.heap.size w w6 := by
              have h1 := HB1.out
              have h2 := (HK4.out.trans hk6).below (B := s) (Nat.le_refl _) (by have := HB1.out.size; have := HSS.out; omega)
              rw [HSS.out]
              exact h1.trans h2
            have HFN := Lib.hid hfin
            have hx6 : a ≤ x6 ∧ x6 < b := by omega
            obtain ⟨hx61, hx62⟩ := hx6
            clear hcn6 hk6 hfin r1
            rcases Nat.eq_zero_or_pos c6 with rfl | hc6
            · go_wp2
              go_ret2
              exact ⟨x6, 1, rfl, hx61, hx62, .inr (.inl rfl), HFN.out⟩
            · have hc60 : ((c6 : Int) == 0) = false := beq_eq_false_iff_ne.2 (by omega)
              rcases Decidable.em (c6 = 12) with rfl | hc12
              · go_wp2
                go_ret2
                exact ⟨x6, 2, rfl, hx61, hx62, .inr (.inr rfl), HFN.out⟩
              · have hc61 : ((c6 : Int) == 12) = false := beq_eq_false_iff_ne.2 (by omega)
                go_wp2
                go_ret2
                exact ⟨x6, 0, rfl, hx61, hx62, .inl rfl, HFN.out⟩
end Go.Proofs.Ytfgfamafjkjakaa
namespace Go.Proofs.Ytfgfamafjkjakaa
open Go.ChangeShapes Go.WideShapes Go.ChangeAt Go.RowKit Go.Deep
set_option linter.unusedVariables false
set_option linter.unusedSimpArgs false
def tab8 : List UInt8 := [0, 1] ++ List.replicate 2 2 ++ List.replicate 4 3 ++ List.replicate 8 4 ++ List.replicate 16 5 ++ List.replicate 32 6 ++ List.replicate 64 7 ++ List.replicate 128 8
def len8 (k : Nat) : Nat := (tab8.getD k 0).toNat
theorem len8_all : ((List.range 256).all fun k => decide (k < 2 ^ len8 k ∧ (1 ≤ k → 2 ^ len8 k ≤ 2 * k) ∧ len8 k ≤ 8)) = true := by decide +kernel
theorem len8_spec {k : Nat} (h : k < 256) : k < 2 ^ len8 k ∧ (1 ≤ k → 2 ^ len8 k ≤ 2 * k) ∧ len8 k ≤ 8 := of_decide_eq_true (List.all_eq_true.1 len8_all k (List.mem_range.2 h))
theorem tab8_len : tab8.length = 256 := by decide +kernel
theorem lit_get (s : ByteArray) (n : Nat) (h : n < s.size) (hs : s.data.toList = tab8) : (s[n]'h).toNat = len8 n := by
  unfold len8
  rw [← hs, List.getD_eq_getElem?_getD, List.getElem?_eq_getElem (show n < s.data.toList.length by rw [show s.data.toList.length = s.size from Array.length_toList]; exact h)]
  rfl
theorem wrap_twice (k : Nat) (h : k ≤ 100) : wrap64 (wrap64 (k : Int)) = (k : Int) := by
  rw [IntWalk.wrap64_in (k : Int) (by omega), IntWalk.wrap64_in (k : Int) (by omega)]
/-- How many bits. -/
def LenIs (n r : Nat) : Prop := n < 2 ^ r ∧ (1 ≤ n → 2 ^ r ≤ 2 * n) ∧ r ≤ 16
set_option maxRecDepth 100000 in
set_option maxHeartbeats 8000000 in
theorem Len64_gen (n : Nat) (w : World) (hn : n < 65536) : Calls Try.prog 66 #[.int .u64 (n : Int)] w fun e w' => (∃ r : Nat, e = .returned (.int .i64 (r : Int)) ∧ LenIs n r) ∧ w' = w := by
  have g1 : ¬ (4294967296 : Int) ≤ (n : Int) := by omega
  have g2 : ¬ (65536 : Int) ≤ (n : Int) := by omega
  rcases Nat.lt_or_ge n 256 with h8 | h8
  · have h0 : (0 : Int) ≤ (n : Int) ∧ (n : Int) < 256 := by omega
    have g3 : ¬ (256 : Int) ≤ (n : Int) := by omega
    obtain ⟨a1, a2, a3⟩ := len8_spec h8
    have a3I : (len8 n : Int) ≤ 8 := by omega
    obtain ⟨r, hr⟩ : ∃ r, len8 n = r := ⟨_, rfl⟩
    rw [hr] at a1 a2 a3 a3I
    have HR := Lib.hid hr
    clear hr
    go_enter Try.func66, Try.ntmps66
    go_wp2
    go_ret
    refine ⟨⟨r, congrArg Ending.returned (congrArg (Value.int .i64) (Eq.trans (congrArg (fun k : Nat => wrap64 (wrap64 (k : Int))) (lit_get _ n ?_ ?_)) ?_)), a1, a2, by omega⟩, rfl⟩
    case refine_1 => exact Nat.lt_of_lt_of_eq h8 (by kernel_rfl)
    case refine_2 => kernel_rfl
    case refine_3 => rw [HR.out]; exact wrap_twice r (by omega)
  · have g3 : (256 : Int) ≤ (n : Int) := by omega
    obtain ⟨m, hm⟩ : ∃ m, n / 256 = m := ⟨_, rfl⟩
    have hm8 : m < 256 := by omega
    obtain ⟨a1, a2, a3⟩ := len8_spec hm8
    have a3I : (len8 m : Int) ≤ 8 := by omega
    obtain ⟨r, hr⟩ : ∃ r, len8 m = r := ⟨_, rfl⟩
    rw [hr] at a1 a2 a3 a3I
    have hfin : LenIs n (8 + r) := by
      refine ⟨?_, fun _ => ?_, by omega⟩
      · rw [Nat.pow_add]; omega
      · have := a2 (by omega); rw [Nat.pow_add]; omega
    have HF := Lib.hid hfin
    have HR := Lib.hid hr
    have HM := Lib.hid hm
    clear hr hm hfin a1 a2
    go_enter Try.func66, Try.ntmps66
    go_upto_if 14 with (fail)
    go_cut [0, 2] (fun v0 v2 wz => v0 = .int .u64 (m : Int) ∧ v2 = .int .i64 8 ∧ w = wz)
    case first =>
      go_wp2
      go_meet
      exact ⟨congrArg (Value.int .u64) (by have := HM.out; omega), rfl, rfl⟩
    case rest =>
      obtain ⟨rfl, rfl, rfl⟩ := hcut
      have hm0 : (0 : Int) ≤ (m : Int) ∧ (m : Int) < 256 := by omega
      go_wp2
      go_ret
      refine ⟨⟨8 + r, congrArg Ending.returned (congrArg (Value.int .i64) (Eq.trans (congrArg (fun k : Nat => wrap64 (8 + wrap64 (k : Int))) (lit_get _ m ?_ ?_)) ?_)), HF.out⟩, rfl⟩
      case refine_1 => exact Nat.lt_of_lt_of_eq hm8 (by kernel_rfl)
      case refine_2 => kernel_rfl
      case refine_3 => rw [HR.out]; rw [IntWalk.wrap64_in (r : Int) (by omega), IntWalk.wrap64_in _ (by omega)]; omega
set_option maxRecDepth 100000 in
set_option maxHeartbeats 8000000 in
theorem Len_gen (n : Nat) (w : World) (hn : n < 65536) : Calls Try.prog 51 #[.int .u64 (n : Int)] w fun e w' => (∃ r : Nat, e = .returned (.int .i64 (r : Int)) ∧ LenIs n r) ∧ w' = w := by
  go_enter Try.func51, Try.ntmps51
  go_wp2_with fail
  refine (Len64_gen n w hn).mono ?_
  rintro e w' ⟨⟨r, rfl, h⟩, rfl⟩
  have H := Lib.hid h
  clear h
  go_wp2
  go_ret
  exact ⟨⟨r, rfl, H.out⟩, rfl⟩
set_option maxRecDepth 100000 in
set_option maxHeartbeats 32000000 in
theorem NextPow_any (n : Nat) (w : World) (hn : n < 65536) (h1 : 1 ≤ n) : Calls Try.prog 70 #[.int .i64 (n : Int)] w fun e w' => (∃ m : Nat, e = .returned (.int .u64 (m : Int)) ∧ 1 ≤ m ∧ m ≤ 2 * n) ∧ w' = w := by
  have h0 : (0 : Int) ≤ (n : Int) ∧ (n : Int) < 65536 := by omega
  go_enter Try.func70, Try.ntmps70
  go_wp2_with fail
  refine (Len_gen n w hn).mono ?_
  rintro e w' ⟨⟨r, rfl, h⟩, rfl⟩
  have hr := h.2.2
  have H := Lib.hid h
  clear h
  rcases (by omega : r = 0 ∨ r = 1 ∨ r = 2 ∨ r = 3 ∨ r = 4 ∨ r = 5 ∨ r = 6 ∨ r = 7 ∨ r = 8 ∨ r = 9 ∨ r = 10 ∨ r = 11 ∨ r = 12 ∨ r = 13 ∨ r = 14 ∨ r = 15 ∨ r = 16) with rfl | rfl | rfl | rfl | rfl | rfl | rfl | rfl | rfl | rfl | rfl | rfl | rfl | rfl | rfl | rfl | rfl
  · clear hr
    go_wp2
    go_ret
    exact ⟨⟨1, rfl, by decide, by have := H.out.2.1 h1; omega⟩, rfl⟩
  · clear hr
    go_wp2
    go_ret
    exact ⟨⟨2, rfl, by decide, by have := H.out.2.1 h1; omega⟩, rfl⟩
  · clear hr
    go_wp2
    go_ret
    exact ⟨⟨4, rfl, by decide, by have := H.out.2.1 h1; omega⟩, rfl⟩
  · clear hr
    go_wp2
    go_ret
    exact ⟨⟨8, rfl, by decide, by have := H.out.2.1 h1; omega⟩, rfl⟩
  · clear hr
    go_wp2
    go_ret
    exact ⟨⟨16, rfl, by decide, by have := H.out.2.1 h1; omega⟩, rfl⟩
  · clear hr
    go_wp2
    go_ret
    exact ⟨⟨32, rfl, by decide, by have := H.out.2.1 h1; omega⟩, rfl⟩
  · clear hr
    go_wp2
    go_ret
    exact ⟨⟨64, rfl, by decide, by have := H.out.2.1 h1; omega⟩, rfl⟩
  · clear hr
    go_wp2
    go_ret
    exact ⟨⟨128, rfl, by decide, by have := H.out.2.1 h1; omega⟩, rfl⟩
  · clear hr
    go_wp2
    go_ret
    exact ⟨⟨256, rfl, by decide, by have := H.out.2.1 h1; omega⟩, rfl⟩
  · clear hr
    go_wp2
    go_ret
    exact ⟨⟨512, rfl, by decide, by have := H.out.2.1 h1; omega⟩, rfl⟩
  · clear hr
    go_wp2
    go_ret
    exact ⟨⟨1024, rfl, by decide, by have := H.out.2.1 h1; omega⟩, rfl⟩
  · clear hr
    go_wp2
    go_ret
    exact ⟨⟨2048, rfl, by decide, by have := H.out.2.1 h1; omega⟩, rfl⟩
  · clear hr
    go_wp2
    go_ret
    exact ⟨⟨4096, rfl, by decide, by have := H.out.2.1 h1; omega⟩, rfl⟩
  · clear hr
    go_wp2
    go_ret
    exact ⟨⟨8192, rfl, by decide, by have := H.out.2.1 h1; omega⟩, rfl⟩
  · clear hr
    go_wp2
    go_ret
    exact ⟨⟨16384, rfl, by decide, by have := H.out.2.1 h1; omega⟩, rfl⟩
  · clear hr
    go_wp2
    go_ret
    exact ⟨⟨32768, rfl, by decide, by have := H.out.2.1 h1; omega⟩, rfl⟩
  · clear hr
    go_wp2
    go_ret
    exact ⟨⟨65536, rfl, by decide, by have := H.out.2.1 h1; omega⟩, rfl⟩
theorem xor_nat (a b : Nat) (ha : a < 18446744073709551616) (hb : b < 18446744073709551616) : ∃ y : Nat, y < 18446744073709551616 ∧ bits .xor .u64 (a : Int) (b : Int) = (y : Int) :=
  ⟨a ^^^ b, Nat.xor_lt_two_pow (n := 64) ha hb, u64_xor_nat a b ha hb⟩
set_option maxRecDepth 100000 in
set_option maxHeartbeats 32000000 in
theorem Next_any (s x : Nat) (w : World) (hx : x < 18446744073709551616) (hc : w.cell? ⟨s, 0, none⟩ = some (.int .u64 (x : Int))) (hz : w.frozen? ⟨s, 0, none⟩ = false) :
    Calls Try.prog 71 #[.pointer (some ⟨s, 0, none⟩)] w fun e w' => ∃ y : Nat, e = .returned (.int .u64 (y : Int)) ∧ y < 18446744073709551616 ∧ w'.cell? ⟨s, 0, none⟩ = some (.int .u64 (y : Int)) ∧ w'.frozen? ⟨s, 0, none⟩ = false ∧ Kq s w w' := by
  obtain ⟨y1, hy1, e1⟩ := xor_nat x (x * 8192 % 18446744073709551616) hx (Nat.mod_lt _ (by decide))
  have w1 : IntKind.u64.wrap ((x : Int) * 8192) = ((x * 8192 % 18446744073709551616 : Nat) : Int) := by rw [IntKind.wrap_u64]; omega
  obtain ⟨x1, hx1⟩ : ∃ z, x * 8192 % 18446744073709551616 = z := ⟨_, rfl⟩
  rw [hx1] at e1 w1
  obtain ⟨y2, hy2, e2⟩ := xor_nat y1 (y1 / 128) hy1 (by omega)
  obtain ⟨x2, hx2⟩ : ∃ z, y1 / 128 = z := ⟨_, rfl⟩
  have w2 : (y1 : Int) / 128 = (x2 : Int) := by omega
  rw [hx2] at e2
  obtain ⟨y3, hy3, e3⟩ := xor_nat y2 (y2 * 131072 % 18446744073709551616) hy2 (Nat.mod_lt _ (by decide))
  have w3 : IntKind.u64.wrap ((y2 : Int) * 131072) = ((y2 * 131072 % 18446744073709551616 : Nat) : Int) := by rw [IntKind.wrap_u64]; omega
  obtain ⟨x3, hx3⟩ : ∃ z, y2 * 131072 % 18446744073709551616 = z := ⟨_, rfl⟩
  rw [hx3] at e3 w3
  clear hx1 hx2 hx3
  have hxI : (0 : Int) ≤ (x : Int) ∧ (x : Int) < 18446744073709551616 := by omega
  have hy1I : (0 : Int) ≤ (y1 : Int) ∧ (y1 : Int) < 18446744073709551616 := by omega
  have hy2I : (0 : Int) ≤ (y2 : Int) ∧ (y2 : Int) < 18446744073709551616 := by omega
  go_enter Try.func71, Try.ntmps71
  go_upto_region 1 with fail
  go_region
  have c1 : (w.setCell ⟨s, 0, none⟩ (.int .u64 (y1 : Int))).cell? ⟨s, 0, none⟩ = some (.int .u64 (y1 : Int)) := World.cell?_setCell_same _ _ _ hc
  have z1 : (w.setCell ⟨s, 0, none⟩ (.int .u64 (y1 : Int))).frozen? ⟨s, 0, none⟩ = false := by rw [World.frozen?_setCell]; exact hz
  have k1 := (Kq.setCell s 0 w (.int .u64 (y1 : Int))).trans (Kq.drew s _)
  obtain ⟨wA, hwA⟩ : ∃ zz, (w.setCell ⟨s, 0, none⟩ (.int .u64 (y1 : Int))).drew = zz := ⟨_, rfl⟩
  have c1' : wA.cell? ⟨s, 0, none⟩ = some (.int .u64 (y1 : Int)) := by rw [← hwA]; exact c1
  have z1' : wA.frozen? ⟨s, 0, none⟩ = false := by rw [← hwA]; exact z1
  rw [hwA] at k1 ⊢
  clear hwA c1 z1 hc hz e1 w1
  go_upto_region 2 with fail
  go_region
  have c2 : (wA.setCell ⟨s, 0, none⟩ (.int .u64 (y2 : Int))).cell? ⟨s, 0, none⟩ = some (.int .u64 (y2 : Int)) := World.cell?_setCell_same _ _ _ c1'
  have z2 : (wA.setCell ⟨s, 0, none⟩ (.int .u64 (y2 : Int))).frozen? ⟨s, 0, none⟩ = false := by rw [World.frozen?_setCell]; exact z1'
  have k2 := (k1.trans (Kq.setCell s 0 wA (.int .u64 (y2 : Int)))).trans (Kq.drew s _)
  obtain ⟨wB, hwB⟩ : ∃ zz, (wA.setCell ⟨s, 0, none⟩ (.int .u64 (y2 : Int))).drew = zz := ⟨_, rfl⟩
  have c2' : wB.cell? ⟨s, 0, none⟩ = some (.int .u64 (y2 : Int)) := by rw [← hwB]; exact c2
  have z2' : wB.frozen? ⟨s, 0, none⟩ = false := by rw [← hwB]; exact z2
  rw [hwB] at k2 ⊢
  clear hwB c2 z2 c1' z1' e2 w2 k1
  go_upto_region 3 with fail
  go_region
  have c3 : (wB.setCell ⟨s, 0, none⟩ (.int .u64 (y3 : Int))).cell? ⟨s, 0, none⟩ = some (.int .u64 (y3 : Int)) := World.cell?_setCell_same _ _ _ c2'
  have z3 : (wB.setCell ⟨s, 0, none⟩ (.int .u64 (y3 : Int))).frozen? ⟨s, 0, none⟩ = false := by rw [World.frozen?_setCell]; exact z2'
  have k3 := (k2.trans (Kq.setCell s 0 wB (.int .u64 (y3 : Int)))).trans (Kq.drew s _)
  obtain ⟨wC, hwC⟩ : ∃ zz, (wB.setCell ⟨s, 0, none⟩ (.int .u64 (y3 : Int))).drew = zz := ⟨_, rfl⟩
  have c3' : wC.cell? ⟨s, 0, none⟩ = some (.int .u64 (y3 : Int)) := by rw [← hwC]; exact c3
  have z3' : wC.frozen? ⟨s, 0, none⟩ = false := by rw [← hwC]; exact z3
  rw [hwC] at k3 ⊢
  clear hwC c3 z3 c2' z2' e3 w3 k2
  have K3 := Lib.hid k3
  clear k3
  go_wp2
  go_ret
  exact ⟨y3, rfl, hy3, c3', z3', K3.out⟩
end Go.Proofs.Ytfgfamafjkjakaa
namespace Go.Proofs.Ytfgfamafjkjakaa
open Go.ChangeShapes Go.WideShapes Go.ChangeAt Go.RowKit Go.Deep
set_option linter.unusedVariables false
set_option linter.unusedSimpArgs false
theorem and_nat (a b : Nat) (ha : a < 18446744073709551616) (hb : b < 18446744073709551616) : ∃ y : Nat, y ≤ b ∧ bits .and .u64 (a : Int) (b : Int) = (y : Int) :=
  ⟨a &&& b, Nat.and_le_right, u64_and_nat a b ha hb⟩
theorem rnd_new (w : World) (l : Nat) : (w.alloc (.cells #[.int .u64 (l : Int)] 104)).cell? ⟨w.heap.size, 0, none⟩ = some (.int .u64 (l : Int)) ∧ (w.alloc (.cells #[.int .u64 (l : Int)] 104)).frozen? ⟨w.heap.size, 0, none⟩ = false ∧ w.heap.size < (w.alloc (.cells #[.int .u64 (l : Int)] 104)).heap.size := by
  have e := heap_alloc_new w (.cells #[.int .u64 (l : Int)] 104)
  refine ⟨?_, ?_, ?_⟩
  · unfold World.cell?
    rw [e]
    rfl
  · unfold World.frozen?
    rw [e]
    rfl
  · unfold World.alloc
    rw [Array.size_push]
    exact Nat.lt_succ_self _
def Perms (g n a b : Nat) (d : Array Nat) (w : World) (e : Ending) (w' : World) : Prop := e = .returned (.tuple #[]) ∧ ∃ D, Arr w' g D ∧ Sort.PermIn a b d D ∧ D.size = n ∧ Kq g w w'
set_option maxRecDepth 100000 in
set_option maxHeartbeats 32000000 in
theorem Break_any (g n cap a b : Nat) (d : Array Nat) (w : World) (hA : Arr w g d) (hn : d.size = n) (hnc : n ≤ cap) (hcap : (cap : Int) ≤ 9223372036854775807) (hn16 : n < 65536) (hb : b ≤ n) (hab : a + 12 < b) :
    Calls Try.prog 59 #[.slice (some ⟨g, 0, none⟩) n cap, .int .i64 (a : Int), .int .i64 (b : Int)] w fun e w' => Perms g n a b d w e w' := by
  have HA := Lib.hid hA
  have HN := Lib.hid hn
  obtain ⟨l, hl⟩ : ∃ l, b - a = l := ⟨_, rfl⟩
  obtain ⟨q2, hq⟩ : ∃ x, l / 4 * 2 = x := ⟨_, rfl⟩
  have haI : (a : Int) ≤ 65536 := by omega
  have hbI : (b : Int) ≤ 65536 := by omega
  have hl8 : (8 : Int) ≤ (l : Int) := by omega
  have hln : l < 65536 := by omega
  have hlI : (l : Int) ≤ 65536 := by omega
  have hqI : (l : Int) / 4 * 2 = (q2 : Int) := by omega
  have hq2 : 6 ≤ q2 := by omega
  have hqb : a + q2 + 2 < b := by omega
  have HL := Lib.hid hl
  have HQ := Lib.hid hqI
  clear hA hn hl hq hqI
  go_enter Try.func59, Try.ntmps59
  go_upto_region 0 with fail
  go_cut [6] (fun v wz => v = .int .i64 (l : Int) ∧ w = wz)
  case first =>
    go_wp2
    go_meet
    exact ⟨int_eq (by have := HL.out; omega), rfl⟩
  case rest =>
    obtain ⟨rfl, rfl⟩ := hcut
    go_upto_region 3 with fail
    have hb1 := (Below.refl w.heap.size w).alloc (Nat.le_refl _) (.cells #[.int .u64 (l : Int)] 104)
    obtain ⟨hc1, hz1, hs1⟩ := rnd_new w l
    have hA1 := HA.out.below hb1
    have hgs : g ≠ w.heap.size := by have := HA.out.lt; omega
    generalize (w.alloc (.cells #[.int .u64 (l : Int)] 104)) = w1 at *
    obtain ⟨s, hs⟩ : ∃ s, w.heap.size = s := ⟨_, rfl⟩
    rw [hs] at hb1 hc1 hgs hz1 hs1 ⊢
    have HK1 := Lib.hid (Kq.of_below (R := g) (by rw [hs]; exact hb1))
    have HC1 := Lib.hid hc1
    have HZ1 := Lib.hid hz1
    have HA1 := Lib.hid hA1
    have HSS := Lib.hid hs
    clear hb1 hc1 hz1 hA1 hs
    go_wp2_with fail
    refine (NextPow_any l w1 (by omega) (by omega)).mono ?_
    rintro e w2 ⟨⟨m, rfl, hm1, hm2⟩, rfl⟩
    obtain ⟨m1, rfl⟩ : ∃ k, m = k + 1 := ⟨m - 1, by omega⟩
    have hmI : ((m1 + 1 : Nat) : Int) - 1 = (m1 : Int) := by omega
    have hmB : (m1 : Int) ≤ 131072 := by omega
    have hmB0 : (0 : Int) ≤ ((m1 + 1 : Nat) : Int) ∧ ((m1 + 1 : Nat) : Int) ≤ 131073 := by omega
    obtain ⟨M, hM⟩ : ∃ M : Int, ((m1 + 1 : Nat) : Int) = M := ⟨_, rfl⟩
    rw [hM] at hmI hmB0 ⊢
    clear hM
    go_upto_region 4 with fail
    go_cut [9] (fun v wz => v = .int .i64 ((a + q2 - 1 : Nat) : Int) ∧ w2 = wz)
    case first =>
      have hqI := HQ.out
      go_wp2
      go_meet
      exact ⟨int_eq (by omega), rfl⟩
    case rest =>
      obtain ⟨rfl, rfl⟩ := hcut
      go_wp2_with fail
      go_loopw [9] (fun v wr => ∃ (ix ry : Nat) (dk : Array Nat), v = .int .i64 (ix : Int) ∧ a ≤ ix ∧ ix ≤ a + q2 + 2 ∧ dk.size = n ∧ ry < 18446744073709551616 ∧ s < wr.heap.size ∧ Hid (Arr wr g dk ∧ Sort.PermIn a b d dk ∧ Kq g w wr ∧ wr.cell? ⟨s, 0, none⟩ = some (.int .u64 (ry : Int)) ∧ wr.frozen? ⟨s, 0, none⟩ = false)) (fun v _ => a + q2 + 3 - (intOf v).toNat)
      case atStart => exact ⟨a + q2 - 1, l, d, rfl, by omega, by omega, HN.out, by omega, hs1, Lib.hid ⟨HA1.out, Sort.permIn_refl d a b, HK1.out, HC1.out, HZ1.out⟩⟩
      case round =>
        obtain ⟨ix, ry, dk, rfl, hax, hxq, hsk, hy, hswr, HR⟩ := hrel
        obtain ⟨W0, rfl⟩ : ∃ W0, W0 = wr := ⟨wr, rfl⟩
        have HS := Lib.hid hsk
        clear hsk hs1
        go_upto_region 5 with fail
        rcases Nat.lt_or_ge (a + q2 + 1) ix with hend | hgo
        · go_cut [33] (fun v wz => v = .bool false ∧ W0 = wz)
          case first =>
            have hqI := HQ.out
            go_wp2
            go_meet
            exact ⟨congrArg Value.bool (decide_eq_false (by omega)), rfl⟩
          case rest =>
            obtain ⟨rfl, rfl⟩ := hcut
            go_wp2
            first | go_end0 | (refine bodyPost_end (results_none rfl _ _ _) rfl ?_) | (refine bodyPost_ret (results_none rfl _ _ _) rfl ?_)
            exact ⟨rfl, dk, HR.out.1, HR.out.2.1, HS.out, HR.out.2.2.1⟩
        · go_cut [33] (fun v wz => v = .bool true ∧ W0 = wz)
          case first =>
            have hqI := HQ.out
            go_wp2
            go_meet
            exact ⟨congrArg Value.bool (decide_eq_true (by omega)), rfl⟩
          case rest =>
            obtain ⟨rfl, rfl⟩ := hcut
            go_wp2_with fail
            refine (Next_any s ry W0 hy HR.out.2.2.2.1 HR.out.2.2.2.2).mono ?_
            rintro e W1 ⟨y1, rfl, hy1, hc1, hz1, hk1⟩
            have hA1 := HR.out.1.kp hk1 hgs
            have hP := HR.out.2.1
            have hK1 := HR.out.2.2.1.over hk1 (by rw [HSS.out]; exact Nat.le_refl _)
            have hs1 : s < W1.heap.size := Nat.lt_of_lt_of_le hswr hk1.size
            obtain ⟨r, hr, er⟩ := and_nat y1 m1 hy1 (by omega)
            have hrI : (r : Int) ≤ 131072 := by omega
            obtain ⟨z, hz⟩ : ∃ z, (if l ≤ r then r - l else r) = z := ⟨_, rfl⟩
            have hzl : z < l := by rw [← hz]; split <;> omega
            have HZ := Lib.hid hz
            have H1 := Lib.hid hA1
            have HP := Lib.hid hP
            have HK1 := Lib.hid hK1
            have HC1 := Lib.hid hc1
            have HZ1 := Lib.hid hz1
            clear hA1 hP hK1 hk1 hc1 hz1 hz hr HR
            go_upto_region 8 with fail

            rcases Nat.lt_or_ge r l with hrl | hrl
            · have hI : ¬ (l : Int) ≤ (r : Int) := by omega
              have hzr : z = r := by rw [← HZ.out, if_neg (by omega)]
              subst hzr
              obtain ⟨t, ht⟩ : ∃ t, a + z = t := ⟨_, rfl⟩
              have htI : (a : Int) + (z : Int) = (t : Int) := by omega
              have htb : a ≤ t ∧ t < b := by have := HL.out; omega
              have HTB := Lib.hid htb
              have htn : t < n := by omega
              have hxn : ix < n := by omega
              have hnI : (n : Int) ≤ 65536 := by omega
              have htI2 : (t : Int) ≤ 65536 := by omega
              clear ht htb
              have ha : ix < (dk).size := by rw [HS.out]; exact hxn
              have hb : t < (dk).size := by rw [HS.out]; exact htn
              have ci := H1.out.cell ix ha
              have cj := H1.out.cell t hb
              have HSW := Lib.hid (fun (x y : Nat) (hx : (dk)[ix]! = x) (hy : (dk)[t]! = y) => H1.out.swp (i := ix) (j := t) (x := x) (y := y) ha hb hx hy)
              have HSC := Lib.hid (fun (y : Nat) (hy : (dk)[t]! = y) => H1.out.second (i := ix) (j := t) ha hb hy)
              obtain ⟨x, hx⟩ : ∃ x, (dk)[ix]! = x := ⟨_, rfl⟩
              obtain ⟨y, hy⟩ : ∃ y, (dk)[t]! = y := ⟨_, rfl⟩
              rw [hx] at ci
              rw [hy] at cj
              have HX := Lib.hid hx
              have HY := Lib.hid hy
              have zi := H1.out.nf ix
              have zj := H1.out.nf t
              have hiN : (ix : Int) < (n : Int) := by omega
              have hjN : (t : Int) < (n : Int) := by omega
              have hi0 : (0 : Int) ≤ (ix : Int) := by omega
              have hj0 : (0 : Int) ≤ (t : Int) := by omega
              clear hx hy ha hb
              go_upto_region 10 with fail
              have hs := HSC.out y HY.out
              go_region
              clear ci cj zi zj hs
              have H2 := Lib.hid ((HSW.out x y HX.out HY.out).drew)
              have HK2 := Lib.hid ((HK1.out.trans (swp_kp g ix t W1 (.int .u64 (y : Int)) (.int .u64 (x : Int)))).trans (Kq.drew g _))
              clear HSW HSC HX HY
              have hkw := (swp_kp g ix t W1 (.int .u64 (y : Int)) (.int .u64 (x : Int))).trans (Kq.drew g _)
              obtain ⟨W2, hW2⟩ : ∃ W2, ((W1.setCell ⟨g, ix, none⟩ (.int .u64 (y : Int))).setCell ⟨g, t, none⟩ (.int .u64 (x : Int))).drew = W2 := ⟨_, rfl⟩
              rw [hW2] at H2 HK2 hkw ⊢
              have hbk := hkw.block s hs1 (fun h => hgs h.symm)
              have HB := Lib.hid hbk
              have hs2 : s < W2.heap.size := Nat.lt_of_lt_of_le hs1 hkw.size
              clear hW2 hkw hbk
              have hixI : (ix : Int) ≤ 65536 := by omega
              go_wp2
              go_roundw
              case rel =>
                refine ⟨ix + 1, y1, _, by go_num, by omega, by omega, by rw [Sort.swp_size]; exact HS.out, hy1, hs2, Lib.hid ⟨H2.out, Sort.permIn_trans d dk _ a b HP.out (Sort.swp_permIn dk a b ix t hax (by omega) HTB.out.1 HTB.out.2 (by rw [HS.out]; exact hb)), HK2.out, ?_, ?_⟩⟩
                · exact (World.cell?_of_block (a := ⟨s, 0, none⟩) HB.out).trans HC1.out
                · have h := HZ1.out
                  have hbk := HB.out
                  simp only [World.frozen?, hbk] at h ⊢
                  exact h
              case measure => simp [intOf] <;> omega

            · have hI : (l : Int) ≤ (r : Int) := by omega
              have hzr : z = r - l := by rw [← HZ.out, if_pos hrl]
              have hzrI : (r : Int) - (l : Int) = (z : Int) := by omega
              clear hzr
              obtain ⟨t, ht⟩ : ∃ t, a + z = t := ⟨_, rfl⟩
              have htI : (a : Int) + (z : Int) = (t : Int) := by omega
              have htb : a ≤ t ∧ t < b := by have := HL.out; omega
              have HTB := Lib.hid htb
              have htn : t < n := by omega
              have hxn : ix < n := by omega
              have hnI : (n : Int) ≤ 65536 := by omega
              have htI2 : (t : Int) ≤ 65536 := by omega
              clear ht htb
              have ha : ix < (dk).size := by rw [HS.out]; exact hxn
              have hb : t < (dk).size := by rw [HS.out]; exact htn
              have ci := H1.out.cell ix ha
              have cj := H1.out.cell t hb
              have HSW := Lib.hid (fun (x y : Nat) (hx : (dk)[ix]! = x) (hy : (dk)[t]! = y) => H1.out.swp (i := ix) (j := t) (x := x) (y := y) ha hb hx hy)
              have HSC := Lib.hid (fun (y : Nat) (hy : (dk)[t]! = y) => H1.out.second (i := ix) (j := t) ha hb hy)
              obtain ⟨x, hx⟩ : ∃ x, (dk)[ix]! = x := ⟨_, rfl⟩
              obtain ⟨y, hy⟩ : ∃ y, (dk)[t]! = y := ⟨_, rfl⟩
              rw [hx] at ci
              rw [hy] at cj
              have HX := Lib.hid hx
              have HY := Lib.hid hy
              have zi := H1.out.nf ix
              have zj := H1.out.nf t
              have hiN : (ix : Int) < (n : Int) := by omega
              have hjN : (t : Int) < (n : Int) := by omega
              have hi0 : (0 : Int) ≤ (ix : Int) := by omega
              have hj0 : (0 : Int) ≤ (t : Int) := by omega
              clear hx hy ha hb
              go_upto_region 10 with fail
              have hs := HSC.out y HY.out
              go_region
              clear ci cj zi zj hs
              have H2 := Lib.hid ((HSW.out x y HX.out HY.out).drew)
              have HK2 := Lib.hid ((HK1.out.trans (swp_kp g ix t W1 (.int .u64 (y : Int)) (.int .u64 (x : Int)))).trans (Kq.drew g _))
              clear HSW HSC HX HY
              have hkw := (swp_kp g ix t W1 (.int .u64 (y : Int)) (.int .u64 (x : Int))).trans (Kq.drew g _)
              obtain ⟨W2, hW2⟩ : ∃ W2, ((W1.setCell ⟨g, ix, none⟩ (.int .u64 (y : Int))).setCell ⟨g, t, none⟩ (.int .u64 (x : Int))).drew = W2 := ⟨_, rfl⟩
              rw [hW2] at H2 HK2 hkw ⊢
              have hbk := hkw.block s hs1 (fun h => hgs h.symm)
              have HB := Lib.hid hbk
              have hs2 : s < W2.heap.size := Nat.lt_of_lt_of_le hs1 hkw.size
              clear hW2 hkw hbk
              have hixI : (ix : Int) ≤ 65536 := by omega
              go_wp2
              go_roundw
              case rel =>
                refine ⟨ix + 1, y1, _, by go_num, by omega, by omega, by rw [Sort.swp_size]; exact HS.out, hy1, hs2, Lib.hid ⟨H2.out, Sort.permIn_trans d dk _ a b HP.out (Sort.swp_permIn dk a b ix t hax (by omega) HTB.out.1 HTB.out.2 (by rw [HS.out]; exact hb)), HK2.out, ?_, ?_⟩⟩
                · exact (World.cell?_of_block (a := ⟨s, 0, none⟩) HB.out).trans HC1.out
                · have h := HZ1.out
                  have hbk := HB.out
                  simp only [World.frozen?, hbk] at h ⊢
                  exact h
              case measure => simp [intOf] <;> omega
end Go.Proofs.Ytfgfamafjkjakaa
