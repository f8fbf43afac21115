/-
  Package slices, of numbers: a row that is sorted in place; the insertion sort.
-/
import Derived.Test.YtfdafoibclfpgaaDotFind
import Derived.Test.YtfdafoibclfpgaaMKp
import Derived.Sort.LotA
import Derived.Deep.DeepCutAuto
import Derived.Deep.CutBlock
import Derived.Deep.QuietTactic
import Derived.BigQuiet
import Derived.IntWalk
import Derived.RegionTactic
import Derived.BigRegion
import Derived.ChangeAlike
namespace Go.Proofs.Ytfdafoibclfpgaa
open Go.ChangeShapes Go.WideShapes Go.ChangeAt Go.RowKit Go.Deep
set_option linter.unusedVariables false
set_option linter.unusedSimpArgs false
/-- Block R alone was written, and has as many cells as before. -/
structure Kq (R : Nat) (w w' : World) : Prop extends Kp R w w' where
  shape : ∀ cur T, w.heap[R]? = some (.cells cur T (0, 0)) → ∃ cur', w'.heap[R]? = some (.cells cur' T (0, 0)) ∧ cur'.size = cur.size
theorem Kq.refl (R : Nat) (w : World) : Kq R w w := ⟨Kp.refl R w, fun cur _ h => ⟨cur, h, rfl⟩⟩
theorem Kq.of_below {R : Nat} {w w' : World} (h : Below w.heap.size w w') : Kq R w w' := ⟨Kp.of_below h, fun cur _ hc => ⟨cur, (h.block R (lt_of_block hc)).trans hc, rfl⟩⟩
theorem Kq.trans {R : Nat} {a b c : World} (h : Kq R a b) (k : Kq R b c) : Kq R a c := ⟨h.toKp.trans k.toKp, fun cur T hc => by
  obtain ⟨c1, h1, e1⟩ := h.shape cur T hc
  obtain ⟨c2, h2, e2⟩ := k.shape c1 T h1
  exact ⟨c2, h2, e2.trans e1⟩⟩
theorem Kq.setCell (R o : Nat) (w : World) (v : Value) : Kq R w (w.setCell ⟨R, o, none⟩ v) := ⟨Kp.setCell R o w v, fun cur T hc => ⟨_, heap_setCell_same _ _ _ _ _ _ hc, by rw [Array.size_setIfInBounds]⟩⟩
theorem Kq.drewN (R : Nat) (w : World) (n : Nat) : Kq R w (w.drewN n) := ⟨Kp.drewN R w n, fun cur _ h => ⟨cur, h, rfl⟩⟩
theorem Kq.drew (R : Nat) (w : World) : Kq R w w.drew := ⟨⟨rfl, rfl, rfl, Nat.le_refl _, fun _ _ _ => rfl⟩, fun cur _ h => ⟨cur, h, rfl⟩⟩
theorem Kq.below {R B : Nat} {w w' : World} (h : Kq R w w') (hR : B ≤ R) (hB : B ≤ w.heap.size) : Below B w w' := h.toKp.below hR hB
theorem Kq.over {g s : Nat} {w w1 w2 : World} (h : Kq g w w1) (k : Kq s w1 w2) (hs : w.heap.size ≤ s) : Kq g w w2 :=
  ⟨⟨k.os.trans h.os, k.tape.trans h.tape, k.output.trans h.output, Nat.le_trans h.size k.size, fun i hi hg => (k.block i (Nat.lt_of_lt_of_le hi h.size) (by omega)).trans (h.block i hi hg)⟩, fun cur T hc => by
    have hg := lt_of_block hc
    obtain ⟨c1, h1, e1⟩ := h.shape cur T hc
    exact ⟨c1, (k.block g (lt_of_block h1) (by omega)).trans h1, e1⟩⟩
/-- Block g begins with the numbers d, free to be written. -/
structure Arr (w : World) (g : Nat) (d : Array Nat) : Prop where
  cell : ∀ i, i < d.size → w.cell? ⟨g, i, none⟩ = some (.int .u64 ((d[i]! : Nat) : Int))
  nf : ∀ j, w.frozen? ⟨g, j, none⟩ = false
  lt : g < w.heap.size
theorem Arr.drewN {w : World} {g : Nat} {d : Array Nat} (h : Arr w g d) (n : Nat) : Arr (w.drewN n) g d := ⟨h.cell, h.nf, h.lt⟩
theorem Arr.drew {w : World} {g : Nat} {d : Array Nat} (h : Arr w g d) : Arr w.drew g d := ⟨h.cell, h.nf, h.lt⟩
theorem Arr.below {w w' : World} {g : Nat} {d : Array Nat} (h : Arr w g d) (hb : Below w.heap.size w w') : Arr w' g d :=
  ⟨fun i hi => (hb.cell (p := ⟨g, i, none⟩) h.lt).trans (h.cell i hi), fun j => (hb.frozen (p := ⟨g, j, none⟩) h.lt).trans (h.nf j), Nat.lt_of_lt_of_le h.lt hb.size⟩
theorem cell_set {w : World} {g i : Nat} {x : Value} {v : Value} (h : w.cell? ⟨g, i, none⟩ = some v) (j : Nat) : (w.setCell ⟨g, i, none⟩ x).cell? ⟨g, j, none⟩ = if j = i then some x else w.cell? ⟨g, j, none⟩ := by
  by_cases e : j = i
  · subst e
    rw [if_pos rfl]
    exact World.cell?_setCell_same _ _ _ h
  · rw [if_neg e]
    exact World.cell?_setCell_other _ _ _ _ (fun e2 => e (by simp only [Addr.mk.injEq, and_true, true_and] at e2; exact e2.symm))
/-- Two numbers exchanged. -/
theorem Arr.swp {w : World} {g : Nat} {d : Array Nat} (h : Arr w g d) {i j x y : Nat} (hi : i < d.size) (hj : j < d.size) (hx : d[i]! = x) (hy : d[j]! = y) :
    Arr ((w.setCell ⟨g, i, none⟩ (.int .u64 (y : Int))).setCell ⟨g, j, none⟩ (.int .u64 (x : Int))) g (Sort.swp d i j) := by
  refine ⟨fun k hk => ?_, fun k => ?_, ?_⟩
  · rw [Sort.swp_size] at hk
    have h1 : (w.setCell ⟨g, i, none⟩ (.int .u64 (y : Int))).cell? ⟨g, j, none⟩ = some (if j = i then .int .u64 (y : Int) else .int .u64 (y : Int)) := by
      rw [cell_set (h.cell i hi), h.cell j hj, hy]
      split <;> rfl
    rw [cell_set h1, cell_set (h.cell i hi), Sort.swp_get d hi hj, hx, hy, h.cell k hk]
    split
    · rfl
    · split <;> rfl
  · rw [World.frozen?_setCell, World.frozen?_setCell]
    exact h.nf k
  · rw [World.size_setCell, World.size_setCell]
    exact h.lt
theorem Arr.second {w : World} {g : Nat} {d : Array Nat} (h : Arr w g d) {i j y : Nat} (hi : i < d.size) (hj : j < d.size) (hy : d[j]! = y) :
    (w.setCell ⟨g, i, none⟩ (.int .u64 (y : Int))).cell? ⟨g, j, none⟩ = some (.int .u64 (y : Int)) := by
  rw [cell_set (h.cell i hi), h.cell j hj, hy]
  split <;> rfl
theorem swp_kp (g i j : Nat) (w : World) (x y : Value) : Kq g w ((w.setCell ⟨g, i, none⟩ x).setCell ⟨g, j, none⟩ y) := (Kq.setCell g i w x).trans (Kq.setCell g j _ y)
theorem swo_ltB : Sort.SWO ltB where
  irrefl x := decide_eq_false (Nat.lt_irrefl x)
  trans x y z h1 h2 := by
    unfold ltB at *
    rw [decide_eq_true_eq] at *
    omega
  ntrans x y z h1 h2 := by
    unfold ltB at *
    rw [decide_eq_false_iff_not] at *
    omega
theorem less_quiet (x y : Nat) (w : World) : Calls Try.prog 40 #[.int .u64 (x : Int), .int .u64 (y : Int)] w fun e w' => e = .returned (.bool (ltB x y)) ∧ w' = w := (cmpLess_any x y w).mono fun _ _ ⟨h1, h2⟩ => ⟨h1, h2.symm⟩
theorem less_q {x y : Nat} {q : Bool} (h : ltB x y = q) (w : World) : Calls Try.prog 40 #[.int .u64 (x : Int), .int .u64 (y : Int)] w fun e w' => e = .returned (.bool q) ∧ w' = w := by
  subst h
  exact less_quiet x y w
theorem insInner_end (a j : Nat) (d : Array Nat) (h : j ≤ a ∨ ltB d[j]! d[j - 1]! = false) : Sort.insInner ltB a j d = d := by
  cases j with
  | zero => rfl
  | succ k =>
    unfold Sort.insInner
    rw [Nat.add_sub_cancel] at h
    rw [if_neg]
    rw [Bool.and_eq_true, decide_eq_true_eq]
    rcases h with h | h
    · omega
    · rw [h]; simp
theorem insInner_next (a j k : Nat) (d : Array Nat) (hk : j = k + 1) (h1 : a < j) (h2 : ltB d[j]! d[k]! = true) : Sort.insInner ltB a j d = Sort.insInner ltB a k (Sort.swp d j k) := by
  subst hk
  conv => lhs; unfold Sort.insInner
  rw [if_pos]
  rw [Bool.and_eq_true, decide_eq_true_eq]
  exact ⟨h1, h2⟩
theorem insOuter_next (a b i : Nat) (d : Array Nat) (h : i < b) : Sort.insOuter ltB a b i d = Sort.insOuter ltB a b (i + 1) (Sort.insInner ltB a i d) := by
  conv => lhs; unfold Sort.insOuter
  rw [if_pos h]
theorem insOuter_end (a b i : Nat) (d : Array Nat) (h : b ≤ i) : Sort.insOuter ltB a b i d = d := by
  unfold Sort.insOuter
  rw [if_neg (by omega)]
/-- What a call that sorts holds and leaves. -/
def Sorts (g n : Nat) (w : World) (D : Array Nat) (e : Ending) (w' : World) : Prop := e = .returned (.tuple #[]) ∧ Arr w' g D ∧ Kq g w w' ∧ D.size = n
set_option maxRecDepth 100000 in
set_option maxHeartbeats 32000000 in
theorem Insertion_any (g n cap a b : Nat) (d : Array Nat) (w : World) (hA : Arr w g d) (hn : d.size = n) (hnc : n ≤ cap) (hcap : (cap : Int) ≤ 9223372036854775807) (hn62 : (n : Int) ≤ 4611686018427387904) (hb : b ≤ n) (hab : a ≤ b) :
    Calls Try.prog 34 #[.slice (some ⟨g, 0, none⟩) n cap, .int .i64 (a : Int), .int .i64 (b : Int)] w fun e w' => Sorts g n w (Sort.insertionSort ltB d a b) e w' := by
  have HA := Lib.hid hA
  have HN := Lib.hid hn
  have haI : (a : Int) ≤ 4611686018427387904 := by omega
  have haI0 : (0 : Int) ≤ (a : Int) := by omega
  clear hA hn
  go_enter Try.func34, Try.ntmps34
  go_wp2_with fail
  go_loopw [6] (fun v6 wr => ∃ (i : Nat) (dk : Array Nat), v6 = .int .i64 (i : Int) ∧ a + 1 ≤ i ∧ i ≤ b + 1 ∧ dk.size = n ∧ Arr wr g dk ∧ Kq g w wr ∧ Hid (Sort.insOuter ltB a b i dk = Sort.insOuter ltB a b (a + 1) d)) (fun v6 _ => b + 1 - (intOf v6).toNat)
  case atStart => exact ⟨a + 1, d, rfl, Nat.le_refl _, by omega, HN.out, HA.out, Kq.refl _ _, Lib.hid rfl⟩
  case round =>
    obtain ⟨i, dk, rfl, hi1, hi2, hs, h0, hk0, HO⟩ := hrel
    obtain ⟨W0, rfl⟩ : ∃ W0, W0 = wr := ⟨wr, rfl⟩
    have H0 := Lib.hid h0
    have HK0 := Lib.hid hk0
    have HS := Lib.hid hs
    clear h0 hk0 hs
    rcases Nat.lt_or_ge i b with hlt | hge
    · have hI : (i : Int) < (b : Int) := by omega
      go_wp2_with fail
      go_loopw [7] (fun v7 wr => ∃ (j : Nat) (dj : Array Nat), v7 = .int .i64 (j : Int) ∧ a ≤ j ∧ j ≤ i ∧ dj.size = n ∧ Arr wr g dj ∧ Kq g w wr ∧ Hid (Sort.insInner ltB a j dj = Sort.insInner ltB a i dk)) (fun v7 _ => (intOf v7).toNat)
      case atStart => exact ⟨i, dk, rfl, by omega, Nat.le_refl _, HS.out, H0.out, HK0.out, Lib.hid rfl⟩
      case round =>
        obtain ⟨j, dj, rfl, hj1, hj2, hs, h1, hk1, HI⟩ := hrel
        obtain ⟨W1, rfl⟩ : ∃ W1, W1 = wr := ⟨wr, rfl⟩
        have H1 := Lib.hid h1
        have HK1 := Lib.hid hk1
        have HS1 := Lib.hid hs
        clear h1 hk1 hs
        have fin : (j ≤ a ∨ ltB dj[j]! dj[j - 1]! = false) → ∀ k, ∃ (i' : Nat) (dk' : Array Nat), Value.int .i64 ((i : Int) + 1) = .int .i64 (i' : Int) ∧ a + 1 ≤ i' ∧ i' ≤ b + 1 ∧ dk'.size = n ∧ Arr (W1.drewN k) g dk' ∧ Kq g w (W1.drewN k) ∧ Hid (Sort.insOuter ltB a b i' dk' = Sort.insOuter ltB a b (a + 1) d) := fun h k =>
          ⟨i + 1, dj, by go_num, by omega, by omega, HS1.out, H1.out.drewN k, HK1.out.trans (Kq.drewN g W1 k), Lib.hid (by rw [← HO.out, insOuter_next a b i dk hlt, ← HI.out, insInner_end a j dj h])⟩
        have FIN := Lib.hid fin
        clear fin
        rcases Nat.lt_or_ge a j with hja | hja
        · obtain ⟨k, hk⟩ : ∃ k, j = k + 1 := ⟨j - 1, by omega⟩
          have hjn : j < dj.size := by rw [HS1.out]; omega
          have hkn0 : k < dj.size := by rw [HS1.out]; omega
          have cy := H1.out.cell j hjn
          have cx := H1.out.cell k hkn0
          have hnx := insInner_next a j k dj hk hja
          have hfn := FIN.out
          rw [show j - 1 = k by omega] at hfn
          have hsw := fun (W : World) (hW : Arr W g dj) (x y : Nat) (hx : dj[j]! = x) (hy : dj[k]! = y) => hW.swp (i := j) (j := k) (x := x) (y := y) hjn hkn0 hx hy
          obtain ⟨y, hy⟩ : ∃ y, dj[j]! = y := ⟨_, rfl⟩
          obtain ⟨x, hx⟩ : ∃ x, dj[k]! = x := ⟨_, rfl⟩
          rw [hy] at cy hnx hfn
          rw [hx] at cx hnx hfn
          have HNX := Lib.hid hnx
          have HFN := Lib.hid hfn
          have HSW := Lib.hid (fun (W : World) (hW : Arr W g dj) => hsw W hW y x hy hx)
          have HSC := Lib.hid (fun (W : World) (hW : Arr W g dj) => hW.second hjn hkn0 hx)
          have hja1 : (a : Int) < (j : Int) := by omega
          have hk1' : IntKind.i64.wrap ((j : Int) - 1) = (k : Int) := by rw [IntWalk.i64_in _ (by omega)]; omega
          have hkn : (k : Int) < (n : Int) := by omega
          have hjnI : (j : Int) < (n : Int) := by omega
          have hk0' : (0 : Int) ≤ (k : Int) := by omega
          have hj0' : (0 : Int) ≤ (j : Int) := by omega
          have hz1 := H1.out.nf k
          have hz2 := H1.out.nf j
          obtain ⟨q, hq⟩ : ∃ q, ltB y x = q := ⟨_, rfl⟩
          rw [hq] at HNX HFN
          have HQ := Lib.hid hq
          have HKK := Lib.hid hk
          clear hnx hfn hsw hy hx hq FIN hjn hkn0 hk
          go_upto_region 4 with fail
          go_cut [30] (fun v wz => v = .bool q ∧ ∃ kq, wz = W1.drewN kq)
          case first =>
            go_quiet ((go_at_call 40; exact Calls.quiet_of_same (less_q HQ.out _)))
            go_wp2
            go_meet
            exact ⟨rfl, _, rfl⟩
          case rest =>
            obtain ⟨rfl, kq, rfl⟩ := hcut
            cases q with
            | true =>
              go_upto_region 6 with fail
              have hs2 := HSC.out _ (H1.out.drewN (kq + 1))
              go_region
              go_wp2
              go_roundw
              case rel => exact ⟨k, _, rfl, by have := HKK.out; omega, by have := HKK.out; omega, by rw [Sort.swp_size]; exact HS1.out, HSW.out _ (H1.out.drewN (kq + 1)), (HK1.out.trans (Kq.drewN g W1 (kq + 1))).trans (swp_kp g j k _ _ _), Lib.hid (by rw [← HNX.out rfl]; exact HI.out)⟩
              case measure => have := HKK.out; simp [intOf] <;> omega
            | false =>
              go_wp2
              go_roundw
              case rel => exact HFN.out (.inr rfl) kq
              case measure => simp [intOf] <;> omega
        · have hja1 : ¬ (a : Int) < (j : Int) := by omega
          go_upto_region 4 with fail
          go_cut [30] (fun v wz => v = .bool false ∧ ∃ kq, wz = W1.drewN kq)
          case first =>
            go_quiet (fail)
            go_wp2
            go_meet
            exact ⟨rfl, _, rfl⟩
          case rest =>
            obtain ⟨rfl, kq, rfl⟩ := hcut
            go_wp2
            go_roundw
            case rel => exact FIN.out (.inl hja) kq
            case measure => simp [intOf] <;> omega
    · have hI : ¬ (i : Int) < (b : Int) := by omega
      go_wp2
      first | go_end0 | (refine bodyPost_end (results_none rfl _ _ _) rfl ?_)
      have h1 := HO.out
      rw [insOuter_end a b i dk hge] at h1
      exact ⟨rfl, by unfold Sort.insertionSort; rw [← h1]; exact H0.out, HK0.out, by unfold Sort.insertionSort; rw [← h1]; exact HS.out⟩
end Go.Proofs.Ytfdafoibclfpgaa
