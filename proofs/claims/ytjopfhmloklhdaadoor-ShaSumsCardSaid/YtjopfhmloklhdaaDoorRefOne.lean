/-
  Rows of numbers of one kind that a call has built: made empty, appended to, one number at a time. Over any program.
  The document's own primes (rolodexref2.prime).
  The document's own wide numbers: eight digits in base 65536, the least first (rolodexref2.of).
  The document's own wide numbers: which is above (rolodexref2.above).
  The document's own wide numbers: two of them multiplied as lists of digits.
  The document's own wide numbers: two of them multiplied (rolodexref2.times).
  The document's own roots of primes, as lists of digits.
  The document's own roots of primes: the walk (rolodexref2.root).
  The document's own primes: the first 64 (rolodexref2.primes).
  The document's own words: the eight at first and the sixty-four (rolodexref2.Consts), by the roots of its own primes.
-/
import Derived.Test.YtjopfhmloklhdaaDoorAppA
import Derived.Maps.AppendAt
import Derived.Test.YtjopfhmloklhdaaDoorRot
import Derived.Deep.Cut
import Derived.Test.YtjopfhmloklhdaaDoorSched
import Derived.Test.YtjopfhmloklhdaaDoorShaSpec
import Derived.Test.YtjopfhmloklhdaaDoorFin
namespace Go.Proofs.YtjopfhmloklhdaaDoor
open Go.ChangeShapes Go.WideShapes Go.ChangeAt Go.RowKit Go.Deep
set_option linter.unusedVariables false
set_option linter.unusedSimpArgs false
/-- Numbers as cells. -/
def nums (K : IntKind) (L : List Nat) : List Value := L.map fun (x : Nat) => Value.int K (x : Int)
/-- v is a row of the call's own that holds the numbers L. -/
def OwnN (w : World) (base : Nat) (e : TypeId) (K : IntKind) (v : Value) (L : List Nat) : Prop := w.ownsRow base e 1 v L.length (nums K L)
theorem OwnN.alloc {w : World} {B : Nat} {e : TypeId} {K : IntKind} {v : Value} {L : List Nat} (h : OwnN w B e K v L) (o : Obj) : OwnN (w.alloc o) B e K v L := World.ownsRow.alloc h o
theorem OwnN.drewN {w : World} {B : Nat} {e : TypeId} {K : IntKind} {v : Value} {L : List Nat} (h : OwnN w B e K v L) (n : Nat) : OwnN (w.drewN n) B e K v L := h
theorem OwnN.mono {w : World} {B B' : Nat} {e : TypeId} {K : IntKind} {v : Value} {L : List Nat} (h : OwnN w B e K v L) (hb : B' ≤ B) : OwnN w B' e K v L := Joins.ownsRow_le h hb
theorem OwnN.below {w w' : World} {B : Nat} {e : TypeId} {K : IntKind} {v : Value} {L : List Nat} (h : OwnN w B e K v L) (hb : Below w.heap.size w w') : OwnN w' B e K v L := by
  refine ⟨h.1, ?_⟩
  rcases h.2 with h1 | ⟨g, cap, cur, h1, h2, h3, h4⟩
  · exact .inl h1
  · exact .inr ⟨g, cap, cur, h1, h2, (hb.block g (lt_of_block h3)).trans h3, h4⟩
theorem OwnN.sl {w : World} {B : Nat} {e : TypeId} {K : IntKind} {v : Value} {L : List Nat} (h : OwnN w B e K v L) : ∃ p cap, v = .slice p L.length cap := by
  rcases h.2 with ⟨rfl, hz⟩ | ⟨g, cap, cur, rfl, _⟩
  · exact ⟨none, 0, by rw [hz]⟩
  · exact ⟨_, _, rfl⟩
/-- The row's form where it holds something. -/
theorem OwnN.form {w : World} {B : Nat} {e : TypeId} {K : IntKind} {v : Value} {L : List Nat} (h : OwnN w B e K v L) (h0 : 0 < L.length) : ∃ g cap, v = .slice (some ⟨g, 0, none⟩) L.length cap ∧ B ≤ g ∧ g < w.heap.size ∧ L.length ≤ cap ∧ cap ≤ maxLen ∧ ∀ j, j < L.length → w.cell? ⟨g, j, none⟩ = some (.int K ((L.getD j 0 : Nat) : Int)) := by
  have h' := h
  rcases h.2 with ⟨_, hz⟩ | ⟨g, cap, cur, rfl, h2, h3, h4, h5, _⟩
  · omega
  · refine ⟨g, cap, rfl, h2, lt_of_block h3, h4, h5, fun j hj => ?_⟩
    rw [World.ownsRow.cellAt h' j (by omega)]
    unfold nums
    rw [List.getElem?_map, List.getD_eq_getElem?_getD, List.getElem?_eq_getElem hj]
    rfl
theorem OwnN.kept {w w' : World} {B : Nat} {e : TypeId} {K : IntKind} {v : Value} {L : List Nat} {row : Option Nat} (h : OwnN w B e K v L) (hg : w.grownBy w' row) (hne : v.ownBlock ≠ row) : OwnN w' B e K v L := World.ownsRow.kept h hg (.inr hne)
theorem OwnN.apart {w : World} {B : Nat} {e : TypeId} {K : IntKind} {u v v' : Value} {M : List Nat} (hu : OwnN w B e K u M) (hne : u.ownBlock ≠ v.ownBlock) (h : v'.ownBlock = v.ownBlock ∨ v'.ownBlock = some w.heap.size) : u.ownBlock ≠ v'.ownBlock := by
  rcases h with h | h
  · rw [h]; exact hne
  · intro e
    rw [h] at e
    have := (World.ownsRow.lt hu _ e).2
    omega
section
variable {P : Program}
theorem num_parts {e : TypeId} {K : IntKind} {b : Nat} (h : (P.info? e).map (fun i => (i.zero, i.size, i.bytes)) = some (some (.int K 0), 1, b)) : ∃ i, P.info? e = some i ∧ i.zero = some (.int K 0) ∧ i.size = 1 ∧ i.bytes = b := by
  cases hi : P.info? e with
  | none => rw [hi] at h; simp at h
  | some i =>
    rw [hi] at h
    simp at h
    exact ⟨i, rfl, h.1, h.2.1, h.2.2⟩
theorem wpList_append_num {w : World} {ops : Array Oper} {rest : List Oper} {o : Oper} {a : Act} {Q : Exit → Act → World → Prop} (hgd : o.guard = none) (s x : Operand) (t : TypeId)
    (ho : o.op = .call { callee := .builtin .append, args := #[s, x], argTypes := #[t, t] })
    (base : Nat) (e : TypeId) (K : IntKind) (by_ : Nat) (ht : P.underlying t = some (.slice e)) (hinfo : (P.info? e).map (fun i => (i.zero, i.size, i.bytes)) = some (some (.int K 0), 1, by_)) (h8 : by_ ≤ 8)
    (v : Value) (L : List Nat) (hs : a.eval s = v) (hown : OwnN w base e K v L)
    (g c : Nat) (y : Nat) (hx : a.eval x = .slice (some ⟨g, 0, none⟩) 1 c) (hy : w.cell? ⟨g, 0, none⟩ = some (.int K (y : Int))) (hlen : L.length ≤ 1000000) (hbase : base ≤ w.heap.size) (w0 : World) (hb : Below base w0 w)
    (h : ∀ v' w', OwnN w' base e K v' (L ++ [y]) → Below base w0 w' → wpList P ops Q rest (a.put o.dst v') w') : wpList P ops Q (o :: rest) a w := by
  obtain ⟨i, hi, hz, hz1, hz2⟩ := num_parts hinfo
  refine wpList_append_own w hgd s x t ho base e i (.int K 0) 1 by_ ht hi hz hz1 hz2 rfl (by decide) v L.length _ hs hown ⟨g, 0, none⟩ 1 c [.int K (y : Int)] hx rfl (fun j u hj => ?_) (fun u hu => ?_)
    (by unfold maxLen; omega) (by have := Nat.mul_le_mul_left (L.length + 1) h8; omega) hbase fun v' w' h1 h2 _ => h v' w' ?_ (hb.grown h2 hbase (fun k hk => (World.ownsRow.lt hown k hk).1))
  · match j, hj with
    | 0, hj => simp at hj; subst hj; exact hy
  · simp at hu; subst hu; rfl
  · unfold OwnN nums
    rw [List.length_append, List.map_append]
    exact h1
theorem wpList_append_num2 {w : World} {ops : Array Oper} {rest : List Oper} {o : Oper} {a : Act} {Q : Exit → Act → World → Prop} (hgd : o.guard = none) (s x : Operand) (t : TypeId)
    (ho : o.op = .call { callee := .builtin .append, args := #[s, x], argTypes := #[t, t] })
    (base : Nat) (e : TypeId) (K : IntKind) (by_ : Nat) (ht : P.underlying t = some (.slice e)) (hinfo : (P.info? e).map (fun i => (i.zero, i.size, i.bytes)) = some (some (.int K 0), 1, by_)) (h8 : by_ ≤ 8)
    (v : Value) (L : List Nat) (hs : a.eval s = v) (hown : OwnN w base e K v L)
    (g c : Nat) (y : Nat) (hx : a.eval x = .slice (some ⟨g, 0, none⟩) 1 c) (hy : w.cell? ⟨g, 0, none⟩ = some (.int K (y : Int))) (hlen : L.length ≤ 1000000) (hbase : base ≤ w.heap.size) (w0 : World) (hb : Below base w0 w)
    (h : ∀ v' w', OwnN w' base e K v' (L ++ [y]) → Below base w0 w' → w.grownBy w' v.ownBlock → (v'.ownBlock = v.ownBlock ∨ v'.ownBlock = some w.heap.size) → wpList P ops Q rest (a.put o.dst v') w') : wpList P ops Q (o :: rest) a w := by
  obtain ⟨i, hi, hz, hz1, hz2⟩ := num_parts hinfo
  refine wpList_append_own_at w hgd s x t ho base e i (.int K 0) 1 by_ ht hi hz hz1 hz2 rfl (by decide) v L.length _ hs hown ⟨g, 0, none⟩ 1 c [.int K (y : Int)] hx rfl (fun j u hj => ?_) (fun u hu => ?_)
    (by unfold maxLen; omega) (by have := Nat.mul_le_mul_left (L.length + 1) h8; omega) hbase fun v' w' h1 h2 _ h4 => h v' w' ?_ (hb.grown h2 hbase (fun k hk => (World.ownsRow.lt hown k hk).1)) h2 h4
  · match j, hj with
    | 0, hj => simp at hj; subst hj; exact hy
  · simp at hu; subst hu; rfl
  · unfold OwnN nums
    rw [List.length_append, List.map_append]
    exact h1
/-- make([]T, 0, 0). -/
theorem wpList_make_num {w : World} {ops : Array Oper} {rest : List Oper} {o : Oper} {a : Act} {Q : Exit → Act → World → Prop}
    (hg : o.guard = none) (l c : Operand) (t : TypeId) (hop : o.op = Op.makeSlice t l c) (base : Nat) (e : TypeId) (K : IntKind) (by_ : Nat) (ht : P.underlying t = some (.slice e)) (hinfo : (P.info? e).map (fun i => (i.zero, i.size, i.bytes)) = some (some (.int K 0), 1, by_)) (h8 : by_ ≤ 8)
    (hl : a.eval l = .int .i64 0) (hc : a.eval c = .int .i64 0) (hbase : base ≤ w.heap.size)
    (w0 : World) (hb : Below base w0 w) (hK : ∀ v' w', OwnN w' base e K v' [] → Below base w0 w' → v'.ownBlock = some w.heap.size → w.grownBy w' none → wpList P ops Q rest (a.put o.dst v') w') :
    wpList P ops Q (o :: rest) a w := by
  obtain ⟨i, hi, hz, hz1, hz2⟩ := num_parts hinfo
  refine wpList_plain hg fun K' hK' => ?_
  have hrun := run_make (P := P) w t e i (.int K 0) ht hi hz .i64 .i64 0 0 (by omega) (by omega) (by rw [hz2]; omega) (by omega)
  rw [hz1] at hrun
  simp only [Int.toNat_zero, Nat.mul_one, Nat.zero_mul] at hrun
  unfold Oper.wp
  simp [execOp, hop, hl, hc, hrun, Result.andThen]
  refine hK' _ _ (hK _ _ ⟨rfl, .inr ⟨w.heap.size, 0, _, rfl, hbase, heap_alloc_new _ _, Nat.le_refl _, by unfold maxLen; omega, ?_, ?_⟩⟩ (hb.alloc hbase _) rfl (World.grownBy_alloc w _ none))
  · simp [madeCells]
  · simp [nums]
end
end Go.Proofs.YtjopfhmloklhdaaDoor
namespace Go.Proofs.YtjopfhmloklhdaaDoor.Ref
open Go.ChangeShapes Go.WideShapes Go.ChangeAt Go.RowKit Go.Deep
set_option linter.unusedVariables false
set_option linter.unusedSimpArgs false
/-- Is a number a prime? -/
def primeB (n : Nat) : Bool := decide (1 < n) && (List.range n).all fun j => decide (j < 2) || decide (n < j * j) || !decide (n % j = 0)
theorem primeB_false {n d : Nat} (h2 : 2 ≤ d) (hd : d * d ≤ n) (hm : n % d = 0) : primeB n = false := by
  have hdn : d < n := by
    have : 2 * d ≤ d * d := Nat.mul_le_mul_right d h2
    omega
  unfold primeB
  rw [Bool.and_eq_false_iff]
  right
  rw [List.all_eq_false]
  refine ⟨d, List.mem_range.2 hdn, ?_⟩
  simp [hm]
  omega
theorem primeB_true {n d : Nat} (hn : 1 < n) (hd : n < d * d) (h : ∀ j, 2 ≤ j → j < d → n % j ≠ 0) : primeB n = true := by
  unfold primeB
  rw [Bool.and_eq_true, decide_eq_true_eq]
  refine ⟨hn, ?_⟩
  rw [List.all_eq_true]
  intro j _
  by_cases h1 : j < 2
  · simp [h1]
  · by_cases h2 : n < j * j
    · simp [h2]
    · have hjd : j < d := by
        rcases Nat.lt_or_ge j d with h3 | h3
        · exact h3
        · have : d * d ≤ j * j := Nat.mul_le_mul h3 h3
          omega
      simp [h j (by omega) hjd]
set_option maxRecDepth 100000 in
set_option maxHeartbeats 2000000 in
theorem prime_any (n : Nat) (h1 : 1 < n) (h2 : n ≤ 1000) (w : World) : Calls Tryd.prog 43 #[.int .i64 (n : Int)] w fun e w' => e = .returned (.bool (primeB n)) ∧ w' = w := by
  go_enter Tryd.func43, Tryd.ntmps43
  go_wp2_with fail
  go_loopw [3] (fun vi wr => ∃ k : Nat, vi = .int .i64 k ∧ 2 ≤ k ∧ k ≤ 1000 ∧ wr = w ∧ Hid (∀ j, 2 ≤ j → j < k → n % j ≠ 0)) (fun vi _ => 1001 - (intOf vi).toNat)
  case atStart => exact ⟨2, rfl, by omega, by omega, rfl, Lib.hid (fun j h1 h2 => by omega)⟩
  case round =>
    obtain ⟨k, rfl, hk2, hk, rfl, HK⟩ := hrel
    obtain ⟨q, hq⟩ : ∃ q, k * k = q := ⟨_, rfl⟩
    have hqi : (k : Int) * (k : Int) = (q : Int) := by rw [← hq]; exact (Int.natCast_mul k k).symm
    have hqb : q ≤ 1000000 := by rw [← hq]; exact Nat.mul_le_mul hk hk
    have hkq : 2 * k ≤ q := by rw [← hq]; exact Nat.mul_le_mul_right k hk2
    have HQ := Lib.hid hq
    have hmI : (n : Int) % (k : Int) = ((n % k : Nat) : Int) := by omega
    have hmul : IntKind.i64.wrap (q : Int) = (q : Int) := by rw [IntKind.wrap_i64]; omega
    obtain ⟨r, hr⟩ : ∃ r, n % k = r := ⟨_, rfl⟩
    rw [hr] at hmI
    have HR := Lib.hid hr
    clear hq hr
    rcases Nat.lt_or_ge n q with hlt | hge
    · have hnl : ¬ (q : Int) ≤ (n : Int) := by omega
      have HP := Lib.hid (primeB_true (n := n) (d := k) h1 (by rw [HQ.out]; exact hlt) HK.out)
      have hn1 : (1 : Int) < (n : Int) := by omega
      go_wp2
      go_ret
      rw [HP.out]
      exact ⟨rfl, rfl⟩
    · have hnl : (q : Int) ≤ (n : Int) := by omega
      have hk1 : k + 1 ≤ 1000 := by omega
      rcases Nat.eq_zero_or_pos r with h0 | hp
      · subst h0
        have HP := Lib.hid (primeB_false (n := n) (d := k) hk2 (by rw [HQ.out]; exact hge) HR.out)
        go_wp2
        go_ret
        rw [HP.out]
        exact ⟨rfl, rfl⟩
      · have hne : ((r : Int) == 0) = false := by rw [beq_eq_false_iff_ne]; omega
        go_wp2
        go_roundw
        case rel => exact ⟨k + 1, by go_num, by omega, hk1, trivial, Lib.hid (fun j h1 h2 => by
          rcases Nat.lt_or_ge j k with h3 | h3
          · exact HK.out j h1 h3
          · obtain rfl : j = k := by omega
            rw [HR.out]; omega)⟩
        case measure => simp [intOf]; omega
end Go.Proofs.YtjopfhmloklhdaaDoor.Ref
namespace Go.Proofs.YtjopfhmloklhdaaDoor.Ref
open Go.ChangeShapes Go.WideShapes Go.ChangeAt Go.RowKit Go.Deep
set_option linter.unusedVariables false
set_option linter.unusedSimpArgs false
/-- Digits as cells. -/
def digs (L : List Nat) : List Value := L.map fun (x : Nat) => Value.int .u64 (x : Int)
/-- The eight digits of a number below 2^128. -/
def ofW (v : Nat) : List Nat := [v % 65536, v / 65536 % 65536, v / 4294967296, 0, 0, 0, 0, 0]
theorem low_digit (x : Nat) (hx : x < 18446744073709551616) : bits .and .u64 (x : Int) 65535 = ((x % 65536 : Nat) : Int) := by
  have := u64_and_nat x 65535 hx (by omega)
  rw [show ((65535 : Nat) : Int) = 65535 from rfl] at this
  rw [this, show (65535 : Nat) = 2 ^ 16 - 1 from rfl, Nat.and_two_pow_sub_one_eq_mod]
set_option maxRecDepth 100000 in
set_option maxHeartbeats 2000000 in
theorem of_any (v : Nat) (h : v < 1099511627776) (w : World) : Calls Tryd.prog 45 #[.int .u64 (v : Int)] w fun e w' => e = .returned (.agg (digs (ofW v)).toArray) ∧ Below w.heap.size w w' := by
  go_enter Tryd.func45, Tryd.ntmps45
  go_wp2
  have e1 := low_digit v (by omega)
  have e2 := low_digit (v / 65536) (by omega)
  rw [Int.natCast_ediv] at e2
  rw [e1, show ((v : Int) / 65536) = (v : Int) / ((65536 : Nat) : Int) from rfl, e2]
  exact bodyPost_ret (v := .agg (digs (ofW v)).toArray) (results_cell_row rfl _ _ w.heap.size 86 (digs (ofW v)).toArray (0, 0) _ rfl (heap_alloc_new _ _) Tryd.underlying86 rfl (by kernel_rfl)) rfl ⟨rfl, (Below.refl _ _).alloc (Nat.le_refl _) _⟩
end Go.Proofs.YtjopfhmloklhdaaDoor.Ref
namespace Go.Proofs.YtjopfhmloklhdaaDoor.Ref
open Go.ChangeShapes Go.WideShapes Go.ChangeAt Go.RowKit Go.Deep
set_option linter.unusedVariables false
set_option linter.unusedSimpArgs false
/-- Is A above B, by their first n digits? -/
def aboveW (A B : List Nat) : Nat → Bool
  | 0 => false
  | n + 1 => if A.getD n 0 = B.getD n 0 then aboveW A B n else decide (B.getD n 0 < A.getD n 0)
set_option maxRecDepth 100000 in
set_option maxHeartbeats 4000000 in
theorem above_any (A B : List Nat) (hA : A.length = 8) (hB : B.length = 8) (w : World) : Calls Tryd.prog 46 #[.agg (digs A).toArray, .agg (digs B).toArray] w fun e w' => e = .returned (.bool (aboveW A B 8)) ∧ Below w.heap.size w w' := by
  go_enter Tryd.func46, Tryd.ntmps46
  go_wp2_with fail
  have c1 : ∀ j, j < 8 → ((w.alloc (.cells (digs A).toArray 86)).alloc (.cells (digs B).toArray 86)).cell? ⟨w.heap.size, j, none⟩ = some (.int .u64 ((A.getD j 0 : Nat) : Int)) := fun j hj => by
    have h := heap_alloc_new w (.cells (digs A).toArray 86)
    have h2 := (((Below.refl (w.heap.size + 1) (w.alloc (.cells (digs A).toArray 86))).alloc (by rw [size_alloc1]; exact Nat.le_refl _) (.cells (digs B).toArray 86)).block w.heap.size (by omega)).trans h
    simp only [World.cell?, h2]
    simp [digs, hA, hj, List.getD_eq_getElem?_getD]
  have c2 : ∀ j, j < 8 → ((w.alloc (.cells (digs A).toArray 86)).alloc (.cells (digs B).toArray 86)).cell? ⟨w.heap.size + 1, j, none⟩ = some (.int .u64 ((B.getD j 0 : Nat) : Int)) := fun j hj => by
    have h := heap_alloc_new (w.alloc (.cells (digs A).toArray 86)) (.cells (digs B).toArray 86)
    rw [size_alloc1] at h
    simp only [World.cell?, h]
    simp [digs, hB, hj, List.getD_eq_getElem?_getD]
  have hb := ((Below.refl w.heap.size w).alloc (Nat.le_refl _) (.cells (digs A).toArray 86)).alloc (by have := size_alloc1 w (.cells (digs A).toArray 86); omega) (.cells (digs B).toArray 86)
  have C1 := Lib.hid c1
  have C2 := Lib.hid c2
  have HB := Lib.hid hb
  generalize (w.alloc (.cells (digs A).toArray 86)).alloc (.cells (digs B).toArray 86) = W2 at *
  clear c1 c2 hb
  generalize (digs A).toArray = VA at *
  generalize (digs B).toArray = VB at *
  go_loopw [5] (fun vi wr => ∃ k : Nat, vi = .int .i64 ((k : Int) - 1) ∧ k ≤ 8 ∧ Hid (aboveW A B k = aboveW A B 8) ∧ (∀ j, j < 8 → wr.cell? ⟨w.heap.size, j, none⟩ = some (.int .u64 ((A.getD j 0 : Nat) : Int))) ∧ (∀ j, j < 8 → wr.cell? ⟨w.heap.size + 1, j, none⟩ = some (.int .u64 ((B.getD j 0 : Nat) : Int))) ∧ Below w.heap.size w wr) (fun vi _ => (intOf vi + 1).toNat)
  case atStart => exact ⟨8, rfl, by omega, Lib.hid rfl, C1.out, C2.out, HB.out⟩
  case round =>
    obtain ⟨k, rfl, hk, HK, d1, d2, hb⟩ := hrel
    have D1 := Lib.hid d1
    have D2 := Lib.hid d2
    have HB3 := Lib.hid hb
    clear d1 d2 hb C1 C2 HB
    cases k with
    | zero =>
      have hz : (0 : Int) ≤ ((0 : Nat) : Int) - 1 ↔ False := ⟨fun h => by omega, False.elim⟩
      go_wp2
      go_ret
      exact ⟨by rw [← HK.out]; rfl, HB3.out⟩
    | succ k =>
      rw [show (((k + 1 : Nat) : Int) - 1) = (k : Int) by omega]
      have h0 := D1.out k (by omega)
      have h1 := D2.out k (by omega)
      have hU : aboveW A B (k + 1) = if A.getD k 0 = B.getD k 0 then aboveW A B k else decide (B.getD k 0 < A.getD k 0) := rfl
      rw [hU] at HK
      clear hU
      generalize A.getD k 0 = x at *
      generalize B.getD k 0 = y at *
      have hk8 : 0 ≤ (k : Int) ∧ (k : Int) < 8 := by omega
      have tk : ((k : Int)).toNat = k := by omega
      have hne : ((x : Int) == (y : Int)) = (x == y) := by rw [Bool.eq_iff_iff, beq_iff_eq, beq_iff_eq]; exact Int.natCast_inj
      go_upto_region 4 with fail
      refine wp_region_held_drew (S := fun w' => w'.cell? ⟨w.heap.size, k, none⟩ = some (.int .u64 (x : Int)) ∧ w'.cell? ⟨w.heap.size + 1, k, none⟩ = some (.int .u64 (y : Int))) (by kernel_rfl) ⟨h0, h1⟩ (fun hHeld => ?_)
      refine wpAnyH_take (i := 0) (oi := _) (v := ?_) rfl (by kernel_rfl) (by kernel_rfl) (by kernel_rfl) (fun _ _ _ h => h) (Or.inl ⟨by rfl, ?hy1⟩) (by assumption) ?_
      case hy1 =>
        intro w9 hSw
        try dsimp only at hSw
        try simp only [List.getElem_toArray, List.getElem_cons_zero, List.getElem_cons_succ]
        go_simp
        try with_reducible rfl
      try simp only [Act.put, List.setIfInBounds_toArray, List.set_cons_zero, List.set_cons_succ, List.getElem_toArray, List.getElem_cons_zero, List.getElem_cons_succ]
      refine wpAnyH_take (i := 1) (oi := _) (v := ?_) rfl (by kernel_rfl) (by kernel_rfl) (by kernel_rfl) (fun _ _ _ h => h) (Or.inl ⟨by rfl, ?hy2⟩) (by assumption) ?_
      case hy2 =>
        intro w9 hSw
        try dsimp only at hSw
        try simp only [List.getElem_toArray, List.getElem_cons_zero, List.getElem_cons_succ]
        go_simp
        try with_reducible rfl
      try simp only [Act.put, List.setIfInBounds_toArray, List.set_cons_zero, List.set_cons_succ, List.getElem_toArray, List.getElem_cons_zero, List.getElem_cons_succ]
      refine wpAnyH_take (i := 2) (oi := _) (v := ?_) rfl (by kernel_rfl) (by kernel_rfl) (by kernel_rfl) (fun _ _ _ h => h) (Or.inl ⟨by rfl, ?hy3⟩) (by assumption) ?_
      case hy3 =>
        intro w9 hSw
        try dsimp only at hSw
        try simp only [List.getElem_toArray, List.getElem_cons_zero, List.getElem_cons_succ]
        go_simp
        try with_reducible rfl
      try simp only [Act.put, List.setIfInBounds_toArray, List.set_cons_zero, List.set_cons_succ, List.getElem_toArray, List.getElem_cons_zero, List.getElem_cons_succ]
      refine wpAnyH_take (i := 3) (oi := _) (v := ?_) rfl (by kernel_rfl) (by kernel_rfl) (by kernel_rfl) (fun _ _ _ h => h) (Or.inl ⟨by rfl, ?hy4⟩) (by assumption) ?_
      case hy4 =>
        intro w9 hSw
        try dsimp only at hSw
        try simp only [List.getElem_toArray, List.getElem_cons_zero, List.getElem_cons_succ]
        go_simp
        try with_reducible rfl
      try simp only [Act.put, List.setIfInBounds_toArray, List.set_cons_zero, List.set_cons_succ, List.getElem_toArray, List.getElem_cons_zero, List.getElem_cons_succ]
      refine wpAnyH_take (i := 4) (oi := _) (v := ?_) rfl (by kernel_rfl) (by kernel_rfl) (by kernel_rfl) (fun _ _ _ h => h) (Or.inl ⟨by rfl, ?hy5⟩) (by assumption) ?_
      case hy5 =>
        intro w9 hSw
        try dsimp only at hSw
        try simp only [List.getElem_toArray, List.getElem_cons_zero, List.getElem_cons_succ]
        go_simp
        try with_reducible rfl
      try simp only [Act.put, List.setIfInBounds_toArray, List.set_cons_zero, List.set_cons_succ, List.getElem_toArray, List.getElem_cons_zero, List.getElem_cons_succ]
      refine wpAnyH_take (i := 5) (oi := _) (v := ?_) rfl (by kernel_rfl) (by kernel_rfl) (by kernel_rfl) (fun _ _ _ h => h) (Or.inl ⟨by rfl, ?hy6⟩) (by assumption) ?_
      case hy6 =>
        intro w9 hSw
        try dsimp only at hSw
        try simp only [List.getElem_toArray, List.getElem_cons_zero, List.getElem_cons_succ]
        go_simp
        try with_reducible rfl
      try simp only [Act.put, List.setIfInBounds_toArray, List.set_cons_zero, List.set_cons_succ, List.getElem_toArray, List.getElem_cons_zero, List.getElem_cons_succ]
      refine wpAnyH_take (i := 6) (oi := _) (v := ?_) rfl (by kernel_rfl) (by kernel_rfl) (by kernel_rfl) (fun _ _ _ h => h) (Or.inl ⟨by rfl, ?hy7⟩) (by assumption) ?_
      case hy7 =>
        intro w9 hSw
        try dsimp only at hSw
        try simp only [List.getElem_toArray, List.getElem_cons_zero, List.getElem_cons_succ]
        go_simp
        try with_reducible rfl
      try simp only [Act.put, List.setIfInBounds_toArray, List.set_cons_zero, List.set_cons_succ, List.getElem_toArray, List.getElem_cons_zero, List.getElem_cons_succ]
      refine wpAnyH_done (by kernel_rfl) ?_ _
      by_cases hxy : x = y
      · have hc : ((x : Int) != (y : Int)) = false := by rw [bne, hne, hxy]; simp
        have HE := Lib.hid (show aboveW A B k = aboveW A B 8 by rw [← HK.out, if_pos hxy])
        go_wp2
        go_roundw
        case rel => exact ⟨k, rfl, by omega, HE, fun j hj => D1.out j hj, fun j hj => D2.out j hj, HB3.out.drew⟩
        case measure => simp [intOf] <;> omega
      · have hc : ((x : Int) != (y : Int)) = true := by rw [bne, hne]; simp [hxy]
        have HE := Lib.hid (show decide (y < x) = aboveW A B 8 by rw [← HK.out, if_neg hxy])
        have hd : decide ((x : Int) > (y : Int)) = decide (y < x) := by rw [Bool.eq_iff_iff, decide_eq_true_eq, decide_eq_true_eq]; omega
        clear hHeld
        go_upto_region 5 with fail
        refine AnyL.begin (S := fun w' => w'.cell? ⟨w.heap.size, k, none⟩ = some (.int .u64 (x : Int)) ∧ w'.cell? ⟨w.heap.size + 1, k, none⟩ = some (.int .u64 (y : Int))) 7 (by kernel_rfl) ⟨h0, h1⟩ (fun hHeld => ?_)
        refine AnyL.take (i := 0) (oi := _) (v := ?_) 30 rfl (by kernel_rfl) (by kernel_rfl) (by kernel_rfl) (by kernel_rfl) (by kernel_rfl) (fun _ _ _ h => h) (Or.inl ⟨by rfl, ?hy8⟩) (by assumption) ?_
        case hy8 =>
          intro w9 hSw
          try dsimp only at hSw
          try simp only [List.getElem_toArray, List.getElem_cons_zero, List.getElem_cons_succ]
          go_simp
          try with_reducible rfl
        try simp only [Act.put, List.setIfInBounds_toArray, List.set_cons_zero, List.set_cons_succ, List.getElem_toArray, List.getElem_cons_zero, List.getElem_cons_succ]
        refine AnyL.take (i := 1) (oi := _) (v := ?_) 30 rfl (by kernel_rfl) (by kernel_rfl) (by kernel_rfl) (by kernel_rfl) (by kernel_rfl) (fun _ _ _ h => h) (Or.inl ⟨by rfl, ?hy9⟩) (by assumption) ?_
        case hy9 =>
          intro w9 hSw
          try dsimp only at hSw
          try simp only [List.getElem_toArray, List.getElem_cons_zero, List.getElem_cons_succ]
          go_simp
          try with_reducible rfl
        try simp only [Act.put, List.setIfInBounds_toArray, List.set_cons_zero, List.set_cons_succ, List.getElem_toArray, List.getElem_cons_zero, List.getElem_cons_succ]
        refine AnyL.take (i := 2) (oi := _) (v := ?_) 30 rfl (by kernel_rfl) (by kernel_rfl) (by kernel_rfl) (by kernel_rfl) (by kernel_rfl) (fun _ _ _ h => h) (Or.inl ⟨by rfl, ?hy10⟩) (by assumption) ?_
        case hy10 =>
          intro w9 hSw
          try dsimp only at hSw
          try simp only [List.getElem_toArray, List.getElem_cons_zero, List.getElem_cons_succ]
          go_simp
          try with_reducible rfl
        try simp only [Act.put, List.setIfInBounds_toArray, List.set_cons_zero, List.set_cons_succ, List.getElem_toArray, List.getElem_cons_zero, List.getElem_cons_succ]
        refine AnyL.take (i := 3) (oi := _) (v := ?_) 30 rfl (by kernel_rfl) (by kernel_rfl) (by kernel_rfl) (by kernel_rfl) (by kernel_rfl) (fun _ _ _ h => h) (Or.inl ⟨by rfl, ?hy11⟩) (by assumption) ?_
        case hy11 =>
          intro w9 hSw
          try dsimp only at hSw
          try simp only [List.getElem_toArray, List.getElem_cons_zero, List.getElem_cons_succ]
          go_simp
          try with_reducible rfl
        try simp only [Act.put, List.setIfInBounds_toArray, List.set_cons_zero, List.set_cons_succ, List.getElem_toArray, List.getElem_cons_zero, List.getElem_cons_succ]
        refine AnyL.take (i := 4) (oi := _) (v := ?_) 30 rfl (by kernel_rfl) (by kernel_rfl) (by kernel_rfl) (by kernel_rfl) (by kernel_rfl) (fun _ _ _ h => h) (Or.inl ⟨by rfl, ?hy12⟩) (by assumption) ?_
        case hy12 =>
          intro w9 hSw
          try dsimp only at hSw
          try simp only [List.getElem_toArray, List.getElem_cons_zero, List.getElem_cons_succ]
          go_simp
          try with_reducible rfl
        try simp only [Act.put, List.setIfInBounds_toArray, List.set_cons_zero, List.set_cons_succ, List.getElem_toArray, List.getElem_cons_zero, List.getElem_cons_succ]
        refine AnyL.take (i := 5) (oi := _) (v := ?_) 30 rfl (by kernel_rfl) (by kernel_rfl) (by kernel_rfl) (by kernel_rfl) (by kernel_rfl) (fun _ _ _ h => h) (Or.inl ⟨by rfl, ?hy13⟩) (by assumption) ?_
        case hy13 =>
          intro w9 hSw
          try dsimp only at hSw
          try simp only [List.getElem_toArray, List.getElem_cons_zero, List.getElem_cons_succ]
          go_simp
          try with_reducible rfl
        try simp only [Act.put, List.setIfInBounds_toArray, List.set_cons_zero, List.set_cons_succ, List.getElem_toArray, List.getElem_cons_zero, List.getElem_cons_succ]
        refine AnyL.take (i := 6) (oi := _) (v := ?_) 30 rfl (by kernel_rfl) (by kernel_rfl) (by kernel_rfl) (by kernel_rfl) (by kernel_rfl) (fun _ _ _ h => h) (Or.inl ⟨by rfl, ?hy14⟩) (by assumption) ?_
        case hy14 =>
          intro w9 hSw
          try dsimp only at hSw
          try simp only [List.getElem_toArray, List.getElem_cons_zero, List.getElem_cons_succ]
          go_simp
          try with_reducible rfl
        try simp only [Act.put, List.setIfInBounds_toArray, List.set_cons_zero, List.set_cons_succ, List.getElem_toArray, List.getElem_cons_zero, List.getElem_cons_succ]
        refine AnyL.one (i := 7) (o := _) (by kernel_rfl) rfl (fun K hK => ?_)
        try simp only [List.getElem_toArray, List.getElem_cons_zero, List.getElem_cons_succ]
        go_simp
        refine hK.out _ _ (fun h => absurd rfl h) (fun _ => ?_)
        clear hK K
        try simp only [Act.put, List.setIfInBounds_toArray, List.set_cons_zero, List.set_cons_succ, List.getElem_toArray, List.getElem_cons_zero, List.getElem_cons_succ]
        refine AnyL.done (by kernel_rfl) ?_ _
        go_wp2
        go_ret
        rw [← HE.out]
        exact ⟨rfl, HB3.out.drew.drew⟩
end Go.Proofs.YtjopfhmloklhdaaDoor.Ref
namespace Go.Proofs.YtjopfhmloklhdaaDoor.Ref
open Go.ChangeShapes Go.WideShapes Go.ChangeAt Go.RowKit Go.Deep
set_option linter.unusedVariables false
set_option linter.unusedSimpArgs false
/-- One digit a times the first digits of B, added to C from place i on: what is carried, and the digits. -/
def innerW (a : Nat) (B : List Nat) (i : Nat) (C : List Nat) : Nat → Nat × List Nat
  | 0 => (0, C)
  | j + 1 => (((innerW a B i C j).1 + (innerW a B i C j).2.getD (i + j) 0 + a * B.getD j 0) / 65536, (innerW a B i C j).2.set (i + j) (((innerW a B i C j).1 + (innerW a B i C j).2.getD (i + j) 0 + a * B.getD j 0) % 65536))
/-- The first digits of A times B, cut behind the eighth. -/
def outerW (A B : List Nat) : Nat → List Nat
  | 0 => [0, 0, 0, 0, 0, 0, 0, 0]
  | i + 1 => (innerW (A.getD i 0) B i (outerW A B i) (8 - i)).2
def timesW (A B : List Nat) : List Nat := outerW A B 8
theorem innerW_len (a : Nat) (B : List Nat) (i : Nat) (C : List Nat) (n : Nat) : (innerW a B i C n).2.length = C.length := by
  induction n with
  | zero => rfl
  | succ n ih => rw [innerW, List.length_set]; exact ih
theorem outerW_len (A B : List Nat) (n : Nat) : (outerW A B n).length = 8 := by
  induction n with
  | zero => rfl
  | succ n ih => rw [outerW, innerW_len]; exact ih
/-- All digits of a list are digits. -/
def Digs (L : List Nat) : Prop := ∀ j, L.getD j 0 < 65536
theorem Digs.set {L : List Nat} (h : Digs L) (i x : Nat) (hx : x < 65536) : Digs (L.set i x) := fun j => by
  have := h j
  rw [List.getD_eq_getElem?_getD] at this ⊢
  rw [List.getElem?_set]
  split
  · split
    · exact hx
    · simp
  · exact this
theorem innerW_digs (a : Nat) (B : List Nat) (i : Nat) (C : List Nat) (ha : a < 65536) (hB : Digs B) (hC : Digs C) (n : Nat) : (innerW a B i C n).1 < 65536 ∧ Digs (innerW a B i C n).2 := by
  induction n with
  | zero => exact ⟨by show 0 < 65536; omega, hC⟩
  | succ n ih =>
    have h1 := ih.1
    have h2 := ih.2 (i + n)
    have h3 := hB n
    have h4 : a * B.getD n 0 ≤ 65535 * 65535 := Nat.mul_le_mul (by omega) (by omega)
    refine ⟨?_, ?_⟩
    · rw [innerW]; dsimp only; omega
    · rw [innerW]; exact ih.2.set _ _ (Nat.mod_lt _ (by omega))
theorem outerW_digs (A B : List Nat) (hA : Digs A) (hB : Digs B) (n : Nat) : Digs (outerW A B n) := by
  induction n with
  | zero =>
    intro j
    rw [outerW]
    match j with
    | 0 | 1 | 2 | 3 | 4 | 5 | 6 | 7 => decide
    | j + 8 => simp
  | succ n ih => rw [outerW]; exact (innerW_digs _ _ _ _ (hA n) hB ih _).2
end Go.Proofs.YtjopfhmloklhdaaDoor.Ref
namespace Go.Proofs.YtjopfhmloklhdaaDoor.Ref
open Go.ChangeShapes Go.WideShapes Go.ChangeAt Go.RowKit Go.Deep
set_option linter.unusedVariables false
set_option linter.unusedSimpArgs false
/-- Block g holds the eight digits L. -/
def Wd (w : World) (g : Nat) (L : List Nat) : Prop := L.length = 8 ∧ w.heap[g]? = some (.cells (digs L).toArray 86 (0, 0))
theorem Wd.cell {w : World} {g : Nat} {L : List Nat} (h : Wd w g L) (j : Nat) (hj : j < 8) : w.cell? ⟨g, j, none⟩ = some (.int .u64 ((L.getD j 0 : Nat) : Int)) := by
  have hL := h.1
  simp only [World.cell?, h.2]
  simp [digs, hL, hj, List.getD_eq_getElem?_getD]
theorem Wd.free {w : World} {g : Nat} {L : List Nat} (h : Wd w g L) (j : Nat) : w.frozen? ⟨g, j, none⟩ = false := by
  simp [World.frozen?, h.2]
theorem Wd.set {w : World} {g : Nat} {L : List Nat} (h : Wd w g L) (j x : Nat) : Wd (w.setCell ⟨g, j, none⟩ (.int .u64 (x : Int))) g (L.set j x) := by
  refine ⟨by rw [List.length_set]; exact h.1, ?_⟩
  rw [heap_setCell_same _ _ _ _ _ _ h.2]
  simp [digs, List.map_set]
theorem Wd.below {w w' : World} {g : Nat} {L : List Nat} (h : Wd w g L) (hb : Below w.heap.size w w') : Wd w' g L := ⟨h.1, (hb.block g (lt_of_block h.2)).trans h.2⟩
theorem Wd.same {w w' : World} {g : Nat} {L : List Nat} (h : Wd w g L) (he : w'.heap[g]? = w.heap[g]?) : Wd w' g L := ⟨h.1, he.trans h.2⟩
theorem wd_new (w : World) (L : List Nat) (hL : L.length = 8) : Wd (w.alloc (.cells (digs L).toArray 86)) w.heap.size L := ⟨hL, heap_alloc_new _ _⟩
theorem Wd.alloc {w : World} {g : Nat} {L : List Nat} (h : Wd w g L) (o : Obj) : Wd (w.alloc o) g L := h.below ((Below.refl _ _).alloc (Nat.le_refl _) o)
set_option maxRecDepth 100000 in
set_option maxHeartbeats 4000000 in
theorem times_any (A B : List Nat) (hA : A.length = 8) (hB : B.length = 8) (dA : Digs A) (dB : Digs B) (w : World) : Calls Tryd.prog 44 #[.agg (digs A).toArray, .agg (digs B).toArray] w fun e w' => e = .returned (.agg (digs (timesW A B)).toArray) ∧ Below w.heap.size w w' := by
  have DA := Lib.hid dA
  have DB := Lib.hid dB
  clear dA dB
  go_enter Tryd.func44, Tryd.ntmps44
  go_wp2_with fail
  rw [show (#[.int .u64 0, .int .u64 0, .int .u64 0, .int .u64 0, .int .u64 0, .int .u64 0, .int .u64 0, .int .u64 0] : Array Value) = (digs [0, 0, 0, 0, 0, 0, 0, 0]).toArray from rfl]
  have a1 := (((wd_new w A hA).alloc (.cells (digs B).toArray 86)).alloc (.cells (digs [0, 0, 0, 0, 0, 0, 0, 0]).toArray 86)).alloc (.cells (digs [0, 0, 0, 0, 0, 0, 0, 0]).toArray 86)
  have a2 := ((wd_new (w.alloc (.cells (digs A).toArray 86)) B hB).alloc (.cells (digs [0, 0, 0, 0, 0, 0, 0, 0]).toArray 86)).alloc (.cells (digs [0, 0, 0, 0, 0, 0, 0, 0]).toArray 86)
  have a3 := (wd_new ((w.alloc (.cells (digs A).toArray 86)).alloc (.cells (digs B).toArray 86)) [0, 0, 0, 0, 0, 0, 0, 0] rfl).alloc (.cells (digs [0, 0, 0, 0, 0, 0, 0, 0]).toArray 86)
  have a4 := wd_new (((w.alloc (.cells (digs A).toArray 86)).alloc (.cells (digs B).toArray 86)).alloc (.cells (digs [0, 0, 0, 0, 0, 0, 0, 0]).toArray 86)) [0, 0, 0, 0, 0, 0, 0, 0] rfl
  have hb := ((((Below.refl w.heap.size w).alloc (Nat.le_refl _) (.cells (digs A).toArray 86)).alloc (by simp only [size_alloc1]; omega) (.cells (digs B).toArray 86)).alloc (by simp only [size_alloc1]; omega) (.cells (digs [0, 0, 0, 0, 0, 0, 0, 0]).toArray 86)).alloc (by simp only [size_alloc1]; omega) (.cells (digs [0, 0, 0, 0, 0, 0, 0, 0]).toArray 86)
  simp only [size_alloc1] at a2 a3 a4
  have A1 := Lib.hid a1
  have A2 := Lib.hid a2
  have A3 := Lib.hid a3
  have A4 := Lib.hid a4
  have HB := Lib.hid hb
  clear a1 a2 a3 a4 hb
  generalize (((w.alloc (.cells (digs A).toArray 86)).alloc (.cells (digs B).toArray 86)).alloc (.cells (digs [0, 0, 0, 0, 0, 0, 0, 0]).toArray 86)).alloc (.cells (digs [0, 0, 0, 0, 0, 0, 0, 0]).toArray 86) = W4 at *
  generalize (digs A).toArray = VA at *
  generalize (digs B).toArray = VB at *
  go_loopw [6] (fun vi wr => ∃ i : Nat, vi = .int .i64 i ∧ i ≤ 8 ∧ Wd wr w.heap.size A ∧ Wd wr (w.heap.size + 1) B ∧ Wd wr (w.heap.size + 1 + 1) [0, 0, 0, 0, 0, 0, 0, 0] ∧ Wd wr (w.heap.size + 1 + 1 + 1) (outerW A B i) ∧ Below w.heap.size w wr) (fun vi _ => 8 - (intOf vi).toNat)
  case atStart => exact ⟨0, rfl, by omega, A1.out, A2.out, A3.out, A4.out, HB.out⟩
  case round =>
    obtain ⟨i, rfl, hi, b1, b2, b3, b4, hb⟩ := hrel
    have B1 := Lib.hid b1
    have B2 := Lib.hid b2
    have B3 := Lib.hid b3
    have B4 := Lib.hid b4
    have HB3 := Lib.hid hb
    clear b1 b2 b3 b4 hb A1 A2 A3 A4 HB
    rcases Nat.lt_or_ge i 8 with hlt | hge
    · have hlt' : (i : Int) < 8 := by omega
      go_wp2_with fail
      go_loopw [7, 8] (fun vk vj wr => ∃ j : Nat, vj = .int .i64 j ∧ i + j ≤ 8 ∧ vk = .int .u64 ((innerW (A.getD i 0) B i (outerW A B i) j).1 : Nat) ∧ Wd wr w.heap.size A ∧ Wd wr (w.heap.size + 1) B ∧ Wd wr (w.heap.size + 1 + 1) [0, 0, 0, 0, 0, 0, 0, 0] ∧ Wd wr (w.heap.size + 1 + 1 + 1) (innerW (A.getD i 0) B i (outerW A B i) j).2 ∧ Below w.heap.size w wr) (fun vk vj _ => 8 - (intOf vj).toNat)
      case atStart => exact ⟨0, rfl, by omega, rfl, B1.out, B2.out, B3.out, B4.out, HB3.out⟩
      case round =>
        obtain ⟨j, rfl, hj, rfl, b1, b2, b3, b4, hb⟩ := hrel
        have C1 := Lib.hid b1
        have C2 := Lib.hid b2
        have C3 := Lib.hid b3
        have C4 := Lib.hid b4
        have HB4 := Lib.hid hb
        clear b1 b2 b3 b4 hb B1 B2 B3 B4 HB3
        have mij : IntKind.i64.wrap ((i : Int) + (j : Int)) = (i : Int) + (j : Int) := by rw [IntKind.wrap_i64]; omega
        rcases Nat.lt_or_ge (i + j) 8 with hl2 | hg2
        · have hl2' : (i : Int) + (j : Int) < 8 := by omega
          have hin := innerW_digs (A.getD i 0) B i (outerW A B i) (DA.out i) DB.out (outerW_digs A B DA.out DB.out i) j
          have hS : innerW (A.getD i 0) B i (outerW A B i) (j + 1) = (((innerW (A.getD i 0) B i (outerW A B i) j).1 + (innerW (A.getD i 0) B i (outerW A B i) j).2.getD (i + j) 0 + A.getD i 0 * B.getD j 0) / 65536, (innerW (A.getD i 0) B i (outerW A B i) j).2.set (i + j) (((innerW (A.getD i 0) B i (outerW A B i) j).1 + (innerW (A.getD i 0) B i (outerW A B i) j).2.getD (i + j) 0 + A.getD i 0 * B.getD j 0) % 65536)) := rfl
          have hk0 := hin.1
          have hc0 := hin.2 (i + j)
          have ha0 := DA.out i
          have hb0 := DB.out j
          have f1 := C1.out.cell i hlt
          have f2 := C2.out.cell j (by omega)
          have f4 := C4.out.cell (i + j) hl2
          have g4 := C4.out.free (i + j)
          have HS1 := Lib.hid (congrArg Prod.fst hS)
          have HS2 := Lib.hid (congrArg Prod.snd hS)
          dsimp only at HS1 HS2
          have C5 := Lib.hid (C4.out.set (i + j) (((innerW (A.getD i 0) B i (outerW A B i) j).1 + (innerW (A.getD i 0) B i (outerW A B i) j).2.getD (i + j) 0 + A.getD i 0 * B.getD j 0) % 65536))
          clear hin hS C4
          have hp : A.getD i 0 * B.getD j 0 ≤ 65535 * 65535 := Nat.mul_le_mul (by omega) (by omega)
          have hpi : ((A.getD i 0 : Nat) : Int) * ((B.getD j 0 : Nat) : Int) = ((A.getD i 0 * B.getD j 0 : Nat) : Int) := (Int.natCast_mul _ _).symm
          generalize A.getD i 0 * B.getD j 0 = p at *
          generalize (innerW (A.getD i 0) B i (outerW A B i) j).2.getD (i + j) 0 = c at *
          generalize hk1 : (innerW (A.getD i 0) B i (outerW A B i) j).1 = k0 at *
          have mp : IntKind.u64.wrap ((p : Nat) : Int) = (p : Int) := by rw [IntKind.wrap_u64]; omega
          have m1 : IntKind.u64.wrap ((k0 : Int) + (c : Int)) = (k0 : Int) + (c : Int) := by rw [IntKind.wrap_u64]; omega
          obtain ⟨sm, hsm⟩ : ∃ sm, k0 + c + p = sm := ⟨_, rfl⟩
          rw [hsm] at HS1 HS2 C5
          have m2 : IntKind.u64.wrap ((k0 : Int) + (c : Int) + (p : Int)) = (sm : Int) := by rw [IntKind.wrap_u64]; omega
          have ml := low_digit sm (by omega)
          have mh : (sm : Int) / 65536 = ((sm / 65536 : Nat) : Int) := by omega
          generalize sm % 65536 = lo at *
          generalize sm / 65536 = up at *
          have HUP := Lib.hid mh
          clear mh
          obtain ⟨av, hav⟩ : ∃ av, A.getD i 0 = av := ⟨_, rfl⟩
          obtain ⟨bv, hbv⟩ : ∃ bv, B.getD j 0 = bv := ⟨_, rfl⟩
          rw [hav] at f1
          rw [hbv] at f2
          rw [hav, hbv] at hpi
          clear hav hbv
          have q0 : 0 ≤ (i : Int) + (j : Int) ∧ (i : Int) + (j : Int) < 8 := by omega
          have q1 : 0 ≤ (i : Int) ∧ (i : Int) < 8 := by omega
          have q2 : 0 ≤ (j : Int) ∧ (j : Int) < 8 := by omega
          have q3 : 0 ≤ (i : Int) + (j : Int) := q0.1
          have t0 : ((i : Int) + (j : Int)).toNat = i + j := by omega
          have t1 : ((i : Int)).toNat = i := by omega
          have t2 : ((j : Int)).toNat = j := by omega
          go_upto_region 9 with fail
          refine AnyL.begin (S := fun w' => w'.cell? ⟨w.heap.size, i, none⟩ = some (.int .u64 (av : Int)) ∧ w'.cell? ⟨w.heap.size + 1, j, none⟩ = some (.int .u64 (bv : Int)) ∧ w'.cell? ⟨w.heap.size + 1 + 1 + 1, i + j, none⟩ = some (.int .u64 (c : Int))) 15 (by kernel_rfl) ⟨f1, f2, f4⟩ (fun hHeld => ?_)
          refine AnyL.take (i := 0) (oi := _) (v := ?_) 30 rfl (by kernel_rfl) (by kernel_rfl) (by kernel_rfl) (by kernel_rfl) (by kernel_rfl) (fun _ _ _ h => h) (Or.inl ⟨by rfl, ?hy1⟩) (by assumption) ?_
          case hy1 =>
            intro w9 hSw
            try dsimp only at hSw
            try simp only [List.getElem_toArray, List.getElem_cons_zero, List.getElem_cons_succ]
            go_simp
            try with_reducible rfl
          try simp only [Act.put, List.setIfInBounds_toArray, List.set_cons_zero, List.set_cons_succ, List.getElem_toArray, List.getElem_cons_zero, List.getElem_cons_succ]
          refine AnyL.take (i := 1) (oi := _) (v := ?_) 30 rfl (by kernel_rfl) (by kernel_rfl) (by kernel_rfl) (by kernel_rfl) (by kernel_rfl) (fun _ _ _ h => h) (Or.inl ⟨by rfl, ?hy2⟩) (by assumption) ?_
          case hy2 =>
            intro w9 hSw
            try dsimp only at hSw
            try simp only [List.getElem_toArray, List.getElem_cons_zero, List.getElem_cons_succ]
            go_simp
            try with_reducible rfl
          try simp only [Act.put, List.setIfInBounds_toArray, List.set_cons_zero, List.set_cons_succ, List.getElem_toArray, List.getElem_cons_zero, List.getElem_cons_succ]
          refine AnyL.take (i := 2) (oi := _) (v := ?_) 30 rfl (by kernel_rfl) (by kernel_rfl) (by kernel_rfl) (by kernel_rfl) (by kernel_rfl) (fun _ _ _ h => h) (Or.inl ⟨by rfl, ?hy3⟩) (by assumption) ?_
          case hy3 =>
            intro w9 hSw
            try dsimp only at hSw
            try simp only [List.getElem_toArray, List.getElem_cons_zero, List.getElem_cons_succ]
            go_simp
            try with_reducible rfl
          try simp only [Act.put, List.setIfInBounds_toArray, List.set_cons_zero, List.set_cons_succ, List.getElem_toArray, List.getElem_cons_zero, List.getElem_cons_succ]
          refine AnyL.take (i := 3) (oi := _) (v := ?_) 30 rfl (by kernel_rfl) (by kernel_rfl) (by kernel_rfl) (by kernel_rfl) (by kernel_rfl) (fun _ _ _ h => h) (Or.inl ⟨by rfl, ?hy4⟩) (by assumption) ?_
          case hy4 =>
            intro w9 hSw
            try dsimp only at hSw
            try simp only [List.getElem_toArray, List.getElem_cons_zero, List.getElem_cons_succ]
            go_simp
            try with_reducible rfl
          try simp only [Act.put, List.setIfInBounds_toArray, List.set_cons_zero, List.set_cons_succ, List.getElem_toArray, List.getElem_cons_zero, List.getElem_cons_succ]
          refine AnyL.take (i := 4) (oi := _) (v := ?_) 30 rfl (by kernel_rfl) (by kernel_rfl) (by kernel_rfl) (by kernel_rfl) (by kernel_rfl) (fun _ _ _ h => h) (Or.inl ⟨by rfl, ?hy5⟩) (by assumption) ?_
          case hy5 =>
            intro w9 hSw
            try dsimp only at hSw
            try simp only [List.getElem_toArray, List.getElem_cons_zero, List.getElem_cons_succ]
            go_simp
            try with_reducible rfl
          try simp only [Act.put, List.setIfInBounds_toArray, List.set_cons_zero, List.set_cons_succ, List.getElem_toArray, List.getElem_cons_zero, List.getElem_cons_succ]
          refine AnyL.take (i := 5) (oi := _) (v := ?_) 30 rfl (by kernel_rfl) (by kernel_rfl) (by kernel_rfl) (by kernel_rfl) (by kernel_rfl) (fun _ _ _ h => h) (Or.inl ⟨by rfl, ?hy6⟩) (by assumption) ?_
          case hy6 =>
            intro w9 hSw
            try dsimp only at hSw
            try simp only [List.getElem_toArray, List.getElem_cons_zero, List.getElem_cons_succ]
            go_simp
            try with_reducible rfl
          try simp only [Act.put, List.setIfInBounds_toArray, List.set_cons_zero, List.set_cons_succ, List.getElem_toArray, List.getElem_cons_zero, List.getElem_cons_succ]
          refine AnyL.take (i := 6) (oi := _) (v := ?_) 30 rfl (by kernel_rfl) (by kernel_rfl) (by kernel_rfl) (by kernel_rfl) (by kernel_rfl) (fun _ _ _ h => h) (Or.inl ⟨by rfl, ?hy7⟩) (by assumption) ?_
          case hy7 =>
            intro w9 hSw
            try dsimp only at hSw
            try simp only [List.getElem_toArray, List.getElem_cons_zero, List.getElem_cons_succ]
            go_simp
            try with_reducible rfl
          try simp only [Act.put, List.setIfInBounds_toArray, List.set_cons_zero, List.set_cons_succ, List.getElem_toArray, List.getElem_cons_zero, List.getElem_cons_succ]
          refine AnyL.take (i := 7) (oi := _) (v := ?_) 30 rfl (by kernel_rfl) (by kernel_rfl) (by kernel_rfl) (by kernel_rfl) (by kernel_rfl) (fun _ _ _ h => h) (Or.inl ⟨by rfl, ?hy8⟩) (by assumption) ?_
          case hy8 =>
            intro w9 hSw
            try dsimp only at hSw
            try simp only [List.getElem_toArray, List.getElem_cons_zero, List.getElem_cons_succ]
            go_simp
            try with_reducible rfl
          try simp only [Act.put, List.setIfInBounds_toArray, List.set_cons_zero, List.set_cons_succ, List.getElem_toArray, List.getElem_cons_zero, List.getElem_cons_succ]
          refine AnyL.take (i := 8) (oi := _) (v := ?_) 30 rfl (by kernel_rfl) (by kernel_rfl) (by kernel_rfl) (by kernel_rfl) (by kernel_rfl) (fun _ _ _ h => h) (Or.inl ⟨by rfl, ?hy9⟩) (by assumption) ?_
          case hy9 =>
            intro w9 hSw
            try dsimp only at hSw
            try simp only [List.getElem_toArray, List.getElem_cons_zero, List.getElem_cons_succ]
            go_simp
            try with_reducible rfl
          try simp only [Act.put, List.setIfInBounds_toArray, List.set_cons_zero, List.set_cons_succ, List.getElem_toArray, List.getElem_cons_zero, List.getElem_cons_succ]
          refine AnyL.take (i := 9) (oi := _) (v := ?_) 30 rfl (by kernel_rfl) (by kernel_rfl) (by kernel_rfl) (by kernel_rfl) (by kernel_rfl) (fun _ _ _ h => h) (Or.inl ⟨by rfl, ?hy10⟩) (by assumption) ?_
          case hy10 =>
            intro w9 hSw
            try dsimp only at hSw
            try simp only [List.getElem_toArray, List.getElem_cons_zero, List.getElem_cons_succ]
            go_simp
            try with_reducible rfl
          try simp only [Act.put, List.setIfInBounds_toArray, List.set_cons_zero, List.set_cons_succ, List.getElem_toArray, List.getElem_cons_zero, List.getElem_cons_succ]
          refine AnyL.take (i := 10) (oi := _) (v := ?_) 30 rfl (by kernel_rfl) (by kernel_rfl) (by kernel_rfl) (by kernel_rfl) (by kernel_rfl) (fun _ _ _ h => h) (Or.inl ⟨by rfl, ?hy11⟩) (by assumption) ?_
          case hy11 =>
            intro w9 hSw
            try dsimp only at hSw
            try simp only [List.getElem_toArray, List.getElem_cons_zero, List.getElem_cons_succ]
            go_simp
            try with_reducible rfl
          try simp only [Act.put, List.setIfInBounds_toArray, List.set_cons_zero, List.set_cons_succ, List.getElem_toArray, List.getElem_cons_zero, List.getElem_cons_succ]
          refine AnyL.take (i := 11) (oi := _) (v := ?_) 30 rfl (by kernel_rfl) (by kernel_rfl) (by kernel_rfl) (by kernel_rfl) (by kernel_rfl) (fun _ _ _ h => h) (Or.inl ⟨by rfl, ?hy12⟩) (by assumption) ?_
          case hy12 =>
            intro w9 hSw
            try dsimp only at hSw
            try simp only [List.getElem_toArray, List.getElem_cons_zero, List.getElem_cons_succ]
            go_simp
            try with_reducible rfl
          try simp only [Act.put, List.setIfInBounds_toArray, List.set_cons_zero, List.set_cons_succ, List.getElem_toArray, List.getElem_cons_zero, List.getElem_cons_succ]
          refine AnyL.take (i := 12) (oi := _) (v := ?_) 30 rfl (by kernel_rfl) (by kernel_rfl) (by kernel_rfl) (by kernel_rfl) (by kernel_rfl) (fun _ _ _ h => h) (Or.inl ⟨by rfl, ?hy13⟩) (by assumption) ?_
          case hy13 =>
            intro w9 hSw
            try dsimp only at hSw
            try simp only [List.getElem_toArray, List.getElem_cons_zero, List.getElem_cons_succ]
            go_simp
            try with_reducible rfl
          try simp only [Act.put, List.setIfInBounds_toArray, List.set_cons_zero, List.set_cons_succ, List.getElem_toArray, List.getElem_cons_zero, List.getElem_cons_succ]
          refine AnyL.take (i := 13) (oi := _) (v := ?_) 30 rfl (by kernel_rfl) (by kernel_rfl) (by kernel_rfl) (by kernel_rfl) (by kernel_rfl) (fun _ _ _ h => h) (Or.inl ⟨by rfl, ?hy14⟩) (by assumption) ?_
          case hy14 =>
            intro w9 hSw
            try dsimp only at hSw
            try simp only [List.getElem_toArray, List.getElem_cons_zero, List.getElem_cons_succ]
            go_simp
            try with_reducible rfl
          try simp only [Act.put, List.setIfInBounds_toArray, List.set_cons_zero, List.set_cons_succ, List.getElem_toArray, List.getElem_cons_zero, List.getElem_cons_succ]
          refine AnyL.take (i := 14) (oi := _) (v := ?_) 30 rfl (by kernel_rfl) (by kernel_rfl) (by kernel_rfl) (by kernel_rfl) (by kernel_rfl) (fun _ _ _ h => h) (Or.inl ⟨by rfl, ?hy15⟩) (by assumption) ?_
          case hy15 =>
            intro w9 hSw
            try dsimp only at hSw
            try simp only [List.getElem_toArray, List.getElem_cons_zero, List.getElem_cons_succ]
            go_simp
            try with_reducible rfl
          try simp only [Act.put, List.setIfInBounds_toArray, List.set_cons_zero, List.set_cons_succ, List.getElem_toArray, List.getElem_cons_zero, List.getElem_cons_succ]
          refine AnyL.one (i := 15) (o := _) (by kernel_rfl) rfl (fun K hK => ?_)
          try simp only [List.getElem_toArray, List.getElem_cons_zero, List.getElem_cons_succ]
          go_simp
          refine hK.out _ _ (fun h => absurd rfl h) (fun _ => ?_)
          clear hK K
          try simp only [Act.put, List.setIfInBounds_toArray, List.set_cons_zero, List.set_cons_succ, List.getElem_toArray, List.getElem_cons_zero, List.getElem_cons_succ]
          refine AnyL.done (by kernel_rfl) ?_ _
          go_wp2
          go_roundw
          case rel =>
            refine ⟨j + 1, by go_num, by omega, ?_, ?_, ?_, ?_, ?_, ?_⟩
            · rw [HS1.out, HUP.out]
            · exact C1.out.same (Below.heap_setCell _ _ _ _ (by show w.heap.size ≠ w.heap.size + 1 + 1 + 1; omega))
            · exact C2.out.same (Below.heap_setCell _ _ _ _ (by show w.heap.size + 1 ≠ w.heap.size + 1 + 1 + 1; omega))
            · exact C3.out.same (Below.heap_setCell _ _ _ _ (by show w.heap.size + 1 + 1 ≠ w.heap.size + 1 + 1 + 1; omega))
            · rw [HS2.out]; exact C5.out
            · exact (HB4.out.setCell (by show w.heap.size ≤ w.heap.size + 1 + 1 + 1; omega) _).drew
          case measure => simp [intOf] <;> omega
        · obtain rfl : j = 8 - i := by omega
          have e8 : i + (8 - i) = 8 := by omega
          have hge' : ((i + (8 - i) : Nat) : Int) = 8 := by omega
          go_wp2
          go_roundw
          case rel => exact ⟨i + 1, by go_num, by omega, C1.out, C2.out, C3.out, C4.out, HB4.out⟩
          case measure => simp [intOf] <;> omega
    · obtain rfl : i = 8 := by omega
      rw [show ((8 : Nat) : Int) = 8 from rfl]
      have hw := B4.out.2
      have ho8 := outerW_len A B 8
      have hth : wr.there (w.heap.size + 1 + 1) 0 (digs (outerW A B 8)).toArray.size := fun j hj => by
        rw [Nat.zero_add]
        exact ⟨by rw [B3.out.cell j (by simpa [digs, ho8] using hj)]; rfl, B3.out.free j⟩
      have hi : (Tryd.prog.info? 86).map (·.size) = some (digs (outerW A B 8)).toArray.size := by
        rw [show (digs (outerW A B 8)).toArray.size = 8 by simp [digs, ho8]]
        kernel_rfl
      have hone : (digs (outerW A B 8)).toArray.all (·.oneCell') = true := all_oneCell_toArray (fun v hv => by
        obtain ⟨x, _, rfl⟩ := List.mem_map.1 hv
        rfl)
      have hh0 := B3.out.2
      have HH0 := Lib.hid hh0
      have HW := Lib.hid hw
      have HTH := Lib.hid hth
      have HI := Lib.hid hi
      have HONE := Lib.hid hone
      have e8 : (digs (outerW A B 8)).toArray.size = 8 := by simp [digs, ho8]
      generalize hws : (digs (outerW A B 8)).toArray = ws at *
      have HWS := Lib.hid hws
      have E8 := Lib.hid e8
      clear hw hth hi hone hh0 hws e8 B1 B2 B3 B4
      go_wp2_with (first | (refine wpList_load_row rfl 86 (.tmp 5) rfl (w.heap.size + 1 + 1 + 1) rfl 86 ws (0, 0) _ HW.out Tryd.underlying86 rfl HI.out ?_) | (refine wpList_store_mid rfl 86 (.tmp 4) (.tmp 42) rfl (w.heap.size + 1 + 1) 0 ws rfl rfl HTH.out HI.out HONE.out ?_))
      have hb9 : Below w.heap.size w (wr.setCells (w.heap.size + 1 + 1) 0 ws.toList) := below_setCellsC (by omega) _ _ _ HB3.out
      have hh9 := heap_setCells_whole (wr := wr) (ws := ws) HH0.out (by rw [E8.out]; rfl)
      have HT : timesW A B = outerW A B 8 := rfl
      rw [HT, HWS.out]
      exact bodyPost_ret (v := .agg ws) (results_cell_row rfl _ _ (w.heap.size + 1 + 1) 86 ws (0, 0) _ rfl hh9 Tryd.underlying86 rfl HI.out) rfl ⟨rfl, hb9⟩
end Go.Proofs.YtjopfhmloklhdaaDoor.Ref
namespace Go.Proofs.YtjopfhmloklhdaaDoor.Ref
open Go.ChangeShapes Go.WideShapes Go.ChangeAt Go.RowKit Go.Deep
set_option linter.unusedVariables false
/-- The bound that a root is held against. -/
def goalW (p : Nat) (cube : Bool) : List Nat := if cube then [0, 0, 0, 0, 0, 0, p, 0] else [0, 0, 0, 0, p, 0, 0, 0]
/-- A try's square or cube. -/
def powW (t : Nat) (cube : Bool) : List Nat := if cube then timesW (timesW (ofW t) (ofW t)) (ofW t) else timesW (ofW t) (ofW t)
/-- The root behind the first n tries. -/
def rootW (p : Nat) (cube : Bool) : Nat → Nat
  | 0 => 0
  | n + 1 => if aboveW (powW (rootW p cube n ||| 2 ^ (36 - n)) cube) (goalW p cube) 8 then rootW p cube n else rootW p cube n ||| 2 ^ (36 - n)
set_option maxRecDepth 100000 in
theorem root_two : rootW 2 false 37 % 4294967296 = 0x6a09e667 := by decide +kernel
end Go.Proofs.YtjopfhmloklhdaaDoor.Ref
namespace Go.Proofs.YtjopfhmloklhdaaDoor.Ref
open Go.ChangeShapes Go.WideShapes Go.ChangeAt Go.RowKit Go.Deep
set_option linter.unusedVariables false
set_option linter.unusedSimpArgs false
theorem rootW_lt (p : Nat) (cube : Bool) : ∀ n, rootW p cube n < 2 ^ 37
  | 0 => by show 0 < 2 ^ 37; decide
  | n + 1 => by
    rw [rootW]
    split
    · exact rootW_lt p cube n
    · exact Nat.or_lt_two_pow (rootW_lt p cube n) (Nat.pow_lt_pow_right (by omega) (by omega))
theorem ofW_digs (t : Nat) (h : t < 1099511627776) : Digs (ofW t) := fun i => by
  rcases (by omega : i = 0 ∨ i = 1 ∨ i = 2 ∨ i = 3 ∨ i = 4 ∨ i = 5 ∨ i = 6 ∨ i = 7 ∨ 8 ≤ i) with rfl | rfl | rfl | rfl | rfl | rfl | rfl | rfl | h8
  · show t % 65536 < 65536; omega
  · show t / 65536 % 65536 < 65536; omega
  · show t / 4294967296 < 65536; omega
  · show (0 : Nat) < 65536; omega
  · show (0 : Nat) < 65536; omega
  · show (0 : Nat) < 65536; omega
  · show (0 : Nat) < 65536; omega
  · show (0 : Nat) < 65536; omega
  · rw [List.getD_eq_getElem?_getD, List.getElem?_eq_none (by show 8 ≤ i; exact h8)]; show (0 : Nat) < 65536; omega
theorem timesW_len (A B : List Nat) : (timesW A B).length = 8 := outerW_len A B 8
theorem timesW_digs (A B : List Nat) (dA : Digs A) (dB : Digs B) : Digs (timesW A B) := outerW_digs A B dA dB 8
def zero8 : List Nat := [0, 0, 0, 0, 0, 0, 0, 0]
theorem info8 : (Tryd.prog.info? 86).map (·.size) = some 8 := by kernel_rfl
theorem arr8 (L : List Nat) (hL : L.length = 8) : (Tryd.prog.info? 86).map (·.size) = some (digs L).toArray.size ∧ (digs L).toArray.all (·.oneCell') = true ∧ (digs L).toArray.size = 8 := by
  have e : (digs L).toArray.size = 8 := by simp [digs, hL]
  refine ⟨by rw [e]; exact info8, all_oneCell_toArray (fun v hv => ?_), e⟩
  obtain ⟨x, _, rfl⟩ := List.mem_map.1 hv
  rfl
theorem or_pow (r m : Nat) (hr : r < 18446744073709551616) (hm : m ≤ 36) : bits .or .u64 (r : Int) (IntKind.u64.wrap (2 ^ m)) = ((r ||| 2 ^ m : Nat) : Int) := by
  have h : 2 ^ m ≤ 68719476736 := Nat.pow_le_pow_right (n := 2) (by omega) hm
  have e : IntKind.u64.wrap (2 ^ m) = ((2 ^ m : Nat) : Int) := by
    rw [show (2 : Int) ^ m = ((2 ^ m : Nat) : Int) by rw [Int.natCast_pow]; rfl]
    generalize 2 ^ m = q at *
    rw [IntKind.wrap_u64]
    omega
  generalize hq : 2 ^ m = q at *
  rw [e, u64_or_nat r q hr (by omega)]
theorem Wd.range {w : World} {g : Nat} {L : List Nat} (h : Wd w g L) : w.rangeAt g 0 (digs L) := fun j v hj => by
  rw [Nat.zero_add, World.cell?, h.2]
  simpa using hj
theorem Wd.there {w : World} {g : Nat} {L : List Nat} (h : Wd w g L) (n : Nat) (hn : n ≤ 8) : w.there g 0 n := fun j hj => by
  rw [Nat.zero_add]
  exact ⟨by rw [h.cell j (by omega)]; rfl, h.free j⟩
/-- Two wide numbers in memory, and what was there before stays. -/
def RS (w : World) (g8 g9 : Nat) (A G : List Nat) (x : World) : Prop := Wd x g8 A ∧ Wd x g9 G ∧ Below w.heap.size w x ∧ w.heap.size ≤ x.heap.size
theorem RS.below {w : World} {g8 g9 : Nat} {A G : List Nat} {x y : World} (h : RS w g8 g9 A G x) (hb : Below x.heap.size x y) : RS w g8 g9 A G y :=
  ⟨h.1.below hb, h.2.1.below hb, h.2.2.1.trans (hb.mono h.2.2.2), Nat.le_trans h.2.2.2 hb.size⟩
theorem RS.set8 {w : World} {g8 g9 : Nat} {A G C : List Nat} {x : World} (h : RS w g8 g9 A G x) (hC : C.length = 8) (hne : g8 ≠ g9) (h8 : w.heap.size ≤ g8) : RS w g8 g9 C G (x.setCells g8 0 (digs C).toArray.toList) := by
  obtain ⟨a, b, c, d⟩ := h
  have e1 : (digs A).toArray.size = 8 := by simp [digs, a.1]
  have e2 : (digs C).toArray.size = 8 := by simp [digs, hC]
  exact ⟨⟨hC, heap_setCells_whole a.2 (by rw [e1, e2])⟩, b.same (setCells_other g8 g9 (fun e => hne e.symm) _ _ _), below_setCellsC h8 _ _ _ c, by rw [setCells_size]; exact d⟩
theorem RS.set9 {w : World} {g8 g9 : Nat} {A G C : List Nat} {x : World} (h : RS w g8 g9 A G x) (hC : C.length = 8) (hne : g8 ≠ g9) (h9 : w.heap.size ≤ g9) : RS w g8 g9 A C (x.setCells g9 0 (digs C).toArray.toList) := by
  obtain ⟨a, b, c, d⟩ := h
  have e1 : (digs G).toArray.size = 8 := by simp [digs, b.1]
  have e2 : (digs C).toArray.size = 8 := by simp [digs, hC]
  exact ⟨a.same (setCells_other g9 g8 hne _ _ _), ⟨hC, heap_setCells_whole b.2 (by rw [e1, e2])⟩, below_setCellsC h9 _ _ _ c, by rw [setCells_size]; exact d⟩
theorem RS.put9 {w : World} {g8 g9 : Nat} {A G : List Nat} {x : World} (h : RS w g8 g9 A G x) (hne : g8 ≠ g9) (h9 : w.heap.size ≤ g9) (j v : Nat) : RS w g8 g9 A (G.set j v) (x.setCell ⟨g9, j, none⟩ (.int .u64 (v : Int))) := by
  obtain ⟨a, b, c, d⟩ := h
  exact ⟨a.same (Below.heap_setCell _ _ _ _ hne), b.set j v, c.setCell h9 _, by rw [World.size_setCell]; exact d⟩
set_option maxRecDepth 100000 in
set_option maxHeartbeats 4000000 in
theorem root_any (p : Nat) (hp : p < 65536) (cube : Bool) (w : World) : Calls Tryd.prog 37 #[.int .i64 (p : Int), .bool cube] w fun e w' => e = .returned (.int .u32 ((rootW p cube 37 % 4294967296 : Nat) : Int)) ∧ Below w.heap.size w w' := by
  go_enter Tryd.func37, Tryd.ntmps37
  go_wp2_with fail
  go_loopw [5, 6] (fun vr vk wr => ∃ n : Nat, vr = .int .u64 ((rootW p cube n : Nat) : Int) ∧ vk = .int .i64 (36 - (n : Int)) ∧ n ≤ 37 ∧ Below w.heap.size w wr) (fun _ vk _ => (intOf vk + 1).toNat)
  case atStart => exact ⟨0, rfl, rfl, by omega, Below.refl _ _⟩
  case round =>
    obtain ⟨n, rfl, rfl, hn, hb⟩ := hrel
    have HB := Lib.hid hb
    have hz := hb.size
    clear hb
    rcases Nat.lt_or_ge n 37 with hlt | hge
    · obtain ⟨m, hm⟩ : ∃ m : Nat, 36 - n = m := ⟨_, rfl⟩
      have hmI : (36 : Int) - (n : Int) = (m : Int) := by omega
      have hm6 : m ≤ 36 := by omega
      rw [hmI]
      have hr := rootW_lt p cube n
      have HS := Lib.hid (show rootW p cube (n + 1) = if aboveW (powW (rootW p cube n ||| 2 ^ (36 - n)) cube) (goalW p cube) 8 then rootW p cube n else rootW p cube n ||| 2 ^ (36 - n) from rfl)
      rw [hm] at HS
      obtain ⟨r, hrr⟩ : ∃ r, rootW p cube n = r := ⟨_, rfl⟩
      rw [hrr] at HS hr
      rw [hrr]
      have HRR := Lib.hid hrr
      clear hrr
      go_wp2_with fail
      have htl : r ||| 2 ^ m < 2 ^ 37 := Nat.or_lt_two_pow hr (Nat.pow_lt_pow_right (by omega) (by omega))
      rw [or_pow r m (by omega) hm6]
      generalize r ||| 2 ^ m = t at *
      have htl' : t < 1099511627776 := by omega
      have HTD := Lib.hid (ofW_digs t htl')
      refine (of_any t htl' wr).mono ?_
      rintro e w1 ⟨rfl, hb1⟩
      have HB1 := Lib.hid (HB.out.trans (hb1.mono hz))
      have hz1 := hb1.size
      clear hb1
      go_wp2_with fail
      refine (of_any t htl' w1).mono ?_
      rintro e w2 ⟨rfl, hb2⟩
      have HB2 := Lib.hid (HB1.out.trans (hb2.mono (by omega)))
      have hz2 := hb2.size
      clear hb2
      go_wp2_with fail
      refine (times_any (ofW t) (ofW t) rfl rfl HTD.out HTD.out w2).mono ?_
      rintro e w3 ⟨rfl, hb3⟩
      have HB3 := Lib.hid (HB2.out.trans (hb3.mono (by omega)))
      have hz3 := hb3.size
      clear hb3
      have hsl := timesW_len (ofW t) (ofW t)
      have hsd := timesW_digs (ofW t) (ofW t) HTD.out HTD.out
      obtain ⟨SQ, hSQ⟩ : ∃ L, timesW (ofW t) (ofW t) = L := ⟨_, rfl⟩
      rw [hSQ] at hsl hsd
      rw [hSQ]
      have HSQ := Lib.hid hSQ
      have HSL := Lib.hid hsl
      have HSD := Lib.hid hsd
      obtain ⟨a1, a2, a3⟩ := arr8 SQ hsl
      obtain ⟨hd4, hb4⟩ := laid_row w3 (digs zero8).toArray (digs SQ).toArray 86 (by rw [a3]; rfl)
      have hw4 : Wd ((w3.alloc (.cells (digs zero8).toArray 86)).setCells w3.heap.size 0 (digs SQ).toArray.toList) w3.heap.size SQ := ⟨hsl, hd4⟩
      have W4 := Lib.hid hw4
      have HTH := Lib.hid (there_alloc w3 (digs zero8).toArray 86 (digs SQ).toArray.size (by rw [a3]; exact Nat.le_refl _))
      have A1 := Lib.hid a1
      have A2 := Lib.hid a2
      have HB4 := Lib.hid (HB3.out.trans (hb4.mono (by omega)))
      have hz4 := hb4.size
      have hz4' := lt_of_block hd4
      clear hSQ hsl hsd a1 a2 a3 hd4 hw4 hb4
      go_upto_region 7 with (refine wpList_store_mid rfl 86 (.tmp 8) (.tmp 23) rfl w3.heap.size 0 (digs SQ).toArray rfl rfl HTH.out A1.out A2.out ?_)
      rw [show (#[.int .u64 0, .int .u64 0, .int .u64 0, .int .u64 0, .int .u64 0, .int .u64 0, .int .u64 0, .int .u64 0] : Array Value) = (digs zero8).toArray from rfl]
      generalize ((w3.alloc (.cells (digs zero8).toArray 86)).setCells w3.heap.size 0 (digs SQ).toArray.toList) = w4 at *
      generalize w3.heap.size = g8 at *
      go_upto_region 8 with fail
      rw [show (#[.int .u64 0, .int .u64 0, .int .u64 0, .int .u64 0, .int .u64 0, .int .u64 0, .int .u64 0, .int .u64 0] : Array Value) = (digs zero8).toArray from rfl]
      have hw5 := wd_new w4 zero8 rfl
      have hv5 := W4.out.alloc (.cells (digs zero8).toArray 86)
      have hb5 := (Below.refl w4.heap.size w4).alloc (Nat.le_refl _) (.cells (digs zero8).toArray 86)
      have HB5 := Lib.hid (HB4.out.trans (hb5.mono (by omega)))
      have hz5 := hb5.size
      have hz5' := lt_of_block hw5.2
      generalize w4.alloc (.cells (digs zero8).toArray 86) = w5 at *
      generalize w4.heap.size = g9 at *
      have f4 := hw5.cell 4 (by omega)
      have o4 := hw5.free 4
      have W5 := Lib.hid hw5
      have V5 := Lib.hid hv5
      clear hw5 hv5 hb5
      have hne : g8 ≠ g9 := by omega
      go_upto_region 9 with fail
      have hR6 : RS w g8 g9 SQ ([0, 0, 0, 0, p, 0, 0, 0] : List Nat) (w5.setCell ⟨g9, 4, none⟩ (.int .u64 (p : Int))) := RS.put9 (G := zero8) ⟨V5.out, W5.out, HB5.out, by omega⟩ hne (by omega) 4 p
      have h9w : w.heap.size ≤ g9 := by omega
      have h8w : w.heap.size ≤ g8 := by omega
      generalize w5.setCell ⟨g9, 4, none⟩ (.int .u64 (p : Int)) = w6 at *
      have R6 := Lib.hid hR6
      have hmn : (36 : Int) - ((n + 1 : Nat) : Int) = (m : Int) - 1 := by omega
      have mw : IntKind.i64.wrap ((m : Int) - 1) = (m : Int) - 1 := by rw [IntKind.wrap_i64]; omega
      clear hR6 f4 o4 W5 V5 HB5 HB4 HB3 HB2 HB1 HB W4 HTH hz hz1 hz2 hz3 hz4 hz4' hz5 hz5'
      obtain ⟨a1, a2, a3⟩ := arr8 SQ HSL.out
      have A1' := Lib.hid a1
      clear a1 a2 a3
      cases cube with
      | false =>
        obtain ⟨b1, b2, b3⟩ := arr8 ([0, 0, 0, 0, p, 0, 0, 0] : List Nat) rfl
        have B1' := Lib.hid b1
        clear b1 b2 b3
        go_wp2_with (first | (refine wpList_load_row rfl 86 (.tmp 8) rfl g8 rfl 86 (digs SQ).toArray (0, 0) _ R6.out.1.2 Tryd.underlying86 rfl A1'.out ?_) | (refine wpList_load_row rfl 86 (.tmp 9) rfl g9 rfl 86 (digs ([0, 0, 0, 0, p, 0, 0, 0] : List Nat)).toArray (0, 0) _ R6.out.2.1.2 Tryd.underlying86 rfl B1'.out ?_))
        refine (above_any SQ [0, 0, 0, 0, p, 0, 0, 0] HSL.out rfl w6).mono ?_
        rintro e w7 ⟨rfl, hb7⟩
        have R7 := Lib.hid (R6.out.below hb7)
        clear hb7
        have hs := HS.out
        rw [show powW t false = SQ from HSQ.out, show goalW p false = [0, 0, 0, 0, p, 0, 0, 0] from rfl] at hs
        obtain ⟨ab, hab⟩ : ∃ ab, aboveW SQ [0, 0, 0, 0, p, 0, 0, 0] 8 = ab := ⟨_, rfl⟩
        rw [hab] at hs ⊢
        cases ab with
        | false =>
          have hs2 : rootW p false (n + 1) = t := by rw [hs]; rfl
          have HS2 := Lib.hid hs2
          clear hs hs2 hab
          go_wp2
          go_roundw
          case rel => exact ⟨n + 1, by rw [HS2.out], by rw [hmn], hlt, R7.out.2.2.1⟩
          case measure => simp [intOf] <;> omega
        | true =>
          have hs2 : rootW p false (n + 1) = r := by rw [hs]; rfl
          have HS2 := Lib.hid hs2
          clear hs hs2 hab
          go_wp2
          go_roundw
          case rel => exact ⟨n + 1, by rw [HS2.out], by rw [hmn], hlt, R7.out.2.2.1⟩
          case measure => simp [intOf] <;> omega
      | true =>
        have hcl := timesW_len SQ (ofW t)
        obtain ⟨CU, hCU⟩ : ∃ L, timesW SQ (ofW t) = L := ⟨_, rfl⟩
        rw [hCU] at hcl
        have HCU := Lib.hid hCU
        have HCL := Lib.hid hcl
        obtain ⟨c1, c2, c3⟩ := arr8 CU hcl
        have C1 := Lib.hid c1
        have C2 := Lib.hid c2
        have C3 := Lib.hid c3
        have hll : (Tryd.prog.info? 86).map (·.size) = some (digs SQ).length := by rw [show (digs SQ).length = 8 by simp [digs, HSL.out]]; exact info8
        have HLL := Lib.hid hll
        clear hcl hCU c1 c2 c3 hll
        go_upto_region 10 with fail
        refine AnyL.begin (S := RS w g8 g9 SQ [0, 0, 0, 0, p, 0, 0, 0]) 4 (by kernel_rfl) (R6.out.below ((Below.refl _ _).drew)) (fun hHeld => ?_)
        refine AnyL.take (i := 0) (oi := _) (v := ?_) 30 rfl (by kernel_rfl) (by kernel_rfl) (by kernel_rfl) (by kernel_rfl) (by kernel_rfl) (fun _ _ _ h => h) ?hl1 (by assumption) ?_
        case hl1 => refine yieldsIf_load_mid ?_ 86 (.tmp 8) ?_ g8 0 ?_ (digs SQ) _ ?_ Tryd.underlying86 rfl HLL.out <;> first | exact fun _ hw => hw.1.range | kernel_rfl
        try simp only [Act.put, List.setIfInBounds_toArray, List.set_cons_zero, List.set_cons_succ, List.getElem_toArray, List.getElem_cons_zero, List.getElem_cons_succ]
        refine AnyL.take (i := 1) (oi := _) (v := ?_) 30 rfl (by kernel_rfl) (by kernel_rfl) (by kernel_rfl) (by kernel_rfl) (by kernel_rfl) (fun _ _ _ h => h) (Or.inl ⟨by rfl, ?hy2⟩) (by assumption) ?_
        case hy2 =>
          intro w9 hSw
          try dsimp only at hSw
          try simp only [List.getElem_toArray, List.getElem_cons_zero, List.getElem_cons_succ]
          go_simp
          try with_reducible rfl
        try simp only [Act.put, List.setIfInBounds_toArray, List.set_cons_zero, List.set_cons_succ, List.getElem_toArray, List.getElem_cons_zero, List.getElem_cons_succ]
        refine AnyL.one (i := 2) (o := _) (by kernel_rfl) rfl (fun K hK => ?_)
        try simp only [List.getElem_toArray, List.getElem_cons_zero, List.getElem_cons_succ]
        go_simp
        refine (of_any t htl' _).mono ?_
        rintro e wa ⟨rfl, hb0⟩
        refine hK.out _ _ (fun _ => (hHeld.below hb0)) (fun hHeld => ?_)
        replace hHeld := hHeld (by decide)
        clear hK K
        try simp only [Act.put, List.setIfInBounds_toArray, List.set_cons_zero, List.set_cons_succ, List.getElem_toArray, List.getElem_cons_zero, List.getElem_cons_succ]
        refine AnyL.one (i := 3) (o := _) (by kernel_rfl) rfl (fun K hK => ?_)
        try simp only [List.getElem_toArray, List.getElem_cons_zero, List.getElem_cons_succ]
        go_simp
        refine (times_any SQ (ofW t) HSL.out rfl HSD.out HTD.out _).mono ?_
        rw [HCU.out]
        rintro e wb ⟨rfl, hb0⟩
        have hR8 := hHeld.below hb0
        have HTH8 := Lib.hid (hR8.1.there (digs CU).toArray.size (by rw [C3.out]; exact Nat.le_refl _))
        have R9 : Hid (RS w g8 g9 CU [0, 0, 0, 0, p, 0, 0, 0] (wb.setCells g8 0 (digs CU))) := Lib.hid (hR8.set8 HCL.out hne h8w)
        refine hK.out _ _ (fun _ => hR8) (fun hHeld => ?_)
        replace hHeld := hHeld (by decide)
        clear hK K
        try simp only [Act.put, List.setIfInBounds_toArray, List.set_cons_zero, List.set_cons_succ, List.getElem_toArray, List.getElem_cons_zero, List.getElem_cons_succ]
        refine AnyL.one (i := 4) (o := _) (by kernel_rfl) rfl (fun K hK => ?_)
        rw [if_pos (by rfl)]
        refine wp_store_mid 86 (.tmp 8) (.tmp 31) (by rfl) g8 0 (digs CU).toArray (by rfl) (by rfl) HTH8.out C1.out C2.out ?_
        refine hK.out _ _ (fun h => absurd rfl h) (fun _ => ?_)
        clear hK K
        try simp only [Act.put, List.setIfInBounds_toArray, List.set_cons_zero, List.set_cons_succ, List.getElem_toArray, List.getElem_cons_zero, List.getElem_cons_succ]
        refine AnyL.done (by kernel_rfl) ?_ _
        generalize wb.setCells g8 0 (digs CU) = w8 at *
        obtain ⟨z1, z2, z3⟩ := arr8 zero8 rfl
        have Z1 := Lib.hid z1
        have Z2 := Lib.hid z2
        have HTH9 := Lib.hid (R9.out.2.1.there (digs zero8).toArray.size (by rw [z3]; exact Nat.le_refl _))
        have R10 : Hid (RS w g8 g9 CU zero8 (w8.setCells g9 0 (digs zero8))) := Lib.hid (R9.out.set9 rfl hne h9w)
        clear z1 z2 z3
        go_upto_region 11 with fail
        go_upto_region 12 with (first | (refine wpList_store_mid rfl 86 (.tmp 9) (.tmp 32) rfl g9 0 (digs zero8).toArray rfl rfl HTH9.out Z1.out Z2.out ?_))
        generalize w8.setCells g9 0 (digs zero8) = w10 at *
        have f6 := R10.out.2.1.cell 6 (by omega)
        have o6 := R10.out.2.1.free 6
        have R11 : Hid (RS w g8 g9 CU ([0, 0, 0, 0, 0, 0, p, 0] : List Nat) (w10.setCell ⟨g9, 6, none⟩ (.int .u64 (p : Int)))) := Lib.hid (RS.put9 (G := zero8) R10.out hne h9w 6 p)
        obtain ⟨b1, b2, b3⟩ := arr8 ([0, 0, 0, 0, 0, 0, p, 0] : List Nat) rfl
        have B1' := Lib.hid b1
        clear b1 b2 b3
        go_upto_region 13 with fail
        generalize w10.setCell ⟨g9, 6, none⟩ (.int .u64 (p : Int)) = w11 at *
        go_wp2_with (first | (refine wpList_load_row rfl 86 (.tmp 8) rfl g8 rfl 86 (digs CU).toArray (0, 0) _ R11.out.1.2 Tryd.underlying86 rfl C1.out ?_) | (refine wpList_load_row rfl 86 (.tmp 9) rfl g9 rfl 86 (digs ([0, 0, 0, 0, 0, 0, p, 0] : List Nat)).toArray (0, 0) _ R11.out.2.1.2 Tryd.underlying86 rfl B1'.out ?_))
        refine (above_any CU [0, 0, 0, 0, 0, 0, p, 0] HCL.out rfl w11).mono ?_
        rintro e w12 ⟨rfl, hb7⟩
        have R12 := Lib.hid (R11.out.below hb7)
        clear hb7
        have hs := HS.out
        rw [show powW t true = timesW (timesW (ofW t) (ofW t)) (ofW t) from rfl, HSQ.out, HCU.out, show goalW p true = [0, 0, 0, 0, 0, 0, p, 0] from rfl] at hs
        obtain ⟨ab, hab⟩ : ∃ ab, aboveW CU [0, 0, 0, 0, 0, 0, p, 0] 8 = ab := ⟨_, rfl⟩
        rw [hab] at hs ⊢
        cases ab with
        | false =>
          have hs2 : rootW p true (n + 1) = t := by rw [hs]; rfl
          have HS2 := Lib.hid hs2
          clear hs hs2 hab
          go_wp2
          go_roundw
          case rel => exact ⟨n + 1, by rw [HS2.out], by rw [hmn], hlt, R12.out.2.2.1⟩
          case measure => simp [intOf] <;> omega
        | true =>
          have hs2 : rootW p true (n + 1) = r := by rw [hs]; rfl
          have HS2 := Lib.hid hs2
          clear hs hs2 hab
          go_wp2
          go_roundw
          case rel => exact ⟨n + 1, by rw [HS2.out], by rw [hmn], hlt, R12.out.2.2.1⟩
          case measure => simp [intOf] <;> omega
    · obtain rfl : n = 37 := by omega
      go_wp2
      go_ret
      exact ⟨by rw [Int.natCast_emod]; rfl, HB.out⟩
end Go.Proofs.YtjopfhmloklhdaaDoor.Ref
namespace Go.Proofs.YtjopfhmloklhdaaDoor.Ref
open Go.ChangeShapes Go.WideShapes Go.ChangeAt Go.RowKit Go.Deep
set_option linter.unusedVariables false
set_option linter.unusedSimpArgs false
/-- The primes among the first n numbers behind 2. -/
def primesTo : Nat → List Nat
  | 0 => []
  | n + 1 => if primeB (n + 2) then primesTo n ++ [n + 2] else primesTo n
def primes64 : List Nat := [2, 3, 5, 7, 11, 13, 17, 19, 23, 29, 31, 37, 41, 43, 47, 53, 59, 61, 67, 71, 73, 79, 83, 89, 97, 101, 103, 107, 109, 113, 127, 131, 137, 139, 149, 151, 157, 163, 167, 173, 179, 181, 191, 193, 197, 199, 211, 223, 227, 229, 233, 239, 241, 251, 257, 263, 269, 271, 277, 281, 283, 293, 307, 311]
set_option maxRecDepth 100000 in
theorem primes_310 : primesTo 310 = primes64 := by decide +kernel
set_option maxRecDepth 100000 in
theorem primes_309 : (primesTo 309).length = 63 := by decide +kernel
theorem primesTo_mono (n : Nat) : ∀ k, (primesTo n).length ≤ (primesTo (n + k)).length
  | 0 => Nat.le_refl _
  | k + 1 => by
    refine Nat.le_trans (primesTo_mono n k) ?_
    show _ ≤ (primesTo ((n + k) + 1)).length
    rw [primesTo]
    split
    · rw [List.length_append]; omega
    · exact Nat.le_refl _
theorem primesTo_few (n : Nat) (h : n ≤ 309) : (primesTo n).length ≤ 63 := by
  have := primesTo_mono n (309 - n)
  rw [show n + (309 - n) = 309 by omega, primes_309] at this
  exact this
theorem info_int : (Tryd.prog.info? 3).map (fun i => (i.zero, i.size, i.bytes)) = some (some (.int .i64 0), 1, 8) := by kernel_rfl
set_option maxRecDepth 100000 in
set_option maxHeartbeats 4000000 in
theorem primes_any (w : World) : Calls Tryd.prog 36 #[.int .i64 64] w fun e w' => ∃ v, e = .returned v ∧ OwnN w' w.heap.size 3 .i64 v primes64 ∧ Below w.heap.size w w' := by
  go_enter Tryd.func36, Tryd.ntmps36
  go_upto_region 2 with (refine wpList_make_num rfl _ _ 76 rfl w.heap.size 3 .i64 8 Tryd.underlying76 info_int (by decide) rfl rfl (Nat.le_refl _) w (Below.refl _ _) (fun v2 w2 how hb2 _ _ => ?_))
  have HOW := Lib.hid how
  have HB2 := Lib.hid hb2
  clear how hb2
  go_wp2_with fail
  go_loopw [3, 4] (fun v3 v4 wr => ∃ n : Nat, v4 = .int .i64 ((n + 2 : Nat) : Int) ∧ n ≤ 310 ∧ OwnN wr w.heap.size 3 .i64 v3 (primesTo n) ∧ Below w.heap.size w wr) (fun _ v4 _ => 312 - (intOf v4).toNat)
  case atStart => exact ⟨0, rfl, Nat.zero_le _, HOW.out, HB2.out⟩
  case round =>
    obtain ⟨n, rfl, hn, how, hb⟩ := hrel
    obtain ⟨p3, c3, rfl⟩ := how.sl
    obtain ⟨m, hm⟩ : ∃ m, (primesTo n).length = m := ⟨_, rfl⟩
    have hs : primesTo (n + 1) = if primeB (n + 2) then primesTo n ++ [n + 2] else primesTo n := rfl
    have hfew := primesTo_few n
    rw [hm] at how hfew ⊢
    have HM := Lib.hid hm
    have HS := Lib.hid hs
    have HO := Lib.hid how
    have HB := Lib.hid hb
    have hz := hb.size
    clear how hb hm hs HOW HB2
    rcases Nat.lt_or_ge m 64 with hlt | hge
    · have hn2 : n ≤ 309 := by
        rcases Nat.lt_or_ge n 310 with h | h
        · omega
        · obtain rfl : n = 310 := by omega
          have h3 := HM.out
          rw [primes_310] at h3
          have h4 : primes64.length = 64 := rfl
          omega
      have hltI : (m : Int) < 64 := by omega
      have hm63 := hfew hn2
      go_wp2_with fail
      refine (prime_any (n + 2) (by omega) (by omega) wr).mono ?_
      rintro e w5 ⟨rfl, rfl⟩
      have hin : IntKind.i64.wrap (((n + 2 : Nat) : Int) + 1) = ((n + 1 + 2 : Nat) : Int) := by rw [IntKind.wrap_i64]; omega
      have hs := HS.out
      obtain ⟨pb, hpb⟩ : ∃ pb, primeB (n + 2) = pb := ⟨_, rfl⟩
      rw [hpb] at hs ⊢
      cases pb with
      | false =>
        have HS2 := Lib.hid (hs.trans (if_neg Bool.false_ne_true))
        clear hs hpb
        go_wp2
        go_roundw
        case rel => exact ⟨n + 1, by first | rfl | rw [hin] | go_num, by omega, by rw [HS2.out]; exact HO.out, HB.out⟩
        case measure => simp [intOf] <;> omega
      | true =>
        have HS2 := Lib.hid (hs.trans (if_pos rfl))
        clear hs hpb
        have hcl : (w5.alloc (.cells #[.int .i64 ((n : Int) + 2)] 3)).cell? ⟨w5.heap.size, 0, none⟩ = some (.int .i64 ((n + 2 : Nat) : Int)) := by rw [World.cell?, heap_alloc_new]; rfl
        have HCL := Lib.hid hcl
        have HO5 := Lib.hid (HO.out.alloc (.cells #[.int .i64 ((n : Int) + 2)] 3))
        have hb5 := HB.out.alloc HB.out.size (.cells #[.int .i64 ((n : Int) + 2)] 3)
        have hz5 := hb5.size
        have HB5 := Lib.hid hb5
        have hll : (primesTo n).length ≤ 1000000 := by rw [HM.out]; omega
        clear hcl hb5
        go_upto_region 4 with (refine wpList_append_num rfl _ _ 76 rfl w.heap.size 3 .i64 8 Tryd.underlying76 info_int (by decide) _ (primesTo n) rfl HO5.out w5.heap.size 1 (n + 2) rfl HCL.out hll hz5 w HB5.out (fun v17 w17 how17 hb17 => ?_))
        have HO17 := Lib.hid how17
        have HB17 := Lib.hid hb17
        clear how17 hb17
        go_wp2
        go_roundw
        case rel => exact ⟨n + 1, by first | rfl | rw [hin] | go_num, by omega, by rw [HS2.out]; exact HO17.out, HB17.out⟩
        case measure => simp [intOf] <;> omega
    · have hn3 : n = 310 := by
        rcases Nat.lt_or_ge n 310 with h | h
        · have := hfew (by omega)
          omega
        · omega
      subst hn3
      have h3 := HM.out
      rw [primes_310] at h3
      have h4 : primes64.length = 64 := rfl
      obtain rfl : m = 64 := by omega
      have ho := HO.out
      rw [primes_310] at ho
      have HO3 := Lib.hid ho
      clear ho h3 h4
      go_wp2
      go_ret
      exact ⟨_, rfl, HO3.out, HB.out⟩
end Go.Proofs.YtjopfhmloklhdaaDoor.Ref
namespace Go.Proofs.YtjopfhmloklhdaaDoor.Ref
open Go.ChangeShapes Go.WideShapes Go.ChangeAt Go.RowKit Go.Deep
set_option linter.unusedVariables false
set_option linter.unusedSimpArgs false
/-- The words of the first n primes. -/
def rootsOf (cube : Bool) (n : Nat) : List Nat := (primes64.take n).map fun p => rootW p cube 37 % 4294967296
theorem primes64_lt (i : Nat) : primes64.getD i 0 < 65536 := by
  have h : ∀ x ∈ primes64, x < 65536 := by decide
  rw [List.getD_eq_getElem?_getD]
  rcases Nat.lt_or_ge i primes64.length with hi | hi
  · rw [List.getElem?_eq_getElem hi]; exact h _ (List.getElem_mem hi)
  · rw [List.getElem?_eq_none hi]; show (0 : Nat) < 65536; omega
theorem rootsOf_succ (cube : Bool) (n : Nat) (h : n < 64) : rootsOf cube (n + 1) = rootsOf cube n ++ [rootW (primes64.getD n 0) cube 37 % 4294967296] := by
  unfold rootsOf
  have hl : n < primes64.length := h
  rw [List.take_succ_eq_append_getElem hl, List.map_append, List.getD_eq_getElem?_getD, List.getElem?_eq_getElem hl]
  rfl
theorem rootsOf_len (cube : Bool) (n : Nat) (h : n ≤ 64) : (rootsOf cube n).length = n := by
  unfold rootsOf
  rw [List.length_map, List.length_take, show primes64.length = 64 from rfl, Nat.min_eq_left h]
theorem info_u32 : (Tryd.prog.info? 46).map (fun i => (i.zero, i.size, i.bytes)) = some (some (.int .u32 0), 1, 4) := by kernel_rfl
set_option maxRecDepth 100000 in
set_option maxHeartbeats 8000000 in
theorem Consts_any' (w : World) : Calls Tryd.prog 28 #[] w fun e w' => ∃ v1 v2, e = .returned (.tuple #[v1, v2]) ∧ OwnN w' w.heap.size 46 .u32 v1 (rootsOf false 8) ∧ OwnN w' w.heap.size 46 .u32 v2 (rootsOf true 64) ∧ Below w.heap.size w w' := by
  go_enter Tryd.func28, Tryd.ntmps28
  go_wp2_with fail
  refine (primes_any w).mono ?_
  rintro e w1 ⟨v2, rfl, hp, hb1⟩
  have hf := hp.form (by decide)
  rw [show primes64.length = 64 from rfl] at hf
  obtain ⟨gp, cp, rfl, hg1, hg2, hg3, hg4, hcells⟩ := hf
  have HC := Lib.hid hcells
  have HB1 := Lib.hid hb1
  have hz1 := hb1.size
  clear hp hb1 hcells
  go_upto_region 3 with (first | (refine wpList_make_num rfl (.const (.int .i64 0)) (.const (.int .i64 0)) 65 rfl w1.heap.size 46 .u32 4 Tryd.underlying65 info_u32 (by decide) rfl rfl (Nat.le_refl _) w1 (Below.refl _ _) (fun v3 w3 ho3 hb3 hown3 _ => ?_)))
  have hz3 := hb3.size
  have hl3 := (World.ownsRow.lt ho3 _ hown3).2
  have HB3 := Lib.hid hb3
  have HO3 := Lib.hid ho3
  clear hb3 ho3
  go_upto_region 4 with (first | (refine wpList_make_num rfl (.const (.int .i64 0)) (.const (.int .i64 0)) 65 rfl w1.heap.size 46 .u32 4 Tryd.underlying65 info_u32 (by decide) rfl rfl hz3 w1 HB3.out (fun v4 w4 ho4 hb4 hown4 hgr4 => ?_)))
  have hdis : v3.ownBlock ≠ v4.ownBlock := by rw [hown3, hown4]; intro e; injection e with e; omega
  have hz4 := hb4.size
  have HB4 := Lib.hid hb4
  have HO34 := Lib.hid (HO3.out.kept hgr4 (by rw [hown3]; simp))
  have HO4 := Lib.hid ho4
  clear ho4 hb4 hown3 hown4 hl3 hgr4
  go_wp2_with fail
  go_loopw [3, 4, 5] (fun v3 v4 v5 wr => ∃ k : Nat, v5 = .int .i64 k ∧ k ≤ 64 ∧ OwnN wr w1.heap.size 46 .u32 v3 (rootsOf false (min k 8)) ∧ OwnN wr w1.heap.size 46 .u32 v4 (rootsOf true k) ∧ v3.ownBlock ≠ v4.ownBlock ∧ Below w1.heap.size w1 wr) (fun _ _ v5 _ => 64 - (intOf v5).toNat)
  case atStart => exact ⟨0, rfl, Nat.zero_le _, HO34.out, HO4.out, hdis, HB4.out⟩
  case round =>
    obtain ⟨k, rfl, hk, ho3, ho4, hd, hb⟩ := hrel
    have HA := Lib.hid ho3
    have HK := Lib.hid ho4
    have HD := Lib.hid hd
    have HB := Lib.hid hb
    have hz := hb.size
    clear ho3 ho4 hd hb HO34 HO4 HB4 HO3 HB3
    rcases Nat.lt_or_ge k 64 with hlt | hge
    · have hltI : (k : Int) < 64 := by omega
      have hpl := primes64_lt k
      have hcell := (HB.out.cell (p := ⟨gp, k, none⟩) hg2).trans (HC.out k hlt)
      have hsT := rootsOf_succ true k hlt
      have hsF := rootsOf_succ false k hlt
      have hlT := rootsOf_len true k (by omega)
      obtain ⟨pk, hpk⟩ : ∃ pk, primes64.getD k 0 = pk := ⟨_, rfl⟩
      rw [hpk] at hpl hcell hsT hsF
      have HST := Lib.hid hsT
      have HSF := Lib.hid hsF
      have HCE := Lib.hid hcell
      have HLT := Lib.hid hlT
      have HPK := Lib.hid hpk
      clear hpk hsT hsF hlT hcell
      rcases Nat.lt_or_ge k 8 with h8 | h8
      · have h8I : (k : Int) < 8 := by omega
        have hcell := HCE.out
        have hmk : min k 8 = k := by omega
        have hmk2 : min (k + 1) 8 = k + 1 := by omega
        rw [hmk] at HA
        go_wp2_with fail
        refine (root_any pk hpl false wr).mono ?_
        rintro e w5 ⟨rfl, hb5⟩
        have hs := HSF.out
        obtain ⟨y5, hy⟩ : ∃ y, rootW pk false 37 % 4294967296 = y := ⟨_, rfl⟩
        rw [hy] at hs ⊢
        have HS5 := Lib.hid hs
        have hcl : (w5.alloc (.cells #[.int .u32 (y5 : Int)] 46)).cell? ⟨w5.heap.size, 0, none⟩ = some (.int .u32 (y5 : Int)) := by rw [World.cell?, heap_alloc_new]; rfl
        have HCL5 := Lib.hid hcl
        have HA5 := Lib.hid ((HA.out.below hb5).alloc (.cells #[.int .u32 (y5 : Int)] 46))
        have HK5 := Lib.hid ((HK.out.below hb5).alloc (.cells #[.int .u32 (y5 : Int)] 46))
        have hbb := HB.out.trans (hb5.mono HB.out.size)
        have hba := hbb.alloc hbb.size (.cells #[.int .u32 (y5 : Int)] 46)
        have hz5 := hba.size
        have HB5 := Lib.hid hba
        clear hs hy hcl hbb hba hb5
        have hll9 : (rootsOf false k).length ≤ 1000000 := by rw [rootsOf_len false k (by omega)]; omega
        go_upto_region 9 with (refine wpList_append_num2 rfl (.tmp 15) (.tmp 21) 65 rfl w1.heap.size 46 .u32 4 Tryd.underlying65 info_u32 (by decide) u3 (rootsOf false k) rfl HA5.out w5.heap.size 1 y5 rfl HCL5.out hll9 hz5 w1 HB5.out (fun x5 W5 ho hbw hgr hat => ?_))
        rw [← HS5.out] at ho
        have HAx := Lib.hid ho
        have HKx := Lib.hid (HK5.out.kept hgr (fun e => HD.out e.symm))
        have HDx := Lib.hid (fun e => (HK5.out.apart (fun e => HD.out e.symm) hat) e.symm : x5.ownBlock ≠ u4.ownBlock)
        have HBx := Lib.hid hbw
        clear ho hbw hgr hat
        have hcell2 := (HBx.out.cell (p := ⟨gp, k, none⟩) hg2).trans (HC.out k hlt)
        rw [HPK.out] at hcell2
        clear hcell
        go_wp2_with fail
        refine (root_any pk hpl true W5).mono ?_
        rintro e w7 ⟨rfl, hb7⟩
        have hs := HST.out
        obtain ⟨y7, hy⟩ : ∃ y, rootW pk true 37 % 4294967296 = y := ⟨_, rfl⟩
        rw [hy] at hs ⊢
        have HS7 := Lib.hid hs
        have hcl : (w7.alloc (.cells #[.int .u32 (y7 : Int)] 46)).cell? ⟨w7.heap.size, 0, none⟩ = some (.int .u32 (y7 : Int)) := by rw [World.cell?, heap_alloc_new]; rfl
        have HCL7 := Lib.hid hcl
        have HA7 := Lib.hid ((HAx.out.below hb7).alloc (.cells #[.int .u32 (y7 : Int)] 46))
        have HK7 := Lib.hid ((HKx.out.below hb7).alloc (.cells #[.int .u32 (y7 : Int)] 46))
        have hbb := HBx.out.trans (hb7.mono HBx.out.size)
        have hba := hbb.alloc hbb.size (.cells #[.int .u32 (y7 : Int)] 46)
        have hz7 := hba.size
        have HB7 := Lib.hid hba
        clear hs hy hcl hbb hba hb7
        have hll9 : (rootsOf true k).length ≤ 1000000 := by rw [rootsOf_len true k (by omega)]; omega
        go_upto_region 6 with (refine wpList_append_num2 rfl (.tmp 23) (.tmp 29) 65 rfl w1.heap.size 46 .u32 4 Tryd.underlying65 info_u32 (by decide) u4 (rootsOf true k) rfl HK7.out w7.heap.size 1 y7 rfl HCL7.out hll9 hz7 w1 HB7.out (fun x7 W7 ho hbw hgr hat => ?_))
        rw [← HS7.out] at ho
        have HKy := Lib.hid ho
        have HAy := Lib.hid (HA7.out.kept hgr HDx.out)
        have HDy := Lib.hid (HA7.out.apart HDx.out hat)
        have HBy := Lib.hid hbw
        clear ho hbw hgr hat
        go_wp2
        go_roundw
        case rel => exact ⟨k + 1, by go_num, hlt, by rw [hmk2]; exact HAy.out, HKy.out, HDy.out, HBy.out⟩
        case measure => simp [intOf] <;> omega
      · have h8I : ¬ (k : Int) < 8 := by omega
        have hcell := HCE.out
        have hmk : min k 8 = 8 := by omega
        have hmk2 : min (k + 1) 8 = 8 := by omega
        rw [hmk] at HA
        go_wp2_with fail
        refine (root_any pk hpl true wr).mono ?_
        rintro e w7 ⟨rfl, hb7⟩
        have hs := HST.out
        obtain ⟨y7, hy⟩ : ∃ y, rootW pk true 37 % 4294967296 = y := ⟨_, rfl⟩
        rw [hy] at hs ⊢
        have HS7 := Lib.hid hs
        have hcl : (w7.alloc (.cells #[.int .u32 (y7 : Int)] 46)).cell? ⟨w7.heap.size, 0, none⟩ = some (.int .u32 (y7 : Int)) := by rw [World.cell?, heap_alloc_new]; rfl
        have HCL7 := Lib.hid hcl
        have HA7 := Lib.hid ((HA.out.below hb7).alloc (.cells #[.int .u32 (y7 : Int)] 46))
        have HK7 := Lib.hid ((HK.out.below hb7).alloc (.cells #[.int .u32 (y7 : Int)] 46))
        have hbb := HB.out.trans (hb7.mono HB.out.size)
        have hba := hbb.alloc hbb.size (.cells #[.int .u32 (y7 : Int)] 46)
        have hz7 := hba.size
        have HB7 := Lib.hid hba
        clear hs hy hcl hbb hba hb7
        have hll9 : (rootsOf true k).length ≤ 1000000 := by rw [rootsOf_len true k (by omega)]; omega
        go_upto_region 6 with (refine wpList_append_num2 rfl (.tmp 23) (.tmp 29) 65 rfl w1.heap.size 46 .u32 4 Tryd.underlying65 info_u32 (by decide) u4 (rootsOf true k) rfl HK7.out w7.heap.size 1 y7 rfl HCL7.out hll9 hz7 w1 HB7.out (fun x7 W7 ho hbw hgr hat => ?_))
        rw [← HS7.out] at ho
        have HKy := Lib.hid ho
        have HAy := Lib.hid (HA7.out.kept hgr HD.out)
        have HDy := Lib.hid (HA7.out.apart HD.out hat)
        have HBy := Lib.hid hbw
        clear ho hbw hgr hat
        go_wp2
        go_roundw
        case rel => exact ⟨k + 1, by go_num, hlt, by rw [hmk2]; exact HAy.out, HKy.out, HDy.out, HBy.out⟩
        case measure => simp [intOf] <;> omega
    · obtain rfl : k = 64 := by omega
      have ha := HA.out.mono hz1
      have hb := HK.out.mono hz1
      rw [show min 64 8 = 8 from rfl] at ha
      have HA9 := Lib.hid ha
      have HK9 := Lib.hid hb
      clear ha hb
      go_wp2
      refine bodyPost_ret (v := .tuple #[u3, u4]) (by first | rfl | kernel_rfl | simp [results]) rfl ⟨_, _, rfl, HA9.out, HK9.out, HB1.out.trans (HB.out.mono hz1)⟩
end Go.Proofs.YtjopfhmloklhdaaDoor.Ref
