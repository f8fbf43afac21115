/-
  Package sha: a block mixed into a state.
-/
import Derived.Test.YtjopfhmloklhdaaDoorSched
namespace Go.Proofs.YtjopfhmloklhdaaDoor
open Go.ChangeShapes Go.WideShapes Go.ChangeAt Go.RowKit Go.Deep
set_option linter.unusedVariables false
set_option linter.unusedSimpArgs false

/-- Eight words as a value. -/
def Wk.val (s : Wk) : Value := .agg #[.int .u32 (s.a : Int), .int .u32 (s.b : Int), .int .u32 (s.c : Int), .int .u32 (s.d : Int), .int .u32 (s.e : Int), .int .u32 (s.f : Int), .int .u32 (s.g : Int), .int .u32 (s.h : Int)]
/-- The constants of the rounds lie where the program laid them. -/
def Rnd (w : World) (K : List Nat) : Prop := ∀ i, i < 64 → w.cell? ⟨1, i, none⟩ = some (.int .u32 ((K.getD i 0 : Nat) : Int))
theorem there_alloc (w : World) (C : Array Value) (t : TypeId) (n : Nat) (h : n ≤ C.size) : (w.alloc (.cells C t)).there w.heap.size 0 n := fun j hj => by
  have hh := heap_alloc_new w (.cells C t)
  have h2 : j < C.size := by omega
  rw [Nat.zero_add]
  exact ⟨by unfold World.cell?; rw [hh]; simp [h2], by unfold World.frozen?; rw [hh]; simp⟩
theorem flip32 (s : Nat) (h : s < 4294967296) : bits .xor .u32 (if IntKind.u32.signed = true then -1 else IntKind.u32.max) (s : Int) = ((4294967295 - s : Nat) : Int) := by
  have e : (if IntKind.u32.signed = true then -1 else IntKind.u32.max) = ((4294967295 : Nat) : Int) := by decide
  rw [e, u32_xor_nat _ _ (by omega) h]
  congr 1
  apply Nat.eq_of_testBit_eq
  intro i
  have h1 := Nat.testBit_two_pow_sub_succ (x := s) (n := 32) h i
  have h2 := Nat.testBit_two_pow_sub_one 32 i
  rw [show (2 ^ 32 - (s + 1) : Nat) = 4294967295 - s by omega] at h1
  rw [show (2 ^ 32 - 1 : Nat) = 4294967295 by rfl] at h2
  rw [Nat.testBit_xor, h1, h2]
  by_cases hi : i < 32
  · simp [hi]
  · have : s.testBit i = false := Nat.testBit_lt_two_pow (Nat.lt_of_lt_of_le h (Nat.pow_le_pow_right (n := 2) (i := 32) (j := i) (by omega) (by omega)))
    simp [hi, this]
theorem sum_one (a b c d e f g h k w : Nat) : IntKind.u32.wrap (IntKind.u32.wrap (IntKind.u32.wrap (IntKind.u32.wrap ((h : Int) + ((Sig1 e : Nat) : Int)) + (((e &&& f) ^^^ ((4294967295 - e) &&& g) : Nat) : Int)) + (k : Int)) + (w : Int)) = ((tOne ⟨a, b, c, d, e, f, g, h⟩ k w : Nat) : Int) := by
  rw [IntKind.wrap_u32, IntKind.wrap_u32, IntKind.wrap_u32, IntKind.wrap_u32]
  unfold tOne
  simp only
  generalize Sig1 e = s1
  generalize ((e &&& f) ^^^ ((4294967295 - e) &&& g)) = c1
  omega
/-- The state while it is added up: the first k words are done. -/
def partAt (S U : Wk) (k j : Nat) : Nat := if j < k then (S.list.getD j 0 + U.list.getD j 0) % 4294967296 else S.list.getD j 0
def part (S U : Wk) (k : Nat) : List Nat := (List.range 8).map (partAt S U k)
theorem part_len (S U : Wk) (k : Nat) : (part S U k).length = 8 := by simp [part]
theorem part_get (S U : Wk) (k j : Nat) (hj : j < 8) : (part S U k).getD j 0 = partAt S U k j := by
  unfold part
  rw [List.getD_eq_getElem?_getD, List.getElem?_map, List.getElem?_range hj]
  rfl
theorem words_part (S U : Wk) (k j : Nat) (hj : j < 8) : (words (part S U k))[j]? = some (.int .u32 ((partAt S U k j : Nat) : Int)) := by
  unfold words part
  rw [List.getElem?_map, List.getElem?_map, List.getElem?_range hj]
  rfl
theorem part_step (S U : Wk) (k : Nat) (hk : k < 8) : (words (part S U k)).toArray.setIfInBounds k (.int .u32 (((S.list.getD k 0 + U.list.getD k 0) % 4294967296 : Nat) : Int)) = (words (part S U (k + 1))).toArray := by
  rw [List.setIfInBounds_toArray]
  congr 1
  apply List.ext_getElem?
  intro j
  have hl : (words (part S U k)).length = 8 := by simp [words, part_len]
  have hl2 : (words (part S U (k + 1))).length = 8 := by simp [words, part_len]
  by_cases hj : j < 8
  · rw [words_part _ _ _ _ hj, List.getElem?_set]
    by_cases e : k = j
    · subst e
      rw [if_pos rfl, if_pos (by omega)]
      unfold partAt
      rw [if_pos (by omega)]
    · rw [if_neg e, words_part _ _ _ _ hj]
      unfold partAt
      by_cases h : j < k
      · rw [if_pos h, if_pos (by omega)]
      · rw [if_neg h, if_neg (by omega)]
  · rw [List.getElem?_eq_none (by rw [List.length_set]; omega), List.getElem?_eq_none (by omega)]
theorem part_zero (S U : Wk) : (words (part S U 0)).toArray = (words S.list).toArray := rfl
theorem part_end (S U : Wk) : Value.agg (words (part S U 8)).toArray = (addW S U).val := rfl
theorem part_all (K : List Nat) (S : Wk) (B : List UInt8) : Value.agg (words (part S (turns K (sched B 64) S 64) 8)).toArray = (mixW K S B).val := by
  unfold mixW
  exact part_end _ _
theorem list_lt {S : Wk} (h : S.Lt) (k : Nat) : S.list.getD k 0 < 4294967296 := by
  match k with
  | 0 => exact h.a
  | 1 => exact h.b
  | 2 => exact h.c
  | 3 => exact h.d
  | 4 => exact h.e
  | 5 => exact h.f
  | 6 => exact h.g
  | 7 => exact h.h
  | n + 8 => simp [Wk.list]
theorem index_eight (S : Wk) (k : Nat) (hk : k < 8) (w : World) : (Instr.index 47 S.val (.int .i64 (k : Int))).run Tryd.prog w = .ok (.int .u32 ((S.list.getD k 0 : Nat) : Int)) w := by
  obtain ⟨a, b, c, d, e, f, g, h⟩ := S
  rcases (by omega : k = 0 ∨ k = 1 ∨ k = 2 ∨ k = 3 ∨ k = 4 ∨ k = 5 ∨ k = 6 ∨ k = 7) with rfl | rfl | rfl | rfl | rfl | rfl | rfl | rfl <;> kernel_rfl
theorem built_eight (S : Wk) : Tryd.prog.built 47 [(0, .int .u32 (S.a : Int)), (1, .int .u32 (S.b : Int)), (2, .int .u32 (S.c : Int)), (3, .int .u32 (S.d : Int)), (4, .int .u32 (S.e : Int)), (5, .int .u32 (S.f : Int)), (6, .int .u32 (S.g : Int)), (7, .int .u32 (S.h : Int))] = some #[.int .u32 (S.a : Int), .int .u32 (S.b : Int), .int .u32 (S.c : Int), .int .u32 (S.d : Int), .int .u32 (S.e : Int), .int .u32 (S.f : Int), .int .u32 (S.g : Int), .int .u32 (S.h : Int)] := by
  obtain ⟨a, b, c, d, e, f, g, h⟩ := S
  kernel_rfl
theorem wpList_build_eight {ops : Array Oper} {rest : List Oper} {o : Oper} {a : Act} {w : World} {Q : Exit → Act → World → Prop} (hg : o.guard = none) (S : Wk) (parts : List (Nat × Operand)) (ho : o.op = .build 47 parts.toArray)
    (he : (parts.map fun p => (p.1, a.eval p.2)) = [(0, .int .u32 (S.a : Int)), (1, .int .u32 (S.b : Int)), (2, .int .u32 (S.c : Int)), (3, .int .u32 (S.d : Int)), (4, .int .u32 (S.e : Int)), (5, .int .u32 (S.f : Int)), (6, .int .u32 (S.g : Int)), (7, .int .u32 (S.h : Int))])
    (h : wpList Tryd.prog ops Q rest (a.put o.dst S.val) w) : wpList Tryd.prog ops Q (o :: rest) a w := by
  have hb := built_eight S
  rw [← he] at hb
  have e1 : (parts.toArray.map fun (i, x) => (i, a.eval x)).toList = parts.map fun p => (p.1, a.eval p.2) := by
    rw [Array.toList_map]
  refine wpList_plain hg fun _ hK => wp_build 47 parts.toArray ho ?_ ?_
  · rw [e1, hb]; rfl
  · rw [e1, hb]; exact hK _ _ h
theorem wpList_index_eight {ops : Array Oper} {rest : List Oper} {o : Oper} {a : Act} {w : World} {Q : Exit → Act → World → Prop} (hg : o.guard = none) (x i : Operand) (ho : o.op = .index 47 x i) (S : Wk) (k : Nat) (hk : k < 8) (hx : a.eval x = S.val) (hi : a.eval i = .int .i64 (k : Int)) (v : Nat) (hv : S.list.getD k 0 = v)
    (h : wpList Tryd.prog ops Q rest (a.put o.dst (.int .u32 (v : Int))) w) : wpList Tryd.prog ops Q (o :: rest) a w := by
  have hr := index_eight S k hk w
  rw [hv] at hr
  refine wpList_plain hg fun _ hK => ?_
  unfold Oper.wp execOp
  simp only [ho, hx, hi, hr, Sem.run_bind, Sem.run_pure, Result.andThen_ok]
  exact hK _ _ h
theorem laid_row (w : World) (C ws : Array Value) (t : TypeId) (hs : C.size = ws.size) : ((w.alloc (.cells C t)).setCells w.heap.size 0 ws.toList).heap[w.heap.size]? = some (.cells ws t (0, 0)) ∧ Below w.heap.size w ((w.alloc (.cells C t)).setCells w.heap.size 0 ws.toList) :=
  ⟨heap_setCells_whole (heap_alloc_new w (.cells C t)) hs, below_setCellsC (Nat.le_refl _) _ _ _ ((Below.refl _ _).alloc (Nat.le_refl _) _)⟩
theorem Arr.of_whole {w : World} {t : TypeId} {g : Nat} {L : List Nat} (h : w.heap[g]? = some (.cells (words L).toArray t (0, 0))) : Arr w t L.length g L := by
  refine ⟨_, h, by simp [words], fun j hj => ?_⟩
  rw [List.getElem?_toArray]
  unfold words
  rw [List.getElem?_map, List.getElem?_eq_getElem hj, List.getD_eq_getElem?_getD, List.getElem?_eq_getElem hj]
  rfl
theorem eight_cells {w : World} {g : Nat} {a b c d e f h i : Value} {T : TypeId} (hh : w.heap[g]? = some (.cells #[a, b, c, d, e, f, h, i] T (0, 0))) :
    w.cell? ⟨g, 0, none⟩ = some a ∧ w.cell? ⟨g, 1, none⟩ = some b ∧ w.cell? ⟨g, 2, none⟩ = some c ∧ w.cell? ⟨g, 3, none⟩ = some d ∧ w.cell? ⟨g, 4, none⟩ = some e ∧ w.cell? ⟨g, 5, none⟩ = some f ∧ w.cell? ⟨g, 6, none⟩ = some h ∧ w.cell? ⟨g, 7, none⟩ = some i :=
  ⟨by simp [World.cell?, hh], by simp [World.cell?, hh], by simp [World.cell?, hh], by simp [World.cell?, hh], by simp [World.cell?, hh], by simp [World.cell?, hh], by simp [World.cell?, hh], by simp [World.cell?, hh]⟩
set_option maxRecDepth 100000 in
set_option maxHeartbeats 8000000 in
theorem mixed_any (w : World) (K : List Nat) (s : Wk) (hs : s.Lt) (g o : Nat) (B : List UInt8) (hg : g < w.heap.size) (hB : Blk w g o B) (hK : Rnd w K) (hKl : ∀ i, K.getD i 0 < 4294967296) (hgr : 1 < w.heap.size) :
    Calls Tryd.prog 27 #[s.val, .pointer (some ⟨g, o, none⟩)] w fun e w' => e = .returned (mixW K s B).val ∧ Below w.heap.size w w' := by
  obtain ⟨s1, s2, s3, s4, s5, s6, s7, s8⟩ := s
  obtain ⟨l1, l2, l3, l4, l5, l6, l7, l8⟩ := hs
  have HBK := Lib.hid hB
  have HKR := Lib.hid hK
  have HKL := Lib.hid hKl
  simp only at l1 l2 l3 l4 l5 l6 l7 l8
  have hi64 : (Tryd.prog.info? 73).map (·.size) = some (words (sched B 64)).toArray.size := by
    rw [show (words (sched B 64)).toArray.size = 64 by simp [words, sched_len]]
    kernel_rfl
  have hone : (words (sched B 64)).toArray.all (·.oneCell') = true := all_oneCell_toArray (fun v hv => by
    obtain ⟨x, _, rfl⟩ := List.mem_map.1 hv
    rfl)
  have hsz : (words (sched B 64)).toArray.size = 64 := by simp [words, sched_len]
  have HI := Lib.hid hi64
  have HONE := Lib.hid hone
  have HSZ := Lib.hid hsz
  clear hB hK hKl hi64 hone hsz
  rw [show (⟨s1, s2, s3, s4, s5, s6, s7, s8⟩ : Wk).val = .agg #[.int .u32 (s1 : Int), .int .u32 (s2 : Int), .int .u32 (s3 : Int), .int .u32 (s4 : Int), .int .u32 (s5 : Int), .int .u32 (s6 : Int), .int .u32 (s7 : Int), .int .u32 (s8 : Int)] from rfl]
  go_enter Tryd.func27, Tryd.ntmps27
  go_wp2_with fail
  have hbA := ((Below.refl w.heap.size w).alloc (Nat.le_refl _) (.cells #[.int .u32 (s1 : Int), .int .u32 (s2 : Int), .int .u32 (s3 : Int), .int .u32 (s4 : Int), .int .u32 (s5 : Int), .int .u32 (s6 : Int), .int .u32 (s7 : Int), .int .u32 (s8 : Int)] 47)).alloc (by have := size_alloc1 w (.cells #[.int .u32 (s1 : Int), .int .u32 (s2 : Int), .int .u32 (s3 : Int), .int .u32 (s4 : Int), .int .u32 (s5 : Int), .int .u32 (s6 : Int), .int .u32 (s7 : Int), .int .u32 (s8 : Int)] 47); omega) (.cells #[.int .u32 0, .int .u32 0, .int .u32 0, .int .u32 0, .int .u32 0, .int .u32 0, .int .u32 0, .int .u32 0] 47)
  have hzA : ((w.alloc (.cells #[.int .u32 (s1 : Int), .int .u32 (s2 : Int), .int .u32 (s3 : Int), .int .u32 (s4 : Int), .int .u32 (s5 : Int), .int .u32 (s6 : Int), .int .u32 (s7 : Int), .int .u32 (s8 : Int)] 47)).alloc (.cells #[.int .u32 0, .int .u32 0, .int .u32 0, .int .u32 0, .int .u32 0, .int .u32 0, .int .u32 0, .int .u32 0] 47)).heap.size = w.heap.size + 2 := by rw [size_alloc1, size_alloc1]
  have hh2 : ((w.alloc (.cells #[.int .u32 (s1 : Int), .int .u32 (s2 : Int), .int .u32 (s3 : Int), .int .u32 (s4 : Int), .int .u32 (s5 : Int), .int .u32 (s6 : Int), .int .u32 (s7 : Int), .int .u32 (s8 : Int)] 47)).alloc (.cells #[.int .u32 0, .int .u32 0, .int .u32 0, .int .u32 0, .int .u32 0, .int .u32 0, .int .u32 0, .int .u32 0] 47)).heap[w.heap.size]? = some (.cells #[.int .u32 (s1 : Int), .int .u32 (s2 : Int), .int .u32 (s3 : Int), .int .u32 (s4 : Int), .int .u32 (s5 : Int), .int .u32 (s6 : Int), .int .u32 (s7 : Int), .int .u32 (s8 : Int)] 47 (0, 0)) := heap_alloc2_old w _ _
  have hh4 : ((w.alloc (.cells #[.int .u32 (s1 : Int), .int .u32 (s2 : Int), .int .u32 (s3 : Int), .int .u32 (s4 : Int), .int .u32 (s5 : Int), .int .u32 (s6 : Int), .int .u32 (s7 : Int), .int .u32 (s8 : Int)] 47)).alloc (.cells #[.int .u32 0, .int .u32 0, .int .u32 0, .int .u32 0, .int .u32 0, .int .u32 0, .int .u32 0, .int .u32 0] 47)).heap[w.heap.size + 1]? = some (.cells #[.int .u32 0, .int .u32 0, .int .u32 0, .int .u32 0, .int .u32 0, .int .u32 0, .int .u32 0, .int .u32 0] 47 (0, 0)) := heap_alloc2_new w _ _
  generalize (w.alloc (.cells #[.int .u32 (s1 : Int), .int .u32 (s2 : Int), .int .u32 (s3 : Int), .int .u32 (s4 : Int), .int .u32 (s5 : Int), .int .u32 (s6 : Int), .int .u32 (s7 : Int), .int .u32 (s8 : Int)] 47)).alloc (.cells #[.int .u32 0, .int .u32 0, .int .u32 0, .int .u32 0, .int .u32 0, .int .u32 0, .int .u32 0, .int .u32 0] 47) = wA at *
  have HBA := Lib.hid hbA
  have HZA := Lib.hid hzA
  have HH2 := Lib.hid hh2
  have HH4 := Lib.hid hh4
  have hgA : g < wA.heap.size := by omega
  clear hbA hzA hh2 hh4
  refine (schedule_any wA g o B hgA (HBK.out.below hg HBA.out)).mono ?_
  rintro e wS ⟨rfl, hbS⟩
  have hzS := hbS.size
  have HBS := Lib.hid hbS
  have HZS : Hid (w.heap.size + 2 ≤ wS.heap.size) := Lib.hid (by have := HZA.out; omega)
  have hll := sched_len B 64
  have hlb := sched_get_lt B 64
  have hpa := fun (S : Wk) => part_all K S B
  generalize sched B 64 = L at *
  have HLL := Lib.hid hll
  have HLB := Lib.hid hlb
  have HPA := Lib.hid hpa
  generalize hws : (words L).toArray = ws at *
  have HWS := Lib.hid hws
  clear hbS hws hzS hll hlb hpa
  go_upto_region 2 with (refine wpList_store_mid rfl 73 (.tmp 5) (.tmp 22) rfl wS.heap.size 0 ws rfl rfl (by exact there_alloc _ _ _ _ (by rw [HSZ.out]; exact Nat.le_refl _)) HI.out HONE.out ?_)
  have hlr := laid_row wS (#[.int .u32 0, .int .u32 0, .int .u32 0, .int .u32 0, .int .u32 0, .int .u32 0, .int .u32 0, .int .u32 0, .int .u32 0, .int .u32 0, .int .u32 0, .int .u32 0, .int .u32 0, .int .u32 0, .int .u32 0, .int .u32 0, .int .u32 0, .int .u32 0, .int .u32 0, .int .u32 0, .int .u32 0, .int .u32 0, .int .u32 0, .int .u32 0, .int .u32 0, .int .u32 0, .int .u32 0, .int .u32 0, .int .u32 0, .int .u32 0, .int .u32 0, .int .u32 0, .int .u32 0, .int .u32 0, .int .u32 0, .int .u32 0, .int .u32 0, .int .u32 0, .int .u32 0, .int .u32 0, .int .u32 0, .int .u32 0, .int .u32 0, .int .u32 0, .int .u32 0, .int .u32 0, .int .u32 0, .int .u32 0, .int .u32 0, .int .u32 0, .int .u32 0, .int .u32 0, .int .u32 0, .int .u32 0, .int .u32 0, .int .u32 0, .int .u32 0, .int .u32 0, .int .u32 0, .int .u32 0, .int .u32 0, .int .u32 0, .int .u32 0, .int .u32 0] : Array Value) ws 73 (by rw [HSZ.out]; kernel_rfl)
  generalize (wS.alloc (.cells (#[.int .u32 0, .int .u32 0, .int .u32 0, .int .u32 0, .int .u32 0, .int .u32 0, .int .u32 0, .int .u32 0, .int .u32 0, .int .u32 0, .int .u32 0, .int .u32 0, .int .u32 0, .int .u32 0, .int .u32 0, .int .u32 0, .int .u32 0, .int .u32 0, .int .u32 0, .int .u32 0, .int .u32 0, .int .u32 0, .int .u32 0, .int .u32 0, .int .u32 0, .int .u32 0, .int .u32 0, .int .u32 0, .int .u32 0, .int .u32 0, .int .u32 0, .int .u32 0, .int .u32 0, .int .u32 0, .int .u32 0, .int .u32 0, .int .u32 0, .int .u32 0, .int .u32 0, .int .u32 0, .int .u32 0, .int .u32 0, .int .u32 0, .int .u32 0, .int .u32 0, .int .u32 0, .int .u32 0, .int .u32 0, .int .u32 0, .int .u32 0, .int .u32 0, .int .u32 0, .int .u32 0, .int .u32 0, .int .u32 0, .int .u32 0, .int .u32 0, .int .u32 0, .int .u32 0, .int .u32 0, .int .u32 0, .int .u32 0, .int .u32 0, .int .u32 0] : Array Value) 73)).setCells wS.heap.size 0 ws.toList = W3 at *
  obtain ⟨hrow, hb3⟩ := hlr
  rw [← HWS.out] at hrow
  have harr := Arr.of_whole hrow
  rw [HLL.out] at harr
  have hzA := HZA.out
  have hzS := HZS.out
  have hh2 := (hb3.block w.heap.size (by omega)).trans ((HBS.out.block w.heap.size (by omega)).trans HH2.out)
  have hh4 := (hb3.block (w.heap.size + 1) (by omega)).trans ((HBS.out.block (w.heap.size + 1) (by omega)).trans HH4.out)
  have hb03 : Below w.heap.size w W3 := (HBA.out.trans (HBS.out.mono (by omega))).trans (hb3.mono (by omega))
  obtain ⟨c0, c1, c2, c3, c4, c5, c6, c7⟩ := eight_cells hh2
  have HB03 := Lib.hid hb03
  have HARR := Lib.hid harr
  have HH42 := Lib.hid hh4
  have HH22 := Lib.hid hh2
  clear hb3 hrow harr hh2 hh4 hb03 hzA hzS
  try simp only [Act.put, List.setIfInBounds_toArray, List.set_cons_zero, List.set_cons_succ]
  as_aux_lemma =>
  refine wp_region_held_drew (S := fun w' => w'.cell? ⟨w.heap.size, 0, none⟩ = some (.int .u32 (s1 : Int)) ∧ w'.cell? ⟨w.heap.size, 1, none⟩ = some (.int .u32 (s2 : Int)) ∧ w'.cell? ⟨w.heap.size, 2, none⟩ = some (.int .u32 (s3 : Int)) ∧ w'.cell? ⟨w.heap.size, 3, none⟩ = some (.int .u32 (s4 : Int)) ∧ w'.cell? ⟨w.heap.size, 4, none⟩ = some (.int .u32 (s5 : Int)) ∧ w'.cell? ⟨w.heap.size, 5, none⟩ = some (.int .u32 (s6 : Int)) ∧ w'.cell? ⟨w.heap.size, 6, none⟩ = some (.int .u32 (s7 : Int)) ∧ w'.cell? ⟨w.heap.size, 7, none⟩ = some (.int .u32 (s8 : Int))) (by kernel_rfl) ⟨c0, c1, c2, c3, c4, c5, c6, c7⟩ (fun hHeld => ?_)
  refine wpAnyH_take (i := 0) (oi := _) (v := ?_) rfl (by kernel_rfl) (by kernel_rfl) (by kernel_rfl) (fun _ _ _ h => h) (Or.inl ⟨by rfl, ?hy1⟩) (by assumption) ?_
  case hy1 =>
    intro w9 hSw
    try dsimp only at hSw
    try simp only [List.getElem_toArray, List.getElem_cons_zero, List.getElem_cons_succ]
    go_simp
    try with_reducible rfl
  try simp only [Act.put, List.setIfInBounds_toArray, List.set_cons_zero, List.set_cons_succ, List.getElem_toArray, List.getElem_cons_zero, List.getElem_cons_succ]
  refine wpAnyH_take (i := 1) (oi := _) (v := ?_) rfl (by kernel_rfl) (by kernel_rfl) (by kernel_rfl) (fun _ _ _ h => h) (Or.inl ⟨by rfl, ?hy2⟩) (by assumption) ?_
  case hy2 =>
    intro w9 hSw
    try dsimp only at hSw
    try simp only [List.getElem_toArray, List.getElem_cons_zero, List.getElem_cons_succ]
    go_simp
    try with_reducible rfl
  try simp only [Act.put, List.setIfInBounds_toArray, List.set_cons_zero, List.set_cons_succ, List.getElem_toArray, List.getElem_cons_zero, List.getElem_cons_succ]
  refine wpAnyH_take (i := 2) (oi := _) (v := ?_) rfl (by kernel_rfl) (by kernel_rfl) (by kernel_rfl) (fun _ _ _ h => h) (Or.inl ⟨by rfl, ?hy3⟩) (by assumption) ?_
  case hy3 =>
    intro w9 hSw
    try dsimp only at hSw
    try simp only [List.getElem_toArray, List.getElem_cons_zero, List.getElem_cons_succ]
    go_simp
    try with_reducible rfl
  try simp only [Act.put, List.setIfInBounds_toArray, List.set_cons_zero, List.set_cons_succ, List.getElem_toArray, List.getElem_cons_zero, List.getElem_cons_succ]
  refine wpAnyH_take (i := 3) (oi := _) (v := ?_) rfl (by kernel_rfl) (by kernel_rfl) (by kernel_rfl) (fun _ _ _ h => h) (Or.inl ⟨by rfl, ?hy4⟩) (by assumption) ?_
  case hy4 =>
    intro w9 hSw
    try dsimp only at hSw
    try simp only [List.getElem_toArray, List.getElem_cons_zero, List.getElem_cons_succ]
    go_simp
    try with_reducible rfl
  try simp only [Act.put, List.setIfInBounds_toArray, List.set_cons_zero, List.set_cons_succ, List.getElem_toArray, List.getElem_cons_zero, List.getElem_cons_succ]
  refine wpAnyH_take (i := 4) (oi := _) (v := ?_) rfl (by kernel_rfl) (by kernel_rfl) (by kernel_rfl) (fun _ _ _ h => h) (Or.inl ⟨by rfl, ?hy5⟩) (by assumption) ?_
  case hy5 =>
    intro w9 hSw
    try dsimp only at hSw
    try simp only [List.getElem_toArray, List.getElem_cons_zero, List.getElem_cons_succ]
    go_simp
    try with_reducible rfl
  try simp only [Act.put, List.setIfInBounds_toArray, List.set_cons_zero, List.set_cons_succ, List.getElem_toArray, List.getElem_cons_zero, List.getElem_cons_succ]
  refine wpAnyH_take (i := 5) (oi := _) (v := ?_) rfl (by kernel_rfl) (by kernel_rfl) (by kernel_rfl) (fun _ _ _ h => h) (Or.inl ⟨by rfl, ?hy6⟩) (by assumption) ?_
  case hy6 =>
    intro w9 hSw
    try dsimp only at hSw
    try simp only [List.getElem_toArray, List.getElem_cons_zero, List.getElem_cons_succ]
    go_simp
    try with_reducible rfl
  try simp only [Act.put, List.setIfInBounds_toArray, List.set_cons_zero, List.set_cons_succ, List.getElem_toArray, List.getElem_cons_zero, List.getElem_cons_succ]
  refine wpAnyH_take (i := 6) (oi := _) (v := ?_) rfl (by kernel_rfl) (by kernel_rfl) (by kernel_rfl) (fun _ _ _ h => h) (Or.inl ⟨by rfl, ?hy7⟩) (by assumption) ?_
  case hy7 =>
    intro w9 hSw
    try dsimp only at hSw
    try simp only [List.getElem_toArray, List.getElem_cons_zero, List.getElem_cons_succ]
    go_simp
    try with_reducible rfl
  try simp only [Act.put, List.setIfInBounds_toArray, List.set_cons_zero, List.set_cons_succ, List.getElem_toArray, List.getElem_cons_zero, List.getElem_cons_succ]
  refine wpAnyH_take (i := 7) (oi := _) (v := ?_) rfl (by kernel_rfl) (by kernel_rfl) (by kernel_rfl) (fun _ _ _ h => h) (Or.inl ⟨by rfl, ?hy8⟩) (by assumption) ?_
  case hy8 =>
    intro w9 hSw
    try dsimp only at hSw
    try simp only [List.getElem_toArray, List.getElem_cons_zero, List.getElem_cons_succ]
    go_simp
    try with_reducible rfl
  try simp only [Act.put, List.setIfInBounds_toArray, List.set_cons_zero, List.set_cons_succ, List.getElem_toArray, List.getElem_cons_zero, List.getElem_cons_succ]
  refine wpAnyH_take (i := 8) (oi := _) (v := ?_) rfl (by kernel_rfl) (by kernel_rfl) (by kernel_rfl) (fun _ _ _ h => h) (Or.inl ⟨by rfl, ?hy9⟩) (by assumption) ?_
  case hy9 =>
    intro w9 hSw
    try dsimp only at hSw
    try simp only [List.getElem_toArray, List.getElem_cons_zero, List.getElem_cons_succ]
    go_simp
    try with_reducible rfl
  try simp only [Act.put, List.setIfInBounds_toArray, List.set_cons_zero, List.set_cons_succ, List.getElem_toArray, List.getElem_cons_zero, List.getElem_cons_succ]
  refine wpAnyH_take (i := 9) (oi := _) (v := ?_) rfl (by kernel_rfl) (by kernel_rfl) (by kernel_rfl) (fun _ _ _ h => h) (Or.inl ⟨by rfl, ?hy10⟩) (by assumption) ?_
  case hy10 =>
    intro w9 hSw
    try dsimp only at hSw
    try simp only [List.getElem_toArray, List.getElem_cons_zero, List.getElem_cons_succ]
    go_simp
    try with_reducible rfl
  try simp only [Act.put, List.setIfInBounds_toArray, List.set_cons_zero, List.set_cons_succ, List.getElem_toArray, List.getElem_cons_zero, List.getElem_cons_succ]
  refine wpAnyH_take (i := 10) (oi := _) (v := ?_) rfl (by kernel_rfl) (by kernel_rfl) (by kernel_rfl) (fun _ _ _ h => h) (Or.inl ⟨by rfl, ?hy11⟩) (by assumption) ?_
  case hy11 =>
    intro w9 hSw
    try dsimp only at hSw
    try simp only [List.getElem_toArray, List.getElem_cons_zero, List.getElem_cons_succ]
    go_simp
    try with_reducible rfl
  try simp only [Act.put, List.setIfInBounds_toArray, List.set_cons_zero, List.set_cons_succ, List.getElem_toArray, List.getElem_cons_zero, List.getElem_cons_succ]
  refine wpAnyH_take (i := 11) (oi := _) (v := ?_) rfl (by kernel_rfl) (by kernel_rfl) (by kernel_rfl) (fun _ _ _ h => h) (Or.inl ⟨by rfl, ?hy12⟩) (by assumption) ?_
  case hy12 =>
    intro w9 hSw
    try dsimp only at hSw
    try simp only [List.getElem_toArray, List.getElem_cons_zero, List.getElem_cons_succ]
    go_simp
    try with_reducible rfl
  try simp only [Act.put, List.setIfInBounds_toArray, List.set_cons_zero, List.set_cons_succ, List.getElem_toArray, List.getElem_cons_zero, List.getElem_cons_succ]
  refine wpAnyH_take (i := 12) (oi := _) (v := ?_) rfl (by kernel_rfl) (by kernel_rfl) (by kernel_rfl) (fun _ _ _ h => h) (Or.inl ⟨by rfl, ?hy13⟩) (by assumption) ?_
  case hy13 =>
    intro w9 hSw
    try dsimp only at hSw
    try simp only [List.getElem_toArray, List.getElem_cons_zero, List.getElem_cons_succ]
    go_simp
    try with_reducible rfl
  try simp only [Act.put, List.setIfInBounds_toArray, List.set_cons_zero, List.set_cons_succ, List.getElem_toArray, List.getElem_cons_zero, List.getElem_cons_succ]
  refine wpAnyH_take (i := 13) (oi := _) (v := ?_) rfl (by kernel_rfl) (by kernel_rfl) (by kernel_rfl) (fun _ _ _ h => h) (Or.inl ⟨by rfl, ?hy14⟩) (by assumption) ?_
  case hy14 =>
    intro w9 hSw
    try dsimp only at hSw
    try simp only [List.getElem_toArray, List.getElem_cons_zero, List.getElem_cons_succ]
    go_simp
    try with_reducible rfl
  try simp only [Act.put, List.setIfInBounds_toArray, List.set_cons_zero, List.set_cons_succ, List.getElem_toArray, List.getElem_cons_zero, List.getElem_cons_succ]
  refine wpAnyH_take (i := 14) (oi := _) (v := ?_) rfl (by kernel_rfl) (by kernel_rfl) (by kernel_rfl) (fun _ _ _ h => h) (Or.inl ⟨by rfl, ?hy15⟩) (by assumption) ?_
  case hy15 =>
    intro w9 hSw
    try dsimp only at hSw
    try simp only [List.getElem_toArray, List.getElem_cons_zero, List.getElem_cons_succ]
    go_simp
    try with_reducible rfl
  try simp only [Act.put, List.setIfInBounds_toArray, List.set_cons_zero, List.set_cons_succ, List.getElem_toArray, List.getElem_cons_zero, List.getElem_cons_succ]
  refine wpAnyH_take (i := 15) (oi := _) (v := ?_) rfl (by kernel_rfl) (by kernel_rfl) (by kernel_rfl) (fun _ _ _ h => h) (Or.inl ⟨by rfl, ?hy16⟩) (by assumption) ?_
  case hy16 =>
    intro w9 hSw
    try dsimp only at hSw
    try simp only [List.getElem_toArray, List.getElem_cons_zero, List.getElem_cons_succ]
    go_simp
    try with_reducible rfl
  try simp only [Act.put, List.setIfInBounds_toArray, List.set_cons_zero, List.set_cons_succ, List.getElem_toArray, List.getElem_cons_zero, List.getElem_cons_succ]
  refine wpAnyH_take (i := 16) (oi := _) (v := ?_) rfl (by kernel_rfl) (by kernel_rfl) (by kernel_rfl) (fun _ _ _ h => h) (Or.inl ⟨by rfl, ?hy17⟩) (by assumption) ?_
  case hy17 =>
    intro w9 hSw
    try dsimp only at hSw
    try simp only [List.getElem_toArray, List.getElem_cons_zero, List.getElem_cons_succ]
    go_simp
    try with_reducible rfl
  try simp only [Act.put, List.setIfInBounds_toArray, List.set_cons_zero, List.set_cons_succ, List.getElem_toArray, List.getElem_cons_zero, List.getElem_cons_succ]
  refine wpAnyH_take (i := 17) (oi := _) (v := ?_) rfl (by kernel_rfl) (by kernel_rfl) (by kernel_rfl) (fun _ _ _ h => h) (Or.inl ⟨by rfl, ?hy18⟩) (by assumption) ?_
  case hy18 =>
    intro w9 hSw
    try dsimp only at hSw
    try simp only [List.getElem_toArray, List.getElem_cons_zero, List.getElem_cons_succ]
    go_simp
    try with_reducible rfl
  try simp only [Act.put, List.setIfInBounds_toArray, List.set_cons_zero, List.set_cons_succ, List.getElem_toArray, List.getElem_cons_zero, List.getElem_cons_succ]
  refine wpAnyH_take (i := 18) (oi := _) (v := ?_) rfl (by kernel_rfl) (by kernel_rfl) (by kernel_rfl) (fun _ _ _ h => h) (Or.inl ⟨by rfl, ?hy19⟩) (by assumption) ?_
  case hy19 =>
    intro w9 hSw
    try dsimp only at hSw
    try simp only [List.getElem_toArray, List.getElem_cons_zero, List.getElem_cons_succ]
    go_simp
    try with_reducible rfl
  try simp only [Act.put, List.setIfInBounds_toArray, List.set_cons_zero, List.set_cons_succ, List.getElem_toArray, List.getElem_cons_zero, List.getElem_cons_succ]
  refine wpAnyH_take (i := 19) (oi := _) (v := ?_) rfl (by kernel_rfl) (by kernel_rfl) (by kernel_rfl) (fun _ _ _ h => h) (Or.inl ⟨by rfl, ?hy20⟩) (by assumption) ?_
  case hy20 =>
    intro w9 hSw
    try dsimp only at hSw
    try simp only [List.getElem_toArray, List.getElem_cons_zero, List.getElem_cons_succ]
    go_simp
    try with_reducible rfl
  try simp only [Act.put, List.setIfInBounds_toArray, List.set_cons_zero, List.set_cons_succ, List.getElem_toArray, List.getElem_cons_zero, List.getElem_cons_succ]
  refine wpAnyH_take (i := 20) (oi := _) (v := ?_) rfl (by kernel_rfl) (by kernel_rfl) (by kernel_rfl) (fun _ _ _ h => h) (Or.inl ⟨by rfl, ?hy21⟩) (by assumption) ?_
  case hy21 =>
    intro w9 hSw
    try dsimp only at hSw
    try simp only [List.getElem_toArray, List.getElem_cons_zero, List.getElem_cons_succ]
    go_simp
    try with_reducible rfl
  try simp only [Act.put, List.setIfInBounds_toArray, List.set_cons_zero, List.set_cons_succ, List.getElem_toArray, List.getElem_cons_zero, List.getElem_cons_succ]
  refine wpAnyH_take (i := 21) (oi := _) (v := ?_) rfl (by kernel_rfl) (by kernel_rfl) (by kernel_rfl) (fun _ _ _ h => h) (Or.inl ⟨by rfl, ?hy22⟩) (by assumption) ?_
  case hy22 =>
    intro w9 hSw
    try dsimp only at hSw
    try simp only [List.getElem_toArray, List.getElem_cons_zero, List.getElem_cons_succ]
    go_simp
    try with_reducible rfl
  try simp only [Act.put, List.setIfInBounds_toArray, List.set_cons_zero, List.set_cons_succ, List.getElem_toArray, List.getElem_cons_zero, List.getElem_cons_succ]
  refine wpAnyH_take (i := 22) (oi := _) (v := ?_) rfl (by kernel_rfl) (by kernel_rfl) (by kernel_rfl) (fun _ _ _ h => h) (Or.inl ⟨by rfl, ?hy23⟩) (by assumption) ?_
  case hy23 =>
    intro w9 hSw
    try dsimp only at hSw
    try simp only [List.getElem_toArray, List.getElem_cons_zero, List.getElem_cons_succ]
    go_simp
    try with_reducible rfl
  try simp only [Act.put, List.setIfInBounds_toArray, List.set_cons_zero, List.set_cons_succ, List.getElem_toArray, List.getElem_cons_zero, List.getElem_cons_succ]
  refine wpAnyH_take (i := 23) (oi := _) (v := ?_) rfl (by kernel_rfl) (by kernel_rfl) (by kernel_rfl) (fun _ _ _ h => h) (Or.inl ⟨by rfl, ?hy24⟩) (by assumption) ?_
  case hy24 =>
    intro w9 hSw
    try dsimp only at hSw
    try simp only [List.getElem_toArray, List.getElem_cons_zero, List.getElem_cons_succ]
    go_simp
    try with_reducible rfl
  try simp only [Act.put, List.setIfInBounds_toArray, List.set_cons_zero, List.set_cons_succ, List.getElem_toArray, List.getElem_cons_zero, List.getElem_cons_succ]
  refine wpAnyH_done (by kernel_rfl) ?_ _
  as_aux_lemma =>
  go_wp2_with fail
  obtain ⟨st, hst⟩ : ∃ st : Wk, (⟨s1, s2, s3, s4, s5, s6, s7, s8⟩ : Wk) = st := ⟨_, rfl⟩
  have HST := Lib.hid hst
  have hstl : st.Lt := by rw [← hst]; exact ⟨l1, l2, l3, l4, l5, l6, l7, l8⟩
  have HSTL := Lib.hid hstl
  clear hst hstl
  go_loopw [6, 7, 8, 9, 10, 11, 12, 13, 39] (fun v6 v7 v8 v9 v10 v11 v12 v13 vi wr => ∃ (k n : Nat), vi = .int .i64 k ∧ k ≤ 64 ∧ wr = W3.drewN n ∧ v6 = .int .u32 ((turns K L st k).a : Int) ∧ v7 = .int .u32 ((turns K L st k).b : Int) ∧ v8 = .int .u32 ((turns K L st k).c : Int) ∧ v9 = .int .u32 ((turns K L st k).d : Int) ∧ v10 = .int .u32 ((turns K L st k).e : Int) ∧ v11 = .int .u32 ((turns K L st k).f : Int) ∧ v12 = .int .u32 ((turns K L st k).g : Int) ∧ v13 = .int .u32 ((turns K L st k).h : Int)) (fun _ _ _ _ _ _ _ _ vi _ => 64 - (intOf vi).toNat)
  case atStart => exact ⟨0, 1, rfl, by omega, rfl, by rw [← HST.out]; rfl, by rw [← HST.out]; rfl, by rw [← HST.out]; rfl, by rw [← HST.out]; rfl, by rw [← HST.out]; rfl, by rw [← HST.out]; rfl, by rw [← HST.out]; rfl, by rw [← HST.out]; rfl⟩
  case round =>
    obtain ⟨k, n, rfl, hk, rfl, rfl, rfl, rfl, rfl, rfl, rfl, rfl, rfl⟩ := hrel
    rcases Nat.lt_or_ge k 64 with hlt | hge
    · as_aux_lemma =>
      have hlt' : (k : Int) < 64 := by omega
      have hTl := turns_lt K L HSTL.out k
      have hnx : turns K L st (k + 1) = turn1 (turns K L st k) (K.getD k 0) (L.getD k 0) := rfl
      have hkc : (W3.drewN n).cell? ⟨1, k, none⟩ = some (.int .u32 ((K.getD k 0 : Nat) : Int)) := (HB03.out.cell (p := ⟨1, k, none⟩) hgr).trans (HKR.out k hlt)
      have hwc : (W3.drewN n).cell? ⟨wS.heap.size, k, none⟩ = some (.int .u32 ((L.getD k 0 : Nat) : Int)) := HARR.out.cell k (by rw [HLL.out]; exact hlt)
      have hkl := HKL.out k
      have hwl := HLB.out k
      have HNX := Lib.hid hnx
      generalize turns K L st k = T at *
      obtain ⟨ta, tb, tc, td, te, tf, tg, th⟩ := T
      obtain ⟨ua, ub, uc, ud, ue, uf, ug, uh⟩ := hTl
      simp only at ua ub uc ud ue uf ug uh ⊢
      generalize K.getD k 0 = kk at *
      generalize L.getD k 0 = ww at *
      have q1 := rotr_lt te 6 ue (by omega)
      have q2 := rotr_lt te 11 ue (by omega)
      have q3 := rotr_lt te 25 ue (by omega)
      have q4 := rotr_lt ta 2 ua (by omega)
      have q5 := rotr_lt ta 13 ua (by omega)
      have q6 := rotr_lt ta 22 ua (by omega)
      have x1 : bits .xor .u32 ((rotr te 6 : Nat) : Int) ((rotr te 11 : Nat) : Int) = ((rotr te 6 ^^^ rotr te 11 : Nat) : Int) := u32_xor_nat _ _ q1 q2
      have x2 : bits .xor .u32 ((rotr te 6 ^^^ rotr te 11 : Nat) : Int) ((rotr te 25 : Nat) : Int) = ((Sig1 te : Nat) : Int) := u32_xor_nat _ _ (xor_lt q1 q2) q3
      have x3 : bits .xor .u32 ((rotr ta 2 : Nat) : Int) ((rotr ta 13 : Nat) : Int) = ((rotr ta 2 ^^^ rotr ta 13 : Nat) : Int) := u32_xor_nat _ _ q4 q5
      have x4 : bits .xor .u32 ((rotr ta 2 ^^^ rotr ta 13 : Nat) : Int) ((rotr ta 22 : Nat) : Int) = ((Sig0 ta : Nat) : Int) := u32_xor_nat _ _ (xor_lt q4 q5) q6
      clear hnx
      go_wp2_with fail
      refine (rot_6 te ue _).mono ?_
      rintro e w7 ⟨rfl, rfl⟩
      go_wp2_with fail
      refine (rot_11 te ue _).mono ?_
      rintro e w7 ⟨rfl, rfl⟩
      go_wp2_with fail
      refine (rot_25 te ue _).mono ?_
      rintro e w7 ⟨rfl, rfl⟩
      go_upto_region 7 with fail
      have y1 : bits .and .u32 (te : Int) (tf : Int) = ((te &&& tf : Nat) : Int) := u32_and_nat _ _ ue uf
      have ntl : 4294967295 - te < 4294967296 := by omega
      have y2 : bits .and .u32 ((4294967295 - te : Nat) : Int) (tg : Int) = (((4294967295 - te) &&& tg : Nat) : Int) := u32_and_nat _ _ ntl ug
      have al : te &&& tf < 4294967296 := Nat.lt_of_le_of_lt Nat.and_le_left ue
      have bl : (4294967295 - te) &&& tg < 4294967296 := Nat.lt_of_le_of_lt Nat.and_le_right ug
      have y3 : bits .xor .u32 ((te &&& tf : Nat) : Int) (((4294967295 - te) &&& tg : Nat) : Int) = (((te &&& tf) ^^^ ((4294967295 - te) &&& tg) : Nat) : Int) := u32_xor_nat _ _ al bl
      refine wp_region_held_drew (S := fun w' => w'.cell? ⟨1, k, none⟩ = some (.int .u32 (kk : Int)) ∧ w'.cell? ⟨wS.heap.size, k, none⟩ = some (.int .u32 (ww : Int))) (by kernel_rfl) ⟨hkc, hwc⟩ (fun hHeld => ?_)
      refine wpAnyH_take (i := 0) (oi := _) (v := ?_) rfl (by kernel_rfl) (by kernel_rfl) (by kernel_rfl) (fun _ _ _ h => h) (Or.inl ⟨by rfl, ?hy25⟩) (by assumption) ?_
      case hy25 =>
        intro w9 hSw
        try dsimp only at hSw
        try simp only [List.getElem_toArray, List.getElem_cons_zero, List.getElem_cons_succ]
        go_simp
        try with_reducible rfl
      try simp only [Act.put, List.setIfInBounds_toArray, List.set_cons_zero, List.set_cons_succ, List.getElem_toArray, List.getElem_cons_zero, List.getElem_cons_succ]
      refine wpAnyH_take (i := 1) (oi := _) (v := ?_) rfl (by kernel_rfl) (by kernel_rfl) (by kernel_rfl) (fun _ _ _ h => h) (Or.inl ⟨by rfl, ?hy26⟩) (by assumption) ?_
      case hy26 =>
        intro w9 hSw
        try dsimp only at hSw
        try simp only [List.getElem_toArray, List.getElem_cons_zero, List.getElem_cons_succ]
        go_simp
        try with_reducible rfl
      try simp only [Act.put, List.setIfInBounds_toArray, List.set_cons_zero, List.set_cons_succ, List.getElem_toArray, List.getElem_cons_zero, List.getElem_cons_succ]
      refine wpAnyH_take (i := 2) (oi := _) (v := ?_) rfl (by kernel_rfl) (by kernel_rfl) (by kernel_rfl) (fun _ _ _ h => h) (Or.inl ⟨by rfl, ?hy27⟩) (by assumption) ?_
      case hy27 =>
        intro w9 hSw
        try dsimp only at hSw
        try simp only [List.getElem_toArray, List.getElem_cons_zero, List.getElem_cons_succ]
        go_simp
        try with_reducible rfl
      try simp only [Act.put, List.setIfInBounds_toArray, List.set_cons_zero, List.set_cons_succ, List.getElem_toArray, List.getElem_cons_zero, List.getElem_cons_succ]
      refine wpAnyH_take (i := 3) (oi := _) (v := ?_) rfl (by kernel_rfl) (by kernel_rfl) (by kernel_rfl) (fun _ _ _ h => h) (Or.inl ⟨by rfl, ?hy28⟩) (by assumption) ?_
      case hy28 =>
        intro w9 hSw
        try dsimp only at hSw
        try simp only [List.getElem_toArray, List.getElem_cons_zero, List.getElem_cons_succ]
        go_simp
        try with_reducible rfl
      try simp only [Act.put, List.setIfInBounds_toArray, List.set_cons_zero, List.set_cons_succ, List.getElem_toArray, List.getElem_cons_zero, List.getElem_cons_succ]
      refine wpAnyH_take (i := 4) (oi := _) (v := ?_) rfl (by kernel_rfl) (by kernel_rfl) (by kernel_rfl) (fun _ _ _ h => h) (Or.inl ⟨by rfl, ?hy29⟩) (by assumption) ?_
      case hy29 =>
        intro w9 hSw
        try dsimp only at hSw
        try simp only [List.getElem_toArray, List.getElem_cons_zero, List.getElem_cons_succ]
        go_simp
        try with_reducible rfl
      try simp only [Act.put, List.setIfInBounds_toArray, List.set_cons_zero, List.set_cons_succ, List.getElem_toArray, List.getElem_cons_zero, List.getElem_cons_succ]
      refine wpAnyH_take (i := 5) (oi := _) (v := ?_) rfl (by kernel_rfl) (by kernel_rfl) (by kernel_rfl) (fun _ _ _ h => h) (Or.inl ⟨by rfl, ?hy30⟩) (by assumption) ?_
      case hy30 =>
        intro w9 hSw
        try dsimp only at hSw
        try simp only [List.getElem_toArray, List.getElem_cons_zero, List.getElem_cons_succ]
        go_simp
        try with_reducible rfl
      try simp only [Act.put, List.setIfInBounds_toArray, List.set_cons_zero, List.set_cons_succ, List.getElem_toArray, List.getElem_cons_zero, List.getElem_cons_succ]
      refine wpAnyH_take (i := 6) (oi := _) (v := ?_) rfl (by kernel_rfl) (by kernel_rfl) (by kernel_rfl) (fun _ _ _ h => h) (Or.inl ⟨by rfl, ?hy31⟩) (by assumption) ?_
      case hy31 =>
        intro w9 hSw
        try dsimp only at hSw
        try simp only [List.getElem_toArray, List.getElem_cons_zero, List.getElem_cons_succ]
        go_simp
        try with_reducible rfl
      try simp only [Act.put, List.setIfInBounds_toArray, List.set_cons_zero, List.set_cons_succ, List.getElem_toArray, List.getElem_cons_zero, List.getElem_cons_succ]
      refine wpAnyH_take (i := 7) (oi := _) (v := (.int .u32 ((4294967295 - te : Nat) : Int))) rfl (by kernel_rfl) (by kernel_rfl) (by kernel_rfl) (fun _ _ _ h => h) (Or.inl ⟨by rfl, ?hy32⟩) (by assumption) ?_
      case hy32 =>
        intro w9 hSw
        try dsimp only at hSw
        try simp only [List.getElem_toArray, List.getElem_cons_zero, List.getElem_cons_succ]
        go_simp
        exact flip32 te ue
      try simp only [Act.put, List.setIfInBounds_toArray, List.set_cons_zero, List.set_cons_succ, List.getElem_toArray, List.getElem_cons_zero, List.getElem_cons_succ]
      refine wpAnyH_take (i := 8) (oi := _) (v := ?_) rfl (by kernel_rfl) (by kernel_rfl) (by kernel_rfl) (fun _ _ _ h => h) (Or.inl ⟨by rfl, ?hy33⟩) (by assumption) ?_
      case hy33 =>
        intro w9 hSw
        try dsimp only at hSw
        try simp only [List.getElem_toArray, List.getElem_cons_zero, List.getElem_cons_succ]
        go_simp
        try with_reducible rfl
      try simp only [Act.put, List.setIfInBounds_toArray, List.set_cons_zero, List.set_cons_succ, List.getElem_toArray, List.getElem_cons_zero, List.getElem_cons_succ]
      refine wpAnyH_take (i := 9) (oi := _) (v := ?_) rfl (by kernel_rfl) (by kernel_rfl) (by kernel_rfl) (fun _ _ _ h => h) (Or.inl ⟨by rfl, ?hy34⟩) (by assumption) ?_
      case hy34 =>
        intro w9 hSw
        try dsimp only at hSw
        try simp only [List.getElem_toArray, List.getElem_cons_zero, List.getElem_cons_succ]
        go_simp
        try with_reducible rfl
      try simp only [Act.put, List.setIfInBounds_toArray, List.set_cons_zero, List.set_cons_succ, List.getElem_toArray, List.getElem_cons_zero, List.getElem_cons_succ]
      refine wpAnyH_take (i := 10) (oi := _) (v := ?_) rfl (by kernel_rfl) (by kernel_rfl) (by kernel_rfl) (fun _ _ _ h => h) (Or.inl ⟨by rfl, ?hy35⟩) (by assumption) ?_
      case hy35 =>
        intro w9 hSw
        try dsimp only at hSw
        try simp only [List.getElem_toArray, List.getElem_cons_zero, List.getElem_cons_succ]
        go_simp
        try with_reducible rfl
      try simp only [Act.put, List.setIfInBounds_toArray, List.set_cons_zero, List.set_cons_succ, List.getElem_toArray, List.getElem_cons_zero, List.getElem_cons_succ]
      refine wpAnyH_take (i := 11) (oi := _) (v := ?_) rfl (by kernel_rfl) (by kernel_rfl) (by kernel_rfl) (fun _ _ _ h => h) (Or.inl ⟨by rfl, ?hy36⟩) (by assumption) ?_
      case hy36 =>
        intro w9 hSw
        try dsimp only at hSw
        try simp only [List.getElem_toArray, List.getElem_cons_zero, List.getElem_cons_succ]
        go_simp
        try with_reducible rfl
      try simp only [Act.put, List.setIfInBounds_toArray, List.set_cons_zero, List.set_cons_succ, List.getElem_toArray, List.getElem_cons_zero, List.getElem_cons_succ]
      refine wpAnyH_take (i := 12) (oi := _) (v := ?_) rfl (by kernel_rfl) (by kernel_rfl) (by kernel_rfl) (fun _ _ _ h => h) (Or.inl ⟨by rfl, ?hy37⟩) (by assumption) ?_
      case hy37 =>
        intro w9 hSw
        try dsimp only at hSw
        try simp only [List.getElem_toArray, List.getElem_cons_zero, List.getElem_cons_succ]
        go_simp
        try with_reducible rfl
      try simp only [Act.put, List.setIfInBounds_toArray, List.set_cons_zero, List.set_cons_succ, List.getElem_toArray, List.getElem_cons_zero, List.getElem_cons_succ]
      refine wpAnyH_take (i := 13) (oi := _) (v := ?_) rfl (by kernel_rfl) (by kernel_rfl) (by kernel_rfl) (fun _ _ _ h => h) (Or.inl ⟨by rfl, ?hy38⟩) (by assumption) ?_
      case hy38 =>
        intro w9 hSw
        try dsimp only at hSw
        try simp only [List.getElem_toArray, List.getElem_cons_zero, List.getElem_cons_succ]
        go_simp
        try with_reducible rfl
      try simp only [Act.put, List.setIfInBounds_toArray, List.set_cons_zero, List.set_cons_succ, List.getElem_toArray, List.getElem_cons_zero, List.getElem_cons_succ]
      refine wpAnyH_take (i := 14) (oi := _) (v := ?_) rfl (by kernel_rfl) (by kernel_rfl) (by kernel_rfl) (fun _ _ _ h => h) (Or.inl ⟨by rfl, ?hy39⟩) (by assumption) ?_
      case hy39 =>
        intro w9 hSw
        try dsimp only at hSw
        try simp only [List.getElem_toArray, List.getElem_cons_zero, List.getElem_cons_succ]
        go_simp
        try with_reducible rfl
      try simp only [Act.put, List.setIfInBounds_toArray, List.set_cons_zero, List.set_cons_succ, List.getElem_toArray, List.getElem_cons_zero, List.getElem_cons_succ]
      refine wpAnyH_take (i := 15) (oi := _) (v := ?_) rfl (by kernel_rfl) (by kernel_rfl) (by kernel_rfl) (fun _ _ _ h => h) (Or.inl ⟨by rfl, ?hy40⟩) (by assumption) ?_
      case hy40 =>
        intro w9 hSw
        try dsimp only at hSw
        try simp only [List.getElem_toArray, List.getElem_cons_zero, List.getElem_cons_succ]
        go_simp
        try with_reducible rfl
      try simp only [Act.put, List.setIfInBounds_toArray, List.set_cons_zero, List.set_cons_succ, List.getElem_toArray, List.getElem_cons_zero, List.getElem_cons_succ]
      refine wpAnyH_take (i := 16) (oi := _) (v := ?_) rfl (by kernel_rfl) (by kernel_rfl) (by kernel_rfl) (fun _ _ _ h => h) (Or.inl ⟨by rfl, ?hy41⟩) (by assumption) ?_
      case hy41 =>
        intro w9 hSw
        try dsimp only at hSw
        try simp only [List.getElem_toArray, List.getElem_cons_zero, List.getElem_cons_succ]
        go_simp
        try with_reducible rfl
      try simp only [Act.put, List.setIfInBounds_toArray, List.set_cons_zero, List.set_cons_succ, List.getElem_toArray, List.getElem_cons_zero, List.getElem_cons_succ]
      refine wpAnyH_take (i := 17) (oi := _) (v := ?_) rfl (by kernel_rfl) (by kernel_rfl) (by kernel_rfl) (fun _ _ _ h => h) (Or.inl ⟨by rfl, ?hy42⟩) (by assumption) ?_
      case hy42 =>
        intro w9 hSw
        try dsimp only at hSw
        try simp only [List.getElem_toArray, List.getElem_cons_zero, List.getElem_cons_succ]
        go_simp
        try with_reducible rfl
      try simp only [Act.put, List.setIfInBounds_toArray, List.set_cons_zero, List.set_cons_succ, List.getElem_toArray, List.getElem_cons_zero, List.getElem_cons_succ]
      refine wpAnyH_take (i := 18) (oi := _) (v := ?_) rfl (by kernel_rfl) (by kernel_rfl) (by kernel_rfl) (fun _ _ _ h => h) (Or.inl ⟨by rfl, ?hy43⟩) (by assumption) ?_
      case hy43 =>
        intro w9 hSw
        try dsimp only at hSw
        try simp only [List.getElem_toArray, List.getElem_cons_zero, List.getElem_cons_succ]
        go_simp
        try with_reducible rfl
      try simp only [Act.put, List.setIfInBounds_toArray, List.set_cons_zero, List.set_cons_succ, List.getElem_toArray, List.getElem_cons_zero, List.getElem_cons_succ]
      refine wpAnyH_take (i := 19) (oi := _) (v := ?_) rfl (by kernel_rfl) (by kernel_rfl) (by kernel_rfl) (fun _ _ _ h => h) (Or.inl ⟨by rfl, ?hy44⟩) (by assumption) ?_
      case hy44 =>
        intro w9 hSw
        try dsimp only at hSw
        try simp only [List.getElem_toArray, List.getElem_cons_zero, List.getElem_cons_succ]
        go_simp
        try with_reducible rfl
      try simp only [Act.put, List.setIfInBounds_toArray, List.set_cons_zero, List.set_cons_succ, List.getElem_toArray, List.getElem_cons_zero, List.getElem_cons_succ]
      refine wpAnyH_take (i := 20) (oi := _) (v := (.int .u32 ((tOne ⟨ta, tb, tc, td, te, tf, tg, th⟩ kk ww : Nat) : Int))) rfl (by kernel_rfl) (by kernel_rfl) (by kernel_rfl) (fun _ _ _ h => h) (Or.inl ⟨by rfl, ?hy45⟩) (by assumption) ?_
      case hy45 =>
        intro w9 hSw
        try dsimp only at hSw
        try simp only [List.getElem_toArray, List.getElem_cons_zero, List.getElem_cons_succ]
        go_simp
        exact sum_one ta tb tc td te tf tg th kk ww
      try simp only [Act.put, List.setIfInBounds_toArray, List.set_cons_zero, List.set_cons_succ, List.getElem_toArray, List.getElem_cons_zero, List.getElem_cons_succ]
      refine wpAnyH_done (by kernel_rfl) ?_ _
      have o1 : tOne ⟨ta, tb, tc, td, te, tf, tg, th⟩ kk ww < 4294967296 := Nat.mod_lt _ (by omega)
      have o2 : tTwo ⟨ta, tb, tc, td, te, tf, tg, th⟩ < 4294967296 := Nat.mod_lt _ (by omega)
      have hn1 : turn1 ⟨ta, tb, tc, td, te, tf, tg, th⟩ kk ww = ⟨(tOne ⟨ta, tb, tc, td, te, tf, tg, th⟩ kk ww + tTwo ⟨ta, tb, tc, td, te, tf, tg, th⟩) % 4294967296, ta, tb, tc, (td + tOne ⟨ta, tb, tc, td, te, tf, tg, th⟩ kk ww) % 4294967296, te, tf, tg⟩ := rfl
      have g1 : bits .and .u32 (ta : Int) (tb : Int) = ((ta &&& tb : Nat) : Int) := u32_and_nat _ _ ua ub
      have g2 : bits .and .u32 (ta : Int) (tc : Int) = ((ta &&& tc : Nat) : Int) := u32_and_nat _ _ ua uc
      have g3 : bits .and .u32 (tb : Int) (tc : Int) = ((tb &&& tc : Nat) : Int) := u32_and_nat _ _ ub uc
      have a1 : ta &&& tb < 4294967296 := Nat.lt_of_le_of_lt Nat.and_le_left ua
      have a2 : ta &&& tc < 4294967296 := Nat.lt_of_le_of_lt Nat.and_le_left ua
      have a3 : tb &&& tc < 4294967296 := Nat.lt_of_le_of_lt Nat.and_le_left ub
      have g4 : bits .xor .u32 ((ta &&& tb : Nat) : Int) ((ta &&& tc : Nat) : Int) = (((ta &&& tb) ^^^ (ta &&& tc) : Nat) : Int) := u32_xor_nat _ _ a1 a2
      have g5 : bits .xor .u32 (((ta &&& tb) ^^^ (ta &&& tc) : Nat) : Int) ((tb &&& tc : Nat) : Int) = (((ta &&& tb) ^^^ (ta &&& tc) ^^^ (tb &&& tc) : Nat) : Int) := u32_xor_nat _ _ (xor_lt a1 a2) a3
      have g6 : (((Sig0 ta : Nat) : Int) + (((ta &&& tb) ^^^ (ta &&& tc) ^^^ (tb &&& tc) : Nat) : Int)) % 4294967296 = ((tTwo ⟨ta, tb, tc, td, te, tf, tg, th⟩ : Nat) : Int) := by
        unfold tTwo
        simp only
        omega
      generalize tOne ⟨ta, tb, tc, td, te, tf, tg, th⟩ kk ww = p1 at *
      generalize tTwo ⟨ta, tb, tc, td, te, tf, tg, th⟩ = p2 at *
      have g7 : ((td : Int) + (p1 : Int)) % 4294967296 = (((td + p1) % 4294967296 : Nat) : Int) := by omega
      have g8 : ((p1 : Int) + (p2 : Int)) % 4294967296 = (((p1 + p2) % 4294967296 : Nat) : Int) := by omega
      have HN1 := Lib.hid hn1
      clear hn1 y1 y2 y3 x1 x2
      go_wp2_with fail
      refine (rot_2 ta ua _).mono ?_
      rintro e w7 ⟨rfl, rfl⟩
      go_wp2_with fail
      refine (rot_13 ta ua _).mono ?_
      rintro e w7 ⟨rfl, rfl⟩
      go_wp2_with fail
      refine (rot_22 ta ua _).mono ?_
      rintro e w7 ⟨rfl, rfl⟩
      go_wp2_with fail
      go_roundw
      case rel =>
        refine ⟨k + 1, n + 1, by go_num, hlt, rfl, ?_⟩
        rw [HNX.out, HN1.out]
        exact ⟨rfl, rfl, rfl, rfl, rfl, rfl, rfl, rfl⟩
      case measure => simp [intOf]; omega
    · have hk64 : k = 64 := by omega
      have hki : (k : Int) = 64 := by omega
      as_aux_lemma =>
      have hTl := turns_lt K L HSTL.out k
      have hfin := HPA.out st
      rw [← hk64] at hfin
      have HFIN := Lib.hid hfin
      have HKI := Lib.hid hki
      generalize turns K L st k = U at *
      have HUL := Lib.hid hTl
      have hidx := fun (j : Nat) (hj : j < 8) (W : World) => index_eight U j hj W
      have HIDX := Lib.hid hidx
      have hst0 : (W3.drewN n).heap[w.heap.size]? = some (.cells (words (part st U 0)).toArray 47 (0, 0)) := by
        rw [part_zero, ← HST.out]
        exact HH22.out
      have HST0 := Lib.hid hst0
      have hval : U.val = .agg #[.int .u32 (U.a : Int), .int .u32 (U.b : Int), .int .u32 (U.c : Int), .int .u32 (U.d : Int), .int .u32 (U.e : Int), .int .u32 (U.f : Int), .int .u32 (U.g : Int), .int .u32 (U.h : Int)] := rfl
      have HVAL := Lib.hid hval
      have hnl : ¬ (k : Int) < 64 := by omega
      clear hTl hfin hidx hst0 hval hk64 hki
      go_wp2_with (refine wpList_build_eight rfl U [(0, .tmp 104), (1, .tmp 105), (2, .tmp 106), (3, .tmp 107), (4, .tmp 108), (5, .tmp 109), (6, .tmp 110), (7, .tmp 111)] rfl rfl ?_)
      go_loopw [19, 20, 113] (fun v19 v20 vi wr => ∃ (k : Nat), vi = .int .i64 k ∧ k ≤ 8 ∧ wr.heap[w.heap.size]? = some (.cells (words (part st U k)).toArray 47 (0, 0)) ∧ wr.heap[w.heap.size + 1]? = some (.cells #[.int .u32 0, .int .u32 0, .int .u32 0, .int .u32 0, .int .u32 0, .int .u32 0, .int .u32 0, .int .u32 0] 47 (0, 0)) ∧ Below w.heap.size w wr) (fun _ _ vi _ => 8 - (intOf vi).toNat)
      case atStart => exact ⟨0, rfl, by omega, HST0.out, HH42.out, below_drewN' HB03.out n⟩
      case round =>
        obtain ⟨j, rfl, hj, hst, hz, hb⟩ := hrel
        rcases Nat.lt_or_ge j 8 with hlt | hge2
        · have hlt' : (j : Int) < 8 := by omega
          have hix : (Instr.index 47 U.val (.int .i64 (j : Int))).run Tryd.prog wr = .ok (.int .u32 ((U.list.getD j 0 : Nat) : Int)) wr := HIDX.out j hlt wr
          have hcell : wr.cell? ⟨w.heap.size, j, none⟩ = some (.int .u32 ((st.list.getD j 0 : Nat) : Int)) := by
            have h1 := (Arr.of_whole hst).cell j (by rw [part_len]; exact hlt)
            rw [part_get _ _ _ _ hlt] at h1
            unfold partAt at h1
            rw [if_neg (by omega)] at h1
            exact h1
          have hfz : wr.frozen? ⟨w.heap.size, j, none⟩ = false := (Arr.of_whole hst).free j
          have hsl := list_lt HSTL.out j
          have hul := list_lt HUL.out j
          have hps := part_step st U j hlt
          generalize st.list.getD j 0 = p1 at *
          obtain ⟨p2, hp2⟩ : ∃ p2, U.list.getD j 0 = p2 := ⟨_, rfl⟩
          rw [hp2] at hps hul
          have HP2 := Lib.hid hp2
          obtain ⟨sm, hsm⟩ : ∃ sm, (p1 + p2) % 4294967296 = sm := ⟨_, rfl⟩
          rw [hsm] at hps
          have hsum : ((p1 : Int) + (p2 : Int)) % 4294967296 = (sm : Int) := by omega
          have HPS := Lib.hid hps
          have HS := Lib.hid hst
          have HZ := Lib.hid hz
          have HB := Lib.hid hb
          clear hst hz hb hps hp2 hix hsm
          go_wp2_with (refine wpList_index_eight rfl (.tmp 112) (.tmp 113) rfl U j hlt rfl rfl p2 HP2.out ?_)
          go_roundw
          case rel =>
            refine ⟨j + 1, by go_num, hlt, ?_, ?_, HB.out.setCell (Nat.le_refl _) _⟩
            · rw [heap_setCell_same _ _ _ _ _ _ HS.out, HPS.out]
            · exact (Below.heap_setCell _ _ _ _ (by show w.heap.size + 1 ≠ w.heap.size; omega)).trans HZ.out
          case measure => simp [intOf]; omega
        · obtain rfl : j = 8 := by omega
          have HS := Lib.hid hst
          have HZ := Lib.hid hz
          have HB := Lib.hid hb
          have hi8 : (Tryd.prog.info? 47).map (·.size) = some (words (part st U 8)).toArray.size := by
            rw [show (words (part st U 8)).toArray.size = 8 by simp [words, part_len]]
            kernel_rfl
          have hone8 : (words (part st U 8)).toArray.all (·.oneCell') = true := all_oneCell_toArray (fun v hv => by
            obtain ⟨x, _, rfl⟩ := List.mem_map.1 hv
            rfl)
          have hth : wr.there (w.heap.size + 1) 0 (words (part st U 8)).toArray.size := fun i hi => by
            have h1 : i < 8 := by simpa [words, part_len] using hi
            rw [Nat.zero_add]
            constructor
            · rw [World.cell?, hz]
              simp [h1]
            · rw [World.frozen?, hz]
              simp
          have HI8 := Lib.hid hi8
          have HONE8 := Lib.hid hone8
          have HTH := Lib.hid hth
          have hsz8 : (words (part st U 8)).toArray.size = 8 := by simp [words, part_len]
          have HSZ8 := Lib.hid hsz8
          generalize hc8 : (words (part st U 8)).toArray = c8 at *
          have HC8 := Lib.hid hc8
          have hnl2 : ¬ ((8 : Nat) : Int) < 8 := by decide
          clear hst hz hb hi8 hone8 hth hsz8 hc8
          go_wp2_with (first | (refine wpList_load_row rfl 47 (.tmp 2) rfl w.heap.size rfl 47 c8 (0, 0) _ HS.out Tryd.underlying47 rfl HI8.out ?_) | (refine wpList_store_mid rfl 47 (.tmp 4) (.tmp 124) rfl (w.heap.size + 1) 0 c8 rfl rfl HTH.out HI8.out HONE8.out ?_))
          have hb9 : Below w.heap.size w (wr.setCells (w.heap.size + 1) 0 c8.toList) := below_setCellsC (by omega) _ _ _ HB.out
          have hh9 := heap_setCells_whole (wr := wr) (ws := c8) HZ.out (by rw [HSZ8.out]; rfl)
          have hf := HFIN.out
          rw [HST.out, ← hf]
          exact bodyPost_ret (v := .agg c8) (results_cell_row rfl _ _ (w.heap.size + 1) 47 c8 (0, 0) _ rfl hh9 Tryd.underlying47 rfl HI8.out) rfl ⟨rfl, hb9⟩
end Go.Proofs.YtjopfhmloklhdaaDoor
