/-
  One number put into a row of the call's own (slices.Insert at uint64, one element).
-/
import Derived.Test.YtfgfamafjkjakaaDotFind
import Derived.Test.YtfgfamafjkjakaaAnyM
import Derived.Lib.AppendZeros
import Derived.Lib.AppendZerosOnto
import Derived.Lib.Overlaps
import Derived.Laws.CopyRow
import Derived.Laws.Externs
import Derived.Deep.Cut
namespace Go.Proofs.Ytfgfamafjkjakaa
open Go.ChangeShapes Go.WideShapes Go.ChangeAt Go.RowKit Go.Deep
set_option linter.unusedVariables false
set_option linter.unusedSimpArgs false
section
variable {P : Program}
/-- copy, as a step of a region that draws. -/
theorem step_copy_rowK {ops : Array Oper} {o : Oper} {a : Act} {w : World} {K : Act → World → Prop} {Q : Exit → Act → World → Prop} {E : Prop} (hgd : o.guard = none) (d s : Operand) (dT sT : TypeId)
    (ho : o.op = .call { callee := .builtin .copy, args := #[d, s], argTypes := #[dT, sT] }) (elem : TypeId) (hu : P.underlying dT = some (.slice elem)) (hsz : (P.info? elem).map (·.size) = some 1)
    (g off dLen dCap : Nat) (ad : Addr) (sLen sCap : Nat) (hd : a.eval d = .slice (some ⟨g, off, none⟩) dLen dCap) (hs : a.eval s = .slice (some ad) sLen sCap)
    (cur : Array Value) (t : TypeId) (hg : w.heap[g]? = some (.cells cur t (0, 0))) (cs : List Value) (hn : cs.length = Nat.min sLen dLen)
    (hsrc : ∀ j v, cs[j]? = some v → w.cell? (ad.add j) = some v) (hfit : off + cs.length ≤ cur.size) (h1 : ∀ v ∈ cs, v.oneCell' = true)
    (h : K (a.put o.dst (goInt cs.length)) (w.setRow g (cur.toList.take off ++ cs ++ cur.toList.drop (off + cs.length)).toArray)) :
    if Region.wanted o (yielded ops a.tmps) = true then Oper.wp P o a w K Q else E := by
  have hw : Region.wanted o (yielded ops a.tmps) = true := by simp [Region.wanted, hgd]
  rw [if_pos hw]
  have hrun := run_copy_row (P := P) w dT sT o.type elem g off dLen dCap ad sLen sCap cur t cs hu hsz hg hn hsrc hfit h1
  unfold Oper.wp
  simp [execOp, ho, resolve, invoke, builtin, hd, hs, hrun, Result.andThen]
  rw [List.append_assoc] at h
  exact h
theorem wpList_copy_rowK {w : World} {ops : Array Oper} {rest : List Oper} {o : Oper} {a : Act} {Q : Exit → Act → World → Prop} (hgd : o.guard = none) (d s : Operand) (dT sT : TypeId)
    (ho : o.op = .call { callee := .builtin .copy, args := #[d, s], argTypes := #[dT, sT] }) (elem : TypeId) (hu : P.underlying dT = some (.slice elem)) (hsz : (P.info? elem).map (·.size) = some 1)
    (g off dLen dCap : Nat) (ad : Addr) (sLen sCap : Nat) (hd : a.eval d = .slice (some ⟨g, off, none⟩) dLen dCap) (hs : a.eval s = .slice (some ad) sLen sCap)
    (cur : Array Value) (t : TypeId) (hg : w.heap[g]? = some (.cells cur t (0, 0))) (cs : List Value) (hn : cs.length = Nat.min sLen dLen)
    (hsrc : ∀ j v, cs[j]? = some v → w.cell? (ad.add j) = some v) (hfit : off + cs.length ≤ cur.size) (h1 : ∀ v ∈ cs, v.oneCell' = true)
    (h : wpList P ops Q rest (a.put o.dst (goInt cs.length)) (w.setRow g (cur.toList.take off ++ cs ++ cur.toList.drop (off + cs.length)).toArray)) : wpList P ops Q (o :: rest) a w :=
  wpList_step fun K hK => step_copy_rowK hgd d s dT sT ho elem hu hsz g off dLen dCap ad sLen sCap hd hs cur t hg cs hn hsrc hfit h1 (hK _ _ h)
end
theorem size_n64 (W : World) : (sizeOf (Try.prog.elem 51)).run Try.prog W = .ok 1 W := by kernel_rfl
theorem size_e64 (W : World) : (sizeOf 30).run Try.prog W = .ok 1 W := by kernel_rfl
theorem one_n64 : (Try.prog.info? 30).map (·.size) = some 1 := by kernel_rfl
set_option maxRecDepth 100000 in
theorem run_from (g o n c i : Nat) (h1 : i ≤ n) (h3 : i < c) (k : Int) (hk : k = (i : Int)) (W : World) : (Instr.slice 51 (.slice (some ⟨g, o, none⟩) n c) (some (.int .i64 k)) none none).run Try.prog W = .ok (.slice (some ⟨g, o + i, none⟩) (n - i) (c - i)) W := by
  subst hk
  rw [run_slice_l (P := Try.prog) (w := W) (t := 51) (a := some ⟨g, o, none⟩) (len := n) (cap := c) Try.underlying51 .i64 (i : Int) (by omega) (by omega), size_n64]
  simp only [Result.andThen, sliced, Int.toNat_natCast]
  rw [if_neg (by omega), Nat.mul_one]
  simp [add_plain]
set_option maxRecDepth 100000 in
theorem run_upto (p : Option Addr) (n c i : Nat) (h1 : i ≤ c) (k : Int) (hk : k = (i : Int)) (hz : 0 < c) (W : World) : (Instr.slice 51 (.slice p n c) none (some (.int .i64 k)) none).run Try.prog W = .ok (.slice p i c) W := by
  subst hk
  rw [run_slice_h (P := Try.prog) (w := W) (t := 51) (a := p) (len := n) (cap := c) Try.underlying51 .i64 (i : Int) (by omega) (by omega), size_n64]
  simp only [Result.andThen, sliced, Int.toNat_natCast]
  cases p with
  | none => simp
  | some a =>
    rw [if_neg (by omega)]
    simp [Addr.add]
set_option maxRecDepth 100000 in
theorem run_apart (w : World) (gv g o : Nat) (lb cb : Nat) (x : Nat) (C : Array Value) (hne : gv ≠ g) (hv : w.heap[gv]? = some (.cells #[.int .u64 (x : Int)] 30 (0, 0))) (hg : w.heap[g]? = some (.cells C 30 (0, 0))) (hC : 0 < C.size) :
    (callFunc 55 #[.slice (some ⟨gv, 0, none⟩) 1 1, .slice (some ⟨g, o, none⟩) lb cb]).run Try.prog w = .ok (.value (.bool false)) w := by
  rw [run_callFunc_extern Try.func55 (by kernel_rfl) (by kernel_rfl) (by kernel_rfl) (e := Extern.SlicesOverlaps.overlaps #[51, 51] #[4]) (by kernel_rfl),
    Lib.run_overlaps_apart w 51 4 30 Try.underlying51 1 size_e64 ⟨gv, 0, none⟩ ⟨g, o, none⟩ 1 1 lb cb hne 30 30 1 C.size (by simp [World.shape?, hv]) (by simp [World.shape?, hg]) (by omega) (by simp [World.frozen?, hv]) (by simp [World.frozen?, hv])]
  rfl
theorem ins_row {α : Type} (X Y : List α) (x : α) (i : Nat) (h : i + 1 ≤ X.length) : (X.take (i + 1) ++ Y).take i ++ [x] ++ (X.take (i + 1) ++ Y).drop (i + 1) = X.take i ++ [x] ++ Y := by
  have hl : (X.take (i + 1)).length = i + 1 := by rw [List.length_take]; omega
  rw [List.take_append_of_le_length (by omega), List.take_take, Nat.min_eq_left (by omega), List.drop_left' hl]
theorem flat_len1 (l : List Nat) : (flatK (encN .u64) l).length = l.length := by rw [flatK_len]; exact Nat.mul_one _
theorem flat_drop (l : List Nat) (i : Nat) : (flatK (encN .u64) l).drop i = flatK (encN .u64) (l.drop i) := by
  unfold flatK encN
  induction l generalizing i with
  | nil => simp
  | cons x r ih =>
    cases i with
    | zero => simp
    | succ i => simpa using ih i
theorem flat_take (l : List Nat) (i : Nat) : (flatK (encN .u64) l).take i = flatK (encN .u64) (l.take i) := by
  unfold flatK encN
  induction l generalizing i with
  | nil => simp
  | cons x r ih =>
    cases i with
    | zero => simp
    | succ i => simpa using ih i
/-- What the new row holds: l with x at place i. -/
def putAt (l : List Nat) (i x : Nat) : List Nat := l.take i ++ x :: l.drop i
theorem putAt_len (l : List Nat) (i x : Nat) : (putAt l i x).length = l.length + 1 := by
  unfold putAt
  rw [List.length_append, List.length_cons, List.length_take, List.length_drop]
  omega
theorem putAt_flat (l : List Nat) (i x : Nat) : flatK (encN .u64) (putAt l i x) = (flatK (encN .u64) l).take i ++ [.int .u64 (x : Int)] ++ (flatK (encN .u64) l).drop i := by
  unfold putAt
  rw [flatK_append, flatK_cons, flat_take, flat_drop, List.append_assoc]
  rfl
set_option maxRecDepth 100000 in
set_option maxHeartbeats 4000000 in
theorem Ins_end (v : Value) (l : List Nat) (x gv : Nat) (w : World) (B : Nat) (hB : B ≤ w.heap.size) (hv : OwnK w B 30 (encN .u64) v l) (hl : l.length ≤ 100000000) (hx : w.heap[gv]? = some (.cells #[.int .u64 (x : Int)] 30 (0, 0))) :
    Calls Try.prog 46 #[v, .int .i64 (l.length : Int), .slice (some ⟨gv, 0, none⟩) 1 1] w fun e w' => ∃ v', e = .returned v' ∧ OwnK w' B 30 (encN .u64) v' (putAt l l.length x) ∧ Below B w w' := by
  obtain ⟨p, cap, rfl, h1, h2⟩ := hv.sl
  have hcI : (cap : Int) ≤ 9223372036854775807 := by unfold maxLen at h2; omega
  have hlb : l.length ≤ 100000000 := hl
  have hps : ∃ q k, ∀ W, (Instr.slice 51 (.slice p l.length cap) (some (.int .i64 (l.length : Int))) none none).run Try.prog W = .ok (.slice q 0 k) W := by
    refine ⟨if cap = l.length then p else p.map fun x => x.add (l.length * 1), cap - l.length, fun W => ?_⟩
    rw [run_slice_l (P := Try.prog) (w := W) (t := 51) (a := p) (len := l.length) (cap := cap) Try.underlying51 .i64 (l.length : Int) (by omega) (by omega), size_n64]
    simp only [Result.andThen, sliced, Int.toNat_natCast, Nat.sub_self]
  obtain ⟨q, k, hps⟩ := hps
  have hy : HasK w (encN .u64) (.slice (some ⟨gv, 0, none⟩) 1 1) [x] := ⟨_, 1, gv, 0, rfl, Nat.le_refl _, by decide, fun _ => ⟨rfl, lt_of_block hx⟩, fun i hi j u hu => by
    have hi0 : i = 0 := by simpa using hi
    subst hi0
    cases j with
    | zero => simp [encN] at hu; subst hu; simp [World.cell?, hx]
    | succ j => simp [encN] at hu⟩
  have hpa : putAt l l.length x = l ++ [x] := by unfold putAt; simp
  rw [hpa]
  obtain ⟨n, hn⟩ : ∃ n, l.length = n := ⟨_, rfl⟩
  have HO := Lib.hid hv
  have HY := Lib.hid hy
  rw [hn] at HO h1 hps hl ⊢
  clear hv hy hpa hx hn h2
  go_enter Try.func46, Try.ntmps46
  go_wp2_with (at_builtin; refine wpList_append_k rfl (.tmp 23) (.tmp 24) 51 rfl B 30 (encN .u64) (.int .u64 0) 8 Try.underlying51 info_n64 rfl (by decide) _ l rfl HO.out _ [x] rfl HY.out Nat.one_pos (by show l.length + 1 ≤ _; omega) hB w (Below.refl _ _) (fun v7 w7 ho7 hb7 _ _ => ?_))
  have HO7 := Lib.hid ho7
  have HB7 := Lib.hid hb7
  clear ho7 hb7
  go_ret
  exact ⟨_, rfl, HO7.out, HB7.out⟩
/-- There is room: in place. -/
theorem own_parts {w : World} {B : Nat} {g n c : Nat} {l : List Nat} (h : OwnK w B 30 (encN .u64) (.slice (some ⟨g, 0, none⟩) n c) l) (h0 : 0 < l.length) : ∃ cur : Array Value, n = l.length ∧ B ≤ g ∧ g < w.heap.size ∧ w.heap[g]? = some (.cells cur 30 (0, 0)) ∧ n ≤ c ∧ c ≤ maxLen ∧ cur.size = c ∧ cur.toList.take n = flatK (encN .u64) l := by
  rcases h.2 with ⟨hv, _⟩ | ⟨g', cap, cur, hv, h2, h3, h4, h5, h6, h7⟩
  · cases hv
  · simp only [Value.slice.injEq, Option.some.injEq, Addr.mk.injEq, and_true] at hv
    obtain ⟨rfl, rfl, rfl⟩ := hv
    refine ⟨cur, rfl, h2, lt_of_block h3, h3, h4, h5, by rw [h6]; exact Nat.mul_one _, ?_⟩
    have := h7
    rw [show l.length * (encN .u64).k = l.length from Nat.mul_one _] at this
    exact this
theorem own_of {w : World} {B : Nat} {g n c : Nat} {l : List Nat} {cur : Array Value} (hn : n = l.length) (hB : B ≤ g) (hh : w.heap[g]? = some (.cells cur 30 (0, 0))) (hnc : n ≤ c) (hc : c ≤ maxLen) (hs : cur.size = c) (ht : cur.toList.take n = flatK (encN .u64) l) : OwnK w B 30 (encN .u64) (.slice (some ⟨g, 0, none⟩) n c) l := by
  subst hn
  refine ⟨flatK_len _ _, .inr ⟨g, c, cur, rfl, hB, hh, hnc, hc, by rw [hs]; exact (Nat.mul_one _).symm, ?_⟩⟩
  rw [show l.length * (encN .u64).k = l.length from Nat.mul_one _]
  exact ht
theorem below_setRowK {B : Nat} {a w : World} {g : Nat} (h : Below B a w) (hg : B ≤ g) (cs : Array Value) : Below B a (w.setRow g cs) :=
  ⟨h.os, h.tape, h.output, by rw [setRow_size]; exact h.size, fun k hk => (setRow_other w g k cs (by omega)).trans (h.block k hk)⟩
set_option maxRecDepth 100000 in
set_option maxHeartbeats 8000000 in
theorem Ins_room (g n c : Nat) (l : List Nat) (i x gv : Nat) (w : World) (B : Nat) (hv : OwnK w B 30 (encN .u64) (.slice (some ⟨g, 0, none⟩) n c) l) (hl : l.length ≤ 100000000) (hi : i < n) (hroom : n + 1 ≤ c) (hne : gv ≠ g) (hx : w.heap[gv]? = some (.cells #[.int .u64 (x : Int)] 30 (0, 0))) :
    Calls Try.prog 46 #[.slice (some ⟨g, 0, none⟩) n c, .int .i64 (i : Int), .slice (some ⟨gv, 0, none⟩) 1 1] w fun e w' => ∃ v', e = .returned v' ∧ OwnK w' B 30 (encN .u64) v' (putAt l i x) ∧ Below B w w' := by
  have hnl : n = l.length := by have := hv.sl; obtain ⟨p, c', he, _⟩ := this; simp only [Value.slice.injEq] at he; exact he.2.1
  obtain ⟨cur, -, hBg, hg, hh, hnc, hcm, hcs, htk⟩ := own_parts hv (by omega)
  have hcI : (c : Int) ≤ 9223372036854775807 := by unfold maxLen at hcm; omega
  have hnb : n ≤ 100000000 := by omega
  have hcl : cur.toList.length = c := by rw [Array.length_toList]; exact hcs
  -- the cells from i on
  obtain ⟨D, hD⟩ : ∃ D, (flatK (encN .u64) l).drop i = D := ⟨_, rfl⟩
  have hDl : D.length = n - i := by rw [← hD, List.length_drop, flat_len1, hnl]
  have hD1 : ∀ v ∈ D, v.oneCell' = true := fun v hv' => flatK_one _ l v (by rw [← hD] at hv'; exact List.mem_of_mem_drop hv')
  have hcell : ∀ j v, D[j]? = some v → w.cell? ((⟨g, i, none⟩ : Addr).add j) = some v := fun j v hj => by
    have hjl : j < n - i := by rw [← hDl]; exact (List.getElem?_eq_some_iff.1 hj).1
    have hcc : w.cell? ⟨g, i + j, none⟩ = cur.toList[i + j]? := by simp [World.cell?, hh]
    rw [add_plain, hcc]
    rw [← hD, List.getElem?_drop, ← htk, List.getElem?_take_of_lt (by omega)] at hj
    exact hj
  obtain ⟨R1, hR1⟩ : ∃ R1 : Array Value, R1 = (cur.toList.take (i + 1) ++ D ++ cur.toList.drop (i + 1 + D.length)).toArray := ⟨_, rfl⟩
  have hR1s : R1.size = c := by rw [hR1, List.size_toArray, List.length_append, List.length_append, List.length_take, List.length_drop, hDl, hcl]; omega
  obtain ⟨R2, hR2⟩ : ∃ R2 : Array Value, R2 = (R1.toList.take i ++ [Value.int .u64 (x : Int)] ++ R1.toList.drop (i + 1)).toArray := ⟨_, rfl⟩
  have hR2s : R2.size = c := by rw [hR2, List.size_toArray, List.length_append, List.length_append, List.length_take, List.length_drop, List.length_singleton, Array.length_toList, hR1s]; omega
  have hR2t : R2.toList.take (n + 1) = flatK (encN .u64) (putAt l i x) := by
    rw [hR2, hR1, putAt_flat, hD]
    show (List.take i (List.take (i + 1) cur.toList ++ D ++ List.drop (i + 1 + D.length) cur.toList) ++ [Value.int .u64 (x : Int)] ++ List.drop (i + 1) (List.take (i + 1) cur.toList ++ D ++ List.drop (i + 1 + D.length) cur.toList)).take (n + 1) = _
    rw [List.append_assoc (List.take (i + 1) cur.toList), ins_row _ _ _ _ (by rw [hcl]; omega)]
    have hA : List.take i cur.toList = (flatK (encN .u64) l).take i := by rw [← htk, List.take_take, Nat.min_eq_left (by omega)]
    rw [hA, ← List.append_assoc]
    apply List.take_left'
    rw [List.length_append, List.length_append, List.length_take, flat_len1, hDl, List.length_singleton]
    omega
  have s1 := fun W => run_from g 0 n c i (by omega) (by omega) (i : Int) rfl W
  have s2 := fun W => run_upto (some ⟨g, 0, none⟩) n c (n + 1) hroom ((n : Int) + 1) (by omega) (by omega) W
  have s3 := fun W => run_from g 0 (n + 1) c (i + 1) (by omega) (by omega) ((i : Int) + 1) (by omega) W
  have s4 := fun W => run_from g 0 (n + 1) c i (by omega) (by omega) (i : Int) rfl W
  rw [Nat.zero_add] at s1 s3 s4
  rw [show n + 1 - (i + 1) = n - i by omega] at s3
  have hov := fun W lb cb (h1 : W.heap[gv]? = w.heap[gv]?) (h2 : W.heap[g]? = w.heap[g]?) => run_apart W gv g (i + 1) lb cb x cur hne (h1.trans hx) (h2.trans hh) (by rw [hcs]; omega)
  have hov0 := hov w (n - i) (c - (i + 1)) rfl rfl
  have HH := Lib.hid hh
  have HX := Lib.hid hx
  have HCS := Lib.hid hcs
  have HDL := Lib.hid hDl
  have HD1 := Lib.hid hD1
  have HCE := Lib.hid hcell
  have HR1 := Lib.hid hR1
  have HR1S := Lib.hid hR1s
  have HR2 := Lib.hid hR2
  have HR2S := Lib.hid hR2s
  have HR2T := Lib.hid hR2t
  have HNL := Lib.hid hnl
  have hni : ¬ (i : Int) = (n : Int) := by omega
  have hni2 : ((i : Int) == (n : Int)) = false := by simp only [beq_eq_false_iff_ne, ne_eq]; exact hni
  have hncI : ¬ (c : Int) < (n : Int) + 1 := by omega
  clear hh hx hcs hDl hD1 hcell hR1 hR1s hR2 hR2s hR2t hD htk hcl hov hv hnl
  go_enter Try.func46, Try.ntmps46
  go_upto_region 15 with fail
  have m1 : IntKind.i64.wrap ((i : Int) + 1) = (i : Int) + 1 := by rw [IntKind.wrap_i64]; omega
  refine AnyL.begin (S := fun W => W.heap[g]? = some (.cells cur 30 (0, 0))) 8 (by kernel_rfl) HH.out (fun hHeld => ?_)
  refine AnyL.take (i := 0) (oi := _) (v := ?_) 30 rfl (by kernel_rfl) (by kernel_rfl) (by kernel_rfl) (by kernel_rfl) (by kernel_rfl) (fun _ _ _ h => h) (Or.inl ⟨by rfl, ?hy1⟩) (by assumption) ?_
  case hy1 =>
    intro w9 hSw
    try dsimp only at hSw
    try simp only [List.getElem_toArray, List.getElem_cons_zero, List.getElem_cons_succ]
    go_simp
    try with_reducible rfl
  try simp only [Act.put, List.setIfInBounds_toArray, List.set_cons_zero, List.set_cons_succ, List.getElem_toArray, List.getElem_cons_zero, List.getElem_cons_succ]
  refine AnyL.take (i := 1) (oi := _) (v := ?_) 30 rfl (by kernel_rfl) (by kernel_rfl) (by kernel_rfl) (by kernel_rfl) (by kernel_rfl) (fun _ _ _ h => h) (Or.inl ⟨by rfl, ?hy2⟩) (by assumption) ?_
  case hy2 =>
    intro w9 hSw
    try dsimp only at hSw
    try simp only [List.getElem_toArray, List.getElem_cons_zero, List.getElem_cons_succ]
    go_simp
    try with_reducible rfl
  try simp only [Act.put, List.setIfInBounds_toArray, List.set_cons_zero, List.set_cons_succ, List.getElem_toArray, List.getElem_cons_zero, List.getElem_cons_succ]
  refine AnyL.take (i := 2) (oi := _) (v := ?_) 30 rfl (by kernel_rfl) (by kernel_rfl) (by kernel_rfl) (by kernel_rfl) (by kernel_rfl) (fun _ _ _ h => h) (Or.inl ⟨by rfl, ?hy3⟩) (by assumption) ?_
  case hy3 =>
    intro w9 hSw
    try dsimp only at hSw
    try simp only [List.getElem_toArray, List.getElem_cons_zero, List.getElem_cons_succ]
    go_simp
    try with_reducible rfl
  try simp only [Act.put, List.setIfInBounds_toArray, List.set_cons_zero, List.set_cons_succ, List.getElem_toArray, List.getElem_cons_zero, List.getElem_cons_succ]
  refine AnyL.take (i := 3) (oi := _) (v := ?_) 30 rfl (by kernel_rfl) (by kernel_rfl) (by kernel_rfl) (by kernel_rfl) (by kernel_rfl) (fun _ _ _ h => h) (Or.inl ⟨by rfl, ?hy4⟩) (by assumption) ?_
  case hy4 =>
    intro w9 hSw
    try dsimp only at hSw
    try simp only [List.getElem_toArray, List.getElem_cons_zero, List.getElem_cons_succ]
    go_simp
    try with_reducible rfl
  try simp only [Act.put, List.setIfInBounds_toArray, List.set_cons_zero, List.set_cons_succ, List.getElem_toArray, List.getElem_cons_zero, List.getElem_cons_succ]
  refine AnyL.take (i := 4) (oi := _) (v := ?_) 30 rfl (by kernel_rfl) (by kernel_rfl) (by kernel_rfl) (by kernel_rfl) (by kernel_rfl) (fun _ _ _ h => h) (Or.inl ⟨by rfl, ?hy5⟩) (by assumption) ?_
  case hy5 =>
    intro w9 hSw
    try dsimp only at hSw
    try simp only [List.getElem_toArray, List.getElem_cons_zero, List.getElem_cons_succ]
    go_simp
    try with_reducible rfl
  try simp only [Act.put, List.setIfInBounds_toArray, List.set_cons_zero, List.set_cons_succ, List.getElem_toArray, List.getElem_cons_zero, List.getElem_cons_succ]
  refine AnyL.take (i := 5) (oi := _) (v := ?_) 30 rfl (by kernel_rfl) (by kernel_rfl) (by kernel_rfl) (by kernel_rfl) (by kernel_rfl) (fun _ _ _ h => h) (Or.inl ⟨by rfl, ?hy6⟩) (by assumption) ?_
  case hy6 =>
    intro w9 hSw
    try dsimp only at hSw
    try simp only [List.getElem_toArray, List.getElem_cons_zero, List.getElem_cons_succ]
    go_simp
    try with_reducible rfl
  try simp only [Act.put, List.setIfInBounds_toArray, List.set_cons_zero, List.set_cons_succ, List.getElem_toArray, List.getElem_cons_zero, List.getElem_cons_succ]
  refine AnyL.take (i := 6) (oi := _) (v := ?_) 30 rfl (by kernel_rfl) (by kernel_rfl) (by kernel_rfl) (by kernel_rfl) (by kernel_rfl) (fun _ _ _ h => h) (Or.inl ⟨by rfl, ?hy7⟩) (by assumption) ?_
  case hy7 =>
    intro w9 hSw
    try dsimp only at hSw
    try simp only [List.getElem_toArray, List.getElem_cons_zero, List.getElem_cons_succ]
    go_simp
    try with_reducible rfl
  try simp only [Act.put, List.setIfInBounds_toArray, List.set_cons_zero, List.set_cons_succ, List.getElem_toArray, List.getElem_cons_zero, List.getElem_cons_succ]
  refine AnyL.take (i := 7) (oi := _) (v := ?_) 30 rfl (by kernel_rfl) (by kernel_rfl) (by kernel_rfl) (by kernel_rfl) (by kernel_rfl) (fun _ _ _ h => h) (Or.inl ⟨by rfl, ?hy8⟩) (by assumption) ?_
  case hy8 =>
    intro w9 hSw
    try dsimp only at hSw
    try simp only [List.getElem_toArray, List.getElem_cons_zero, List.getElem_cons_succ]
    go_simp
    try with_reducible rfl
  try simp only [Act.put, List.setIfInBounds_toArray, List.set_cons_zero, List.set_cons_succ, List.getElem_toArray, List.getElem_cons_zero, List.getElem_cons_succ]
  refine AnyL.one (i := 8) (o := _) (by kernel_rfl) rfl (fun K hK => ?_)
  refine step_copy_rowK rfl (.tmp 73) (.tmp 76) 51 51 rfl 30 Try.underlying51 one_n64 g (i + 1) (n - i) (c - (i + 1)) ⟨g, i, none⟩ (n + 1 - i) (c - i) rfl rfl cur 30 hHeld D (by rw [HDL.out]; show n - i = min (n + 1 - i) (n - i); rw [Nat.min_eq_right (by omega)]) HCE.out (by rw [HDL.out, HCS.out]; omega) HD1.out ?_
  rw [← HR1.out]
  refine hK.out _ _ (fun h => absurd rfl h) (fun _ => ?_)
  clear hK K
  try simp only [Act.put, List.setIfInBounds_toArray, List.set_cons_zero, List.set_cons_succ, List.getElem_toArray, List.getElem_cons_zero, List.getElem_cons_succ]
  refine AnyL.done (by kernel_rfl) ?_ _
  clear m1
  have hb1 : Below B w (w.drew.setRow g R1) := below_setRowK ((Below.refl B w).drew) hBg R1
  have hh1 : (w.drew.setRow g R1).heap[g]? = some (.cells R1 30 (0, 0)) := setRow_heap _ _ _ _ _ _ HH.out
  have hx1 : (w.drew.setRow g R1).heap[gv]? = some (.cells #[.int .u64 (x : Int)] 30 (0, 0)) := (setRow_other _ _ _ _ hne).trans HX.out
  generalize w.drew.setRow g R1 = W1 at *
  have hcx : ∀ j v, [Value.int .u64 (x : Int)][j]? = some v → W1.cell? ((⟨gv, 0, none⟩ : Addr).add j) = some v := fun j v hj => by
    cases j with
    | zero => simp at hj; subst hj; rw [add_plain]; simp [World.cell?, hx1]
    | succ j => simp at hj
  have hmin : ([Value.int .u64 (x : Int)] : List Value).length = Nat.min 1 (n + 1 - i) := by
    show 1 = min 1 (n + 1 - i)
    rw [Nat.min_eq_left (by omega)]
  have hfit : i + ([Value.int .u64 (x : Int)] : List Value).length ≤ R1.size := by rw [HR1S.out]; show i + 1 ≤ c; omega
  have hone : ∀ v ∈ ([Value.int .u64 (x : Int)] : List Value), v.oneCell' = true := fun v hv => by simp at hv; subst hv; rfl
  have HMIN := Lib.hid hmin
  have HFIT := Lib.hid hfit
  have HONE := Lib.hid hone
  clear hmin hfit hone
  have HCX := Lib.hid hcx
  have HH1 := Lib.hid hh1
  have HB1 := Lib.hid hb1
  clear hb1 hh1 hx1 hcx
  have hcp : ∀ ty, (Builtin.copy_ #[51, 51] ty #[.slice (some ⟨g, i, none⟩) (n + 1 - i) (c - i), .slice (some ⟨gv, 0, none⟩) 1 1]).run Try.prog W1 = .ok (goInt 1) (W1.setRow g R2) := fun ty => by
    have q := run_copy_row (P := Try.prog) W1 51 51 ty 30 g i (n + 1 - i) (c - i) ⟨gv, 0, none⟩ 1 1 R1 30 [Value.int .u64 (x : Int)] Try.underlying51 one_n64 HH1.out HMIN.out HCX.out HFIT.out HONE.out
    rw [List.length_singleton, ← HR2.out] at q
    exact q
  have hb2 : Below B w (W1.setRow g R2) := below_setRowK HB1.out hBg R2
  have hh2 : (W1.setRow g R2).heap[g]? = some (.cells R2 30 (0, 0)) := setRow_heap _ _ _ _ _ _ HH1.out
  have hfin := own_of (l := putAt l i x) (n := n + 1) (c := c) (by rw [putAt_len, ← HNL.out]) hBg hh2 hroom hcm HR2S.out HR2T.out
  have HFIN := Lib.hid hfin
  have HB2 := Lib.hid hb2
  clear hb2 hh2 hfin
  go_wp2
  go_ret
  exact ⟨_, rfl, HFIN.out, HB2.out⟩
/-- No room: a new row. -/
theorem grow_row {α : Type} (A D Z : List α) (x : α) (i : Nat) (hA : A.length = i) (k : Nat) (hk : k = i + 1 + D.length) (Y : List α) :
    (((A ++ Z).take i ++ [x] ++ (A ++ Z).drop (i + 1)).take (i + 1) ++ D ++ Y).take k = A ++ [x] ++ D := by
  have h1 : (A ++ Z).take i = A := List.take_left' hA
  have hl : (A ++ [x]).length = i + 1 := by rw [List.length_append, hA]; rfl
  rw [h1, List.take_left' hl]
  apply List.take_left'
  rw [List.length_append, hl, hk]
set_option maxRecDepth 100000 in
set_option maxHeartbeats 8000000 in
theorem Ins_grow (g n c : Nat) (l : List Nat) (i x gv : Nat) (w : World) (B : Nat) (hB : B ≤ w.heap.size) (hv : OwnK w B 30 (encN .u64) (.slice (some ⟨g, 0, none⟩) n c) l) (hl : l.length ≤ 100000000) (hi : i < n) (hroom : c < n + 1) (hx : w.heap[gv]? = some (.cells #[.int .u64 (x : Int)] 30 (0, 0))) :
    Calls Try.prog 46 #[.slice (some ⟨g, 0, none⟩) n c, .int .i64 (i : Int), .slice (some ⟨gv, 0, none⟩) 1 1] w fun e w' => ∃ v', e = .returned v' ∧ OwnK w' B 30 (encN .u64) v' (putAt l i x) ∧ Below B w w' := by
  have hnl : n = l.length := by have := hv.sl; obtain ⟨p, c', he, _⟩ := this; simp only [Value.slice.injEq] at he; exact he.2.1
  obtain ⟨cur, -, hBg, hg, hh, hnc, hcm, hcs, htk⟩ := own_parts hv (by omega)
  have hcI : (c : Int) ≤ 9223372036854775807 := by unfold maxLen at hcm; omega
  have hnb : n ≤ 100000000 := by omega
  have hcl : cur.toList.length = c := by rw [Array.length_toList]; exact hcs
  obtain ⟨D, hD⟩ : ∃ D, (flatK (encN .u64) l).drop i = D := ⟨_, rfl⟩
  obtain ⟨A, hA⟩ : ∃ A, (flatK (encN .u64) l).take i = A := ⟨_, rfl⟩
  have hDl : D.length = n - i := by rw [← hD, List.length_drop, flat_len1, hnl]
  have hAl : A.length = i := by rw [← hA, List.length_take, flat_len1]; omega
  have hD1 : ∀ v ∈ D, v.oneCell' = true := fun v hv' => flatK_one _ l v (by rw [← hD] at hv'; exact List.mem_of_mem_drop hv')
  have hcur : ∀ j, w.cell? ⟨g, j, none⟩ = cur.toList[j]? := fun j => by simp [World.cell?, hh]
  have hcellA : ∀ j v, A[j]? = some v → w.drew.cell? ((⟨g, 0, none⟩ : Addr).add j) = some v := fun j v hj => by
    have hjl : j < i := by rw [← hAl]; exact (List.getElem?_eq_some_iff.1 hj).1
    rw [add_plain, Nat.zero_add]
    show w.cell? ⟨g, j, none⟩ = some v
    rw [hcur]
    rw [← hA, List.getElem?_take_of_lt hjl, ← htk, List.getElem?_take_of_lt (by omega)] at hj
    exact hj
  have hcellD : ∀ W : World, W.heap[g]? = some (.cells cur 30 (0, 0)) → ∀ j v, D[j]? = some v → W.cell? ((⟨g, i, none⟩ : Addr).add j) = some v := fun W hW j v hj => by
    have hjl : j < n - i := by rw [← hDl]; exact (List.getElem?_eq_some_iff.1 hj).1
    have hcc : W.cell? ⟨g, i + j, none⟩ = cur.toList[i + j]? := by simp [World.cell?, hW]
    rw [add_plain, hcc]
    rw [← hD, List.getElem?_drop, ← htk, List.getElem?_take_of_lt (by omega)] at hj
    exact hj
  obtain ⟨i0, hi0, hz0, hz1, hz2⟩ := k_parts info_n64
  rw [show (encN .u64).k = 1 from rfl] at hz1
  have hold : (Builtin.firstCells i0.size i (.slice (some ⟨g, 0, none⟩) i c)).run Try.prog w.drew = .ok A.toArray w.drew := by
    rw [hz1]
    exact run_firstCells_some w.drew 1 i ⟨g, 0, none⟩ i c A (by rw [hAl, Nat.mul_one]) hcellA
  have hrz : ∀ ty, (Builtin.append_ #[51, 3] ty #[.slice (some ⟨g, 0, none⟩) i c, .int .i64 ((n : Int) + 1 - (i : Int))]).run Try.prog w =
      .ok (.slice (some ⟨w.heap.size, 0, none⟩) (n + 1) (grownCap w (n + 1) c 30)) (w.drew.alloc (.cells (A.toArray ++ Builtin.zeroCells (Value.int .u64 0).cells (n + 1 - i) ++ Builtin.zeroCells (Value.int .u64 0).cells (grownCap w (n + 1) c 30 - (n + 1))) 30)) := fun ty => by
    have h := Lib.run_append_grow_zeros w 51 3 ty 30 i0 _ .i64 .i64 Try.underlying51 Try.underlying3 hi0 hz0 (some ⟨g, 0, none⟩) i c A hold (n + 1 - i) (by omega) (by rw [hz1]; omega) (by omega) (by omega) (by rw [hz2]; omega) (by rw [hz2, show i + (n + 1 - i) = n + 1 by omega]; exact growslice_fits hroom (by omega))
    rw [show i + (n + 1 - i) = n + 1 by omega] at h
    rw [show (n : Int) + 1 - (i : Int) = ((n + 1 - i : Nat) : Int) by omega]
    exact h
  have hGn : n + 1 ≤ grownCap w (n + 1) c 30 := grownCap_ge w _ _ _
  have hGm : grownCap w (n + 1) c 30 ≤ maxLen := grownCap_le_maxLen w (n + 1) c 30 (by unfold maxLen; omega)
  generalize grownCap w (n + 1) c 30 = G at hrz hGn hGm
  have hGI : (G : Int) ≤ 9223372036854775807 := by unfold maxLen at hGm; omega
  obtain ⟨ZZ, hZZ⟩ : ∃ ZZ : List Value, ZZ = (Builtin.zeroCells (Value.int .u64 0).cells (n + 1 - i) ++ Builtin.zeroCells (Value.int .u64 0).cells (G - (n + 1))).toList := ⟨_, rfl⟩
  have hZl : ZZ.length = G - i := by rw [hZZ]; simp [Builtin.zeroCells, Value.cells]; omega
  obtain ⟨ROW, hROW⟩ : ∃ ROW : Array Value, ROW = A.toArray ++ Builtin.zeroCells (Value.int .u64 0).cells (n + 1 - i) ++ Builtin.zeroCells (Value.int .u64 0).cells (G - (n + 1)) := ⟨_, rfl⟩
  have hRl : ROW.toList = A ++ ZZ := by rw [hROW, hZZ, Array.append_assoc]; simp
  have hRs : ROW.size = G := by rw [← Array.length_toList, hRl, List.length_append, hAl, hZl]; omega
  rw [← hROW] at hrz
  obtain ⟨W1, hW1⟩ : ∃ W1, W1 = w.drew.alloc (.cells ROW 30) := ⟨_, rfl⟩
  rw [← hW1] at hrz
  have hn1 : W1.heap[w.heap.size]? = some (.cells ROW 30 (0, 0)) := by rw [hW1]; exact heap_alloc_new _ _
  have hb1 : Below w.heap.size w W1 := by rw [hW1]; exact ((Below.refl _ _).drew).alloc (Nat.le_refl _) _
  have hx1 := (hb1.block gv (lt_of_block hx)).trans hx
  have hg1 := (hb1.block g hg).trans hh
  obtain ⟨N, hN⟩ : ∃ N, w.heap.size = N := ⟨_, rfl⟩
  have hxN : gv ≠ N := by have := lt_of_block hx; omega
  have hgN : g ≠ N := by omega
  rw [hN] at hn1 hb1 hrz
  obtain ⟨R1, hR1⟩ : ∃ R1 : Array Value, R1 = (ROW.toList.take i ++ [Value.int .u64 (x : Int)] ++ ROW.toList.drop (i + 1)).toArray := ⟨_, rfl⟩
  have hR1s : R1.size = G := by rw [hR1, List.size_toArray, List.length_append, List.length_append, List.length_take, List.length_drop, List.length_singleton, Array.length_toList, hRs]; omega
  obtain ⟨R2, hR2⟩ : ∃ R2 : Array Value, R2 = (R1.toList.take (i + 1) ++ D ++ R1.toList.drop (i + 1 + D.length)).toArray := ⟨_, rfl⟩
  have hR2s : R2.size = G := by rw [hR2, List.size_toArray, List.length_append, List.length_append, List.length_take, List.length_drop, Array.length_toList, hR1s, hDl]; omega
  have hR2t : R2.toList.take (n + 1) = flatK (encN .u64) (putAt l i x) := by
    rw [hR2, hR1, hRl, putAt_flat, hD, hA]
    exact grow_row A D ZZ _ i hAl (n + 1) (by rw [hDl]; omega) _
  have hmin : ([Value.int .u64 (x : Int)] : List Value).length = Nat.min 1 (n + 1 - i) := by
    show 1 = min 1 (n + 1 - i)
    rw [Nat.min_eq_left (by omega)]
  have hcx : ∀ j v, [Value.int .u64 (x : Int)][j]? = some v → W1.cell? ((⟨gv, 0, none⟩ : Addr).add j) = some v := fun j v hj => by
    cases j with
    | zero => simp at hj; subst hj; rw [add_plain]; simp [World.cell?, hx1]
    | succ j => simp at hj
  have hcp : ∀ ty, (Builtin.copy_ #[51, 51] ty #[.slice (some ⟨N, i, none⟩) (n + 1 - i) (G - i), .slice (some ⟨gv, 0, none⟩) 1 1]).run Try.prog W1 = .ok (goInt 1) (W1.setRow N R1) := fun ty => by
    have q := run_copy_row (P := Try.prog) W1 51 51 ty 30 N i (n + 1 - i) (G - i) ⟨gv, 0, none⟩ 1 1 ROW 30 [Value.int .u64 (x : Int)] Try.underlying51 one_n64 hn1 hmin hcx (by rw [hRs]; show i + 1 ≤ G; omega) (fun v hv => by simp at hv; subst hv; rfl)
    rw [List.length_singleton, ← hR1] at q
    exact q
  have hn2 : (W1.setRow N R1).heap[N]? = some (.cells R1 30 (0, 0)) := setRow_heap _ _ _ _ _ _ hn1
  have hg2 : (W1.setRow N R1).heap[g]? = some (.cells cur 30 (0, 0)) := (setRow_other _ _ _ _ hgN).trans hg1
  have hb2 : Below N w (W1.setRow N R1) := below_setRowK hb1 (Nat.le_refl _) R1
  generalize W1.setRow N R1 = W2 at *
  have s1 := fun W => run_from g 0 n c i (by omega) (by omega) (i : Int) rfl W
  have s2 := fun W => run_upto (some ⟨g, 0, none⟩) n c i (by omega) (i : Int) rfl (by omega) W
  have s3 := fun W => run_from N 0 (n + 1) G (i + 1) (by omega) (by omega) ((i : Int) + 1) (by omega) W
  have s4 := fun W => run_from N 0 (n + 1) G i (by omega) (by omega) (i : Int) rfl W
  rw [Nat.zero_add] at s1 s3 s4
  rw [show n + 1 - (i + 1) = n - i by omega] at s3
  have HN2 : Hid (W2.heap[N]? = some (.cells R1 30 (0, 0)) ∧ W2.heap[g]? = some (.cells cur 30 (0, 0))) := Lib.hid ⟨hn2, hg2⟩
  have HB2 := Lib.hid hb2
  have HDL := Lib.hid hDl
  have HD1 := Lib.hid hD1
  have HCE := Lib.hid hcellD
  have HR1S := Lib.hid hR1s
  have HR2 := Lib.hid hR2
  have HR2S := Lib.hid hR2s
  have HR2T := Lib.hid hR2t
  have HNL := Lib.hid hnl
  have HBN : Hid (B ≤ N) := Lib.hid (by omega)
  have HNN := Lib.hid hN
  have hni : ¬ (i : Int) = (n : Int) := by omega
  have hni2 : ((i : Int) == (n : Int)) = false := by simp only [beq_eq_false_iff_ne, ne_eq]; exact hni
  have hncI : (c : Int) < (n : Int) + 1 := by omega
  clear hh hx hcs hDl hD1 hcellA hcellD hcur hR1 hR1s hR2 hR2s hR2t hD hA htk hcl hv hnl hi0 hz0 hz1 hz2 hold hGm hZZ hZl hROW hRl hRs hW1 hn1 hb1 hx1 hg1 hN hmin hcx hn2 hg2 hb2 hAl
  go_enter Try.func46, Try.ntmps46
  go_upto_region 11 with (at_builtin; refine Lib.wpList_append_run _ rfl _ _ _ _ rfl _ _ rfl rfl _ _ (hrz _) ?_)
  have m1 : IntKind.i64.wrap ((i : Int) + 1) = (i : Int) + 1 := by rw [IntKind.wrap_i64]; omega
  refine AnyL.begin (S := fun W => W.heap[N]? = some (.cells R1 30 (0, 0)) ∧ W.heap[g]? = some (.cells cur 30 (0, 0))) 8 (by kernel_rfl) HN2.out (fun hHeld => ?_)
  refine AnyL.take (i := 0) (oi := _) (v := ?_) 30 rfl (by kernel_rfl) (by kernel_rfl) (by kernel_rfl) (by kernel_rfl) (by kernel_rfl) (fun _ _ _ h => h) (Or.inl ⟨by rfl, ?hy9⟩) (by assumption) ?_
  case hy9 =>
    intro w9 hSw
    try dsimp only at hSw
    try simp only [List.getElem_toArray, List.getElem_cons_zero, List.getElem_cons_succ]
    go_simp
    try with_reducible rfl
  try simp only [Act.put, List.setIfInBounds_toArray, List.set_cons_zero, List.set_cons_succ, List.getElem_toArray, List.getElem_cons_zero, List.getElem_cons_succ]
  refine AnyL.take (i := 1) (oi := _) (v := ?_) 30 rfl (by kernel_rfl) (by kernel_rfl) (by kernel_rfl) (by kernel_rfl) (by kernel_rfl) (fun _ _ _ h => h) (Or.inl ⟨by rfl, ?hy10⟩) (by assumption) ?_
  case hy10 =>
    intro w9 hSw
    try dsimp only at hSw
    try simp only [List.getElem_toArray, List.getElem_cons_zero, List.getElem_cons_succ]
    go_simp
    try with_reducible rfl
  try simp only [Act.put, List.setIfInBounds_toArray, List.set_cons_zero, List.set_cons_succ, List.getElem_toArray, List.getElem_cons_zero, List.getElem_cons_succ]
  refine AnyL.take (i := 2) (oi := _) (v := ?_) 30 rfl (by kernel_rfl) (by kernel_rfl) (by kernel_rfl) (by kernel_rfl) (by kernel_rfl) (fun _ _ _ h => h) (Or.inl ⟨by rfl, ?hy11⟩) (by assumption) ?_
  case hy11 =>
    intro w9 hSw
    try dsimp only at hSw
    try simp only [List.getElem_toArray, List.getElem_cons_zero, List.getElem_cons_succ]
    go_simp
    try with_reducible rfl
  try simp only [Act.put, List.setIfInBounds_toArray, List.set_cons_zero, List.set_cons_succ, List.getElem_toArray, List.getElem_cons_zero, List.getElem_cons_succ]
  refine AnyL.take (i := 3) (oi := _) (v := ?_) 30 rfl (by kernel_rfl) (by kernel_rfl) (by kernel_rfl) (by kernel_rfl) (by kernel_rfl) (fun _ _ _ h => h) (Or.inl ⟨by rfl, ?hy12⟩) (by assumption) ?_
  case hy12 =>
    intro w9 hSw
    try dsimp only at hSw
    try simp only [List.getElem_toArray, List.getElem_cons_zero, List.getElem_cons_succ]
    go_simp
    try with_reducible rfl
  try simp only [Act.put, List.setIfInBounds_toArray, List.set_cons_zero, List.set_cons_succ, List.getElem_toArray, List.getElem_cons_zero, List.getElem_cons_succ]
  refine AnyL.take (i := 4) (oi := _) (v := ?_) 30 rfl (by kernel_rfl) (by kernel_rfl) (by kernel_rfl) (by kernel_rfl) (by kernel_rfl) (fun _ _ _ h => h) (Or.inl ⟨by rfl, ?hy13⟩) (by assumption) ?_
  case hy13 =>
    intro w9 hSw
    try dsimp only at hSw
    try simp only [List.getElem_toArray, List.getElem_cons_zero, List.getElem_cons_succ]
    go_simp
    try with_reducible rfl
  try simp only [Act.put, List.setIfInBounds_toArray, List.set_cons_zero, List.set_cons_succ, List.getElem_toArray, List.getElem_cons_zero, List.getElem_cons_succ]
  refine AnyL.take (i := 5) (oi := _) (v := ?_) 30 rfl (by kernel_rfl) (by kernel_rfl) (by kernel_rfl) (by kernel_rfl) (by kernel_rfl) (fun _ _ _ h => h) (Or.inl ⟨by rfl, ?hy14⟩) (by assumption) ?_
  case hy14 =>
    intro w9 hSw
    try dsimp only at hSw
    try simp only [List.getElem_toArray, List.getElem_cons_zero, List.getElem_cons_succ]
    go_simp
    try with_reducible rfl
  try simp only [Act.put, List.setIfInBounds_toArray, List.set_cons_zero, List.set_cons_succ, List.getElem_toArray, List.getElem_cons_zero, List.getElem_cons_succ]
  refine AnyL.take (i := 6) (oi := _) (v := ?_) 30 rfl (by kernel_rfl) (by kernel_rfl) (by kernel_rfl) (by kernel_rfl) (by kernel_rfl) (fun _ _ _ h => h) (Or.inl ⟨by rfl, ?hy15⟩) (by assumption) ?_
  case hy15 =>
    intro w9 hSw
    try dsimp only at hSw
    try simp only [List.getElem_toArray, List.getElem_cons_zero, List.getElem_cons_succ]
    go_simp
    try with_reducible rfl
  try simp only [Act.put, List.setIfInBounds_toArray, List.set_cons_zero, List.set_cons_succ, List.getElem_toArray, List.getElem_cons_zero, List.getElem_cons_succ]
  refine AnyL.take (i := 7) (oi := _) (v := ?_) 30 rfl (by kernel_rfl) (by kernel_rfl) (by kernel_rfl) (by kernel_rfl) (by kernel_rfl) (fun _ _ _ h => h) (Or.inl ⟨by rfl, ?hy16⟩) (by assumption) ?_
  case hy16 =>
    intro w9 hSw
    try dsimp only at hSw
    try simp only [List.getElem_toArray, List.getElem_cons_zero, List.getElem_cons_succ]
    go_simp
    try with_reducible rfl
  try simp only [Act.put, List.setIfInBounds_toArray, List.set_cons_zero, List.set_cons_succ, List.getElem_toArray, List.getElem_cons_zero, List.getElem_cons_succ]
  refine AnyL.one (i := 8) (o := _) (by kernel_rfl) rfl (fun K hK => ?_)
  refine step_copy_rowK rfl (.tmp 50) (.tmp 53) 51 51 rfl 30 Try.underlying51 one_n64 N (i + 1) (n - i) (G - (i + 1)) ⟨g, i, none⟩ (n - i) (c - i) rfl rfl R1 30 hHeld.1 D (by rw [HDL.out]; show n - i = min (n - i) (n - i); rw [Nat.min_self]) (HCE.out _ hHeld.2) (by rw [HDL.out, HR1S.out]; omega) HD1.out ?_
  rw [← HR2.out]
  refine hK.out _ _ (fun h => absurd rfl h) (fun _ => ?_)
  clear hK K
  try simp only [Act.put, List.setIfInBounds_toArray, List.set_cons_zero, List.set_cons_succ, List.getElem_toArray, List.getElem_cons_zero, List.getElem_cons_succ]
  refine AnyL.done (by kernel_rfl) ?_ _
  clear m1
  have hb3 : Below N w (W2.drew.setRow N R2) := below_setRowK (HB2.out.drew) (Nat.le_refl _) R2
  have hh3 : (W2.drew.setRow N R2).heap[N]? = some (.cells R2 30 (0, 0)) := setRow_heap _ _ _ _ _ _ HN2.out.1
  have hfin := own_of (l := putAt l i x) (n := n + 1) (c := G) (by rw [putAt_len, ← HNL.out]) HBN.out hh3 hGn (by unfold maxLen; omega) HR2S.out HR2T.out
  have HFIN := Lib.hid hfin
  have HB3 := Lib.hid (hb3.mono HBN.out)
  clear hb3 hh3 hfin
  go_wp2
  go_ret
  exact ⟨_, rfl, HFIN.out, HB3.out⟩
end Go.Proofs.Ytfgfamafjkjakaa
