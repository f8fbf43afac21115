/-
  Layer 13's law: is: what it writes into the parts' own rows.
  Layer 13's law: is walked.
-/
import Derived.Test.YtfgfamafjkjakaaDotRefEm
import Derived.Test.YtfgfamafjkjakaaTextEq
import Derived.Deep.DeepCutAuto
import Derived.Deep.CutBlock
import Derived.Deep.QuietTactic
import Derived.BigQuiet
import Derived.IntWalk
namespace Go.Proofs.Ytfgfamafjkjakaa
open Go.ChangeShapes Go.WideShapes Go.ChangeAt Go.RowKit Go.Deep
set_option linter.unusedVariables false
set_option linter.unusedSimpArgs false
theorem OwnP.part' {w : World} {B g n cap : Nat} {M : List Pt} (h : OwnP w B (.slice (some ⟨g, 0, none⟩) n cap) M) (i : Nat) (x : Pt) (hi : M[i]? = some x) :
    w.cell? ⟨g, i * 3, none⟩ = some (.int .i64 (x.dev : Int)) ∧ w.cell? ⟨g, i * 3 + 1, none⟩ = some (.int .u64 (x.nm.upto : Int)) ∧ w.cell? ⟨g, i * 3 + 2, none⟩ = some (.slice x.ptr x.nm.more.length x.cap) ∧
    OwnK w B 30 (encN .u64) (.slice x.ptr x.nm.more.length x.cap) x.nm.more := by
  obtain ⟨hl, rfl⟩ := List.getElem?_eq_some_iff.1 hi
  obtain ⟨g', cap', e, _, _, _, _, hc, _⟩ := h.row.form (by omega)
  simp only [Value.slice.injEq, Option.some.injEq, Addr.mk.injEq, and_true] at e
  obtain ⟨rfl, _, _⟩ := e
  exact ⟨hc i hl 0 _ rfl, hc i hl 1 _ rfl, hc i hl 2 _ rfl, h.each _ (List.getElem_mem hl)⟩
theorem OwnP.place' {w : World} {B n cap : Nat} {p : Option Addr} {M : List Pt} (h : OwnP w B (.slice p n cap) M) (h0 : 0 < M.length) : ∃ g, p = some ⟨g, 0, none⟩ := by
  obtain ⟨g', cap', e, _⟩ := h.row.form h0
  simp only [Value.slice.injEq] at e
  exact ⟨g', e.1⟩
/-- What of a part lies in the parts' row. -/
def Pt.key (x : Pt) : Nat × Nat × Option Addr × Nat × Nat := (x.dev, x.nm.upto, x.ptr, x.nm.more.length, x.cap)
theorem flat_key {M N : List Pt} (h : M.map Pt.key = N.map Pt.key) : flatK encP M = flatK encP N := by
  have e : ∀ L : List Pt, flatK encP L = (L.map Pt.key).flatMap (fun k => [.int .i64 (k.1 : Int), .int .u64 (k.2.1 : Int), .slice k.2.2.1 k.2.2.2.1 k.2.2.2.2]) := fun L => by
    rw [List.flatMap_map]; rfl
  rw [e, e, h]
theorem off_key {M N : List Pt} (h : M.map Pt.key = N.map Pt.key) (hM : M.Pairwise Pt.off) : N.Pairwise Pt.off := by
  have e : ∀ L : List Pt, L.Pairwise Pt.off ↔ (L.map Pt.key).Pairwise (fun a b => 0 < a.2.2.2.1 → 0 < b.2.2.2.1 → (Value.slice a.2.2.1 a.2.2.2.1 a.2.2.2.2).ownBlock ≠ (Value.slice b.2.2.1 b.2.2.2.1 b.2.2.2.2).ownBlock) := fun L => by
    rw [List.pairwise_map]; exact Iff.rfl
  rw [e] at hM ⊢
  rw [← h]
  exact hM
theorem key_set {M : List Pt} {i : Nat} {x x' : Pt} (hi : M[i]? = some x) (h : x'.key = x.key) : (M.set i x').map Pt.key = M.map Pt.key := by
  obtain ⟨hl, rfl⟩ := List.getElem?_eq_some_iff.1 hi
  rw [List.map_set, h]
  have e : (M.map Pt.key)[i]? = some M[i].key := by rw [List.getElem?_map, hi]; rfl
  refine List.ext_getElem? (fun j => ?_)
  rw [List.getElem?_set]
  split
  · rename_i hij
    subst hij
    rw [if_pos (by rw [List.length_map]; exact hl)]
    exact e.symm
  · rfl
theorem OwnK.of_flat {α : Type} {w : World} {B : Nat} {e : TypeId} {E : Enc α} {v : Value} {l m : List α} (h : OwnK w B e E v l) (h1 : flatK E l = flatK E m) (h2 : l.length = m.length) : OwnK w B e E v m := by
  unfold OwnK at h ⊢
  rw [← h1, ← h2]
  exact h
theorem flatN_set (l : List Nat) (k y : Nat) : (flatK (encN .u64) l).set k (.int .u64 (y : Int)) = flatK (encN .u64) (l.set k y) := by
  have e : ∀ l : List Nat, flatK (encN .u64) l = l.map (fun (x : Nat) => Value.int .u64 (x : Int)) := fun l => by
    induction l with
    | nil => rfl
    | cons a r ih => rw [flatK_cons, ih]; rfl
  rw [e, e, List.map_set]
theorem OwnK.storeN {w : World} {B G n cap : Nat} {l : List Nat} (h : OwnK w B 30 (encN .u64) (.slice (some ⟨G, 0, none⟩) n cap) l) (j y : Nat) : OwnK (w.setCell ⟨G, j, none⟩ (.int .u64 (y : Int))) B 30 (encN .u64) (.slice (some ⟨G, 0, none⟩) n cap) (l.set j y) := by
  obtain ⟨p, c, e, _⟩ := h.sl
  simp only [Value.slice.injEq] at e
  obtain ⟨_, rfl, _⟩ := e
  have h1 := (World.ownsRow.stored h j (.int .u64 (y : Int))).1
  rw [flatN_set] at h1
  unfold OwnK
  rw [List.length_set]
  exact h1
/-- A number of a part's own row written. -/
theorem OwnP.store {w : World} {B : Nat} {v : Value} {M : List Pt} (h : OwnP w B v M) {i g : Nat} {d u : Nat} {L : List Nat} {c : Nat} (hi : M[i]? = some ⟨d, ⟨u, L⟩, some ⟨g, 0, none⟩, c⟩) (k y : Nat) (hk : k < L.length) :
    OwnP (w.setCell ⟨g, k, none⟩ (.int .u64 (y : Int))) B v (M.set i ⟨d, ⟨u, L.set k y⟩, some ⟨g, 0, none⟩, c⟩) := by
  have hkey : (M.set i ⟨d, ⟨u, L.set k y⟩, some ⟨g, 0, none⟩, c⟩).map Pt.key = M.map Pt.key := key_set hi (by unfold Pt.key; simp)
  obtain ⟨hl, hxi⟩ := List.getElem?_eq_some_iff.1 hi
  have hx := h.each _ (List.getElem_mem hl)
  rw [hxi] at hx
  obtain ⟨cur, hc⟩ := OwnK.type hx (g := g) rfl
  have hkp := Kp.setCell g k w (.int .u64 (y : Int))
  have hrow := h.row.kp hc (by decide) hkp
  refine ⟨hrow.of_flat (flat_key hkey.symm) (by simp), fun z hz => ?_, off_key hkey.symm h.apart⟩
  obtain ⟨j, hj, rfl⟩ := List.getElem_of_mem hz
  rw [List.length_set] at hj
  rw [List.getElem_set]
  split
  · rename_i e
    have := OwnK.storeN hx k y
    show OwnK _ B _ _ (.slice (some ⟨g, 0, none⟩) (L.set k y).length c) (L.set k y)
    rw [List.length_set]
    exact this
  · rename_i e
    have hz0 := h.each _ (List.getElem_mem hj)
    by_cases hb : M[j].val.ownBlock = some g
    · have h0 : M[j].nm.more.length = 0 := by
        rcases Nat.eq_zero_or_pos M[j].nm.more.length with h0 | h0
        · exact h0
        · have hp := h.apart
          rw [List.pairwise_iff_getElem] at hp
          exfalso
          rcases Nat.lt_or_ge i j with hij | hij
          · have h1 := hp i j hl hj hij
            rw [hxi] at h1
            exact h1 (by show 0 < L.length; omega) h0 (by rw [hb]; rfl)
          · have h1 := hp j i hj hl (by omega)
            rw [hxi] at h1
            exact h1 h0 (by show 0 < L.length; omega) (by rw [hb]; rfl)
      have hm : M[j].nm.more = [] := List.eq_nil_of_length_eq_zero h0
      obtain ⟨q, hq⟩ : ∃ q, M[j] = q := ⟨_, rfl⟩
      rw [hq] at hz0 hb hm ⊢
      obtain ⟨qd, ⟨qu, qm⟩, qp, qc⟩ := q
      simp only at hm
      subst hm
      have hqp : qp = some ⟨g, 0, none⟩ := by
        rcases hz0.2 with ⟨e1, _⟩ | ⟨g', _, _, e1, _⟩
        · have : (Value.slice qp 0 qc).ownBlock = some g := hb
          have e1' : Value.slice qp 0 qc = .slice none 0 0 := e1
          rw [e1'] at this
          cases this
        · have e1' : Value.slice qp 0 qc = .slice (some ⟨g', 0, none⟩) 0 _ := e1
          simp only [Value.slice.injEq] at e1'
          obtain ⟨rfl, _, _⟩ := e1'
          have : (Value.slice (some ⟨g', 0, none⟩) 0 qc).ownBlock = some g := hb
          simp only [Value.ownBlock, Option.some.injEq] at this
          rw [this]
      subst hqp
      have := OwnK.storeN (l := []) hz0 k y
      exact this
    · exact hz0.same (fun g' hg' => hkp.block g' (by have := (OwnK.lt hz0 g' hg').2; exact this) (fun e2 => by rw [e2] at hg'; exact hb hg'))
/-- Rows that lie behind a block stay when it is written. -/
theorem OwnT.behind {T : TypeId} {w w' : World} {B g : Nat} {v : Value} {M : List Pt} (h : OwnT T w B v M) (hg : g < B) (hk : Kp g w w') : OwnT T w' B v M :=
  ⟨h.row.same (fun g' hg' => hk.block g' (h.row.lt g' hg').2 (by have := (h.row.lt g' hg').1; omega)),
   fun x hx => (h.each x hx).same (fun g' hg' => hk.block g' ((h.each x hx).lt g' hg').2 (by have := ((h.each x hx).lt g' hg').1; omega)), h.apart⟩
theorem OwnT.part' {T : TypeId} {w : World} {B g n cap : Nat} {M : List Pt} (h : OwnT T w B (.slice (some ⟨g, 0, none⟩) n cap) M) (i : Nat) (x : Pt) (hi : M[i]? = some x) :
    w.cell? ⟨g, i * 3, none⟩ = some (.int .i64 (x.dev : Int)) ∧ w.cell? ⟨g, i * 3 + 1, none⟩ = some (.int .u64 (x.nm.upto : Int)) ∧ w.cell? ⟨g, i * 3 + 2, none⟩ = some (.slice x.ptr x.nm.more.length x.cap) ∧
    OwnK w B 30 (encN .u64) (.slice x.ptr x.nm.more.length x.cap) x.nm.more := by
  obtain ⟨hl, rfl⟩ := List.getElem?_eq_some_iff.1 hi
  exact h.part i hl
end Go.Proofs.Ytfgfamafjkjakaa
namespace Go.Proofs.Ytfgfamafjkjakaa
open Go.ChangeShapes Go.WideShapes Go.ChangeAt Go.RowKit Go.Deep
set_option linter.unusedVariables false
set_option linter.unusedSimpArgs false
/-- What both rows are while they are compared. -/
structure IsW (w : World) (S : Nat) (f : List Nm) (v : Value) (l : List (Int × Nat)) (B : Nat) (pv : Value) (M : List Pt) (B2 : Nat) (qv : Value) (Q : List Pt) (W : World) : Prop where
  s : SetIs W S f
  v : HasK W encD v l
  p : OwnP W B pv M
  q : OwnT 72 W B2 qv Q
  b : Below w.heap.size w W
theorem IsW.below {w : World} {S : Nat} {f : List Nm} {v : Value} {l : List (Int × Nat)} {B : Nat} {pv : Value} {M : List Pt} {B2 : Nat} {qv : Value} {Q : List Pt} {W W' : World} (h : IsW w S f v l B pv M B2 qv Q W) (hb : Below W.heap.size W W') : IsW w S f v l B pv M B2 qv Q W' :=
  ⟨h.s.below hb, h.v.below hb, h.p.below hb, h.q.below hb, h.b.trans (hb.mono h.b.size)⟩
/-- The rows while numbers are written. -/
structure IsR (w : World) (B : Nat) (pv : Value) (M M' : List Pt) (B2 : Nat) (qv : Value) (Q : List Pt) (W : World) : Prop where
  p : OwnP W B pv M'
  q : OwnT 72 W B2 qv Q
  b : Below w.heap.size w W
  key : M'.map Pt.key = M.map Pt.key
theorem IsR.below {w : World} {B : Nat} {pv : Value} {M M' : List Pt} {B2 : Nat} {qv : Value} {Q : List Pt} {W W' : World} (h : IsR w B pv M M' B2 qv Q W) (hb : Below W.heap.size W W') : IsR w B pv M M' B2 qv Q W' :=
  ⟨h.p.below hb, h.q.below hb, h.b.trans (hb.mono h.b.size), h.key⟩
theorem IsR.store {w : World} {B : Nat} {pv : Value} {M M' : List Pt} {B2 : Nat} {qv : Value} {Q : List Pt} {W : World} (h : IsR w B pv M M' B2 qv Q W) {i g : Nat} {d u : Nat} {L : List Nat} {c : Nat} (hi : M'[i]? = some ⟨d, ⟨u, L⟩, some ⟨g, 0, none⟩, c⟩) (k y : Nat) (hk : k < L.length) (h1 : w.heap.size ≤ g) (h2 : g < B2) :
    IsR w B pv M (M'.set i ⟨d, ⟨u, L.set k y⟩, some ⟨g, 0, none⟩, c⟩) B2 qv Q (W.setCell ⟨g, k, none⟩ (.int .u64 (y : Int))) :=
  ⟨h.p.store hi k y hk, h.q.behind h2 (Kp.setCell g k W _), h.b.setCell (p := ⟨g, k, none⟩) h1 _, (key_set hi (by unfold Pt.key; simp)).trans h.key⟩
set_option maxRecDepth 100000 in
set_option maxHeartbeats 32000000 in
theorem Is_any (S : Nat) (f : List Nm) (v : Value) (l : List (Int × Nat)) (w : World) (hs : SetIs w S f) (hv : HasK w encD v l) (hl : l.length ≤ 1000) (hT : Tie f l) :
    Calls Try.prog 19 #[.pointer (some ⟨S, 0, none⟩), v] w fun e w' => e = .returned (.bool true) ∧ Below w.heap.size w w' := by
  have HT := Lib.hid hT
  have HO := Lib.hid hs.oks
  have HS := Lib.hid hs
  have HV := Lib.hid hv
  clear hT hs hv
  go_enter Try.func19, Try.ntmps19
  go_wp2_with fail
  refine (Parts_any S f w HS.out).mono ?_
  rintro e w1 ⟨pv, M, rfl, hM, hMp, hb1⟩
  have HM1 := Lib.hid hM
  have HMP := Lib.hid hMp
  have HB1 := Lib.hid hb1
  clear hM hMp hb1
  go_wp2_with fail
  refine (RefParts_any v l w1 (HV.out.below HB1.out) hl HT.out.good).mono ?_
  rintro e w2 ⟨qv, Q, rfl, hQ, hQp, hb2⟩
  rw [HT.out.parts] at hQp
  have HQP := Lib.hid hQp
  have H2 : Hid (IsW w S f v l w.heap.size pv M w1.heap.size qv Q w2) := Lib.hid ⟨(HS.out.below HB1.out).below hb2, (HV.out.below HB1.out).below hb2, HM1.out.below hb2, hQ, HB1.out.trans (hb2.mono HB1.out.size)⟩
  clear hQ hQp hb2
  obtain ⟨n, hn⟩ : ∃ n, M.length = n := ⟨_, rfl⟩
  have hQn : Q.length = n := by
    have h1 := congrArg List.length (HMP.out.trans HQP.out.symm)
    rw [List.length_map, List.length_map] at h1
    rw [← h1, hn]
  have hn16 : n ≤ 16 := by
    have h1 := congrArg List.length HMP.out
    rw [List.length_map, hn] at h1
    rw [h1]
    exact partsUpto_len f 16
  have hnI : (n : Int) ≤ 16 := by omega
  obtain ⟨pp, pc, rfl, hpc, hpm⟩ := H2.out.p.row.sl
  obtain ⟨qp, qc, rfl, hqc, hqm⟩ := H2.out.q.row.sl
  have hpcI : (pc : Int) ≤ 9223372036854775807 := by unfold maxLen at hpm; omega
  have hqcI : (qc : Int) ≤ 9223372036854775807 := by unfold maxLen at hqm; omega
  rw [hn] at hpc H2 HM1 ⊢
  rw [hQn] at hqc H2 ⊢
  have HN := Lib.hid hn
  have HQN := Lib.hid hQn
  obtain ⟨sA, hsA⟩ : ∃ A : ByteArray, A = ⟨(encS f).toArray⟩ := ⟨_, rfl⟩
  have HSA := Lib.hid hsA
  have hself : (sA.toList == sA.toList) = true := (text_eq_iff sA sA).2 rfl
  clear hn hQn hsA hpm hqm
  go_upto_region 3 with fail
  refine wp_region_held_drew (S := fun W => IsW w S f v l w.heap.size (.slice pp n pc) M w1.heap.size (.slice qp n qc) Q W) (by kernel_rfl) (H2.out.below ((Below.refl _ _).drew)) (fun hHeld => ?_)
  refine wpAnyH_take (i := 0) (oi := _) (v := ?_) rfl (by kernel_rfl) (by kernel_rfl) (by kernel_rfl) (fun _ _ _ h => h) (Or.inl ⟨by kernel_rfl, ?hy1⟩) (by assumption) ?_
  case hy1 =>
    intro w9 hSw
    try dsimp only at hSw
    try simp only [List.getElem_toArray, List.getElem_cons_zero, List.getElem_cons_succ]
    go_simp
    try with_reducible rfl
  try simp only [Act.put, List.setIfInBounds_toArray, List.set_cons_zero, List.set_cons_succ, List.getElem_toArray, List.getElem_cons_zero, List.getElem_cons_succ]
  refine wpAnyH_take (i := 1) (oi := _) (v := ?_) rfl (by kernel_rfl) (by kernel_rfl) (by kernel_rfl) (fun _ _ _ h => h) (Or.inl ⟨by kernel_rfl, ?hy2⟩) (by assumption) ?_
  case hy2 =>
    intro w9 hSw
    try dsimp only at hSw
    try simp only [List.getElem_toArray, List.getElem_cons_zero, List.getElem_cons_succ]
    go_simp
    try with_reducible rfl
  try simp only [Act.put, List.setIfInBounds_toArray, List.set_cons_zero, List.set_cons_succ, List.getElem_toArray, List.getElem_cons_zero, List.getElem_cons_succ]
  refine wpAnyH_take (i := 2) (oi := _) (v := ?_) rfl (by kernel_rfl) (by kernel_rfl) (by kernel_rfl) (fun _ _ _ h => h) (Or.inl ⟨by kernel_rfl, ?hy3⟩) (by assumption) ?_
  case hy3 =>
    intro w9 hSw
    try dsimp only at hSw
    try simp only [List.getElem_toArray, List.getElem_cons_zero, List.getElem_cons_succ]
    go_simp
    try with_reducible rfl
  try simp only [Act.put, List.setIfInBounds_toArray, List.set_cons_zero, List.set_cons_succ, List.getElem_toArray, List.getElem_cons_zero, List.getElem_cons_succ]
  refine wpAnyH_take (i := 3) (oi := _) (v := ?_) rfl (by kernel_rfl) (by kernel_rfl) (by kernel_rfl) (fun _ _ _ h => h) (Or.inl ⟨by kernel_rfl, ?hy4⟩) (by assumption) ?_
  case hy4 =>
    intro w9 hSw
    try dsimp only at hSw
    try simp only [List.getElem_toArray, List.getElem_cons_zero, List.getElem_cons_succ]
    go_simp
    try with_reducible rfl
  try simp only [Act.put, List.setIfInBounds_toArray, List.set_cons_zero, List.set_cons_succ, List.getElem_toArray, List.getElem_cons_zero, List.getElem_cons_succ]
  refine wpAnyH_take (i := 4) (oi := _) (v := ?_) rfl (by kernel_rfl) (by kernel_rfl) (by kernel_rfl) (fun _ _ _ h => h) (Or.inl ⟨by kernel_rfl, ?hy5⟩) (by assumption) ?_
  case hy5 =>
    intro w9 hSw
    try dsimp only at hSw
    try simp only [List.getElem_toArray, List.getElem_cons_zero, List.getElem_cons_succ]
    go_simp
    try with_reducible rfl
  try simp only [Act.put, List.setIfInBounds_toArray, List.set_cons_zero, List.set_cons_succ, List.getElem_toArray, List.getElem_cons_zero, List.getElem_cons_succ]
  refine wpAnyH_take (i := 5) (oi := _) (v := ?_) rfl (by kernel_rfl) (by kernel_rfl) (by kernel_rfl) (fun _ _ _ h => h) (Or.inl ⟨by kernel_rfl, ?hy6⟩) (by assumption) ?_
  case hy6 =>
    intro w9 hSw
    try dsimp only at hSw
    try simp only [List.getElem_toArray, List.getElem_cons_zero, List.getElem_cons_succ]
    go_simp
    try with_reducible rfl
  try simp only [Act.put, List.setIfInBounds_toArray, List.set_cons_zero, List.set_cons_succ, List.getElem_toArray, List.getElem_cons_zero, List.getElem_cons_succ]
  refine wpAnyH_take (i := 6) (oi := _) (v := ?_) rfl (by kernel_rfl) (by kernel_rfl) (by kernel_rfl) (fun _ _ _ h => h) (Or.inl ⟨by kernel_rfl, ?hy7⟩) (by assumption) ?_
  case hy7 =>
    intro w9 hSw
    try dsimp only at hSw
    try simp only [List.getElem_toArray, List.getElem_cons_zero, List.getElem_cons_succ]
    go_simp
    try with_reducible rfl
  try simp only [Act.put, List.setIfInBounds_toArray, List.set_cons_zero, List.set_cons_succ, List.getElem_toArray, List.getElem_cons_zero, List.getElem_cons_succ]
  refine wpAnyH_take (i := 9) (oi := _) (v := ?_) rfl (by kernel_rfl) (by kernel_rfl) (by kernel_rfl) (fun _ _ _ h => h) (Or.inl ⟨by kernel_rfl, ?hy8⟩) (by assumption) ?_
  case hy8 =>
    intro w9 hSw
    try dsimp only at hSw
    try simp only [List.getElem_toArray, List.getElem_cons_zero, List.getElem_cons_succ]
    go_simp
    try with_reducible rfl
  try simp only [Act.put, List.setIfInBounds_toArray, List.set_cons_zero, List.set_cons_succ, List.getElem_toArray, List.getElem_cons_zero, List.getElem_cons_succ]
  refine wpAnyH_ready (rs := [7]) (by kernel_rfl) (by simp) (AllReadyH.cons (o := _) rfl (fun K hK => ?_) AllReadyH.nil)
  try simp only [List.getElem_toArray, List.getElem_cons_zero, List.getElem_cons_succ]
  go_simp
  refine (Encode_any S f _ hHeld.s).mono ?_
  rintro e w6 ⟨v6, rfl, ho6, hb6⟩
  refine hK.out _ _ ((hHeld.below hb6)) (fun hHeld => ?_)
  clear hK K
  try simp only [Act.put, List.setIfInBounds_toArray, List.set_cons_zero, List.set_cons_succ, List.getElem_toArray, List.getElem_cons_zero, List.getElem_cons_succ]
  have hX6 : HasA w6 v6 (encS f) := ho6.has0
  have hS6 : IsW w S f v l w.heap.size (.slice pp n pc) M w1.heap.size (.slice qp n qc) Q w6 ∧ HasA w6 v6 (encS f) := ⟨hHeld, hX6⟩
  clear hHeld ho6
  refine wpAnyH_more (S' := fun W => IsW w S f v l w.heap.size (.slice pp n pc) M w1.heap.size (.slice qp n qc) Q W ∧ HasA W v6 (encS f)) (fun w' h => h.1) _ _ _ _ ?_
  have hHeld := hS6
  refine wpAnyH_take (i := 8) (oi := _) (v := (.string sA)) rfl (by kernel_rfl) (by kernel_rfl) (by kernel_rfl) (fun _ _ _ h => h) (Or.inl ⟨by kernel_rfl, ?hy9⟩) (by assumption) ?_
  case hy9 =>
    intro w9 hSw
    try dsimp only at hSw
    try simp only [List.getElem_toArray, List.getElem_cons_zero, List.getElem_cons_succ]
    go_simp
    have hcv : (convert 28 9 v6).run Try.prog w9 = .ok (.string sA) w9 := by rw [HSA.out]; exact HasA.string (w := w9) hSw.2 0
    rw [hcv]
    rfl
  try simp only [Act.put, List.setIfInBounds_toArray, List.set_cons_zero, List.set_cons_succ, List.getElem_toArray, List.getElem_cons_zero, List.getElem_cons_succ]
  refine wpAnyH_ready (rs := [10]) (by kernel_rfl) (by simp) (AllReadyH.cons (o := _) rfl (fun K hK => ?_) AllReadyH.nil)
  try simp only [List.getElem_toArray, List.getElem_cons_zero, List.getElem_cons_succ]
  go_simp
  refine (RefEnc_any v l f _ hHeld.1.v hl HT.out HO.out).mono ?_
  rintro e w7 ⟨v7, rfl, ho7, hb7⟩
  refine hK.out _ _ (⟨hHeld.1.below hb7, hHeld.2.below hb7⟩) (fun hHeld => ?_)
  clear hK K
  try simp only [Act.put, List.setIfInBounds_toArray, List.set_cons_zero, List.set_cons_succ, List.getElem_toArray, List.getElem_cons_zero, List.getElem_cons_succ]
  have hcv7 : (convert 28 9 v7).run Try.prog w7 = .ok (.string sA) w7 := by rw [HSA.out]; exact HasA.string (w := w7) ho7.has0 0
  refine wpAnyH_ready (rs := [11]) (by kernel_rfl) (by simp) (AllReadyH.cons (o := _) rfl (fun K hK => ?_) AllReadyH.nil)
  try simp only [List.getElem_toArray, List.getElem_cons_zero, List.getElem_cons_succ]
  go_simp
  refine hK.out _ _ (hHeld) (fun hHeld => ?_)
  clear hK K
  try simp only [Act.put, List.setIfInBounds_toArray, List.set_cons_zero, List.set_cons_succ, List.getElem_toArray, List.getElem_cons_zero, List.getElem_cons_succ]
  refine wpAnyH_take (i := 12) (oi := _) (v := ?_) rfl (by kernel_rfl) (by kernel_rfl) (by kernel_rfl) (fun _ _ _ h => h) (Or.inl ⟨by kernel_rfl, ?hy10⟩) (by assumption) ?_
  case hy10 =>
    intro w9 hSw
    try dsimp only at hSw
    try simp only [List.getElem_toArray, List.getElem_cons_zero, List.getElem_cons_succ]
    go_simp
    try with_reducible rfl
  try simp only [Act.put, List.setIfInBounds_toArray, List.set_cons_zero, List.set_cons_succ, List.getElem_toArray, List.getElem_cons_zero, List.getElem_cons_succ]
  refine wpAnyH_take (i := 13) (oi := _) (v := ?_) rfl (by kernel_rfl) (by kernel_rfl) (by kernel_rfl) (fun _ _ _ h => h) (Or.inl ⟨by kernel_rfl, ?hy11⟩) (by assumption) ?_
  case hy11 =>
    intro w9 hSw
    try dsimp only at hSw
    try simp only [List.getElem_toArray, List.getElem_cons_zero, List.getElem_cons_succ]
    go_simp
    try with_reducible rfl
  try simp only [Act.put, List.setIfInBounds_toArray, List.set_cons_zero, List.set_cons_succ, List.getElem_toArray, List.getElem_cons_zero, List.getElem_cons_succ]
  refine wpAnyH_done (by kernel_rfl) ?_ _
  have H7 := Lib.hid hHeld.1
  clear hHeld hcv7 ho7 hb7 hb6 hS6 hX6 HSA hself
  have H8 : Hid (IsR w w.heap.size (.slice pp n pc) M M w1.heap.size (.slice qp n qc) Q w7) := Lib.hid ⟨H7.out.p, H7.out.q, H7.out.b, rfl⟩
  go_wp2_with fail
  go_loopw [7] (fun vi wr => ∃ (i : Nat) (M' : List Pt), vi = .int .i64 (i : Int) ∧ i ≤ n ∧ IsR w w.heap.size (.slice pp n pc) M M' w1.heap.size (.slice qp n qc) Q wr ∧ ∀ j, i ≤ j → M'[j]? = M[j]?) (fun vi _ => n - (intOf vi).toNat)
  case atStart => exact ⟨0, M, rfl, Nat.zero_le _, H8.out, fun _ _ => rfl⟩
  case round =>
    obtain ⟨i, M', rfl, hi, h0, hr0⟩ := hrel
    obtain ⟨W0, rfl⟩ : ∃ W0, W0 = wr := ⟨wr, rfl⟩
    have H0 := Lib.hid h0
    have HR0 := Lib.hid hr0
    clear h0 hr0
    rcases Nat.lt_or_ge i n with hlt | hge
    · have hI : (i : Int) < (n : Int) := by omega
      have hi0 : (0 : Int) ≤ (i : Int) := by omega
      have hiM : i < M.length := by rw [HN.out]; exact hlt
      have hiQ : i < Q.length := by rw [HQN.out]; exact hlt
      obtain ⟨G, rfl⟩ := H7.out.p.place' (by omega)
      obtain ⟨G2, rfl, -, -, -⟩ := H7.out.q.place (by omega)
      have hpair : M[i].pair = Q[i].pair := by
        have h1 := HMP.out.trans HQP.out.symm
        have h2 := List.getElem_of_eq h1 (i := i) (by rw [List.length_map]; exact hiM)
        rwa [List.getElem_map, List.getElem_map] at h2
      have hMi : M[i]? = some M[i] := List.getElem?_eq_getElem hiM
      have hQi : Q[i]? = some Q[i] := List.getElem?_eq_getElem hiQ
      obtain ⟨x, hx⟩ : ∃ x, M[i] = x := ⟨_, rfl⟩
      obtain ⟨z, hz⟩ : ∃ z, Q[i] = z := ⟨_, rfl⟩
      rw [hx, hz] at hpair
      rw [hx] at hMi
      rw [hz] at hQi
      obtain ⟨dd, ⟨u, m0⟩, mp, mc⟩ := x
      obtain ⟨d2, ⟨u2, m2⟩, qmp, qmc⟩ := z
      have hpair : dd = d2 ∧ u = u2 ∧ m0 = m2 := by
        have h1 : (dd, (⟨u, m0⟩ : Nm)) = (d2, ⟨u2, m2⟩) := hpair
        simp only [Prod.mk.injEq, Nm.mk.injEq] at h1
        exact h1
      obtain ⟨rfl, rfl, rfl⟩ := hpair
      have hmx := (HM1.out.part' i _ hMi).2.2.2
      have hbase : ∀ g, mp = some ⟨g, 0, none⟩ → w.heap.size ≤ g ∧ g < w1.heap.size := fun g e => OwnK.lt hmx g (by rw [e]; rfl)
      have HBASE := Lib.hid hbase
      have HMI := Lib.hid hMi
      have HQI := Lib.hid hQi
      obtain ⟨m, hm⟩ : ∃ m, m0.length = m := ⟨_, rfl⟩
      have HM := Lib.hid hm
      obtain ⟨hmc, hmcI⟩ := hmx.caps'
      have hqx := (H7.out.q.part' i _ hQi).2.2.2
      obtain ⟨hqmc, hqmcI⟩ := hqx.caps'
      simp only at hmc hqmc hmcI hqmcI
      rw [hm] at hmc hqmc
      have hmI : (m : Int) ≤ 9223372036854775807 := by omega
      clear hx hz hmx hqx hbase hMi hQi hm
      have hp0 := H0.out.p.part' i _ ((HR0.out i (Nat.le_refl _)).trans HMI.out)
      have hq0 := H0.out.q.part' i _ HQI.out
      obtain ⟨c0, c1, c2, -⟩ := hp0
      obtain ⟨e0, e1, e2, -⟩ := hq0
      simp only at c0 c1 c2 e0 e1 e2
      rw [HM.out] at c2 e2
      go_upto_region 8 with fail
      go_cut [71] (fun v wz => v = .bool false ∧ ∃ kq, wz = W0.drewN kq)
      case first =>
        have h1 : ((dd : Int) != (dd : Int)) = false := by simp
        have h2 : ((u : Int) != (u : Int)) = false := by simp
        have h3 : ((m : Int) != (m : Int)) = false := by simp
        go_quiet (fail)
        go_wp2
        go_meet
        exact ⟨rfl, _, rfl⟩
      case rest =>
        obtain ⟨rfl, kq, rfl⟩ := hcut
        have hb0 : Below W0.heap.size W0 (W0.drewN kq) := below_drewN' (Below.refl _ _) kq
        have H1 := Lib.hid (H0.out.below hb0)
        clear hb0 H0 c0 c1 c2 e0 e1 e2
        obtain ⟨W1, hW1⟩ : ∃ W1, W0.drewN kq = W1 := ⟨_, rfl⟩
        rw [hW1] at H1 ⊢
        clear hW1
        go_wp2_with fail
        go_loopw [8] (fun vk wr => ∃ (k : Nat) (M2 : List Pt) (L : List Nat), vk = .int .i64 (k : Int) ∧ k ≤ m ∧ IsR w w.heap.size (.slice (some ⟨G, 0, none⟩) n pc) M M2 w1.heap.size (.slice (some ⟨G2, 0, none⟩) n qc) Q wr ∧ (∀ j, i + 1 ≤ j → M2[j]? = M[j]?) ∧ M2[i]? = some ⟨dd, ⟨u, L⟩, mp, mc⟩ ∧ L.length = m ∧ ∀ j, k ≤ j → L.getD j 0 = m0.getD j 0) (fun vk _ => m - (intOf vk).toNat)
        case atStart => exact ⟨0, M', m0, rfl, Nat.zero_le _, H1.out, fun j hj => HR0.out j (by omega), (HR0.out i (Nat.le_refl _)).trans HMI.out, HM.out, fun _ _ => rfl⟩
        case round =>
          obtain ⟨k, M2, L, rfl, hk, h2, hr2, hi2, hL, hLs⟩ := hrel
          obtain ⟨W2, rfl⟩ : ∃ W2, W2 = wr := ⟨wr, rfl⟩
          have H2b := Lib.hid h2
          have HR2 := Lib.hid hr2
          have HI2 := Lib.hid hi2
          have HLL := Lib.hid hL
          have HLS := Lib.hid hLs
          clear h2 hr2 hi2 hL hLs
          obtain ⟨c0, c1, c2, hKp⟩ := H2b.out.p.part' i _ HI2.out
          obtain ⟨e0, e1, e2, hKq⟩ := H2b.out.q.part' i _ HQI.out
          simp only at c0 c1 c2 e0 e1 e2 hKp hKq
          rw [HLL.out] at c2
          rw [HM.out] at e2
          rcases Nat.lt_or_ge k m with hkm | hkm
          · have hkI : (k : Int) < (m : Int) := by omega
            have hk0 : (0 : Int) ≤ (k : Int) := by omega
            have hkL : k < L.length := by rw [HLL.out]; exact hkm
            have hkM : k < m0.length := by rw [HM.out]; exact hkm
            obtain ⟨gm, rfl, cn, -, -⟩ := hKp.numAt' k hkL
            obtain ⟨gq, rfl, en, -, -⟩ := hKq.numAt' k hkM
            rw [HLS.out k (Nat.le_refl _)] at cn
            obtain ⟨y, hy⟩ : ∃ y, m0.getD k 0 = y := ⟨_, rfl⟩
            rw [hy] at cn en
            obtain ⟨hb1, hb2⟩ := HBASE.out gm rfl
            have hst := H2b.out.store HI2.out k 99 hkL hb1 hb2
            have HST := Lib.hid hst
            have hfz : ∀ kq, (W2.drewN kq).frozen? ⟨gm, k, none⟩ = false := fun kq => by
              obtain ⟨_, hcur⟩ := OwnK.type hKp (g := gm) rfl
              show W2.frozen? _ = false
              simp [World.frozen?, hcur]
            have HFZ := Lib.hid hfz
            clear hKp hKq hy hst hfz
            go_upto_region 13 with fail
            go_cut [98] (fun v wz => v = .bool false ∧ ∃ kq, wz = W2.drewN kq)
            case first =>
              have h1 : ((y : Int) != (y : Int)) = false := by simp
              go_quiet (fail)
              go_wp2
              go_meet
              exact ⟨rfl, _, rfl⟩
            case rest =>
              obtain ⟨rfl, kq, rfl⟩ := hcut
              have hf := HFZ.out kq
              have HST2 : Hid (IsR w w.heap.size (.slice (some ⟨G, 0, none⟩) n pc) M (M2.set i ⟨dd, ⟨u, L.set k 99⟩, some ⟨gm, 0, none⟩, mc⟩) w1.heap.size (.slice (some ⟨G2, 0, none⟩) n qc) Q ((W2.drewN kq).setCell ⟨gm, k, none⟩ (.int .u64 99))) := by
                have hb0 : Below W2.heap.size W2 (W2.drewN kq) := below_drewN' (Below.refl _ _) kq
                exact Lib.hid ((H2b.out.below hb0).store HI2.out k 99 hkL hb1 hb2)
              have c2' : (W2.drewN kq).cell? ⟨G, i * 3 + 2, none⟩ = some (.slice (some ⟨gm, 0, none⟩) m mc) := c2
              have cn' : (W2.drewN kq).cell? ⟨gm, k, none⟩ = some (.int .u64 (y : Int)) := cn
              go_wp2
              go_roundw
              case rel =>
                refine ⟨k + 1, _, L.set k 99, by go_num, hkm, HST2.out, fun j hj => ?_, ?_, by rw [List.length_set]; exact HLL.out, fun j hj => ?_⟩
                · rw [List.getElem?_set, if_neg (by omega)]
                  exact HR2.out j hj
                · obtain ⟨hl2, _⟩ := List.getElem?_eq_some_iff.1 HI2.out
                  rw [List.getElem?_set, if_pos rfl, if_pos hl2]
                · rw [List.getD_eq_getElem?_getD, List.getElem?_set, if_neg (by omega), ← List.getD_eq_getElem?_getD]
                  exact HLS.out j (by omega)
              case measure => simp [intOf] <;> omega
          · obtain rfl : k = m := by omega
            have hkI : ¬ (k : Int) < (k : Int) := by omega
            clear hKp hKq
            go_wp2
            go_roundw
            case rel => exact ⟨i + 1, M2, by go_num, hlt, H2b.out, HR2.out⟩
            case measure => simp [intOf] <;> omega
    · obtain rfl : i = n := by omega
      have hI : ¬ (i : Int) < (i : Int) := by omega
      go_wp2
      go_ret
      exact ⟨rfl, H0.out.b⟩
end Go.Proofs.Ytfgfamafjkjakaa
