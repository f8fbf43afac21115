/-
  Package simnet: Drop, Double, Deliver.
-/
import Derived.Test.YtaopnoaopcbkoaaNetCut
namespace Go.Proofs.Ytaopnoaopcbkoaa
open Go.ChangeShapes Go.WideShapes Go.ChangeAt Go.RowKit Go.Deep
set_option linter.unusedVariables false
set_option linter.unusedSimpArgs false

abbrev Sorted (L : List Pk) : Prop := L.Pairwise (fun a b => a.id < b.id)
def pkAt (L : List Pk) (t : Int) : Option Pk := L.find? fun p => decide ((p.id : Int) = t)
def without (L : List Pk) (t : Int) : List Pk := L.filter fun p => !decide ((p.id : Int) = t)
theorem pkAt_none {L : List Pk} {t : Int} (h : ∀ p ∈ L, (p.id : Int) ≠ t) : pkAt L t = none := by
  unfold pkAt
  rw [List.find?_eq_none]
  intro p hp
  simpa using h p hp
theorem without_none {L : List Pk} {t : Int} (h : ∀ p ∈ L, (p.id : Int) ≠ t) : without L t = L := by
  unfold without
  rw [List.filter_eq_self]
  intro p hp
  simpa using h p hp
theorem pkAt_some : ∀ {L : List Pk} {t : Int} {i : Nat} (hs : Sorted L) (hi : i < L.length) (h : (L[i].id : Int) = t), pkAt L t = some L[i]
  | [], _, _, _, hi, _ => absurd hi (Nat.not_lt_zero _)
  | a :: r, t, 0, hs, hi, h => by
    unfold pkAt
    simp only [List.getElem_cons_zero] at h ⊢
    rw [List.find?_cons_of_pos (by simpa using h)]
  | a :: r, t, i + 1, hs, hi, h => by
    simp only [List.getElem_cons_succ] at h ⊢
    have hlt := (List.pairwise_cons.1 hs).1 (r[i]'(by simpa using hi)) (List.getElem_mem _)
    have ih := pkAt_some (List.pairwise_cons.1 hs).2 (by simpa using hi) h
    unfold pkAt at ih ⊢
    rw [List.find?_cons_of_neg (by simp; omega)]
    exact ih
theorem without_some : ∀ {L : List Pk} {t : Int} {i : Nat} (hs : Sorted L) (hi : i < L.length) (h : (L[i].id : Int) = t), without L t = L.eraseIdx i
  | [], _, _, _, hi, _ => absurd hi (Nat.not_lt_zero _)
  | a :: r, t, 0, hs, hi, h => by
    simp only [List.getElem_cons_zero] at h
    have h1 := without_none (L := r) (t := t) (fun p hp => by have := (List.pairwise_cons.1 hs).1 p hp; omega)
    unfold without at h1 ⊢
    rw [List.filter_cons_of_neg (by simpa using h), h1]
    rfl
  | a :: r, t, i + 1, hs, hi, h => by
    simp only [List.getElem_cons_succ] at h
    have hlt := (List.pairwise_cons.1 hs).1 (r[i]'(by simpa using hi)) (List.getElem_mem _)
    have ih := without_some (List.pairwise_cons.1 hs).2 (by simpa using hi) h
    unfold without at ih ⊢
    rw [List.filter_cons_of_pos (by simp; omega), ih]
    rfl
theorem without_sorted {L : List Pk} (t : Int) (hs : Sorted L) : Sorted (without L t) := hs.filter _
def dropN (L : List Pk) (t : Int) : Int := if (pkAt L t).isSome then 0 else 4
def takeV (N : NetV) (t : Int) : NetV := { N with wait := without N.wait t }
theorem takeV_none {N : NetV} {t : Int} (h : ∀ p ∈ N.wait, (p.id : Int) ≠ t) : takeV N t = N := by unfold takeV; rw [without_none h]

/-- Another block of bytes is as it was. -/
theorem Own.stays {w w' : World} {B : Nat} {T : TypeId} {v : Value} {l : List UInt8} (h : Own w B T v l) (hs : ∀ (k : Nat) (c : Array Value), w.heap[k]? = some (Obj.cells c T (0, 0)) → w'.heap[k]? = w.heap[k]?) : Own w' B T v l :=
  ⟨h.1, h.2.imp id fun ⟨g, cap, cur, hv, hB, hh, r⟩ => ⟨g, cap, cur, hv, hB, (hs g cur hh).trans hh, r⟩⟩
theorem WRow.atPk {w : World} {B : Nat} {v : Value} {L : List Pk} {F : Nat → Prop} (h : WRow w B v L F) (i : Nat) (hi : i < L.length) :
    ∃ g cap bv, v = .slice (some ⟨g, 0, none⟩) L.length cap ∧ L.length ≤ cap ∧ cap ≤ maxLen ∧ w.cell? ⟨g, i * 4, none⟩ = some (.int .i64 (L[i].id : Int)) ∧ w.cell? ⟨g, i * 4 + 1, none⟩ = some (.int .i64 L[i].fr) ∧ w.cell? ⟨g, i * 4 + 2, none⟩ = some (.int .i64 L[i].to) ∧ w.cell? ⟨g, i * 4 + 3, none⟩ = some bv ∧ Own w B 5 bv L[i].data ∧ (∀ g, bv.ownBlock = some g → F g) := by
  obtain ⟨Ps, e, hr, _, hp⟩ := h
  have hPl : Ps.length = L.length := by rw [← e]; simp
  rcases hr.2 with ⟨hv, hn⟩ | ⟨g, cap, cur, hv, hg, hh, k1, k2, _⟩
  · omega
  · have hL : L[i] = (Ps[i]'(by omega)).1 := by subst e; simp
    have c := fun (j : Nat) (hj : j < 4) => (World.ownsRow.cellAt (hv ▸ hr : w.ownsRow B 72 4 (.slice (some ⟨g, 0, none⟩) L.length cap) L.length (rowOf Ps)) (i * 4 + j) (by omega)).trans (rowOf_get Ps i (by omega) j hj)
    refine ⟨g, cap, (Ps[i]'(by omega)).2, hv, k1, k2, ?_, ?_, ?_, ?_, ?_, (hp _ (List.getElem_mem _)).2⟩
    · have := c 0 (by omega); rw [hL]; simpa [pkCells] using this
    · have := c 1 (by omega); rw [hL]; simpa [pkCells] using this
    · have := c 2 (by omega); rw [hL]; simpa [pkCells] using this
    · have := c 3 (by omega); simpa [pkCells] using this
    · rw [hL]; exact (hp _ (List.getElem_mem _)).1
/-- What waits was written anew, ahead of the struct. -/
theorem Net.wrote {w w' : World} {B R : Nat} {F : Nat → Prop} {N : NetV} {wv fv wv' : Value} {L : List Pk} (hh : w.heap[R]? = some (.cells #[wv, .int .i64 (N.sent : Int), .int .i64 N.now, fv, .int .u64 (N.seed : Int)] 68 (0, 0))) (hR : F R) (hF : ∀ k, F k → B ≤ k ∧ k < w.heap.size) (hf : FRow w B fv N.fed F) (hW : WRow w' B wv' L F)
    (ho : ∀ k, k < w.heap.size → (∀ c, w.heap[k]? ≠ some (.cells c 72 (0, 0))) → w'.heap[k]? = w.heap[k]?) (hs : w'.heap.size = w.heap.size) : Net (w'.setCell ⟨R, 0, none⟩ wv') B R { N with wait := L } F := by
  have hh' : w'.heap[R]? = some (.cells #[wv, .int .i64 (N.sent : Int), .int .i64 N.now, fv, .int .u64 (N.seed : Int)] 68 (0, 0)) := (ho R (lt_of_block hh) (fun c hc => by rw [hh] at hc; simp at hc)).trans hh
  refine Net.put hh' hR (fun k hk => by rw [hs]; exact hF k hk) hW (hf.same (fun _ _ h => h) (fun k c hk hc => ho k (lt_of_block hc) (fun c' hc' => by rw [hc] at hc'; simp at hc'))) (World.size_setCell _ _ _) (fun k hk => Below.heap_setCell _ _ _ _ hk) ?_
  rw [heap_setCell_same _ _ _ _ _ _ hh']
  rfl
theorem WRow.form {w : World} {B : Nat} {v : Value} {L : List Pk} {F : Nat → Prop} (h : WRow w B v L F) : ∃ p n c, v = .slice p n c := by
  obtain ⟨Ps, _, hr, _⟩ := h
  rcases hr.2 with ⟨hv, _⟩ | ⟨g, cap, cur, hv, _⟩
  · exact ⟨_, _, _, hv⟩
  · exact ⟨_, _, _, hv⟩
set_option maxRecDepth 100000 in
set_option maxHeartbeats 4000000 in
theorem Drop_any (w : World) (B R : Nat) (N : NetV) (F : Nat → Prop) (h : Net w B R N F) (t : Int) (hl : N.wait.length ≤ 1099511627776) (hs : Sorted N.wait) :
    Calls Try.prog 12 #[.pointer (some ⟨R, 0, none⟩), .int .i64 t] w fun e w' => e = .returned (.int .i64 (dropN N.wait t)) ∧ Net w' B R (takeV N t) F ∧ Keeps F w w' := by
  have HC := Lib.hid (place_any w B R N F h t hl hs)
  have HH := Lib.hid h
  have HS := Lib.hid hs
  clear h hs
  go_enter Try.func12, Try.ntmps12
  go_wp2_with fail
  refine HC.out.mono ?_
  rintro e w1 ⟨hb, i, f, rfl, hif⟩
  have HB := Lib.hid hb
  have HN := Lib.hid (HH.out.below hb)
  clear hb
  rcases hif with ⟨rfl, hi, hid⟩ | ⟨rfl, hno⟩
  · obtain ⟨wv, fv, c0, c1, c2, c3, c4, hz, hh, hR, hF, hW, hf⟩ := HN.out.cells
    have hi' : (i : Int) < (N.wait.length : Int) := by omega
    have HC2 := Lib.hid (Delete_any w1 B wv N.wait F hW.out i hi ((i : Int) + 1) rfl hl)
    obtain ⟨wp, wn, wc, hwv⟩ := hW.out.form
    subst hwv
    have HID := Lib.hid hid
    clear hid
    go_wp2_with fail
    refine HC2.out.mono ?_
    rintro e w2 ⟨v', rfl, hw2, hk2, ho2, hs2⟩
    have HFIN := Lib.hid (Net.wrote hh.out hR.out hF.out hf.out hw2 ho2 hs2)
    have hh2 := (ho2 R (lt_of_block hh.out) (fun c hc => by rw [hh.out] at hc; simp at hc)).trans hh.out
    obtain ⟨e0, e1, e2, e3, e4, ez⟩ := net_cells hh2
    obtain ⟨vp, vn, vc, hv'⟩ := hw2.form
    have HK2 := Lib.hid hk2
    subst hv'
    clear hh2 hw2 hk2 ho2 hs2
    go_wp2
    go_ret
    have e1 := pkAt_some HS.out hi HID.out
    refine ⟨by unfold dropN; rw [e1]; rfl, ?_, ((Keeps.of_below HB.out).trans HK2.out (fun _ _ h => h)).setCell _ _ (fun _ => hR.out)⟩
    unfold takeV
    rw [without_some HS.out hi HID.out]
    exact HFIN.out
  · have HNO := Lib.hid hno
    clear hno
    go_wp2
    go_ret
    exact ⟨by unfold dropN; rw [pkAt_none HNO.out]; rfl, by rw [takeV_none HNO.out]; exact HN.out, Keeps.of_below HB.out⟩
def doubleV (N : NetV) (t : Int) : NetV := match pkAt N.wait t with
  | some p => sendV N p.fr p.to p.data
  | none => N
def doubleN (N : NetV) (t : Int) : Int × Int := match pkAt N.wait t with
  | some p => ((N.sent : Int) + 1, 0)
  | none => (0, 4)
set_option maxRecDepth 100000 in
set_option maxHeartbeats 4000000 in
theorem Double_any (w : World) (B R : Nat) (N : NetV) (F : Nat → Prop) (h : Net w B R N F) (t : Int) (hl : N.wait.length ≤ 1099511627776) (hs : Sorted N.wait) (hsn : N.sent ≤ 1099511627776) (hd : ∀ p ∈ N.wait, p.data.length ≤ 140737488355328) :
    Calls Try.prog 11 #[.pointer (some ⟨R, 0, none⟩), .int .i64 t] w fun e w' => e = .returned (.tuple #[.int .i64 (doubleN N t).1, .int .i64 (doubleN N t).2]) ∧ ∃ F', Net w' B R (doubleV N t) F' ∧ Keeps F w w' ∧ (∀ k, k < w.heap.size → F' k → F k) := by
  have HC := Lib.hid (place_any w B R N F h t hl hs)
  have HH := Lib.hid h
  have HS := Lib.hid hs
  have HD := Lib.hid hd
  clear h hs hd
  go_enter Try.func11, Try.ntmps11
  go_wp2_with fail
  refine HC.out.mono ?_
  rintro e w1 ⟨hb, i, f, rfl, hif⟩
  have HB := Lib.hid hb
  have HN := Lib.hid (HH.out.below hb)
  clear hb
  rcases hif with ⟨rfl, hi, hid⟩ | ⟨rfl, hno⟩
  · obtain ⟨wv, fv, c0, c1, c2, c3, c4, hz, hh, hR, hF, hW, hf⟩ := HN.out.cells
    have hi' : (i : Int) < (N.wait.length : Int) := by omega
    obtain ⟨g, cap, bv, hwv, q1, q2, p0, p1, p2, p3, hown, hbF⟩ := hW.out.atPk i hi
    have HPK := Lib.hid (pkAt_some HS.out hi hid)
    subst hwv
    have hm : (cap : Int) ≤ 9223372036854775807 := by unfold maxLen at q2; omega
    have HQ := Lib.hid q2
    have HL := Lib.hid (HD.out _ (List.getElem_mem hi))
    obtain ⟨pk, hpk⟩ : ∃ pk, N.wait[i] = pk := ⟨_, rfl⟩
    rw [hpk] at p0 p1 p2 hown HPK HL
    obtain ⟨bp, bc, hbv, _⟩ := hown.has.form
    subst hbv
    have HOWN := Lib.hid hown
    have hb2 : ∀ o, Below w1.heap.size w1 (w1.alloc o) := fun o => (Below.refl w1.heap.size w1).alloc (Nat.le_refl _) o
    have HB2 := Lib.hid hb2
    clear hid hown hbF q2 hpk hb2
    go_wp2_with fail
    refine (Send_any _ B R N F (HN.out.below (HB2.out _)) pk.fr pk.to _ pk.data ((HOWN.out.below (HB2.out _)).has.wide) hsn hl HL.out).mono ?_
    rintro e w3 ⟨F', rfl, hn3, hk3, hf3⟩
    have HN3 := Lib.hid hn3
    have HK3 := Lib.hid hk3
    have HF3 := Lib.hid hf3
    clear hn3 hk3 hf3
    go_wp2
    go_ret2
    refine ⟨by unfold doubleN; rw [HPK.out]; rfl, F', by unfold doubleV; rw [HPK.out]; exact HN3.out, ((Keeps.of_below HB.out).trans (Keeps.of_below (HB2.out _)) (F := F) (fun _ _ h => h)).trans HK3.out (fun _ _ h => h), fun k hk hf => HF3.out k (by have := (HB2.out (.cells #[.int .i64 pk.id, .int .i64 pk.fr, .int .i64 pk.to, .slice bp pk.data.length bc] 72)).size; have := HB.out.size; omega) hf⟩
  · have HNO := Lib.hid hno
    clear hno
    go_wp2
    go_ret2
    exact ⟨by unfold doubleN; rw [pkAt_none HNO.out]; rfl, F, by unfold doubleV; rw [pkAt_none HNO.out]; exact HN.out, Keeps.of_below HB.out, fun _ _ h => h⟩
end Go.Proofs.Ytaopnoaopcbkoaa
