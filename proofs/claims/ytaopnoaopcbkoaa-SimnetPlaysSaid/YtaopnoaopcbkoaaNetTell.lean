/-
  Package simnet: Packets.
-/
import Derived.Test.YtaopnoaopcbkoaaNetDel
namespace Go.Proofs.Ytaopnoaopcbkoaa
open Go.ChangeShapes Go.WideShapes Go.ChangeAt Go.RowKit Go.Deep
set_option linter.unusedVariables false
set_option linter.unusedSimpArgs false

def tellCells (p : Pk) : List Value := [.int .i64 (p.id : Int), .int .i64 p.fr, .int .i64 p.to, .int .i64 (p.data.length : Int)]
def tellRow (L : List Pk) : List Value := L.flatMap tellCells
theorem tellRow_snoc (L : List Pk) (i : Nat) (h : i < L.length) : tellRow (L.take (i + 1)) = tellRow (L.take i) ++ tellCells L[i] := by
  unfold tellRow
  rw [List.take_succ_eq_append_getElem h, List.flatMap_append]
  simp
theorem tellRow_len : ∀ (L : List Pk), (tellRow L).length = L.length * 4
  | [] => rfl
  | p :: r => by
    have := tellRow_len r
    unfold tellRow at this ⊢
    rw [List.flatMap_cons, List.length_append, this]
    simp only [tellCells, List.length_cons, List.length_nil]
    omega
theorem tellCells_one (p : Pk) : ∀ u ∈ tellCells p, u.oneCell' = true := by
  intro u hu
  simp only [tellCells, List.mem_cons, List.not_mem_nil, or_false] at hu
  rcases hu with rfl | rfl | rfl | rfl <;> rfl
theorem info_tell : (Try.prog.info? 64).map (fun i => (i.zero, i.size, i.bytes)) = some (some (.agg #[.int .i64 0, .int .i64 0, .int .i64 0, .int .i64 0]), 4, 32) := by kernel_rfl
theorem WRow.formL {w : World} {B : Nat} {v : Value} {L : List Pk} {F : Nat → Prop} (h : WRow w B v L F) : ∃ p cap, v = .slice p L.length cap := by
  obtain ⟨p, cap, g, hv, _⟩ := h.reads
  exact ⟨p, cap, hv⟩
/-- A row told. -/
def Told (w : World) (B : Nat) (v : Value) (L : List Pk) : Prop := w.ownsRow B 64 4 v L.length (tellRow L)
def PRow (B : Nat) (L : List Pk) (i : Nat) (v : Value) (w : World) : Prop := w.ownsRow B 64 4 v i (tellRow (L.take i))
theorem below_grown {w W w3 : World} {B n : Nat} {v : Value} {e : TypeId} {vs : List Value} (hb : Below B w W) (hr : W.ownsRow B e 4 v n vs) (hg : W.grownBy w3 v.ownBlock) (hB : B ≤ W.heap.size) : Below B w w3 :=
  hb.trans ⟨hg.os, hg.tape, hg.output, hg.size, fun k hk => hg.block k (by omega) (fun he => by have := (World.ownsRow.lt hr k he.symm).1; omega)⟩
theorem tell_at (w : World) (p : Pk) (a : Int) (T : TypeId) (f : Nat × Nat) (ha : a = (p.id : Int)) : ∀ j u, (tellCells p)[j]? = some u → (w.alloc (.cells #[.int .i64 a, .int .i64 p.fr, .int .i64 p.to, .int .i64 (p.data.length : Int)] T f)).cell? ⟨w.heap.size, j, none⟩ = some u := by
  subst ha
  intro j u hj
  have h := heap_alloc_new w (.cells #[.int .i64 (p.id : Int), .int .i64 p.fr, .int .i64 p.to, .int .i64 (p.data.length : Int)] T f)
  unfold World.cell?
  rw [h]
  match j, hj with
  | 0, hj => simpa [tellCells] using hj
  | 1, hj => simpa [tellCells] using hj
  | 2, hj => simpa [tellCells] using hj
  | 3, hj => simpa [tellCells] using hj
set_option maxRecDepth 100000 in
set_option maxHeartbeats 4000000 in
theorem Packets_any (w : World) (B R : Nat) (N : NetV) (F : Nat → Prop) (h : Net w B R N F) (hl : N.wait.length ≤ 1099511627776) :
    Calls Try.prog 15 #[.pointer (some ⟨R, 0, none⟩)] w fun e w' => ∃ v, e = .returned v ∧ Told w' w.heap.size v N.wait ∧ Below w.heap.size w w' := by
  obtain ⟨wv, fv, c0, c1, c2, c3, c4, hz, hh, hR, hF, hW, hf⟩ := h.cells
  clear h
  obtain ⟨p, cap, hwv⟩ := hW.out.formL
  subst hwv
  obtain ⟨L, hL⟩ : ∃ L, N.wait = L := ⟨_, rfl⟩
  rw [hL] at hW hl c0 hh ⊢
  clear hL
  go_enter Try.func15, Try.ntmps15
  go_wp2_with fail
  go_loopw [11, 3] (fun vi vo wr => ∃ (i : Nat) (op : Option Addr) (on oc : Nat), vi = .int .i64 i ∧ vo = .slice op on oc ∧ i ≤ L.length ∧ PRow w.heap.size L i (.slice op on oc) wr ∧ Below w.heap.size w wr) (fun vi _ _ => L.length - (intOf vi).toNat)
  case atStart => exact ⟨0, none, 0, 0, rfl, rfl, Nat.zero_le _, World.ownsRow_nil _ _ _ _, Below.refl _ _⟩
  case round =>
    obtain ⟨i, op, on, oc, rfl, rfl, hiL, hrow, hb⟩ := hrel
    have hzr := hb.size
    have HW := Lib.hid (hW.out.later hb)
    have HROW := Lib.hid hrow
    have HB := Lib.hid hb
    clear hrow hb
    rcases Nat.lt_or_ge i L.length with hlt | hge
    · have hlt' : (i : Int) < (L.length : Int) := by omega
      obtain ⟨g, cap', bv, hv, q1, q2, p0, p1, p2, p3, hown, _⟩ := HW.out.atPk i hlt
      simp only [Value.slice.injEq, true_and] at hv
      obtain ⟨rfl, rfl⟩ := hv
      have HSN := Lib.hid (tellRow_snoc L i hlt)
      obtain ⟨pk, hpk⟩ : ∃ pk, L[i] = pk := ⟨_, rfl⟩
      rw [hpk] at p0 p1 p2 hown HSN
      obtain ⟨bp, bc, hbv, _, _⟩ := hown.has.form
      subst hbv
      obtain ⟨ki, hi, hz', hz1, hz2⟩ := info_parts info_tell
      have HI := Lib.hid hi
      have HZ := Lib.hid hz'
      have HZ1 := Lib.hid hz1
      have HZ2 := Lib.hid hz2
      have hb1 := fun (o : Obj) => ((Below.refl wr.heap.size wr).alloc (Nat.le_refl _) o)
      have HB1 := Lib.hid hb1
      have hm : (cap : Int) ≤ 9223372036854775807 := by unfold maxLen at q2; omega
      clear hown hpk q2 hi hz' hz1 hz2 hb1
      go_wp2_with (at_builtin; go_loud (refine wpList_append_lies _ rfl _ _ 34 rfl w.heap.size 64 ki _ 4 32 Try.underlying34 HI.out HZ.out HZ1.out HZ2.out rfl (by decide) (.slice op on oc) i (tellRow (L.take i)) rfl (World.ownsRow.alloc (World.ownsRow.alloc HROW.out _) _) ⟨wr.heap.size + 1, 0, none⟩ 1 1 (tellCells pk) rfl rfl (by intro j u hj; rw [add_plain, Nat.zero_add, ← alloc_size wr (.cells #[.int .i64 (pk.id : Int), .int .i64 pk.fr, .int .i64 pk.to, .slice bp pk.data.length bc] 72)]; exact tell_at _ pk _ _ _ rfl j u hj) (tellCells_one pk) (by decide) (by unfold maxLen; omega) (by omega) (by have := (HB1.out (.cells #[.int .i64 (pk.id : Int), .int .i64 pk.fr, .int .i64 pk.to, .slice bp pk.data.length bc] 72)).size; have := alloc_size (wr.alloc (.cells #[.int .i64 (pk.id : Int), .int .i64 pk.fr, .int .i64 pk.to, .slice bp pk.data.length bc] 72)) (.cells #[.int .i64 (pk.id : Int), .int .i64 pk.fr, .int .i64 pk.to, .int .i64 (pk.data.length : Int)] 64); omega) _ rfl ?_))
      intro g2 cap2 w3 ho3 hg3 ha3 hl3
      have hb3 : Below w.heap.size w w3 := below_grown (((HB.out).trans ((HB1.out (.cells #[.int .i64 (pk.id : Int), .int .i64 pk.fr, .int .i64 pk.to, .slice bp pk.data.length bc] 72)).mono hzr)).trans (((Below.refl _ _).alloc (Nat.le_refl _) _).mono (by have := (HB1.out (.cells #[.int .i64 (pk.id : Int), .int .i64 pk.fr, .int .i64 pk.to, .slice bp pk.data.length bc] 72)).size; omega))) (World.ownsRow.alloc (World.ownsRow.alloc HROW.out _) _) hg3 (by have := (HB1.out (.cells #[.int .i64 (pk.id : Int), .int .i64 pk.fr, .int .i64 pk.to, .slice bp pk.data.length bc] 72)).size; have := alloc_size (wr.alloc (.cells #[.int .i64 (pk.id : Int), .int .i64 pk.fr, .int .i64 pk.to, .slice bp pk.data.length bc] 72)) (.cells #[.int .i64 (pk.id : Int), .int .i64 pk.fr, .int .i64 pk.to, .int .i64 (pk.data.length : Int)] 64); omega)
      have HB3 := Lib.hid hb3
      have HO3 : Hid (PRow w.heap.size L (i + 1) (.slice (some ⟨g2, 0, none⟩) (i + 1) cap2) w3) := Lib.hid (by unfold PRow; rw [HSN.out]; exact ho3)
      clear ho3 hg3 ha3 hl3 hb3
      go_wp2
      go_roundw
      case rel => exact ⟨i + 1, _, _, _, by go_num, rfl, hlt, HO3.out, HB3.out⟩
      case measure => simp [intOf]; omega
    · have hlt' : ¬ (i : Int) < (L.length : Int) := by omega
      obtain rfl : i = L.length := by omega
      go_wp2
      go_ret
      refine ⟨_, rfl, ?_, HB.out⟩
      have h := HROW.out
      unfold PRow at h
      rw [List.take_length] at h
      exact h
end Go.Proofs.Ytaopnoaopcbkoaa
