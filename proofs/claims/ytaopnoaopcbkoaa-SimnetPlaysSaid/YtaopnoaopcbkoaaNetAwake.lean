/-
  What the document tells of a few packets (rolodexlaw6.awake).
-/
import Derived.Test.YtaopnoaopcbkoaaNetTell
import Derived.Lib.SlBytesConst
namespace Go.Proofs.Ytaopnoaopcbkoaa
open Go.ChangeShapes Go.WideShapes Go.ChangeAt Go.RowKit Go.Deep
set_option linter.unusedVariables false
set_option linter.unusedSimpArgs false

theorem HasA.keeps {w w' : World} {v : Value} {l : List UInt8} {F : Nat → Prop} (h : HasA w v l) (hk : Keeps F w w') (hF : ∀ g, v.ownBlock = some g → ¬ F g) : HasA w' v l := by
  obtain ⟨p, cap, b, o, rfl, k1, k2, k3, kc⟩ := h
  refine ⟨p, cap, b, o, rfl, k1, k2, fun h => ⟨(k3 h).1, Nat.lt_of_lt_of_le (k3 h).2 hk.size⟩, fun j hj => ?_⟩
  obtain ⟨rfl, hb⟩ := k3 (by omega)
  rw [World.cell?_of_block (a := ⟨b, o + j, none⟩) (hk.block b hb (hF b rfl))]
  exact kc j hj
theorem Told.cells {w : World} {B : Nat} {v : Value} {L : List Pk} (h : Told w B v L) (h0 : 0 < L.length) : ∃ g cap, v = .slice (some ⟨g, 0, none⟩) L.length cap ∧ L.length ≤ cap ∧ cap ≤ maxLen ∧ B ≤ g ∧ g < w.heap.size ∧ ∀ i (hi : i < L.length), w.cell? ⟨g, i * 4, none⟩ = some (.int .i64 (L[i].id : Int)) ∧ w.cell? ⟨g, i * 4 + 1, none⟩ = some (.int .i64 L[i].fr) ∧ w.cell? ⟨g, i * 4 + 2, none⟩ = some (.int .i64 L[i].to) ∧ w.cell? ⟨g, i * 4 + 3, none⟩ = some (.int .i64 (L[i].data.length : Int)) := by
  rcases h.2 with ⟨_, hn⟩ | ⟨g, cap, cur, hv, hg, hh, k1, k2, k3⟩
  · omega
  · refine ⟨g, cap, hv, k1, k2, hg, lt_of_block hh, fun i hi => ?_⟩
    have hg4 : ∀ j, j < 4 → (tellRow L)[i * 4 + j]? = (tellCells L[i])[j]? := fun j hj => by
      have e1 : tellRow L = tellRow (L.take i) ++ (tellCells L[i] ++ tellRow (L.drop (i + 1))) := by
        unfold tellRow
        rw [← List.flatMap_cons, ← List.drop_eq_getElem_cons hi, ← List.flatMap_append, List.take_append_drop]
      have hl : (tellRow (L.take i)).length = i * 4 := by rw [tellRow_len, List.length_take]; omega
      rw [e1, List.getElem?_append_right (by omega), hl, show i * 4 + j - i * 4 = j by omega, List.getElem?_append_left (by simp [tellCells]; omega)]
    have c := fun (j : Nat) (hj : j < 4) => (World.ownsRow.cellAt (hv ▸ h : w.ownsRow B 64 4 (.slice (some ⟨g, 0, none⟩) L.length cap) L.length (tellRow L)) (i * 4 + j) (by omega)).trans (hg4 j hj)
    refine ⟨?_, ?_, ?_, ?_⟩
    · have := c 0 (by omega); simpa [tellCells] using this
    · have := c 1 (by omega); simpa [tellCells] using this
    · have := c 2 (by omega); simpa [tellCells] using this
    · have := c 3 (by omega); simpa [tellCells] using this
theorem cell_keeps {F : Nat → Prop} {w w' : World} {g : Nat} (hk : Keeps F w w') (hg : g < w.heap.size) (hF : ¬ F g) (o : Nat) : w'.cell? ⟨g, o, none⟩ = w.cell? ⟨g, o, none⟩ := World.cell?_of_block (a := ⟨g, o, none⟩) (hk.block g hg hF)
theorem has_lit3 (w : World) (T : TypeId) (f : Nat × Nat) (x y z : UInt8) : Has (w.alloc (.cells #[.int .u8 (x.toNat : Int), .int .u8 (y.toNat : Int), .int .u8 (z.toNat : Int)] T f)) (.slice (some ⟨w.heap.size, 0, none⟩) 3 3) [x, y, z] := by
  refine .inr ⟨w.heap.size, 0, 3, rfl, Nat.le_refl _, by unfold maxLen; omega, lt_of_block (heap_alloc_new _ _), fun j hj => ?_⟩
  have h := heap_alloc_new w (.cells #[.int .u8 (x.toNat : Int), .int .u8 (y.toNat : Int), .int .u8 (z.toNat : Int)] T f)
  rw [Nat.zero_add]
  unfold World.cell?
  rw [h]
  match j, hj with
  | 0, _ => rfl
  | 1, _ => rfl
  | 2, _ => rfl

def abc : List UInt8 := [97, 98, 99]
def aN1 : NetV := ⟨[⟨1, 0, 1, abc⟩], 1, 0, [], 0⟩
def aN2 : NetV := ⟨[⟨1, 0, 1, abc⟩, ⟨2, 0, 1, abc⟩], 2, 0, [], 0⟩
def aN3 : NetV := ⟨[⟨2, 0, 1, abc⟩], 2, 0, [], 0⟩
def aN4 : NetV := ⟨[⟨2, 0, 1, abc⟩], 2, 5, [], 0⟩
def aN5 : NetV := ⟨[⟨2, 0, 1, abc⟩], 2, 5, [], 11400714819323198485⟩
def aN6 : NetV := ⟨[⟨2, 0, 1, abc⟩], 2, 5, [7], 11400714819323198485⟩
theorem aN1_eq : sendV zeroNet 0 1 abc = aN1 := rfl
theorem aN2_eq : doubleV aN1 1 = aN2 ∧ doubleN aN1 1 = (2, 0) := ⟨rfl, rfl⟩
theorem aN3_eq : takeV aN2 1 = aN3 ∧ pkAt aN2.wait 1 = some ⟨1, 0, 1, abc⟩ ∧ cutV 2 abc = [97, 98] := ⟨rfl, rfl, rfl⟩
theorem aN4_eq : tickV aN3 5 = aN4 ∧ Ticks aN3 5 := ⟨rfl, by decide⟩
theorem aN5_eq : randV aN4 = aN5 ∧ randN aN4 = 16294208416658607535 := ⟨by kernel_rfl, by kernel_rfl⟩
theorem aN6_eq : ({ aN5 with fed := aN5.fed ++ [7] } : NetV) = aN6 ∧ randN aN6 = 7 ∧ randV aN6 = aN5 := ⟨rfl, rfl, rfl⟩
theorem aN7_eq : dropN aN5.wait 2 = 0 := rfl
set_option maxRecDepth 100000 in
set_option maxHeartbeats 4000000 in
theorem awake_any (w : World) :
    Calls Try.prog 8 #[] w fun e w' => e = .returned (.bool true) ∧ Below w.heap.size w w' := by
  go_enter Try.func8, Try.ntmps8
  go_wp2_with fail
  refine (New_any w).mono ?_
  rintro e w1 ⟨R, F1, rfl, hn1, hb1⟩
  have hz1 := hb1.size
  have HN1 := Lib.hid hn1
  have HB1 := Lib.hid hb1
  clear hn1 hb1
  have hcv := Lib.run_convert_bytes_const (P := Try.prog) w1 25 5 #[.int .u8 97, .int .u8 98, .int .u8 99] 3 3 Try.underlying25 Try.underlying5
  simp only [List.size_toArray, List.length_cons, List.length_nil, Nat.zero_add, Nat.reduceAdd] at hcv
  go_wp2_with fail
  have hb2 : Below w1.heap.size w1 (w1.alloc (Obj.cells #[.int .u8 97, .int .u8 98, .int .u8 99] 5 (3, 4))) := (Below.refl _ _).alloc (Nat.le_refl _) _
  have ha : Has (w1.alloc (Obj.cells #[.int .u8 97, .int .u8 98, .int .u8 99] 5 (3, 4))) (.slice (some ⟨w1.heap.size, 0, none⟩) 3 3) abc := has_lit3 w1 5 (3, 4) 97 98 99
  generalize w1.alloc (Obj.cells #[.int .u8 97, .int .u8 98, .int .u8 99] 5 (3, 4)) = w2 at *
  have hz2 := hb2.size
  have HB2 := Lib.hid (HB1.out.trans (hb2.mono hz1))
  refine (Send_any w2 w.heap.size R zeroNet F1 (HN1.out.below hb2) 0 1 _ abc ha.wide (by decide) (by decide) (by decide)).mono ?_
  clear hcv ha hb2
  rintro e w3 ⟨F3, rfl, hn3, hk3, hf3⟩
  rw [aN1_eq] at hn3
  rw [show (((zeroNet.sent + 1 : Nat) : Int)) = 1 from rfl]
  have hz3 := hk3.size
  have HN3 := Lib.hid hn3
  have HB3 := Lib.hid (HB2.out.trans (hk3.below HN1.out.base (by omega)))
  clear hn3 hk3 hf3
  go_wp2_with fail
  refine (Double_any w3 w.heap.size R aN1 F3 HN3.out 1 (by decide) (by simp [aN1, Sorted]) (by decide) (by simp [aN1, abc])).mono ?_
  rw [aN2_eq.1, aN2_eq.2]
  rintro e w4 ⟨rfl, F4, hn4, hk4, hf4⟩
  have hz4 := hk4.size
  have HN4 := Lib.hid hn4
  have HB4 := Lib.hid (HB3.out.trans (hk4.below HN3.out.base (by omega)))
  clear hn4 hk4 hf4
  go_wp2_with fail
  refine (Deliver_any w4 w.heap.size R aN2 F4 HN4.out 1 2 (by decide) (by simp [aN2, Sorted]) (by simp [aN2, abc])).mono ?_
  rw [aN3_eq.1]
  rintro e w5 ⟨hn5, hk5, hd5⟩
  unfold DeliverE at hd5
  rw [aN3_eq.2.1] at hd5
  obtain ⟨bv, rfl, ha5, _, hfr⟩ := hd5
  have hfr := hfr (by decide) (by decide)
  have ha5 : HasA w5 bv [97, 98] := ha5
  have hz5 := hk5.size
  have hnF : ∀ g, bv.ownBlock = some g → ¬ F4 g := fun g hg hf => by
    have h1 := hfr g hg
    obtain ⟨_, _, _, _, hF, _⟩ := HN4.out
    have := hF g hf
    omega
  have HNF := Lib.hid hnF
  have HN5 := Lib.hid hn5
  have HA5 := Lib.hid ha5
  have HB5 := Lib.hid (HB4.out.trans (hk5.below HN4.out.base (by omega)))
  obtain ⟨bp, bc, hbv, _, _⟩ := ha5.form
  subst hbv
  clear hn5 hk5 hfr ha5 hnF
  go_wp2_with fail
  refine (Packets_any w5 w.heap.size R aN3 F4 HN5.out (by decide)).mono ?_
  rintro e w6 ⟨lv, rfl, ht6, hb6⟩
  obtain ⟨g, cap, rfl, q1, q2, q3, q4, qc⟩ := ht6.cells (by decide)
  have hz6 := hb6.size
  have hgF : ¬ F4 g := fun hf => by
    obtain ⟨_, _, _, _, hF, _⟩ := HN5.out
    have := hF g hf
    omega
  have hm : (cap : Int) ≤ 9223372036854775807 := by unfold maxLen at q2; omega
  have HQ1 := Lib.hid q1
  have HQ2 := Lib.hid q2
  have HQ4 := Lib.hid q4
  have HQC := Lib.hid (qc 0 (by decide))
  have HGF := Lib.hid hgF
  have HN6 := Lib.hid (HN5.out.below hb6)
  have HA6 := Lib.hid (HA5.out.below hb6)
  have HB6 := Lib.hid (HB5.out.trans (hb6.mono (by omega)))
  rw [show aN3.wait.length = 1 from rfl]
  clear ht6 hb6 q1 q2 q3 q4 qc hgF
  go_wp2_with fail
  refine (Tick_any w6 w.heap.size R aN3 F4 HN6.out (by decide) 5 (by decide)).mono ?_
  rw [aN4_eq.1, if_pos aN4_eq.2]
  rintro e w7 ⟨rfl, hn7, hk7⟩
  have hz7 := hk7.size
  have HN7 := Lib.hid hn7
  have HK7 := Lib.hid hk7
  have HB7 := Lib.hid (HB6.out.trans (hk7.below HN6.out.base (by omega)))
  clear hn7 hk7
  go_wp2_with fail
  refine (Rand_any w7 w.heap.size R aN4 F4 HN7.out ⟨by decide, by decide⟩).mono ?_
  rw [aN5_eq.1, aN5_eq.2]
  rintro e w8 ⟨rfl, hn8, hk8⟩
  have hz8 := hk8.size
  have HN8 := Lib.hid hn8
  have HK8 := Lib.hid (HK7.out.trans hk8 (fun _ _ h => h))
  have HB8 := Lib.hid (HB7.out.trans (hk8.below HN7.out.base (by omega)))
  clear hn8 hk8
  go_wp2_with fail
  refine (Feed_any w8 w.heap.size R aN5 F4 HN8.out 7 (by decide)).mono ?_
  rw [aN6_eq.1]
  rintro e w9 ⟨F9, rfl, hn9, hk9, hf9⟩
  have hz9 := hk9.size
  have HN9 := Lib.hid hn9
  have hk69 := HK8.out.trans hk9 (fun _ _ h => h)
  have HB9 := Lib.hid (HB8.out.trans (hk9.below HN8.out.base (by omega)))
  have hs9 : (convert 25 9 (.slice bp 2 bc)).run Try.prog w9 = .ok (.string ⟨#[97, 98]⟩) w9 := HasA.string (w := w9) (HA6.out.keeps hk69 HNF.out) 0
  have k0 := (cell_keeps hk69 HQ4.out HGF.out (0 * 4)).trans HQC.out.1
  have k1 := (cell_keeps hk69 HQ4.out HGF.out (0 * 4 + 1)).trans HQC.out.2.1
  have k2 := (cell_keeps hk69 HQ4.out HGF.out (0 * 4 + 2)).trans HQC.out.2.2.1
  have k3 := (cell_keeps hk69 HQ4.out HGF.out (0 * 4 + 3)).trans HQC.out.2.2.2
  have k0 : w9.cell? ⟨g, 0, none⟩ = some (.int .i64 2) := k0
  have k1 : w9.cell? ⟨g, 1, none⟩ = some (.int .i64 0) := k1
  have k2 : w9.cell? ⟨g, 2, none⟩ = some (.int .i64 1) := k2
  have k3 : w9.cell? ⟨g, 3, none⟩ = some (.int .i64 3) := k3
  clear hn9 hk9 hf9 hk69
  go_wp2_with fail
  refine (Now_any w9 w.heap.size R aN6 F9 HN9.out).mono ?_
  rw [show aN6.now = 5 from rfl]
  rintro e w10 ⟨rfl, rfl⟩
  go_wp2_with fail
  refine (Rand_any w10 w.heap.size R aN6 F9 HN9.out ⟨by decide, by decide⟩).mono ?_
  rw [aN6_eq.2.1, aN6_eq.2.2]
  rintro e w11 ⟨rfl, hn11, hk11⟩
  have hz11 := hk11.size
  have HN11 := Lib.hid hn11
  have HB11 := Lib.hid (HB9.out.trans (hk11.below HN9.out.base (by omega)))
  clear hn11 hk11
  go_wp2_with fail
  refine (Sent_any w11 w.heap.size R aN5 F9 HN11.out).mono ?_
  rw [show ((aN5.sent : Nat) : Int) = 2 from rfl]
  rintro e w12 ⟨rfl, rfl⟩
  go_wp2_with fail
  refine (Drop_any w12 w.heap.size R aN5 F9 HN11.out 2 (by decide) (by simp [aN5, Sorted])).mono ?_
  rw [aN7_eq]
  rintro e w13 ⟨rfl, hn13, hk13⟩
  have HB13 := Lib.hid (HB11.out.trans (hk13.below HN11.out.base (by omega)))
  clear hn13 hk13
  go_wp2_with fail
  go_ret
  exact ⟨rfl, HB13.out⟩

end Go.Proofs.Ytaopnoaopcbkoaa
