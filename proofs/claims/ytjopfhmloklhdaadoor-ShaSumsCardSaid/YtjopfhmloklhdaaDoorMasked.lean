/-
  Package sha: a block masked.
-/
import Derived.Test.YtjopfhmloklhdaaDoorSum14
namespace Go.Proofs.YtjopfhmloklhdaaDoor
open Go.ChangeShapes Go.WideShapes Go.ChangeAt Go.RowKit Go.Deep
set_option linter.unusedVariables false
set_option linter.unusedSimpArgs false

def maskOf (l : List UInt8) (m : UInt8) : List UInt8 := l.map (· ^^^ m)
theorem maskOf_len (l : List UInt8) (m : UInt8) : (maskOf l m).length = l.length := by simp [maskOf]
/-- The first k bytes are masked. -/
def maskN (l : List UInt8) (m : UInt8) (k : Nat) : List UInt8 := maskOf (l.take k) m ++ l.drop k
theorem maskN_len (l : List UInt8) (m : UInt8) (k : Nat) : (maskN l m k).length = l.length := by
  unfold maskN
  rw [List.length_append, maskOf_len, List.length_take, List.length_drop]
  omega
theorem maskN_get (l : List UInt8) (m : UInt8) (k : Nat) (hk : k < l.length) : (maskN l m k).getD k 0 = l.getD k 0 := by
  unfold maskN
  have hl : (maskOf (l.take k) m).length = k := by rw [maskOf_len, List.length_take]; omega
  rw [List.getD_eq_getElem?_getD, List.getD_eq_getElem?_getD, List.getElem?_append_right (by omega), hl, Nat.sub_self, List.getElem?_drop, Nat.add_zero]
theorem maskN_set (l : List UInt8) (m : UInt8) (k : Nat) (hk : k < l.length) : (maskN l m k).set k (l.getD k 0 ^^^ m) = maskN l m (k + 1) := by
  unfold maskN
  have hl : (maskOf (l.take k) m).length = k := by rw [maskOf_len, List.length_take]; omega
  rw [List.set_append_right _ _ (by omega), hl, Nat.sub_self, List.drop_eq_getElem_cons hk, List.set_cons_zero, List.take_succ_eq_append_getElem hk, List.getD_eq_getElem?_getD, List.getElem?_eq_getElem hk]
  simp only [maskOf, List.map_append, List.map_cons, List.map_nil, Option.getD_some, List.append_assoc, List.cons_append, List.nil_append]
theorem maskN_end (l : List UInt8) (m : UInt8) (k : Nat) (hk : l.length ≤ k) : maskN l m k = maskOf l m := by
  unfold maskN
  rw [List.take_of_length_le hk, List.drop_eq_nil_of_le hk, List.append_nil]
set_option maxRecDepth 100000 in
set_option maxHeartbeats 4000000 in
theorem masked_any (w : World) (l : List UInt8) (hl : l.length = 64) (m : UInt8) :
    Calls Tryd.prog 30 #[.agg (Lib.byteCells l).toArray, .int .u8 (m.toNat : Int)] w fun e w' => e = .returned (.slice (some ⟨w.heap.size, 0, none⟩) 64 64) ∧ BRow w' 48 w.heap.size (maskOf l m) ∧ Below w.heap.size w w' := by
  have hn1 : BRow (w.alloc (.cells (Lib.byteCells l).toArray 48)) 48 w.heap.size (maskN l m 0) := heap_alloc_new _ _
  have hb1 := (Below.refl w.heap.size w).alloc (Nat.le_refl _) (.cells (Lib.byteCells l).toArray 48)
  have HN1 := Lib.hid hn1
  have HB1 := Lib.hid hb1
  have HL := Lib.hid hl
  obtain ⟨C, hC⟩ : ∃ C, (Lib.byteCells l).toArray = C := ⟨_, rfl⟩
  rw [hC] at HN1 HB1 ⊢
  have hcc : (Value.agg C).cells = C := rfl
  clear hn1 hb1 hl hC
  have hm := m.toNat_lt
  go_enter Tryd.func30, Tryd.ntmps30
  go_wp2_with fail
  generalize w.alloc (.cells C 48) = w1 at *
  have hs1 : ∀ W, (Instr.sliceAt 48 (.pointer (some ⟨w.heap.size, 0, none⟩)) none none none).run Tryd.prog W = .ok (.slice (some ⟨w.heap.size, 0, none⟩) 64 64) W := fun W => run_all64 _ W
  go_loopw [5, 6] (fun v5 v6 wr => ∃ k : Nat, v6 = .int .i64 k ∧ k ≤ 64 ∧ BRow wr 48 w.heap.size (maskN l m k) ∧ Below w.heap.size w wr) (fun _ v6 _ => 64 - (intOf v6).toNat)
  case atStart => exact ⟨0, rfl, Nat.zero_le _, HN1.out, HB1.out⟩
  case round =>
    obtain ⟨k, rfl, hk, hr, hb⟩ := hrel
    rcases Nat.lt_or_ge k 64 with hlt | hge
    · have hlt' : (k : Int) < 64 := by omega
      have hlk : k < l.length := by rw [HL.out]; exact hlt
      have ck := hr.cell k (by rw [maskN_len]; exact hlk)
      rw [maskN_get _ _ _ hlk] at ck
      have fk := hr.free k
      have hset := hr.set k (l.getD k 0 ^^^ m)
      rw [maskN_set _ _ _ hlk] at hset
      have hx : bits .xor .u8 ((l.getD k 0).toNat : Int) (m.toNat : Int) = ((l.getD k 0 ^^^ m).toNat : Int) := by
        rw [u8_xor_nat _ _ (l.getD k 0).toNat_lt hm, UInt8.toNat_xor]
      have hxl := (l.getD k 0).toNat_lt
      generalize l.getD k 0 = x at *
      have HSET := Lib.hid hset
      have HB := Lib.hid hb
      clear hr hb hset hlk
      go_wp2
      go_roundw
      case rel => exact ⟨k + 1, by go_num, hlt, HSET.out, HB.out.setCell (Nat.le_refl _) _⟩
      case measure => simp [intOf]; omega
    · obtain rfl : k = 64 := by omega
      rw [maskN_end _ _ _ (Nat.le_of_eq HL.out)] at hr
      have h8 : ¬ ((64 : Nat) : Int) < 64 := by decide
      have HR := Lib.hid hr
      have HB := Lib.hid hb
      clear hr hb
      go_wp2
      go_ret
      exact ⟨rfl, HR.out, HB.out⟩
end Go.Proofs.YtjopfhmloklhdaaDoor
