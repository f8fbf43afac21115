/-
  Package slices, of numbers: Concat of two rows.
-/
import Derived.Test.YtfgfamafjkjakabDotGrow
namespace Go.Proofs.Ytfgfamafjkjakab
open Go.ChangeShapes Go.WideShapes Go.ChangeAt Go.RowKit Go.Deep
set_option linter.unusedVariables false
set_option linter.unusedSimpArgs false
def sumTo (a b k : Nat) : Nat := if k = 0 then 0 else if k = 1 then a else a + b
def catTo (a b : List Nat) (k : Nat) : List Nat := if k = 0 then [] else if k = 1 then a else a ++ b
set_option maxRecDepth 100000 in
set_option maxHeartbeats 8000000 in
theorem Concat_two (g : Nat) (T : TypeId) (v1 v2 : Value) (l1 l2 : List Nat) (w : World) (hg : w.heap[g]? = some (.cells #[v1, v2] T (0, 0))) (h1 : HasK w (encN .u64) v1 l1) (h2 : HasK w (encN .u64) v2 l2) (hl1 : l1.length ≤ 100000) (hl2 : l2.length ≤ 100000) :
    Calls Try.prog 26 #[.slice (some ⟨g, 0, none⟩) 2 2] w fun e w' => ∃ v, e = .returned v ∧ OwnK w' w.heap.size 30 (encN .u64) v (l1 ++ l2) ∧ Below w.heap.size w w' := by
  obtain ⟨p1, c1, rfl, -, -⟩ := h1.form
  obtain ⟨p2, c2, rfl, -, -⟩ := h2.form
  obtain ⟨m1, hm1⟩ : ∃ m, l1.length = m := ⟨_, rfl⟩
  obtain ⟨m2, hm2⟩ : ∃ m, l2.length = m := ⟨_, rfl⟩
  have HM1 := Lib.hid hm1
  have HM2 := Lib.hid hm2
  rw [hm1] at hl1 hg h1
  rw [hm2] at hl2 hg h2
  have k0 : w.cell? ⟨g, 0, none⟩ = some (.slice p1 m1 c1) := by simp [World.cell?, hg]
  have k1 : w.cell? ⟨g, 1, none⟩ = some (.slice p2 m2 c2) := by simp [World.cell?, hg]
  have HG := Lib.hid hg
  have H1 := Lib.hid h1
  have H2 := Lib.hid h2
  clear hm1 hm2 h1 h2 hg
  have hI1 : (0 : Int) ≤ (m1 : Int) ∧ (m1 : Int) ≤ 100000 := by omega
  have hI2 : (0 : Int) ≤ (m2 : Int) ∧ (m2 : Int) ≤ 100000 := by omega
  go_enter Try.func26, Try.ntmps26
  go_wp2_with fail
  go_loopw [3, 11] (fun v3 vi wr => ∃ k : Nat, vi = .int .i64 (k : Int) ∧ k ≤ 2 ∧ v3 = .int .i64 ((sumTo m1 m2 k : Nat) : Int) ∧ wr = w) (fun _ vi _ => 2 - (intOf vi).toNat)
  case atStart => exact ⟨0, rfl, by omega, rfl, rfl⟩
  case round =>
    obtain ⟨k, rfl, hk, rfl, rfl⟩ := hrel
    rcases (by omega : k = 0 ∨ k = 1 ∨ k = 2) with rfl | rfl | rfl
    · have hs0 : sumTo m1 m2 0 = 0 := rfl
      rw [hs0]
      clear hs0
      have hn : ¬ (m1 : Int) < 0 := by omega
      go_wp2
      go_roundw
      case rel => exact ⟨1, by go_num, by omega, by show Value.int .i64 _ = .int .i64 ((m1 : Nat) : Int); go_num, trivial⟩
      case measure => simp [intOf]
    · have hs0 : sumTo m1 m2 1 = m1 := rfl
      rw [hs0]
      clear hs0
      have hn : ¬ (m1 : Int) + (m2 : Int) < 0 := by omega
      go_wp2
      go_roundw
      case rel => exact ⟨2, by go_num, by omega, by show Value.int .i64 _ = .int .i64 ((m1 + m2 : Nat) : Int); go_num, trivial⟩
      case measure => simp [intOf]
    · have hs0 : sumTo m1 m2 2 = m1 + m2 := rfl
      rw [hs0]
      clear hs0
      obtain ⟨sm, hsm⟩ : ∃ s, m1 + m2 = s := ⟨_, rfl⟩
      rw [hsm]
      go_wp2_with fail
      refine (Grow_nil sm wr (by omega)).mono ?_
      rintro e w1 ⟨vv, rfl, ho, hb⟩
      have HO := Lib.hid ho
      have HB := Lib.hid hb
      clear ho hb hsm k0 k1
      go_wp2_with fail
      obtain ⟨W, rfl⟩ : ∃ W, W = wr := ⟨wr, rfl⟩
      go_loopw [6, 27] (fun v6 vi wr => ∃ k : Nat, vi = .int .i64 (k : Int) ∧ k ≤ 2 ∧ OwnK wr W.heap.size 30 (encN .u64) v6 (catTo l1 l2 k) ∧ Below W.heap.size W wr) (fun _ vi _ => 2 - (intOf vi).toNat)
      case atStart => exact ⟨0, rfl, by omega, HO.out, HB.out⟩
      case round =>
        obtain ⟨k, rfl, hk, ho, hb⟩ := hrel
        obtain ⟨W1, rfl⟩ : ∃ W1, W1 = wr := ⟨wr, rfl⟩
        have HOK := Lib.hid ho
        have HBK := Lib.hid hb
        have hgg := (hb.block g (lt_of_block HG.out)).trans HG.out
        have k0 : W1.cell? ⟨g, 0, none⟩ = some (.slice p1 m1 c1) := by simp [World.cell?, hgg]
        have k1 : W1.cell? ⟨g, 1, none⟩ = some (.slice p2 m2 c2) := by simp [World.cell?, hgg]
        have A1 := Lib.hid (H1.out.below hb)
        have A2 := Lib.hid (H2.out.below hb)
        have hsz := hb.size
        clear ho hb hgg
        rcases (by omega : k = 0 ∨ k = 1 ∨ k = 2) with rfl | rfl | rfl
        · clear k1
          go_wp2_with (at_builtin; refine wpList_append_ka rfl (.tmp 31) (.tmp 32) 31 rfl W.heap.size 30 (encN .u64) (.int .u64 0) 8 Try.underlying31 info_n64 rfl (by decide) _ [] rfl HOK.out _ l1 rfl A1.out (by have z := HM1.out; show 0 + l1.length ≤ 1000000000; omega) hsz W HBK.out (fun v7 w7 ho7 hb7 => ?_); have HO7 := Lib.hid ho7; have HB7 := Lib.hid hb7; clear ho7 hb7)
          go_roundw
          case rel => exact ⟨1, by go_num, by omega, HO7.out, HB7.out⟩
          case measure => simp [intOf]
        · clear k0
          go_wp2_with (at_builtin; refine wpList_append_ka rfl (.tmp 31) (.tmp 32) 31 rfl W.heap.size 30 (encN .u64) (.int .u64 0) 8 Try.underlying31 info_n64 rfl (by decide) _ l1 rfl HOK.out _ l2 rfl A2.out (by have z := HM1.out; have y := HM2.out; show l1.length + l2.length ≤ 1000000000; omega) hsz W HBK.out (fun v7 w7 ho7 hb7 => ?_); have HO7 := Lib.hid ho7; have HB7 := Lib.hid hb7; clear ho7 hb7)
          go_roundw
          case rel => exact ⟨2, by go_num, by omega, HO7.out, HB7.out⟩
          case measure => simp [intOf]
        · clear k0 k1
          go_wp2
          go_ret
          exact ⟨_, rfl, HOK.out, HBK.out⟩
end Go.Proofs.Ytfgfamafjkjakab
