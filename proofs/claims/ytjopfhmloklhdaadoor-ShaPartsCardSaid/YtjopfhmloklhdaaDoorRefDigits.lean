/-
  The document's own word on texts of digits.
-/
import Derived.Test.YtjopfhmloklhdaaDoorShaDig
import Derived.LoopTactic
namespace Go.Proofs.YtjopfhmloklhdaaDoor
open Go.ChangeShapes Go.WideShapes Go.ChangeAt Go.RowKit Go.Deep
set_option linter.unusedVariables false
set_option linter.unusedSimpArgs false

def digAll (l : List UInt8) : Bool := l.all fun c => digB c.toNat
theorem digAll_take (l : List UInt8) (k : Nat) (h : k < l.length) : digAll (l.take (k + 1)) = (digAll (l.take k) && digB l[k].toNat) := by
  unfold digAll
  rw [List.take_succ_eq_append_getElem h, List.all_append]
  simp
theorem digAll_not (l : List UInt8) (k : Nat) (h : k < l.length) (hd : digB l[k].toNat = false) : digAll l = false := by
  unfold digAll
  rw [List.all_eq_false]
  exact ⟨_, List.getElem_mem h, by simp [hd]⟩
set_option maxRecDepth 100000 in
set_option maxHeartbeats 4000000 in
theorem Digits_any (w : World) (s : ByteArray) (hs : s.size ≤ maxLen) (n : Nat) (hn : n ≤ 1000000) :
    Calls Tryd.prog 22 #[.string s, .int .i64 (n : Int)] w fun e w' => e = .returned (.bool (digAll s.data.toList && decide (s.data.toList.length = n))) ∧ w' = w := by
  unfold maxLen at hs
  have hsl : s.data.toList.length = s.size := rfl
  have HSL := Lib.hid hsl
  rw [hsl]
  clear hsl
  go_enter Tryd.func22, Tryd.ntmps22
  go_wp2
  go_loop [5] (fun v5 => ∃ k : Nat, v5 = .int .i64 k ∧ k ≤ s.size ∧ digAll (s.data.toList.take k) = true) (fun v5 => s.size - (intOf v5).toNat)
  case atStart => exact ⟨0, rfl, Nat.zero_le _, rfl⟩
  case round =>
    obtain ⟨k, rfl, hk, hd⟩ := hrel
    rcases Nat.lt_or_ge k s.size with hlt | hge
    · have hlt' : (k : Int) < (s.size : Int) := by omega
      have hsn := digAll_take s.data.toList k (by rw [HSL.out]; exact hlt)
      rw [hd, Bool.true_and] at hsn
      have hno := digAll_not s.data.toList k (by rw [HSL.out]; exact hlt)
      have hgk : s.data.toList[k]'(by rw [HSL.out]; exact hlt) = s[k] := rfl
      rw [hgk] at hsn hno
      have HSN := Lib.hid hsn
      have HNO := Lib.hid hno
      have HD := Lib.hid hd
      have hxl := s[k].toNat_lt
      clear hsn hno hgk hd
      rcases (by omega : s[k].toNat < 48 ∨ (48 ≤ s[k].toNat ∧ s[k].toNat ≤ 57) ∨ (57 < s[k].toNat ∧ s[k].toNat < 97) ∨ (97 ≤ s[k].toNat ∧ s[k].toNat ≤ 102) ∨ 102 < s[k].toNat) with hc | ⟨hc, hc'⟩ | ⟨hc, hc'⟩ | ⟨hc, hc'⟩ | hc
      · have g1 : (s[k].toNat : Int) < 48 := by omega
        have g2 : (s[k].toNat : Int) < 97 := by omega
        have hdb : digB s[k].toNat = false := by unfold digB; simp; omega
        have hfin := HNO.out hdb
        have HFIN := Lib.hid hfin
        clear hdb hfin
        clear hc
        go_wp2
        all_goals first
          | (go_ret; exact ⟨by rw [HFIN.out]; rfl, rfl⟩)
          | (exfalso; rename_i hx; simp at hx; omega)
      · have g1 : (48 : Int) ≤ (s[k].toNat : Int) := by omega
        have g2 : (s[k].toNat : Int) ≤ 57 := by omega
        have hdb : digB s[k].toNat = true := by unfold digB; simp; omega
        have HDB := Lib.hid hdb
        clear hdb
        clear hc hc'
        go_wp2
        all_goals
          go_round
          case rel => exact ⟨k + 1, by go_num, hlt, by rw [HSN.out, HDB.out]⟩
          case measure => simp [intOf]; omega
      · have g1 : (48 : Int) ≤ (s[k].toNat : Int) := by omega
        have g2 : (57 : Int) < (s[k].toNat : Int) := by omega
        have g3 : (s[k].toNat : Int) < 97 := by omega
        have hdb : digB s[k].toNat = false := by unfold digB; simp; omega
        have hfin := HNO.out hdb
        have HFIN := Lib.hid hfin
        clear hdb hfin
        clear hc hc'
        go_wp2
        all_goals first
          | (go_ret; exact ⟨by rw [HFIN.out]; rfl, rfl⟩)
          | (exfalso; rename_i hx; simp at hx; omega)
      · have g1 : (48 : Int) ≤ (s[k].toNat : Int) := by omega
        have g2 : (57 : Int) < (s[k].toNat : Int) := by omega
        have g3 : (97 : Int) ≤ (s[k].toNat : Int) := by omega
        have g4 : (s[k].toNat : Int) ≤ 102 := by omega
        have hdb : digB s[k].toNat = true := by unfold digB; simp; omega
        have HDB := Lib.hid hdb
        clear hdb
        clear hc hc'
        go_wp2
        all_goals
          go_round
          case rel => exact ⟨k + 1, by go_num, hlt, by rw [HSN.out, HDB.out]⟩
          case measure => simp [intOf]; omega
      · have g1 : (48 : Int) ≤ (s[k].toNat : Int) := by omega
        have g2 : (57 : Int) < (s[k].toNat : Int) := by omega
        have g3 : (97 : Int) ≤ (s[k].toNat : Int) := by omega
        have g4 : (102 : Int) < (s[k].toNat : Int) := by omega
        have hdb : digB s[k].toNat = false := by unfold digB; simp; omega
        have hfin := HNO.out hdb
        have HFIN := Lib.hid hfin
        clear hdb hfin
        clear hc
        go_wp2
        all_goals first
          | (go_ret; exact ⟨by rw [HFIN.out]; rfl, rfl⟩)
          | (exfalso; rename_i hx; simp at hx; omega)
    · obtain rfl : k = s.size := by omega
      rw [List.take_of_length_le (Nat.le_of_eq HSL.out)] at hd
      have h8 : ¬ (s.size : Int) < (s.size : Int) := by omega
      have HD := Lib.hid hd
      clear hd
      go_wp2
      go_ret
      refine ⟨?_, rfl⟩
      rw [HD.out, Bool.true_and]
      have e : ((s.size : Int) == (n : Int)) = decide (s.size = n) := by
        rw [Bool.eq_iff_iff, beq_iff_eq, decide_eq_true_eq]
        omega
      exact congrArg (fun b => Ending.returned (.bool b)) e
end Go.Proofs.YtjopfhmloklhdaaDoor
