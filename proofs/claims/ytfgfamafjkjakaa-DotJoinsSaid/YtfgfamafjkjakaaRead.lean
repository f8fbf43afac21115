/-
  Package bin reads bytes: what its Reader's calls answer, and what becomes of the reader.
-/
import Derived.Test.YtfgfamafjkjakaaPut
import Derived.Test.YtfgfamafjkjakaaNum
import Derived.Deep.QuietTactic
import Derived.BigQuiet
import Derived.LoopTactic
namespace Go.Proofs.Ytfgfamafjkjakaa
open Go.ChangeShapes Go.WideShapes Go.ChangeAt Go.RowKit Go.Deep
set_option linter.unusedVariables false

set_option maxRecDepth 100000 in
set_option maxHeartbeats 1000000 in
theorem number_any (p : Option Addr) (b o cap : Nat) (l : List UInt8) (w : World) (hc1 : l.length ≤ cap) (hc2 : cap ≤ 9223372036854775807)
   (hp : 0 < l.length → p = some ⟨b, o, none⟩) (hc : ∀ j (h : j < l.length), w.cell? ⟨b, o + j, none⟩ = some (.int .u8 (l[j].toNat : Int))) :
    Calls Try.prog 52 #[.slice p l.length cap] w fun e w' => e = .returned (.tuple #[.int .u64 (num l).1, .int .i64 (num l).2]) ∧ w' = w := by
  have HC := Lib.hid hc
  have HP := Lib.hid hp
  clear hc hp
  go_enter Try.func52, Try.ntmps52
  go_wp2
  all_goals
    go_loop [4, 12] (fun v i => ∃ (k acc : Nat), k ≤ 10 ∧ i = .int .i64 k ∧ v = .int .u64 acc ∧ Hid ((k ≤ 9 ∧ acc < 128 ^ k ∧ num l = numGo (10 - k) (l.drop k) k acc) ∨ (k = 10 ∧ num l = (0, 0)))) (fun _ i => 10 - (intOf i).toNat)
    case atStart => exact ⟨0, 0, by omega, rfl, rfl, .inl ⟨by omega, by omega, rfl⟩⟩
    case round =>
      obtain ⟨k, acc, hk, rfl, rfl, HR⟩ := hrel
      rcases Nat.lt_or_ge k 10 with h9 | h9 <;> rcases Nat.lt_or_ge k l.length with hl9 | hl9
      · have hp := HP.out (by omega)
        subst hp
        have hcell := HC.out k (by omega)
        have hb : l[k].toNat < 256 := l[k].toNat_lt
        have hr : k ≤ 9 ∧ acc < 128 ^ k ∧ num l = numGo (10 - k) (l.drop k) k acc := HR.out.resolve_right (by omega)
        have hn := hr.2.2.trans (numGo_step l k acc h9 hl9)
        have HA := Lib.hid hr.2.1
        clear hr
        generalize l[k].toNat = c at hcell hb hn
        have HN := Lib.hid hn
        clear hn
        by_cases c1 : 128 ≤ c
        · go_wp2
          by_cases k9 : k = 9
          · obtain ⟨nn, hnn⟩ := or_any (acc : Int) (IntKind.u64.wrap (IntKind.u64.wrap (bits BinOp.and IntKind.u8 (c : Int) 127) * 2 ^ (7 * k)))
            go_round
            case rel => exact ⟨k + 1, nn, by omega, by go_num, by rw [hnn], .inr ⟨by omega, by rw [HN.out, if_pos c1]; subst k9; rfl⟩⟩
            case measure => simp [intOf]; omega
          · go_round
            case rel => exact ⟨k + 1, acc + c % 128 * 128 ^ k, by omega, by go_num, by rw [or_sum acc c k (by omega) HA.out hb (by omega)], .inl ⟨by omega, acc_next _ _ _ HA.out, by rw [HN.out, if_pos c1]⟩⟩
            case measure => simp [intOf]; omega
        · have hc2 : c % 128 = c := by omega
          have HC2 := Lib.hid hc2
          clear hc2
          by_cases k0 : 0 < k
          · by_cases z0 : c = 0
            · have hz : ((c : Int) == 0) = true := by simp [z0]
              have Z0 := Lib.hid z0
              clear z0
              by_cases k9 : k = 9
              · have hk9 : ((k : Int) == 9) = true := by simp [k9]
                have K9 := Lib.hid k9
                clear k9
                go_wp2
                go_ret2
                exact ⟨by rw [HN.out, if_neg c1, if_pos (.inl ⟨k0, Z0.out⟩)]; rfl, rfl⟩
              · have hk9 : ((k : Int) == 9) = false := by simp; omega
                go_wp2
                go_ret2
                exact ⟨by rw [HN.out, if_neg c1, if_pos (.inl ⟨k0, Z0.out⟩)]; rfl, rfl⟩
            · have hz : ((c : Int) == 0) = false := by simp; omega
              by_cases k9 : k = 9
              · have hk9 : ((k : Int) == 9) = true := by simp [k9]
                have K9 := Lib.hid k9
                clear k9
                by_cases g1 : 1 < c
                · go_wp2
                  go_ret2
                  exact ⟨by rw [HN.out, if_neg c1, if_pos (.inr ⟨K9.out, g1⟩)]; rfl, rfl⟩
                · go_wp2
                  go_ret2
                  exact ⟨by rw [HN.out, if_neg c1, if_neg (by omega), or_sum acc c k (by omega) HA.out hb (by omega), HC2.out]; go_num, rfl⟩
              · have hk9 : ((k : Int) == 9) = false := by simp; omega
                go_wp2
                go_ret2
                exact ⟨by rw [HN.out, if_neg c1, if_neg (by omega), or_sum acc c k (by omega) HA.out hb (by omega), HC2.out]; go_num, rfl⟩
          · have hk9 : ((k : Int) == 9) = false := by simp; omega
            go_wp2
            go_ret2
            exact ⟨by rw [HN.out, if_neg c1, if_neg (by omega), or_sum acc c k (by omega) HA.out hb (by omega), HC2.out]; go_num, rfl⟩
      · first
          | (exfalso; omega)
          | (have hr : k ≤ 9 ∧ acc < 128 ^ k ∧ num l = numGo (10 - k) (l.drop k) k acc := HR.out.resolve_right (by omega)
             have HN := Lib.hid (hr.2.2.trans (numGo_over l k acc h9 hl9))
             clear hr
             go_wp2
             go_ret2
             exact ⟨by rw [HN.out]; rfl, rfl⟩)
      · first
          | (exfalso; omega)
          | (have HN := Lib.hid (HR.out.resolve_left (by omega)).2
             go_wp2
             go_ret2
             exact ⟨by rw [HN.out]; rfl, rfl⟩)
      · first
          | (exfalso; omega)
          | (have HN := Lib.hid (HR.out.resolve_left (by omega)).2
             go_wp2
             go_ret2
             exact ⟨by rw [HN.out]; rfl, rfl⟩)
end Go.Proofs.Ytfgfamafjkjakaa
