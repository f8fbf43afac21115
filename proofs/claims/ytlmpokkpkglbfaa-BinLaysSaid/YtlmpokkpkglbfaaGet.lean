/-
  The document's own reading of numbers and texts out of bytes (rolodexref3): what Get, Small and String answer.
-/
import Derived.Test.YtlmpokkpkglbfaaRows
import Derived.Test.YtlmpokkpkglbfaaPut
import Derived.Test.YtlmpokkpkglbfaaCutNum
import Derived.Deep.QuietTactic
import Derived.BigQuiet
import Derived.LoopTactic
namespace Go.Proofs.Ytlmpokkpkglbfaa
open Go.ChangeShapes Go.WideShapes Go.ChangeAt Go.RowKit Go.Deep
set_option linter.unusedVariables false

/-- The slice v reads as the bytes l, wherever it points if it has none. -/
def HasA (w : World) (v : Value) (l : List UInt8) : Prop :=
  ∃ p cap b o, v = .slice p l.length cap ∧ l.length ≤ cap ∧ cap ≤ maxLen ∧ (0 < l.length → p = some ⟨b, o, none⟩ ∧ b < w.heap.size) ∧ ∀ j (h : j < l.length), w.cell? ⟨b, o + j, none⟩ = some (.int .u8 (l[j].toNat : Int))
theorem Has.wide {w : World} {v : Value} {l : List UInt8} (h : Has w v l) : HasA w v l := by
  rcases h with ⟨rfl, rfl⟩ | ⟨b, o, cap, rfl, h1, h2, h3, hc⟩
  · exact ⟨none, 0, 0, 0, rfl, Nat.le_refl _, Nat.zero_le _, fun h => absurd h (Nat.lt_irrefl _), fun j hj => absurd hj (Nat.not_lt_zero _)⟩
  · exact ⟨_, cap, b, o, rfl, h1, h2, fun _ => ⟨rfl, h3⟩, hc⟩
theorem HasA.below {w w' : World} {v : Value} {l : List UInt8} (h : HasA w v l) (hb : Below w.heap.size w w') : HasA w' v l := by
  obtain ⟨p, cap, b, o, rfl, h1, h2, h3, hc⟩ := h
  exact ⟨p, cap, b, o, rfl, h1, h2, fun h => ⟨(h3 h).1, Nat.lt_of_lt_of_le (h3 h).2 hb.size⟩, fun j hj => (hb.cell (p := ⟨b, o + j, none⟩) (h3 (by omega)).2).trans (hc j hj)⟩
theorem HasA.nil (w : World) : HasA w (.slice none 0 0) [] := (has_nil' w).wide
where has_nil' (w : World) : Has w (.slice none 0 0) [] := .inl ⟨rfl, rfl⟩

theorem plus_sum (acc c k : Nat) (hk : k ≤ 9) (ha : acc < 128 ^ k) (hc : c < 256) (h9 : k = 9 → c % 128 ≤ 1) :
    IntKind.u64.wrap ((acc : Int) + IntKind.u64.wrap ((c : Int) % 128 * 2 ^ (7 * k))) = ((acc + c % 128 * 128 ^ k : Nat) : Int) := by
  rw [IntKind.wrap_u64, IntKind.wrap_u64]
  obtain rfl | rfl | rfl | rfl | rfl | rfl | rfl | rfl | rfl | rfl : k = 0 ∨ k = 1 ∨ k = 2 ∨ k = 3 ∨ k = 4 ∨ k = 5 ∨ k = 6 ∨ k = 7 ∨ k = 8 ∨ k = 9 := by omega
  · simp only [Nat.mul_zero, Int.pow_zero, Nat.pow_zero] at *
    omega
  · simp only [Nat.reduceMul, Int.reducePow, Nat.reducePow] at *
    omega
  · simp only [Nat.reduceMul, Int.reducePow, Nat.reducePow] at *
    omega
  · simp only [Nat.reduceMul, Int.reducePow, Nat.reducePow] at *
    omega
  · simp only [Nat.reduceMul, Int.reducePow, Nat.reducePow] at *
    omega
  · simp only [Nat.reduceMul, Int.reducePow, Nat.reducePow] at *
    omega
  · simp only [Nat.reduceMul, Int.reducePow, Nat.reducePow] at *
    omega
  · simp only [Nat.reduceMul, Int.reducePow, Nat.reducePow] at *
    omega
  · simp only [Nat.reduceMul, Int.reducePow, Nat.reducePow] at *
    omega
  · have := h9 rfl
    simp only [Nat.reduceMul, Int.reducePow, Nat.reducePow] at *
    omega

theorem plus_nine (acc c : Nat) (ha : acc < 128 ^ 9) (hc : c ≤ 1) : IntKind.u64.wrap ((acc : Int) + (c : Int) % 128 * 9223372036854775808) = ((acc + c % 128 * 128 ^ 9 : Nat) : Int) := by
  have h4 : (128 : Nat) ^ 9 = 9223372036854775808 := by decide
  rw [IntKind.wrap_u64, h4] at *
  omega
/-- What Get answers. -/
def Got (w : World) (v : Value) (l : List UInt8) (e : Ending) (w' : World) : Prop :=
  ∃ (V : Int) (N : Value) (f : Bool) (n : Nat), e = .returned (.tuple #[.int .u64 V, N, .bool f]) ∧ w' = w.drewN n ∧ (∃ p a c, N = .slice p a c) ∧
    ((f = true ∧ (num l).2 ≠ 0 ∧ V = ((num l).1 : Int) ∧ ∀ W0, HasA W0 v l → HasA W0 N (l.drop (num l).2)) ∨ (f = false ∧ (num l).2 = 0))

theorem hasA_drop {w : World} {b o cap : Nat} {l : List UInt8} (H2 : cap ≤ maxLen) (hb : b < w.heap.size) (hc : ∀ j (h : j < l.length), w.cell? ⟨b, o + j, none⟩ = some (.int .u8 (l[j].toNat : Int))) (d : Nat) (p' : Option Addr) (n c' : Nat)
    (hn : n = l.length - d) (hc' : n ≤ c') (hcc : c' ≤ cap) (hp : 0 < n → p' = some ⟨b, o + d, none⟩) : HasA w (.slice p' n c') (l.drop d) := by
  subst hn
  refine ⟨p', c', b, o + d, by rw [List.length_drop], by rw [List.length_drop]; exact hc', by omega, fun h => ⟨hp (by rw [List.length_drop] at h; exact h), hb⟩, fun j hj => ?_⟩
  rw [List.length_drop] at hj
  rw [List.getElem_drop, Nat.add_assoc]
  exact hc (d + j) (by omega)
theorem hasA_sub {W0 : World} {b o cap : Nat} {l : List UInt8} (h0 : HasA W0 (.slice (some ⟨b, o, none⟩) l.length cap) l) (d : Nat) (p' : Option Addr) (n c' : Nat)
    (hn : n = l.length - d) (hc' : n ≤ c') (hcc : c' ≤ cap) (hp : 0 < n → p' = some ⟨b, o + d, none⟩) : HasA W0 (.slice p' n c') (l.drop d) := by
  obtain ⟨p, cap2, b2, o2, he, k1, k2, k3, kc⟩ := h0
  simp only [Value.slice.injEq, true_and] at he
  obtain ⟨rfl, rfl⟩ := he
  by_cases hl : 0 < l.length
  · obtain ⟨e1, hb⟩ := k3 hl
    simp only [Option.some.injEq, Addr.mk.injEq, and_true] at e1
    obtain ⟨rfl, rfl⟩ := e1
    exact hasA_drop k2 hb kc d p' n c' hn hc' hcc hp
  · obtain rfl : l = [] := List.eq_nil_of_length_eq_zero (by omega)
    obtain rfl : n = 0 := by simpa using hn
    exact ⟨p', c', 0, 0, by simp, by simp, by omega, fun h => by simp at h, fun j hj => by simp at hj⟩
theorem slice_from {w : World} {b o cap : Nat} {l : List UInt8} (H2 : cap ≤ maxLen) (hc1 : l.length ≤ cap) (hb : b < w.heap.size) (hc : ∀ j (h : j < l.length), w.cell? ⟨b, o + j, none⟩ = some (.int .u8 (l[j].toNat : Int))) (d : Nat) (lo : Int) (hlo : lo = d) (hd : d ≤ l.length) :
    ∃ p' n' c', (∀ W, (Instr.slice 25 (.slice (some ⟨b, o, none⟩) l.length cap) (some (.int .i64 lo)) none none).run Try.prog W = .ok (.slice p' n' c') W) ∧ ∀ W0, HasA W0 (.slice (some ⟨b, o, none⟩) l.length cap) l → HasA W0 (.slice p' n' c') (l.drop d) := by
  subst hlo
  have hs : ∀ W, (sizeOf (Try.prog.elem 25)).run Try.prog W = .ok 1 W := fun _ => by kernel_rfl
  have hr : ∀ W, (Instr.slice 25 (.slice (some ⟨b, o, none⟩) l.length cap) (some (.int .i64 (d : Int))) none none).run Try.prog W = .ok (sliced (some ⟨b, o, none⟩) d l.length cap 1) W := fun W => by
    rw [run_slice_l (P := Try.prog) (w := W) (t := 25) (a := some ⟨b, o, none⟩) (len := l.length) (cap := cap) Try.underlying25 .i64 (d : Int) (by omega) (by omega), hs]
    simp [Result.andThen]
  by_cases hcap : cap = d
  · have e1 : sliced (some ⟨b, o, none⟩) d l.length cap 1 = .slice (some ⟨b, o, none⟩) (l.length - d) (cap - d) := by simp [sliced, hcap]
    exact ⟨_, _, _, fun W => by rw [hr W, e1], fun W0 h0 => hasA_sub h0 d _ _ _ rfl (by omega) (by omega) (fun h => by exfalso; omega)⟩
  · have e1 : sliced (some ⟨b, o, none⟩) d l.length cap 1 = .slice (some ⟨b, o + d, none⟩) (l.length - d) (cap - d) := by
      unfold sliced
      rw [if_neg hcap]
      simp only [Option.map_some, Nat.mul_one, add_plain]
    exact ⟨_, _, _, fun W => by rw [hr W, e1], fun W0 h0 => hasA_sub h0 d _ _ _ rfl (by omega) (by omega) (fun _ => rfl)⟩
theorem got_no {w : World} {x : Value} {l : List UInt8} {V : Int} {p : Option Addr} {a c n : Nat} (h : num l = (0, 0)) : Got w x l (.returned (.tuple #[.int .u64 V, .slice p a c, .bool false])) (w.drewN n) :=
  ⟨V, _, false, n, rfl, rfl, ⟨_, _, _, rfl⟩, .inr ⟨rfl, by rw [h]⟩⟩
theorem got_yes {w : World} {x : Value} {l : List UInt8} {V : Int} {p : Option Addr} {a c n : Nat} (v m : Nat) (h : num l = (v, m)) (hm : 0 < m) (hV : V = v) (hN : ∀ W0, HasA W0 x l → HasA W0 (.slice p a c) (l.drop m)) : Got w x l (.returned (.tuple #[.int .u64 V, .slice p a c, .bool true])) (w.drewN n) :=
  ⟨V, _, true, n, rfl, rfl, ⟨_, _, _, rfl⟩, .inl ⟨rfl, by rw [h]; exact Nat.pos_iff_ne_zero.1 hm, by rw [h]; exact hV, by rw [h]; exact hN⟩⟩

set_option maxRecDepth 100000 in
set_option maxHeartbeats 2000000 in
theorem Get_any (p : Option Addr) (b o cap : Nat) (l : List UInt8) (w : World) (hc1 : l.length ≤ cap) (hc2 : cap ≤ maxLen)
    (hp : 0 < l.length → p = some ⟨b, o, none⟩ ∧ b < w.heap.size) (hc : ∀ j (h : j < l.length), w.cell? ⟨b, o + j, none⟩ = some (.int .u8 (l[j].toNat : Int))) :
    Calls Try.prog 21 #[.slice p l.length cap] w (Got w (.slice p l.length cap) l) := by
  have hml : (cap : Int) ≤ 9223372036854775807 := by unfold maxLen at hc2; omega
  have HC := Lib.hid hc
  have HP := Lib.hid hp
  have H2 := Lib.hid hc2
  clear hc hp hc2
  go_enter Try.func21, Try.ntmps21
  go_wp2
  go_loop [5, 6] (fun v i => ∃ (k acc : Nat), k ≤ 10 ∧ k ≤ l.length ∧ i = .int .i64 k ∧ v = .int .u64 acc ∧ Hid ((k ≤ 9 ∧ acc < 128 ^ k ∧ num l = numGo (10 - k) (l.drop k) k acc) ∨ (k = 10 ∧ num l = (0, 0)))) (fun _ i => 10 - (intOf i).toNat)
  case atStart => exact ⟨0, 0, by omega, by omega, rfl, rfl, .inl ⟨by omega, by omega, rfl⟩⟩
  case round =>
    obtain ⟨k, acc, hk, hkl, rfl, rfl, HR⟩ := hrel
    rcases Nat.lt_or_ge k l.length with hl9 | hl9
    · rcases Nat.lt_or_ge k 10 with h9 | h9
      · have hp := (HP.out (by omega)).1
        subst hp
        have hcell := HC.out k (by omega)
        have hb : l[k].toNat < 256 := l[k].toNat_lt
        have hr : k ≤ 9 ∧ acc < 128 ^ k ∧ num l = numGo (10 - k) (l.drop k) k acc := HR.out.resolve_right (by omega)
        have hn := hr.2.2.trans (numGo_step l k acc h9 hl9)
        have HA := Lib.hid hr.2.1
        clear hr
        generalize l[k].toNat = c at hcell hb hn
        have HN := Lib.hid hn
        clear hn
        have HBlt := Lib.hid (HP.out (by omega)).2
        by_cases big : 128 ≤ c
        · by_cases k9 : k = 9
          · have hk9 : ((k : Int) == 9) = true := by simp [k9]
            have hnum : num l = (0, 0) := by rw [HN.out, if_pos big]; subst k9; rfl
            have HU := Lib.hid hnum
            have K9 := Lib.hid k9
            clear hnum k9
            by_cases d1 : 1 < c % 128
            · have d1' : (1 : Int) < (c : Int) % 128 := by omega
              go_wp2
              go_ret3
              exact got_no (n := 0) HU.out
            · have d1' : ¬ (1 : Int) < (c : Int) % 128 := by omega
              obtain ⟨nn, hnn⟩ : ∃ nn : Nat, IntKind.u64.wrap ((acc : Int) + IntKind.u64.wrap ((c : Int) % 128 * 2 ^ (7 * k))) = (nn : Int) := ⟨_, plus_sum acc c k (by omega) HA.out hb (by omega)⟩
              have HW := Lib.hid hnn
              clear hnn
              go_wp2
              go_round
              case rel => exact ⟨k + 1, nn, by have := K9.out; omega, by omega, by go_num, by rw [HW.out], .inr ⟨by have := K9.out; omega, HU.out⟩⟩
              case measure => simp [intOf]; omega
          · have hk9 : ((k : Int) == 9) = false := by simp; omega
            have HW := Lib.hid (plus_sum acc c k (by omega) HA.out hb (by omega))
            go_wp2
            go_round
            case rel => exact ⟨k + 1, acc + c % 128 * 128 ^ k, by omega, by omega, by go_num, by rw [HW.out], .inl ⟨by omega, acc_next _ _ _ HA.out, by rw [HN.out, if_pos big]⟩⟩
            case measure => simp [intOf]; omega
        · have hcm : c % 128 = c := by omega
          have hcl : (c : Int) < 128 := by omega
          by_cases k9 : k = 9
          · subst k9
            obtain ⟨p', n', c', hsl, hnx⟩ := slice_from H2.out hc1 HBlt.out HC.out 10 10 rfl hl9
            have HNX := Lib.hid hnx
            clear hnx
            by_cases d1 : 1 < c
            · have hnum : num l = (0, 0) := by rw [HN.out, if_neg big, if_pos (.inr ⟨rfl, d1⟩)]
              have HU := Lib.hid hnum
              have d1' : (1 : Int) < (c : Int) % 128 := by omega
              clear hnum hcm
              go_wp2
              go_ret3
              exact got_no (n := 0) HU.out
            · have HW := Lib.hid (plus_nine acc c HA.out (by omega))
              have d1' : ¬ (1 : Int) < (c : Int) % 128 := by omega
              by_cases cz : 0 < c
              · have HU := Lib.hid (show num l = (acc + c % 128 * 128 ^ 9, 9 + 1) by rw [HN.out, if_neg big, if_neg (by omega), hcm])
                have hz2 : (0 : Int) < (c : Int) := by omega
                have hz : decide ((0 : Int) < (c : Int)) = true := by simp; omega
                clear hcm
                go_wp2
                go_quiet (fail)
                go_wp2
                go_ret3
                exact got_yes _ (9 + 1) HU.out (by omega) (by rw [HW.out]) HNX.out
              · have HU := Lib.hid (show num l = (0, 0) by rw [HN.out, if_neg big, if_pos (.inl ⟨by omega, by omega⟩)])
                have hz : decide ((0 : Int) < (c : Int)) = false := by simp; omega
                clear hcm
                go_wp2
                go_quiet (fail)
                go_wp2
                go_ret3
                exact got_no HU.out
          · have hk9 : ((k : Int) == 9) = false := by simp; omega
            obtain ⟨p', n', c', hsl, hnx⟩ := slice_from H2.out hc1 HBlt.out HC.out (k + 1) ((k : Int) + 1) (by omega) hl9
            have HNX := Lib.hid hnx
            clear hnx
            have HW := Lib.hid (plus_sum acc c k (by omega) HA.out hb (by omega))
            by_cases cz : 0 < c
            · have HU := Lib.hid (show num l = (acc + c % 128 * 128 ^ k, k + 1) by rw [HN.out, if_neg big, if_neg (by omega), hcm])
              have hz2 : (0 : Int) < (c : Int) := by omega
              have hz : decide ((0 : Int) < (c : Int)) = true := by simp; omega
              clear hcm
              go_wp2
              go_quiet (fail)
              go_wp2
              go_ret3
              exact got_yes _ (k + 1) HU.out (by omega) (by rw [HW.out]) HNX.out
            · have hz : decide ((0 : Int) < (c : Int)) = false := by simp; omega
              by_cases k0 : 0 < k
              · have HU := Lib.hid (show num l = (0, 0) by rw [HN.out, if_neg big, if_pos (.inl ⟨k0, by omega⟩)])
                have hkz : ((k : Int) == 0) = false := by simp; omega
                clear hcm
                go_wp2
                go_quiet (fail)
                go_wp2
                go_ret3
                exact got_no HU.out
              · have HU := Lib.hid (show num l = (acc + c % 128 * 128 ^ k, k + 1) by rw [HN.out, if_neg big, if_neg (by omega), hcm])
                have hkz : ((k : Int) == 0) = true := by simp; omega
                clear hcm
                go_wp2
                go_quiet (fail)
                go_wp2
                go_ret3
                exact got_yes _ (k + 1) HU.out (by omega) (by rw [HW.out]) HNX.out
      · have HU := Lib.hid (HR.out.resolve_left (by omega)).2
        go_wp2
        go_ret3
        exact got_no (n := 0) HU.out
    · obtain rfl : k = l.length := by omega
      rcases Nat.lt_or_ge l.length 10 with h9 | h9
      · have hr := (HR.out.resolve_right (by omega)).2.2
        have HU := Lib.hid (hr.trans (numGo_over l l.length acc h9 (Nat.le_refl _)))
        clear hr
        go_wp2
        go_ret3
        exact got_no (n := 0) HU.out
      · have HU := Lib.hid (HR.out.resolve_left (by omega)).2
        go_wp2
        go_ret3
        exact got_no (n := 0) HU.out
end Go.Proofs.Ytlmpokkpkglbfaa
