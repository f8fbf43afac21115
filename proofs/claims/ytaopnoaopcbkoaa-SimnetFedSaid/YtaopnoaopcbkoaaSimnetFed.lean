/-
  The statement SimnetFed holds: numbers that are fed come first, in their order; between them those of the seed. No condition.
-/
import Derived.Test.YtaopnoaopcbkoaaRows
import Derived.Test.YtaopnoaopcbkoaaStay
import Derived.Test.YtaopnoaopcbkoaaNetAwake
import Derived.Test.YtaopnoaopcbkoaaOpenG
import Derived.WalkKit
import Derived.ProofKit
import Derived.OpenShut
import Derived.SizedLaws
namespace Go.Proofs.Ytaopnoaopcbkoaa.simnetFed
open Go.ChangeShapes Go.WideShapes Go.ChangeAt Go.RowKit Go.Deep
set_option linter.unusedVariables false
set_option linter.unusedSimpArgs false

theorem own : ownKnob Try.prog.godebug = none := by kernel_rfl
theorem laidOut : laidOutB Try.prog = true := by kernel_rfl
/-- Numbers read where they lie. -/
def Nums (w : World) (p : Option Addr) (l : List Nat) (b o : Nat) : Prop := (0 < l.length → p = some ⟨b, o, none⟩ ∧ b < w.heap.size) ∧ ∀ j (h : j < l.length), w.cell? ⟨b, o + j, none⟩ = some (.int .u64 (l[j] : Int))
theorem nums_of {w : World} {p : Option Addr} {n b o : Nat} {Z : Nat → Int} (hp : 0 < n → p = some ⟨b, o, none⟩ ∧ b < w.heap.size) (hZ : ∀ i, i < n → w.cell? ⟨b, o + i, none⟩ = some (.int .u64 (Z i)) ∧ (Lit.int .u64 (Z i)).wf = true) :
    ∃ l : List Nat, l.length = n ∧ Nums w p l b o ∧ ∀ v ∈ l, v < 18446744073709551616 := by
  have hlen : ((List.range n).map fun i => (Z i).toNat).length = n := by simp
  have hr : ∀ i, i < n → 0 ≤ Z i ∧ Z i ≤ 18446744073709551615 := fun i hi => by
    have hw := (hZ i hi).2
    simp only [Lit.wf, Bool.and_eq_true, decide_eq_true_eq] at hw
    exact hw
  refine ⟨(List.range n).map fun i => (Z i).toNat, hlen, ⟨by rw [hlen]; exact hp, fun j hj => ?_⟩, fun v hv => ?_⟩
  · rw [hlen] at hj
    rw [(hZ j hj).1, List.getElem_map, List.getElem_range, Int.toNat_of_nonneg (hr j hj).1]
  · obtain ⟨i, hi, rfl⟩ := List.mem_map.1 hv
    have := hr i (List.mem_range.1 hi)
    omega
def seedN (s : Nat) (l : List Nat) : NetV := { zeroNet with seed := s, fed := l }
/-- Two networks side by side. -/
structure Two (w : World) (B : Nat) (Ra Rb : Nat) (Na Nb : NetV) (Fa Fb : Nat → Prop) : Prop where
  a : Net w B Ra Na Fa
  b : Net w B Rb Nb Fb
  apart : ∀ k, Fa k → ¬ Fb k
theorem Net.mono {w : World} {B B' R : Nat} {N : NetV} {F : Nat → Prop} (h : Net w B R N F) (hB : B' ≤ B) : Net w B' R N F := by
  obtain ⟨wv, fv, h1, h2, h3, ⟨Ps, e, hr, hg, hp⟩, ⟨p, cap, hv, q1, q2, q3⟩⟩ := h
  refine ⟨wv, fv, h1, h2, fun k hk => ⟨Nat.le_trans hB (h3 k hk).1, (h3 k hk).2⟩, ⟨Ps, e, Joins.ownsRow_le hr hB, hg, fun p hp' => ⟨(hp p hp').1.mono hB, (hp p hp').2⟩⟩, ⟨p, cap, hv, q1, q2, fun h => ?_⟩⟩
  obtain ⟨g, o, cur, a1, a2, a3, a4⟩ := q3 h
  exact ⟨g, o, cur, a1, a2, Nat.le_trans hB a3, a4⟩
set_option maxRecDepth 100000 in
set_option maxHeartbeats 8000000 in
theorem walk (w : World) (p : Option Addr) (n c b o : Nat) (Z : Nat → Int) (A D : Int) (hl : n ≤ c) (hm : c ≤ maxLen) (hr : c * 8 ≤ 140737488351232) (hp : 0 < n → p = some ⟨b, o, none⟩ ∧ b < w.heap.size)
    (hZ : ∀ i, i < n → w.cell? ⟨b, o + i, none⟩ = some (.int .u64 (Z i)) ∧ (Lit.int .u64 (Z i)).wf = true) (hA : (Lit.int .i64 A).wf = true) (hD : (Lit.int .i64 D).wf = true) :
    Calls Try.prog 6 #[.slice p n c, .int .i64 A, .int .i64 D] w fun e w' => e = .returned (.bool true) ∧ Below w.heap.size w w' := by
  have hm' : (c : Int) ≤ 9223372036854775807 := by unfold maxLen at hm; omega
  obtain ⟨l, hln, hnum, hvl⟩ := nums_of hp hZ
  subst hln
  have HNUM := Lib.hid hnum
  have HVL := Lib.hid hvl
  have HM := Lib.hid hm
  clear hp hZ hm hA hD hnum hvl
  go_enter Try.func6, Try.ntmps6
  go_wp2_with fail
  refine (awake_any w).mono ?_
  rintro e w0 ⟨rfl, hb0⟩
  have hz0 := hb0.size
  have HB0 := Lib.hid hb0
  clear hb0
  by_cases g1 : (50 : Int) < (l.length : Int)
  · go_wp2
    go_ret
    exact ⟨rfl, HB0.out⟩
  by_cases g2 : A < 0
  · go_wp2
    go_ret
    exact ⟨rfl, HB0.out⟩
  by_cases g3 : 50 < A
  · go_wp2
    go_ret
    exact ⟨rfl, HB0.out⟩
  by_cases g4 : D < 0
  · go_wp2
    go_ret
    exact ⟨rfl, HB0.out⟩
  by_cases g5 : 50 < D
  · go_wp2
    go_ret
    exact ⟨rfl, HB0.out⟩
  obtain ⟨A, rfl⟩ : ∃ a : Nat, A = (a : Int) := ⟨A.toNat, by omega⟩
  obtain ⟨D, rfl⟩ : ∃ d : Nat, D = (d : Int) := ⟨D.toNat, by omega⟩
  have hl50 : l.length ≤ 50 := by omega
  go_wp2_with fail
  refine (New_any w0).mono ?_
  rintro e w1 ⟨Ra, Fa, rfl, hn1, hb1⟩
  have hz1 := hb1.size
  go_wp2_with fail
  refine (New_any w1).mono ?_
  rintro e w2 ⟨Rb, Fb, rfl, hn2, hb2⟩
  have hz2 := hb2.size
  have htwo : Two w2 w0.heap.size Ra Rb (seedN 0 []) (seedN 0 []) Fa Fb := by
    refine ⟨hn1.below hb2, Net.mono hn2 (by omega), fun k ha hb => ?_⟩
    have h2 := hn2.base k hb
    obtain ⟨_, _, _, _, hF, _⟩ := hn1
    have := (hF k ha).2
    omega
  have HTWO := Lib.hid htwo
  have HB2 := Lib.hid ((HB0.out.trans (hb1.mono hz0)).trans (hb2.mono (by omega)))
  clear hn1 hb1 hn2 hb2 htwo
  go_wp2_with fail
  go_loopw [9] (fun vi wr => ∃ (i s : Nat), vi = .int .i64 i ∧ i ≤ A ∧ s < 18446744073709551616 ∧ Two wr w0.heap.size Ra Rb (seedN s []) (seedN s []) Fa Fb ∧ Below w.heap.size w wr ∧ w0.heap.size ≤ wr.heap.size) (fun vi _ => A - (intOf vi).toNat)
  case atStart => exact ⟨0, 0, rfl, Nat.zero_le _, by decide, HTWO.out, HB2.out, by omega⟩
  case round =>
    obtain ⟨i, s, rfl, hiA, hs, htw, hb, hsz⟩ := hrel
    have HTW := Lib.hid htw
    have HB := Lib.hid hb
    have HS := Lib.hid hs
    clear htw hb hs
    rcases Nat.lt_or_ge i A with hlt | hge
    · have hlt' : (i : Int) < (A : Int) := by omega
      go_wp2_with fail
      refine (Rand_any wr w0.heap.size Ra (seedN s []) Fa HTW.out.a ⟨HS.out, by simp [seedN]⟩).mono ?_
      rw [show randN (seedN s []) = mixed (seedNext s) from rfl, show randV (seedN s []) = seedN (seedNext s) [] from rfl]
      rintro e w3 ⟨rfl, hn3, hk3⟩
      have hz3 := hk3.size
      have HN3 := Lib.hid hn3
      have HNB := Lib.hid (HTW.out.b.other hk3 (fun k h1 h2 => HTW.out.apart k h2 h1))
      have HB3 := Lib.hid (HB.out.trans ((hk3.below HTW.out.a.base (by omega)).mono hz0))
      clear hn3 hk3
      go_wp2_with fail
      refine (Rand_any w3 w0.heap.size Rb (seedN s []) Fb HNB.out ⟨HS.out, by simp [seedN]⟩).mono ?_
      rw [show randN (seedN s []) = mixed (seedNext s) from rfl, show randV (seedN s []) = seedN (seedNext s) [] from rfl]
      rintro e w4 ⟨rfl, hn4, hk4⟩
      have hz4 := hk4.size
      have HTW4 : Hid (Two w4 w0.heap.size Ra Rb (seedN (seedNext s) []) (seedN (seedNext s) []) Fa Fb) := Lib.hid ⟨HN3.out.other hk4 HTW.out.apart, hn4, HTW.out.apart⟩
      have HB4 := Lib.hid (HB3.out.trans ((hk4.below HNB.out.base (by omega)).mono hz0))
      clear hn4 hk4
      generalize mixed (seedNext s) = x
      go_wp2
      go_roundw
      case rel => exact ⟨i + 1, seedNext s, by go_num, hlt, seedNext_lt s, HTW4.out, HB4.out, by omega⟩
      case measure => simp [intOf]; omega
    · have hge' : ¬ (i : Int) < (A : Int) := by omega
      go_wp2_with fail
      go_loopw [10] (fun vi wr => ∃ (i : Nat) (F : Nat → Prop), vi = .int .i64 i ∧ i ≤ l.length ∧ Two wr w0.heap.size Ra Rb (seedN s (l.take i)) (seedN s []) F Fb ∧ Below w.heap.size w wr ∧ w0.heap.size ≤ wr.heap.size) (fun vi _ => l.length - (intOf vi).toNat)
      case atStart => exact ⟨0, Fa, rfl, Nat.zero_le _, HTW.out, HB.out, hsz⟩
      case round =>
        obtain ⟨i2, F, rfl, hil, htw, hb, hsz⟩ := hrel
        have HTW := Lib.hid htw
        have HB := Lib.hid hb
        clear htw hb
        rcases Nat.lt_or_ge i2 l.length with hlt | hge
        · have hlt' : (i2 : Int) < (l.length : Int) := by omega
          obtain ⟨rfl, hbl⟩ := HNUM.out.1 (by omega)
          have hc := (HB.out.cell (p := ⟨b, o + i2, none⟩) hbl).trans (HNUM.out.2 i2 hlt)
          have hsn : l.take (i2 + 1) = l.take i2 ++ [l[i2]] := by rw [List.take_succ_eq_append_getElem hlt]
          have HSN := Lib.hid hsn
          obtain ⟨x, hx⟩ : ∃ x, l[i2] = x := ⟨_, rfl⟩
          rw [hx] at hc HSN
          clear hsn hx
          go_wp2_with fail
          refine (Feed_any wr w0.heap.size Ra (seedN s (l.take i2)) F HTW.out.a x (by show (l.take i2).length ≤ _; rw [List.length_take]; omega)).mono ?_
          rw [show ({ seedN s (l.take i2) with fed := (seedN s (l.take i2)).fed ++ [x] } : NetV) = seedN s (l.take i2 ++ [x]) from rfl, ← HSN.out]
          rintro e w3 ⟨F3, rfl, hn3, hk3, hf3⟩
          have hz3 := hk3.size
          have HTW3 : Hid (Two w3 w0.heap.size Ra Rb (seedN s (l.take (i2 + 1))) (seedN s []) F3 Fb) := Lib.hid ⟨hn3, HTW.out.b.other hk3 (fun k h1 h2 => HTW.out.apart k h2 h1), fun k h1 h2 => by
            obtain ⟨_, _, _, _, hF, _⟩ := HTW.out.b
            exact HTW.out.apart k (hf3 k (hF k h2).2 h1) h2⟩
          have HB3 := Lib.hid (HB.out.trans ((hk3.below HTW.out.a.base (by omega)).mono hz0))
          clear hn3 hk3 hf3
          go_wp2
          go_roundw
          case rel => exact ⟨i2 + 1, F3, by go_num, hlt, HTW3.out, HB3.out, by omega⟩
          case measure => simp [intOf]; omega
        · have hge' : ¬ (i2 : Int) < (l.length : Int) := by omega
          go_wp2_with fail
          go_loopw [11] (fun vi wr => ∃ (i : Nat), vi = .int .i64 i ∧ i ≤ l.length ∧ Two wr w0.heap.size Ra Rb (seedN s (l.drop i)) (seedN s []) F Fb ∧ Below w.heap.size w wr ∧ w0.heap.size ≤ wr.heap.size) (fun vi _ => l.length - (intOf vi).toNat)
          case atStart => exact ⟨0, rfl, Nat.zero_le _, by have h := HTW.out; rw [List.take_of_length_le hge] at h; exact h, HB.out, hsz⟩
          case round =>
            obtain ⟨i3, rfl, hil, htw, hb, hsz⟩ := hrel
            have HTW := Lib.hid htw
            have HB := Lib.hid hb
            clear htw hb
            rcases Nat.lt_or_ge i3 l.length with hlt | hge
            · have hlt' : (i3 : Int) < (l.length : Int) := by omega
              obtain ⟨rfl, hbl⟩ := HNUM.out.1 (by omega)
              have hc := (HB.out.cell (p := ⟨b, o + i3, none⟩) hbl).trans (HNUM.out.2 i3 hlt)
              have hok : FedOk (seedN s (l.drop i3)) := ⟨HS.out, fun v hv => HVL.out v (List.mem_of_mem_drop hv)⟩
              have hrn : randN (seedN s (l.drop i3)) = l[i3] ∧ randV (seedN s (l.drop i3)) = seedN s (l.drop (i3 + 1)) := by
                rw [List.drop_eq_getElem_cons hlt]
                exact ⟨rfl, rfl⟩
              have HRN := Lib.hid (Rand_any wr.drew w0.heap.size Ra (seedN s (l.drop i3)) F HTW.out.a hok)
              rw [hrn.1, hrn.2] at HRN
              have HCC := Lib.hid (HNUM.out.2 i3 hlt)
              obtain ⟨x, hx⟩ : ∃ x, l[i3] = x := ⟨_, rfl⟩
              rw [hx] at hc HRN HCC
              clear hok hrn hx
              go_wp2_with fail
              refine wp_region_held_drew (S := fun w' => w'.cell? ⟨b, o + i3, none⟩ = some (.int .u64 (x : Int))) (by kernel_rfl) hc (fun hHeld => ?_)
              refine wpAnyH_take (i := 0) (oi := _) (v := ?_) rfl (by kernel_rfl) (by kernel_rfl) (by kernel_rfl) (fun _ _ _ h => h) (Or.inl ⟨by rfl, ?hy⟩) (by assumption) ?rest
              case hy =>
                intro w9 hSw
                try dsimp only at hSw
                try simp only [List.getElem_toArray, List.getElem_cons_zero, List.getElem_cons_succ]
                go_simp
                try with_reducible rfl
              case rest =>
                try simp only [Act.put, List.setIfInBounds_toArray, List.set_cons_zero, List.set_cons_succ, List.getElem_toArray, List.getElem_cons_zero, List.getElem_cons_succ]
                refine wpAnyH_take (i := 2) (oi := _) (v := ?_) rfl (by kernel_rfl) (by kernel_rfl) (by kernel_rfl) (fun _ _ _ h => h) (Or.inl ⟨by rfl, ?hy⟩) (by assumption) ?rest
                case hy =>
                  intro w9 hSw
                  try dsimp only at hSw
                  try simp only [List.getElem_toArray, List.getElem_cons_zero, List.getElem_cons_succ]
                  go_simp
                  try with_reducible rfl
                case rest =>
                  try simp only [Act.put, List.setIfInBounds_toArray, List.set_cons_zero, List.set_cons_succ, List.getElem_toArray, List.getElem_cons_zero, List.getElem_cons_succ]
                  refine wpAnyH_take (i := 3) (oi := _) (v := ?_) rfl (by kernel_rfl) (by kernel_rfl) (by kernel_rfl) (fun _ _ _ h => h) (Or.inl ⟨by rfl, ?hy⟩) (by assumption) ?rest
                  case hy =>
                    intro w9 hSw
                    try dsimp only at hSw
                    try simp only [List.getElem_toArray, List.getElem_cons_zero, List.getElem_cons_succ]
                    go_simp
                    try with_reducible rfl
                  case rest =>
                    try simp only [Act.put, List.setIfInBounds_toArray, List.set_cons_zero, List.set_cons_succ, List.getElem_toArray, List.getElem_cons_zero, List.getElem_cons_succ]
                    refine wpAnyH_take (i := 4) (oi := _) (v := ?_) rfl (by kernel_rfl) (by kernel_rfl) (by kernel_rfl) (fun _ _ _ h => h) (Or.inl ⟨by rfl, ?hy⟩) (by assumption) ?rest
                    case hy =>
                      intro w9 hSw
                      try dsimp only at hSw
                      try simp only [List.getElem_toArray, List.getElem_cons_zero, List.getElem_cons_succ]
                      go_simp
                      try with_reducible rfl
                    case rest =>
                      try simp only [Act.put, List.setIfInBounds_toArray, List.set_cons_zero, List.set_cons_succ, List.getElem_toArray, List.getElem_cons_zero, List.getElem_cons_succ]
                      refine wpAnyH_take (i := 5) (oi := _) (v := ?_) rfl (by kernel_rfl) (by kernel_rfl) (by kernel_rfl) (fun _ _ _ h => h) (Or.inl ⟨by rfl, ?hy⟩) (by assumption) ?rest
                      case hy =>
                        intro w9 hSw
                        try dsimp only at hSw
                        try simp only [List.getElem_toArray, List.getElem_cons_zero, List.getElem_cons_succ]
                        go_simp
                        try with_reducible rfl
                      case rest =>
                        try simp only [Act.put, List.setIfInBounds_toArray, List.set_cons_zero, List.set_cons_succ, List.getElem_toArray, List.getElem_cons_zero, List.getElem_cons_succ]
                        refine wpAnyH_ready (rs := [1]) (by kernel_rfl) (by simp) (AllReadyH.cons (o := _) rfl (fun K hK => ?_) AllReadyH.nil)
                        try simp only [List.getElem_toArray, List.getElem_cons_zero, List.getElem_cons_succ]
                        go_simp
                        refine HRN.out.mono ?_
                        rintro e w3 ⟨rfl, hn3, hk3⟩
                        have hz3 : wr.heap.size ≤ w3.heap.size := hk3.size
                        have HTW3 : Hid (Two w3 w0.heap.size Ra Rb (seedN s (l.drop (i3 + 1))) (seedN s []) F Fb) := Lib.hid ⟨hn3, HTW.out.b.other (w := wr.drew) hk3 (fun k h1 h2 => HTW.out.apart k h2 h1), HTW.out.apart⟩
                        have hb3 : Below w.heap.size w w3 := (HB.out.drew).trans ((hk3.below HTW.out.a.base (by show _ ≤ wr.heap.size; omega)).mono hz0)
                        have hS : w3.cell? ⟨b, o + i3, none⟩ = some (.int .u64 (x : Int)) := (hb3.cell (p := ⟨b, o + i3, none⟩) hbl).trans HCC.out
                        have HB3 := Lib.hid hb3
                        clear hn3 hk3 hb3
                        refine hK.out _ _ (hS) (fun hHeld => ?_)
                        clear hK K
                        try simp only [Act.put, List.setIfInBounds_toArray, List.set_cons_zero, List.set_cons_succ, List.getElem_toArray, List.getElem_cons_zero, List.getElem_cons_succ]
                        refine wpAnyH_take (i := 6) (oi := _) (v := ?_) rfl (by kernel_rfl) (by kernel_rfl) (by kernel_rfl) (fun _ _ _ h => h) (Or.inl ⟨by rfl, ?hy⟩) (by assumption) ?rest
                        case hy =>
                          intro w9 hSw
                          try dsimp only at hSw
                          try simp only [List.getElem_toArray, List.getElem_cons_zero, List.getElem_cons_succ]
                          go_simp
                          try with_reducible rfl
                        case rest =>
                          try simp only [Act.put, List.setIfInBounds_toArray, List.set_cons_zero, List.set_cons_succ, List.getElem_toArray, List.getElem_cons_zero, List.getElem_cons_succ]
                          refine wpAnyH_done (by kernel_rfl) ?_ _
                          go_wp2
                          go_roundw
                          case rel => exact ⟨i3 + 1, by go_num, hlt, HTW3.out, HB3.out, by omega⟩
                          case measure => simp [intOf]; omega
            · have hge' : ¬ (i3 : Int) < (l.length : Int) := by omega
              go_wp2_with fail
              go_loopw [12] (fun vi wr => ∃ (i s : Nat), vi = .int .i64 i ∧ i ≤ D ∧ s < 18446744073709551616 ∧ Two wr w0.heap.size Ra Rb (seedN s []) (seedN s []) F Fb ∧ Below w.heap.size w wr ∧ w0.heap.size ≤ wr.heap.size) (fun vi _ => D - (intOf vi).toNat)
              case atStart => exact ⟨0, s, rfl, Nat.zero_le _, HS.out, by have h := HTW.out; rw [List.drop_of_length_le hge] at h; exact h, HB.out, hsz⟩
              case round =>
                obtain ⟨i4, s4, rfl, hiD, hs4, htw, hb, hsz⟩ := hrel
                have HTW := Lib.hid htw
                have HB := Lib.hid hb
                have HS := Lib.hid hs4
                clear htw hb hs4
                rcases Nat.lt_or_ge i4 D with hlt | hge
                · have hlt' : (i4 : Int) < (D : Int) := by omega
                  go_wp2_with fail
                  refine (Rand_any wr w0.heap.size Ra (seedN s4 []) F HTW.out.a ⟨HS.out, by simp [seedN]⟩).mono ?_
                  rw [show randN (seedN s4 []) = mixed (seedNext s4) from rfl, show randV (seedN s4 []) = seedN (seedNext s4) [] from rfl]
                  rintro e w3 ⟨rfl, hn3, hk3⟩
                  have hz3 := hk3.size
                  have HN3 := Lib.hid hn3
                  have HNB := Lib.hid (HTW.out.b.other hk3 (fun k h1 h2 => HTW.out.apart k h2 h1))
                  have HB3 := Lib.hid (HB.out.trans ((hk3.below HTW.out.a.base (by omega)).mono hz0))
                  clear hn3 hk3
                  go_wp2_with fail
                  refine (Rand_any w3 w0.heap.size Rb (seedN s4 []) Fb HNB.out ⟨HS.out, by simp [seedN]⟩).mono ?_
                  rw [show randN (seedN s4 []) = mixed (seedNext s4) from rfl, show randV (seedN s4 []) = seedN (seedNext s4) [] from rfl]
                  rintro e w4 ⟨rfl, hn4, hk4⟩
                  have hz4 := hk4.size
                  have HTW4 : Hid (Two w4 w0.heap.size Ra Rb (seedN (seedNext s4) []) (seedN (seedNext s4) []) F Fb) := Lib.hid ⟨HN3.out.other hk4 HTW.out.apart, hn4, HTW.out.apart⟩
                  have HB4 := Lib.hid (HB3.out.trans ((hk4.below HNB.out.base (by omega)).mono hz0))
                  clear hn4 hk4
                  generalize mixed (seedNext s4) = x
                  go_wp2
                  go_roundw
                  case rel => exact ⟨i4 + 1, seedNext s4, by go_num, hlt, seedNext_lt s4, HTW4.out, HB4.out, by omega⟩
                  case measure => simp [intOf]; omega
                · have hge' : ¬ (i4 : Int) < (D : Int) := by omega
                  go_wp2
                  go_ret
                  exact ⟨rfl, HB.out⟩

set_option maxRecDepth 100000 in
theorem lifted (os : Os) (started : os.Started) (H : Type) (enc : TypeId × Value → H) :
    ReturnsInHanded {} Try.checked os 6 .any (Rows.simnetFedSpec.pre6 enc Try.prog Try.f6 Rows.simnetFedRow.domain false) (Rows.simnetFedSpec.post enc Try.prog Try.f6 false true false false) := by
  refine returnsInHanded_of_change_sized (C := Try.checked) own started (by kernel_rfl) Try.func6
    (ChangeSpec.witness6 (enc := enc) (C := Try.checked) false ⟨#[], #[.slice none 0 0, .int .i64 0, .int .i64 0], []⟩ 8 (by kernel_rfl) (by kernel_rfl) (by kernel_rfl) (by kernel_rfl)) ?_
  intro W base args ds gs before hval0 hW hcnd hsz0 _
  have hsz : (DataW.weightsEach Try.prog (Try.f6.params.toList ++ Rows.simnetFedSpec.plain.varTypes Try.prog) (ds ++ gs)).all (· ≤ reachBytes) = true := hsz0
  clear hsz0
  have hval : ∀ (j : Nat) t v, Try.f6.params[j]? = some t → args[j]? = some v → Value.okWide Try.prog W .any base t v := hval0
  have hW' := hW
  obtain ⟨p, q, hA0, hV, rfl, hfz, hnd⟩ := hW
  have hA : DataW.TrodAll enc Try.prog W 0 (fun _ => true) true Try.f6.params.toList args.toList ds p := hA0
  have hAk := hA
  rw [Try.params6] at hA hval hsz
  obtain ⟨v0, vs0, d0, ds0, p0, q0, hargs, rfl, rfl, h0, r0⟩ := trodAll_cons hA
  obtain ⟨v1, vs1, d1, ds1, p1, q1, rfl, rfl, rfl, h1, r1⟩ := trodAll_cons r0
  obtain ⟨v2, vs2, d2, ds2, p2, q2, rfl, rfl, rfl, h2, r2⟩ := trodAll_cons r1
  obtain ⟨rfl, rfl, rfl⟩ := trodAll_nil r2
  obtain rfl : args = #[v0, v1, v2] := by cases args; simp_all
  obtain ⟨rfl, rfl⟩ := trodVars_none hV
  obtain ⟨pt0, len0, cap0, rfl⟩ := okWide_slice Try.underlying39 (hval 0 39 v0 rfl rfl)
  obtain ⟨hl0, hm0, hs0, b0, o0, Z0, hp0, hZ0⟩ := open_rows (P := Try.prog) Try.underlying39 Try.underlying40 (by kernel_rfl) h0
  have hr0 := cap_reach hsz (j := 0) (t := 39) (b := 8) rfl rfl Try.underlying39 (by kernel_rfl) hs0
  obtain ⟨a1, rfl, rfl, rfl, w1⟩ := open_int Try.underlying3 (hval 1 3 v1 rfl rfl) h1
  obtain ⟨a2, rfl, rfl, rfl, w2⟩ := open_int Try.underlying3 (hval 2 3 v2 rfl rfl) h2
  clear hA0 hval0
  refine (walk W pt0 len0 cap0 b0 o0 Z0 a1 a2 hl0 hm0 hr0 hp0 hZ0 w1 w2).mono fun e W' ⟨he, hb⟩ => ?_
  subst he
  exact ⟨_, rfl, law_post laidOut rfl hW' hAk (by rw [Try.params6]; intro t ht; revert t; decide +kernel) (by kernel_rfl) Try.underlying4 rfl hb⟩

theorem over : Rows.simnetFedRow.holds Try.pinned (OpenSpec.ofChange Rows.simnetFedSpec) :=
  OpenClaim.holds_of_wide 6 Try.f6 rfl rfl rfl rfl rfl rfl rfl ⟨rfl, rfl, rfl, rfl, rfl⟩ rfl rfl rfl rfl rfl (by kernel_rfl) Try.func6 (by kernel_rfl)
    (of_decide_eq_true (by kernel_rfl)) (by unfold Func.isWrapper; first | (rw [if_pos (by decide +kernel)]; kernel_rfl) | (rw [if_neg (by decide +kernel)]; exact ⟨rfl, rfl⟩))
    (fun os started H enc _ => lifted os started H enc)

/-- The statement. -/
theorem proved : Rows.SimnetFedSaid :=
  over
#print axioms proved
end Go.Proofs.Ytaopnoaopcbkoaa.simnetFed
