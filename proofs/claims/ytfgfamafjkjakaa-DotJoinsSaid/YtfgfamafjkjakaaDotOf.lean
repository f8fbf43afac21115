/-
  Layer 13's law: of: a set and the document's own list, out of a row of dots.
-/
import Derived.Test.YtfgfamafjkjakaaDotRefA
import Derived.Test.YtfgfamafjkjakaaDotGrowsW
namespace Go.Proofs.Ytfgfamafjkjakaa
open Go.ChangeShapes Go.WideShapes Go.ChangeAt Go.RowKit Go.Deep
set_option linter.unusedVariables false
set_option linter.unusedSimpArgs false
def ofF (D : Nat → Int) (N : Nat → Nat) : Nat → List Nm
  | 0 => none16
  | k + 1 => (addS (ofF D N k) (D k) (N k)).1
def ofL (D : Nat → Int) (N : Nat → Nat) : Nat → List (Int × Nat)
  | 0 => []
  | k + 1 => if (addS (ofF D N k) (D k) (N k)).2 = 0 then addL (ofL D N k) (D k, N k) else ofL D N k
theorem ofF_few (D : Nat → Int) (N : Nat → Nat) : ∀ k, k ≤ 1000 → FewS (ofF D N k) k
  | 0, _ => few_none
  | k + 1, h => (step_of (d := D k) (n := N k) (ofF_few D N k (by omega)) (by omega)).few
theorem addL_len (l : List (Int × Nat)) (x : Int × Nat) : (addL l x).length ≤ l.length + 1 := by
  unfold addL
  split
  · omega
  · simp; omega
theorem ofL_len (D : Nat → Int) (N : Nat → Nat) : ∀ k, (ofL D N k).length ≤ k
  | 0 => Nat.le_refl _
  | k + 1 => by
    have h := ofL_len D N k
    unfold ofL
    split
    · have := addL_len (ofL D N k) (D k, N k); omega
    · omega
theorem mem_setRow : ∀ {ps : List (Nm × Value)} {u : Value}, u ∈ setRow16 ps → ∃ p ∈ ps, u = .int .u64 (p.1.upto : Int) ∨ u = p.2
  | [], _, h => nomatch h
  | p :: r, u, h => by
    have e : setRow16 (p :: r) = .int .u64 (p.1.upto : Int) :: p.2 :: setRow16 r := rfl
    rw [e] at h
    rcases List.mem_cons.1 h with rfl | h
    · exact ⟨p, List.mem_cons_self .., .inl rfl⟩
    · rcases List.mem_cons.1 h with rfl | h
      · exact ⟨p, List.mem_cons_self .., .inr rfl⟩
      · obtain ⟨q, hq, k⟩ := mem_setRow h
        exact ⟨q, List.mem_cons_of_mem _ hq, k⟩
/-- A row of dots lies in no set. -/
theorem dots_off {w : World} {S : Nat} {f : List Nm} {v : Value} {l : List (Int × Nat)} (hs : SetIs w S f) (hv : HasK w encD v l) {b : Nat} (h0 : 0 < l.length) (hb : v.ownBlock = some b) : b ≠ S := by
  intro e
  subst e
  obtain ⟨ps, _, _, hh, h4⟩ := hs
  obtain ⟨p, cap, g, o, rfl, _, _, k3, kc⟩ := hv
  obtain ⟨rfl, _⟩ := k3 h0
  have e' : g = b := Option.some.inj hb
  subst e'
  have hc := kc 0 h0 0 _ rfl
  rw [show o + 0 * encD.k + 0 = o by omega] at hc
  simp only [World.cell?, hh] at hc
  have hm : Value.int .i64 l[0].1 ∈ setRow16 ps := by
    have := Array.mem_of_getElem? hc
    simpa using this
  obtain ⟨q, hq, k | k⟩ := mem_setRow hm
  · cases k
  · obtain ⟨_, _, hf, _⟩ := (h4 q hq).1.form
    rw [hf] at k; cases k
theorem HasK.add {w w' : World} {S : Nat} {f : List Nm} {v : Value} {l : List (Int × Nat)} (hv : HasK w encD v l) (hs : SetIs w S f) (hk : Kp S w w') : HasK w' encD v l :=
  hv.same hk.size (fun b h0 hb => hk.block b (by
    obtain ⟨p, cap, g, o, rfl, _, _, k3, _⟩ := hv
    obtain ⟨rfl, hl⟩ := k3 h0
    have e' : g = b := Option.some.inj hb
    subst e'; exact hl) (dots_off hs hv h0 hb))
set_option maxRecDepth 100000 in
set_option maxHeartbeats 32000000 in
theorem Of_any (p : Option Addr) (n cap b o : Nat) (D : Nat → Int) (N : Nat → Nat) (w : World) (hp : 0 < n → p = some ⟨b, o, none⟩) (hn : n ≤ 1000) (hD : Dots w b o n D N) :
    Calls Try.prog 22 #[.slice p n cap] w fun e w' => ∃ v, e = .returned (.tuple #[.pointer (some ⟨w.heap.size, 0, none⟩), v]) ∧ SetIs w' w.heap.size (ofF D N n) ∧ HasK w' encD v (ofL D N n) ∧ Below w.heap.size w w' := by
  have HD := Lib.hid hD
  have HP := Lib.hid hp
  clear hD hp
  go_enter Try.func22, Try.ntmps22
  go_wp2_with fail
  refine (New_any w).mono ?_
  rintro e w2 ⟨rfl, hs2, hb2⟩
  obtain ⟨S, hS⟩ : ∃ S, w.heap.size = S := ⟨_, rfl⟩
  have HSS := Lib.hid hS
  rw [hS] at hs2 ⊢
  have HS2 := Lib.hid hs2
  have HB2 := Lib.hid hb2
  clear hs2 hb2 hS
  go_wp2_with fail
  go_loopw [5, 6] (fun v5 vi wr => ∃ i : Nat, vi = .int .i64 (i : Int) ∧ i ≤ n ∧ SetIs wr S (ofF D N i) ∧ HasK wr encD v5 (ofL D N i) ∧ Below w.heap.size w wr) (fun _ vi _ => n - (intOf vi).toNat)
  case atStart => exact ⟨0, rfl, Nat.zero_le _, HS2.out, HasK.nil _ _, HB2.out⟩
  case round =>
    obtain ⟨i, rfl, hi, hs, hl, hb⟩ := hrel
    obtain ⟨W0, rfl⟩ : ∃ W0, W0 = wr := ⟨wr, rfl⟩
    have HS0 := Lib.hid hs
    have HL0 := Lib.hid hl
    have HB0 := Lib.hid hb
    clear hs hl hb
    rcases Nat.lt_or_ge i n with hlt | hge
    · have hI : (i : Int) < (n : Int) := by omega
      have hi0 : (0 : Int) ≤ (i : Int) := by omega
      obtain rfl := HP.out (by omega)
      have e1 : ofF D N (i + 1) = (addS (ofF D N i) (D i) (N i)).1 := rfl
      have e2 : ofL D N (i + 1) = if (addS (ofF D N i) (D i) (N i)).2 = 0 then addL (ofL D N i) (D i, N i) else ofL D N i := rfl
      have hst := (step_of (d := D i) (n := N i) (ofF_few D N i (by omega)) (by omega)).e01
      have hll := ofL_len D N i
      have hdt := HD.out.below HB0.out i hlt
      obtain ⟨f, hf⟩ : ∃ f, ofF D N i = f := ⟨_, rfl⟩
      obtain ⟨l, hl⟩ : ∃ l, ofL D N i = l := ⟨_, rfl⟩
      obtain ⟨dd, hdd⟩ : ∃ d, D i = d := ⟨_, rfl⟩
      obtain ⟨nn, hnn⟩ : ∃ m, N i = m := ⟨_, rfl⟩
      rw [hf, hdd, hnn] at e1 e2 hst
      rw [hl] at e2 hll
      rw [hf] at HS0
      rw [hl] at HL0
      rw [hdd, hnn] at hdt
      obtain ⟨⟨g, ev⟩, hge⟩ : ∃ x, addS f dd nn = x := ⟨_, rfl⟩
      rw [hge] at e1 e2 hst
      simp only at e1 e2 hst
      have HE1 := Lib.hid e1
      have HE2 := Lib.hid e2
      have HGE := Lib.hid hge
      have HDD := Lib.hid hdd
      have HNN := Lib.hid hnn
      obtain ⟨c0, c1⟩ := hdt
      clear e1 e2 hge hf hl hdd hnn
      go_wp2_with fail
      clear c0 c1
      refine (Add_any S f dd nn W0 HS0.out).mono ?_
      rw [HGE.out]
      rintro e w5 ⟨rfl, hs5, hk5⟩
      have HS5 := Lib.hid hs5
      have HL5 := Lib.hid (HL0.out.add HS0.out hk5)
      have HB5 := Lib.hid (HB0.out.trans (hk5.below (by rw [HSS.out]; exact Nat.le_refl _) HB0.out.size))
      clear hs5 hk5
      rcases hst with ⟨rfl, -⟩ | ⟨rfl, -⟩
      · obtain ⟨c0, c1⟩ := HD.out.below HB5.out i hlt
        rw [HDD.out] at c0
        rw [HNN.out] at c1
        go_wp2_with fail
        clear c0 c1
        refine (RefAdd_any _ l dd nn w5 HL5.out (by omega)).mono ?_
        rintro e w6 ⟨v6, rfl, hl6, hb6⟩
        have HS6 := Lib.hid (HS5.out.below hb6)
        have HL6 := Lib.hid hl6
        have HB6 := Lib.hid (HB5.out.trans (hb6.mono HB5.out.size))
        clear hl6 hb6
        go_wp2
        go_roundw
        case rel => exact ⟨i + 1, by go_num, hlt, by rw [HE1.out]; exact HS6.out, by rw [HE2.out, if_pos trivial]; exact HL6.out, HB6.out⟩
        case measure => simp [intOf] <;> omega
      · go_wp2
        go_roundw
        case rel => exact ⟨i + 1, by go_num, hlt, by rw [HE1.out]; exact HS5.out, by rw [HE2.out, if_neg (by decide)]; exact HL5.out, HB5.out⟩
        case measure => simp [intOf] <;> omega
    · obtain rfl : i = n := by omega
      have hI : ¬ (i : Int) < (i : Int) := by omega
      go_wp2
      go_ret2
      rw [HSS.out]
      exact ⟨_, rfl, HS0.out, HL0.out, by rw [← HSS.out]; exact HB0.out⟩
end Go.Proofs.Ytfgfamafjkjakaa
