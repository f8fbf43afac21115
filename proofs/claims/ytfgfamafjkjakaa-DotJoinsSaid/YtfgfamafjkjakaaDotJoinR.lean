/-
  Package slices, of numbers: Compact, of a row of the call's own, of any length.
  Package slices, of numbers: Compact, of any row of the call's own; what it makes of sorted numbers.
  Package dot's Set: another's dots taken in.
  Package dot: sets that are joined, and the document's lists of dots.
  Layer 13's law: DotJoins walked.
-/
import Derived.Test.YtfgfamafjkjakaaSorterD
import Derived.Test.YtfgfamafjkjakaaDotCat
import Derived.Test.YtfgfamafjkjakaaDotJoinS
import Derived.Test.YtfgfamafjkjakaaDotTieO
import Derived.Test.YtfgfamafjkjakaaDotLaidP
import Derived.Test.YtfgfamafjkjakaaDotIsA
namespace Go.Proofs.Ytfgfamafjkjakaa
open Go.ChangeShapes Go.WideShapes Go.ChangeAt Go.RowKit Go.Deep
set_option linter.unusedVariables false
set_option linter.unusedSimpArgs false
/-- Is number i another than the one before? -/
def keepB (d : Array Nat) (i : Nat) : Bool := i == 0 || !(d[i]! == d[i - 1]!)
/-- The first j numbers, each run of one number once. -/
def compTo (d : Array Nat) (j : Nat) : List Nat := ((List.range j).filter (keepB d)).map fun i => d[i]!
def comp (l : List Nat) : List Nat := compTo l.toArray l.length
theorem compTo_succ (d : Array Nat) (j : Nat) : compTo d (j + 1) = compTo d j ++ (if keepB d j then [d[j]!] else []) := by
  unfold compTo
  rw [List.range_succ, List.filter_append, List.map_append]
  congr 1
  cases h : keepB d j <;> simp [h]
theorem compTo_keep {d : Array Nat} {j x : Nat} (h : keepB d j = true) (hx : d[j]! = x) : compTo d (j + 1) = compTo d j ++ [x] := by rw [compTo_succ, if_pos h, hx]
theorem compTo_drop {d : Array Nat} {j : Nat} (h : keepB d j = false) : compTo d (j + 1) = compTo d j := by
  rw [compTo_succ, h]
  exact List.append_nil _
theorem compTo_one (d : Array Nat) : compTo d 1 = [d[0]!] := rfl
theorem take_set_succ : ∀ (l : List Nat) (k x : Nat), k < l.length → (l.set k x).take (k + 1) = l.take k ++ [x]
  | _ :: _, 0, _, _ => rfl
  | a :: r, k + 1, x, h => congrArg (List.cons a) (take_set_succ r k x (by simpa using h))
theorem take_one (e : Array Nat) (k : Nat) (h : k < e.size) : e.toList.take (k + 1) = e.toList.take k ++ [e[k]!] := by
  rw [List.take_add_one, Array.getElem?_toList, Array.getElem?_eq_getElem h, getElem!_pos e k h]
  rfl
theorem Kq.setCells (R : Nat) : ∀ (vs : List Value) (o : Nat) (w : World), Kq R w (w.setCells R o vs)
  | [], _, w => Kq.refl R w
  | v :: r, o, w => (Kq.setCell R o w v).trans (Kq.setCells R r (o + 1) _)
theorem Arr.set {w : World} {g : Nat} {d : Array Nat} (h : Arr w g d) {i x : Nat} (hi : i < d.size) : Arr (w.setCell ⟨g, i, none⟩ (.int .u64 (x : Int))) g (d.setIfInBounds i x) := by
  refine ⟨fun k hk => ?_, fun k => ?_, ?_⟩
  · rw [Array.size_setIfInBounds] at hk
    rw [cell_set (h.cell i hi), h.cell k hk, getElem!_pos (d.setIfInBounds i x) k (by rw [Array.size_setIfInBounds]; exact hk), Array.getElem_setIfInBounds hk, getElem!_pos d k hk]
    by_cases e : k = i
    · rw [if_pos e, if_pos e.symm]
    · rw [if_neg e, if_neg (fun h => e h.symm)]
  · rw [World.frozen?_setCell]
    exact h.nf k
  · rw [World.size_setCell]
    exact h.lt
theorem set_get (e : Array Nat) (k x i : Nat) (h : i ≠ k) : (e.setIfInBounds k x)[i]! = e[i]! := by
  by_cases hi : i < e.size
  · rw [getElem!_pos (e.setIfInBounds k x) i (by rw [Array.size_setIfInBounds]; exact hi), Array.getElem_setIfInBounds hi, if_neg (fun h2 => h h2.symm), getElem!_pos e i hi]
  · rw [getElem!_neg _ i (by rw [Array.size_setIfInBounds]; exact hi), getElem!_neg e i hi]
/-- The first k numbers of a row are one's own. -/
theorem own_pre {w : World} {B g k c : Nat} {cur : Array Value} {e : Array Nat} {l : List Nat} (hB : B ≤ g) (hh : w.heap[g]? = some (.cells cur 30 (0, 0))) (hs : cur.size = c) (hk : k ≤ e.size) (hkc : k ≤ c) (hc : c ≤ maxLen)
    (hcell : ∀ i, i < k → w.cell? ⟨g, i, none⟩ = some (.int .u64 ((e[i]! : Nat) : Int))) (hl : e.toList.take k = l) : OwnK w B 30 (encN .u64) (.slice (some ⟨g, 0, none⟩) k c) l := by
  have hll : l.length = k := by rw [← hl, List.length_take, Array.length_toList]; omega
  have hA : Arr w g l.toArray := by
    refine ⟨fun i hi => ?_, fun j => by simp [World.frozen?, hh], lt_of_block hh⟩
    have hi' : i < l.length := by simpa using hi
    rw [hcell i (by omega)]
    rw [getElem!_pos l.toArray i hi, getElem!_pos e i (by omega)]
    have : l[i] = e[i]'(by omega) := by
      have h1 : l[i]? = e.toList[i]? := by rw [← hl, List.getElem?_take_of_lt (by omega)]
      rw [List.getElem?_eq_getElem hi', Array.getElem?_toList, Array.getElem?_eq_getElem (by omega)] at h1
      exact Option.some.inj h1
    simp [this]
  have ht := arr_take hA hh
  rw [List.toList_toArray, show l.toArray.size = k by simpa using hll] at ht
  exact own_of hll.symm hB hh hkc hc hs ht
theorem neq_int {x y : Nat} (h : ¬ x = y) : ((x : Int) == (y : Int)) = false := beq_eq_false_iff_ne.2 (by omega)
def Comps (B g : Nat) (l : List Nat) (w : World) (e : Ending) (w' : World) : Prop := ∃ v', e = .returned v' ∧ OwnK w' B 30 (encN .u64) v' l ∧ Kq g w w'
set_option maxRecDepth 100000 in
set_option maxHeartbeats 32000000 in
theorem Compact_gen (g n c B : Nat) (d : Array Nat) (cur : Array Value) (w : World) (hB : B ≤ g) (hcur : w.heap[g]? = some (.cells cur 30 (0, 0))) (hsz : cur.size = c) (hA : Arr w g d) (hn : d.size = n) (h2 : 2 ≤ n) (hnc : n ≤ c) (hcm : c ≤ maxLen) :
    Calls Try.prog 42 #[.slice (some ⟨g, 0, none⟩) n c] w fun e w' => Comps B g (compTo d n) w e w' := by
  have HA := Lib.hid hA
  have HN := Lib.hid hn
  have HCUR := Lib.hid hcur
  have HSZ := Lib.hid hsz
  have HB := Lib.hid hB
  have HCM := Lib.hid hcm
  have hcI : (c : Int) ≤ 9223372036854775807 := by unfold maxLen at hcm; omega
  have hnI : (n : Int) ≤ 9223372036854775807 := by omega
  have hn2 : ¬ (n : Int) < 2 := by omega
  clear hA hn hcur hsz hB hcm
  go_enter Try.func42, Try.ntmps42
  go_wp2_with fail
  go_loopw [3] (fun v3 wr => ∃ k : Nat, v3 = .int .i64 (k : Int) ∧ 1 ≤ k ∧ k ≤ n ∧ Hid (compTo d k = d.toList.take k) ∧ Arr wr g d ∧ Kq g w wr) (fun v3 _ => n + 1 - (intOf v3).toNat)
  case atStart => exact ⟨1, rfl, Nat.le_refl _, by omega, Lib.hid (by rw [compTo_one, take_one d 0 (by rw [HN.out]; omega)]; rfl), HA.out, Kq.refl _ _⟩
  case round =>
    obtain ⟨k, rfl, hk1, hkn, HC, h_, hk_⟩ := hrel
    obtain ⟨W0, rfl⟩ : ∃ W0, W0 = wr := ⟨wr, rfl⟩
    have H0 := Lib.hid h_
    have HK0 := Lib.hid hk_
    clear h_ hk_
    rcases Nat.lt_or_ge k n with hlt | hge
    rotate_left
    · obtain rfl : k = n := by omega
      have hfin : OwnK W0 B 30 (encN .u64) (.slice (some ⟨g, 0, none⟩) k c) (compTo d k) := by
        obtain ⟨cur', hcur', hsz'⟩ := HK0.out.shape cur _ HCUR.out
        exact own_pre HB.out hcur' (hsz'.trans HSZ.out) (by rw [HN.out]; exact Nat.le_refl _) hnc HCM.out (fun i hi => H0.out.cell i (by rw [HN.out]; exact hi)) HC.out.symm
      have HF := Lib.hid hfin
      clear hfin
      go_wp2
      go_ret
      exact ⟨_, rfl, HF.out, HK0.out⟩
    · have hltI : (k : Int) < (n : Int) := by omega
      obtain ⟨v, hv⟩ : ∃ v, k - 1 = v := ⟨_, rfl⟩
      have hvI : (k : Int) - 1 = (v : Int) := by omega
      have hvn : v < n := by omega
      have hvNI : (v : Int) < (n : Int) := by omega
      have hk0I : (0 : Int) ≤ (k : Int) := by omega
      have hv0I : (0 : Int) ≤ (v : Int) := by omega
      have HV := Lib.hid hv
      clear hv
      have ck := H0.out.cell k (by rw [HN.out]; exact hlt)
      have cv := H0.out.cell v (by rw [HN.out]; exact hvn)
      obtain ⟨x, hx⟩ : ∃ x, d[k]! = x := ⟨_, rfl⟩
      obtain ⟨y, hy⟩ : ∃ y, d[v]! = y := ⟨_, rfl⟩
      rw [hx] at ck
      rw [hy] at cv
      have HX := Lib.hid hx
      have HY := Lib.hid hy
      clear hx hy
      obtain ⟨q, hq⟩ : ∃ q, (x == y) = q := ⟨_, rfl⟩
      have HQ := Lib.hid hq
      go_upto_region 6 with fail
      go_cut [25] (fun b wz => b = .bool q ∧ ∃ kq, wz = W0.drewN kq)
      case first =>
        by_cases hxy : x = y
        · subst hxy
          have hqt : q = true := by rw [← hq]; exact beq_self_eq_true x
          subst hqt
          go_quiet (fail)
          go_wp2
          go_meet
          exact ⟨rfl, _, rfl⟩
        · have hxyI := neq_int hxy
          have hqf : q = false := by rw [← hq]; exact beq_eq_false_iff_ne.2 hxy
          subst hqf
          go_quiet (fail)
          go_wp2
          go_meet
          exact ⟨rfl, _, rfl⟩
      case rest =>
        obtain ⟨rfl, kq, rfl⟩ := hcut
        have h1_ := H0.out.drewN kq
        have hk1_ := HK0.out.trans (Kq.drewN g W0 kq)
        obtain ⟨W1, hW_⟩ : ∃ W1, W0.drewN kq = W1 := ⟨_, rfl⟩
        rw [hW_] at h1_ hk1_ ⊢
        have H1 := Lib.hid h1_
        have HK1 := Lib.hid hk1_
        clear h1_ hk1_ hW_ ck cv hq
        cases q with
        | false =>
          have hkeep : keepB d k = true := by
            have := HQ.out
            unfold keepB
            rw [HV.out, HX.out, HY.out, this, Bool.not_false, Bool.or_true]
          have HC2 : Hid (compTo d (k + 1) = d.toList.take (k + 1)) := Lib.hid (by rw [compTo_keep hkeep rfl, HC.out, take_one d k (by rw [HN.out]; exact hlt)])
          clear hkeep
          go_wp2
          go_roundw
          case rel => exact ⟨k + 1, int_eq (by omega), by omega, by omega, HC2, H1.out, HK1.out⟩
          case measure => simp [intOf] <;> omega
        | true =>
          have s1 : ∀ W, (Instr.slice 51 (.slice (some ⟨g, 0, none⟩) n c) (some (.int .i64 (k : Int))) none none).run Try.prog W = .ok (.slice (some ⟨g, k, none⟩) (n - k) (c - k)) W := fun W => by
            have h := run_from g 0 n c k (by omega) (by omega) (k : Int) rfl W
            rw [Nat.zero_add] at h
            exact h
          have hdrop : keepB d k = false := by
            have := HQ.out
            unfold keepB
            rw [HV.out, HX.out, HY.out, this, Bool.not_true, Bool.or_false]
            exact beq_eq_false_iff_ne.2 (by omega)
          have HC2 : Hid (d.toList.take k = compTo d (k + 1)) := Lib.hid (by rw [compTo_drop hdrop, HC.out])
          obtain ⟨n2, hn2⟩ : ∃ x, n - k = x := ⟨_, rfl⟩
          obtain ⟨c2, hc2⟩ : ∃ x, c - k = x := ⟨_, rfl⟩
          rw [hn2, hc2] at s1
          have hn2I : (n2 : Int) ≤ 9223372036854775807 := by omega
          clear hdrop
          go_upto_region 8 with fail
          clear s1
          go_wp2_with fail
          go_loopw [3, 5] (fun v3 v5 wr => ∃ (u j : Nat) (e : Array Nat), v3 = .int .i64 (u : Int) ∧ v5 = .int .i64 (j : Int) ∧ 1 ≤ j ∧ j ≤ n2 ∧ u < k + j ∧ e.size = n ∧ Hid (e.toList.take u = compTo d (k + j)) ∧ Hid (∀ i, k + j ≤ i + 1 → i < n → e[i]! = d[i]!) ∧ Arr wr g e ∧ Kq g w wr) (fun _ v5 _ => n + 1 - (intOf v5).toNat)
          case atStart => exact ⟨k, 1, d, rfl, rfl, Nat.le_refl _, by omega, by omega, HN.out, HC2, Lib.hid fun _ _ _ => rfl, H1.out, HK1.out⟩
          case round =>
            obtain ⟨u, j, e, rfl, rfl, hj1, hjn, huj, hse, HT, HE, h_, hk_⟩ := hrel
            obtain ⟨W2, rfl⟩ : ∃ W2, W2 = wr := ⟨wr, rfl⟩
            have H2 := Lib.hid h_
            have HK2 := Lib.hid hk_
            have HSE := Lib.hid hse
            have hun : u < n := by omega
            have huI : (u : Int) < (n : Int) := by omega
            have hu0I : (0 : Int) ≤ (u : Int) := by omega
            have hj0I : (0 : Int) ≤ (j : Int) := by omega
            clear h_ hk_ hse
            rcases Nat.lt_or_ge j n2 with hjlt | hjge
            · have hjI : (j : Int) < (n2 : Int) := by omega
              obtain ⟨m, hm⟩ : ∃ m, j - 1 = m := ⟨_, rfl⟩
              have hmI : (j : Int) - 1 = (m : Int) := by omega
              have hmnI : (m : Int) < (n2 : Int) := by omega
              have hm0I : (0 : Int) ≤ (m : Int) := by omega
              have hjN : k + j < n := by omega
              have hmN : k + m < n := by omega
              have c1 := H2.out.cell (k + j) (by rw [HSE.out]; exact hjN)
              have c2' := H2.out.cell (k + m) (by rw [HSE.out]; exact hmN)
              rw [HE.out (k + j) (by omega) hjN] at c1
              rw [HE.out (k + m) (by omega) hmN] at c2'
              have hkm : k + j - 1 = k + m := by omega
              have HKM := Lib.hid hkm
              have HM := Lib.hid hm
              clear hm hkm
              obtain ⟨x1, hx1⟩ : ∃ x, d[k + j]! = x := ⟨_, rfl⟩
              obtain ⟨y1, hy1⟩ : ∃ y, d[k + m]! = y := ⟨_, rfl⟩
              rw [hx1] at c1
              rw [hy1] at c2'
              have HX1 := Lib.hid hx1
              have HY1 := Lib.hid hy1
              clear hx1 hy1
              obtain ⟨q, hq⟩ : ∃ q, (x1 == y1) = q := ⟨_, rfl⟩
              have HQ1 := Lib.hid hq
              go_upto_region 11 with fail
              go_cut [44] (fun b wz => b = .bool (!q) ∧ ∃ kq, wz = W2.drewN kq)
              case first =>
                by_cases hxy : x1 = y1
                · subst hxy
                  have hqt : q = true := by rw [← hq]; exact beq_self_eq_true x1
                  subst hqt
                  go_quiet (fail)
                  go_wp2
                  go_meet
                  exact ⟨rfl, _, rfl⟩
                · have hxyI : ((x1 : Int) != (y1 : Int)) = true := bne_iff_ne.2 (by omega)
                  have hqf : q = false := by rw [← hq]; exact beq_eq_false_iff_ne.2 hxy
                  subst hqf
                  go_quiet (fail)
                  go_wp2
                  go_meet
                  exact ⟨rfl, _, rfl⟩
              case rest =>
                obtain ⟨rfl, kr, rfl⟩ := hcut
                have h1_ := H2.out.drewN kr
                have hk1_ := HK2.out.trans (Kq.drewN g W2 kr)
                have c1b : (W2.drewN kr).cell? ⟨g, k + j, none⟩ = some (.int .u64 (x1 : Int)) := c1
                obtain ⟨W3, hW_⟩ : ∃ W3, W2.drewN kr = W3 := ⟨_, rfl⟩
                rw [hW_] at h1_ hk1_ c1b ⊢
                have H3 := Lib.hid h1_
                have HK3 := Lib.hid hk1_
                clear h1_ hk1_ hW_ c1 c2' hq
                cases q with
                | true =>
                  have hdr : keepB d (k + j) = false := by
                    have := HQ1.out
                    unfold keepB
                    rw [HKM.out, HX1.out, HY1.out, this, Bool.not_true, Bool.or_false]
                    exact beq_eq_false_iff_ne.2 (by omega)
                  have HT2 : Hid (e.toList.take u = compTo d (k + (j + 1))) := Lib.hid (by rw [← Nat.add_assoc, compTo_drop hdr]; exact HT.out)
                  have HE2 : Hid (∀ i, k + (j + 1) ≤ i + 1 → i < n → e[i]! = d[i]!) := Lib.hid fun i h1 h2 => HE.out i (by omega) h2
                  clear hdr c1b
                  go_wp2
                  go_roundw
                  case rel => exact ⟨u, j + 1, e, rfl, int_eq (by omega), by omega, by omega, by omega, HSE.out, HT2, HE2, H3.out, HK3.out⟩
                  case measure => simp [intOf] <;> omega
                | false =>
                  have hke : keepB d (k + j) = true := by
                    have := HQ1.out
                    unfold keepB
                    rw [HKM.out, HX1.out, HY1.out, this, Bool.not_false, Bool.or_true]
                  have HT2 : Hid ((e.setIfInBounds u x1).toList.take (u + 1) = compTo d (k + (j + 1))) := Lib.hid (by
                    rw [← Nat.add_assoc, compTo_keep hke HX1.out, ← HT.out, Array.toList_setIfInBounds, take_set_succ _ _ _ (by rw [Array.length_toList, HSE.out]; exact hun)])
                  have HE2 : Hid (∀ i, k + (j + 1) ≤ i + 1 → i < n → (e.setIfInBounds u x1)[i]! = d[i]!) := Lib.hid fun i h1 h2 => by
                    rw [set_get e u x1 i (by omega)]
                    exact HE.out i (by omega) h2
                  have cu := H3.out.cell u (by rw [HSE.out]; exact hun)
                  have zu := H3.out.nf u
                  have H4 := Lib.hid (H3.out.set (i := u) (x := x1) (by rw [HSE.out]; exact hun))
                  have HK4 := Lib.hid (HK3.out.trans (Kq.setCell g u W3 (.int .u64 (x1 : Int))))
                  clear hke
                  go_wp2
                  go_roundw
                  case rel => exact ⟨u + 1, j + 1, _, int_eq (by omega), int_eq (by omega), by omega, by omega, by omega, by rw [Array.size_setIfInBounds]; exact HSE.out, HT2, HE2, H4.out, HK4.out⟩
                  case measure => simp [intOf] <;> omega
            · obtain rfl : j = n2 := by omega
              have s3 : ∀ W, (Instr.slice 51 (.slice (some ⟨g, 0, none⟩) n c) (some (.int .i64 (u : Int))) none none).run Try.prog W = .ok (.slice (some ⟨g, u, none⟩) (n - u) (c - u)) W := fun W => by
                have h := run_from g 0 n c u (by omega) (by omega) (u : Int) rfl W
                rw [Nat.zero_add] at h
                exact h
              have s4 : ∀ W, (Instr.slice 51 (.slice (some ⟨g, 0, none⟩) n c) none (some (.int .i64 (u : Int))) none).run Try.prog W = .ok (.slice (some ⟨g, 0, none⟩) u c) W := fun W => run_upto (some ⟨g, 0, none⟩) n c u (by omega) (u : Int) rfl (by omega) W
              have hclr : ∀ ty : TypeId, (Builtin.clear_ #[51] ty #[.slice (some ⟨g, u, none⟩) (n - u) (c - u)]).run Try.prog W2 = .ok (.tuple #[]) (W2.setCells g u (List.replicate (n - u) (.int .u64 0))) := fun ty => Lib.run_clear_slice W2 51 30 ty (.int .u64 0) Try.underlying51 (fun _ => by kernel_rfl) rfl rfl g u (n - u) (c - u) (by omega) (fun i hi => by rw [H2.out.cell (u + i) (by rw [HSE.out]; omega)]; rfl) (fun i hi => H2.out.nf (u + i))
              have hfin : OwnK (W2.setCells g u (List.replicate (n - u) (.int .u64 0))) B 30 (encN .u64) (.slice (some ⟨g, 0, none⟩) u c) (compTo d n) := by
                obtain ⟨cur', hcur', hsz'⟩ := (HK2.out.trans (Kq.setCells g (List.replicate (n - u) (.int .u64 0)) u W2)).shape cur _ HCUR.out
                refine own_pre (e := e) HB.out hcur' (hsz'.trans HSZ.out) (by rw [HSE.out]; omega) (by omega) HCM.out (fun i hi => ?_) (by rw [HT.out]; congr 1; omega)
                rw [World.cell?_setCells_out g _ u W2 ⟨g, i, none⟩ (fun _ _ => .inl hi)]
                exact H2.out.cell i (by rw [HSE.out]; omega)
              have HF := Lib.hid hfin
              have HKF := Lib.hid (HK2.out.trans (Kq.setCells g (List.replicate (n - u) (.int .u64 0)) u W2))
              clear hfin
              obtain ⟨n3, hn3⟩ : ∃ x, n - u = x := ⟨_, rfl⟩
              obtain ⟨c3, hc3⟩ : ∃ x, c - u = x := ⟨_, rfl⟩
              rw [hn3, hc3] at s3 hclr
              rw [hn3] at HF HKF
              go_wp2
              go_ret
              exact ⟨_, rfl, HF.out, HKF.out⟩
end Go.Proofs.Ytfgfamafjkjakaa
namespace Go.Proofs.Ytfgfamafjkjakaa
open Go.ChangeShapes Go.WideShapes Go.ChangeAt Go.RowKit Go.Deep
set_option linter.unusedVariables false
set_option linter.unusedSimpArgs false
theorem Compact_few (p : Option Addr) (n c : Nat) (hn : n < 2) (w : World) :
    Calls Try.prog 42 #[.slice p n c] w fun e w' => e = .returned (.slice p n c) ∧ w' = w := by
  have hI : (n : Int) < 2 := by omega
  go_enter Try.func42, Try.ntmps42
  go_wp2
  go_ret
  exact ⟨rfl, rfl⟩
theorem Compact_own (v : Value) (l : List Nat) (w : World) (B : Nat) (hB : B ≤ w.heap.size) (hv : OwnK w B 30 (encN .u64) v l) :
    Calls Try.prog 42 #[v] w fun e w' => ∃ v', e = .returned v' ∧ OwnK w' B 30 (encN .u64) v' (comp l) ∧ Below B w w' := by
  rcases Nat.lt_or_ge l.length 2 with h2 | h2
  · obtain ⟨p, cap, rfl, -, -⟩ := hv.has.form
    refine (Compact_few p l.length cap h2 w).mono ?_
    rintro e w' ⟨rfl, rfl⟩
    have hc : comp l = l := by
      rcases l with _ | ⟨a, _ | ⟨b, r⟩⟩
      · rfl
      · rfl
      · simp at h2
        omega
    exact ⟨_, rfl, by rw [hc]; exact hv, Below.refl _ _⟩
  · obtain ⟨g, c, rfl, hg, hgl, h1, h3, hc, hf⟩ := hv.form (by omega)
    obtain ⟨cur, -, -, -, hcur, -, -, hsz, htk⟩ := own_parts (n := l.length) hv (by omega)
    have hA : Arr w g l.toArray := ⟨fun i hi => by
      have hi' : i < l.length := by simpa using hi
      have h := hc i hi' 0 (.int .u64 ((l[i] : Nat) : Int)) rfl
      rw [show i * (encN .u64).k + 0 = i from Nat.mul_one i] at h
      rw [h, getElem!_pos l.toArray i hi]
      rfl, hf, hgl⟩
    refine (Compact_gen g l.length c B l.toArray cur w hg hcur hsz hA (by simp) h2 h1 h3).mono ?_
    rintro e w' ⟨v', rfl, r1, r2⟩
    exact ⟨v', rfl, r1, r2.below hg hB⟩
theorem compTo_mem (d : Array Nat) : ∀ (j x : Nat), x ∈ compTo d j ↔ ∃ i, i < j ∧ d[i]! = x
  | 0, x => ⟨fun h => (nomatch h), fun ⟨i, hi, _⟩ => absurd hi (Nat.not_lt_zero i)⟩
  | j + 1, x => by
    cases hk : keepB d j with
    | true =>
      rw [compTo_keep hk rfl, List.mem_append, compTo_mem d j x, List.mem_singleton]
      constructor
      · rintro (⟨i, hi, e⟩ | e)
        · exact ⟨i, by omega, e⟩
        · exact ⟨j, by omega, e.symm⟩
      · rintro ⟨i, hi, e⟩
        rcases Nat.lt_or_ge i j with h | h
        · exact .inl ⟨i, h, e⟩
        · obtain rfl : i = j := by omega
          exact .inr e.symm
    | false =>
      rw [compTo_drop hk, compTo_mem d j x]
      unfold keepB at hk
      rw [Bool.or_eq_false_iff, Bool.not_eq_false', beq_iff_eq] at hk
      have hj : j ≠ 0 := fun h => by rw [h] at hk; cases hk.1
      constructor
      · rintro ⟨i, hi, e⟩
        exact ⟨i, by omega, e⟩
      · rintro ⟨i, hi, e⟩
        rcases Nat.lt_or_ge i j with h | h
        · exact ⟨i, h, e⟩
        · obtain rfl : i = j := by omega
          exact ⟨i - 1, by omega, by rw [← hk.2]; exact e⟩
theorem rising_snoc : ∀ (l : List Nat) (x : Nat), rising l → (∀ y ∈ l, y < x) → rising (l ++ [x])
  | [], _, _, _ => ⟨(fun y h => nomatch h), trivial⟩
  | a :: r, x, h, hx => ⟨fun y hy => by
      rcases List.mem_append.1 hy with h2 | h2
      · exact h.1 y h2
      · rw [List.mem_singleton] at h2
        rw [h2]
        exact hx a (List.mem_cons_self ..), rising_snoc r x h.2 (fun y hy => hx y (List.mem_cons_of_mem _ hy))⟩
theorem compTo_rise (d : Array Nat) (hd : ∀ i j, i < j → j < d.size → d[i]! ≤ d[j]!) : ∀ j, j ≤ d.size → rising (compTo d j)
  | 0, _ => trivial
  | j + 1, hj => by
    have ih := compTo_rise d hd j (by omega)
    cases hk : keepB d j with
    | false => rw [compTo_drop hk]; exact ih
    | true =>
      rw [compTo_keep hk rfl]
      refine rising_snoc _ _ ih fun y hy => ?_
      obtain ⟨i, hi, rfl⟩ := (compTo_mem d j y).1 hy
      unfold keepB at hk
      rw [Bool.or_eq_true, beq_iff_eq, Bool.not_eq_true', beq_eq_false_iff_ne] at hk
      have h1 := hd (j - 1) j (by omega) (by omega)
      have h3 : d[j]! ≠ d[j - 1]! := by
        rcases hk with h | h
        · omega
        · exact h
      have h2 : d[i]! ≤ d[j - 1]! := by
        rcases Nat.lt_or_ge i (j - 1) with h | h
        · exact hd i (j - 1) h (by omega)
        · obtain rfl : i = j - 1 := by omega
          exact Nat.le_refl _
      omega
theorem compTo_len (d : Array Nat) : ∀ j, (compTo d j).length ≤ j
  | 0 => Nat.le_refl _
  | j + 1 => by
    have ih := compTo_len d j
    rw [compTo_succ, List.length_append]
    split
    · exact Nat.succ_le_succ ih
    · exact Nat.le_succ_of_le ih
theorem sortN_mono (l : List Nat) : ∀ i j, i < j → j < (sortN l).toArray.size → (sortN l).toArray[i]! ≤ (sortN l).toArray[j]! := by
  intro i j hij hj
  have hp : (sortN l).Pairwise (fun x y => (!ltB y x) = true) := List.pairwise_mergeSort (fun a b c h1 h2 => by
    unfold ltB at *
    rw [Bool.not_eq_true', decide_eq_false_iff_not] at *
    omega) (fun a b => by
    unfold ltB
    rw [Bool.or_eq_true, Bool.not_eq_true', decide_eq_false_iff_not, Bool.not_eq_true', decide_eq_false_iff_not]
    omega) l
  have hj' : j < (sortN l).length := by simpa using hj
  have h := List.pairwise_iff_getElem.1 hp i j (by omega) hj' hij
  rw [Bool.not_eq_true'] at h
  unfold ltB at h
  rw [decide_eq_false_iff_not] at h
  rw [getElem!_pos (sortN l).toArray i (by rw [List.size_toArray]; omega), getElem!_pos (sortN l).toArray j hj]
  simp only [List.getElem_toArray]
  omega
/-- The numbers of a row, rising. -/
def unitN (l : List Nat) : List Nat := comp (sortN l)
theorem unitN_rise (l : List Nat) : rising (unitN l) := compTo_rise _ (sortN_mono l) _ (by simp)
theorem unitN_len (l : List Nat) : (unitN l).length ≤ l.length := Nat.le_trans (compTo_len _ _) (Nat.le_of_eq (sortN_len l))
theorem unitN_mem (l : List Nat) (x : Nat) : x ∈ unitN l ↔ x ∈ l := by
  unfold unitN comp
  rw [compTo_mem]
  have hm : x ∈ sortN l ↔ x ∈ l := List.mem_mergeSort
  rw [← hm]
  constructor
  · rintro ⟨i, hi, e⟩
    rw [getElem!_pos (sortN l).toArray i (by simpa using hi)] at e
    simp only [List.getElem_toArray] at e
    rw [← e]
    exact List.getElem_mem _
  · intro h
    obtain ⟨i, hi, e⟩ := List.getElem_of_mem h
    refine ⟨i, hi, ?_⟩
    rw [getElem!_pos (sortN l).toArray i (by simpa using hi)]
    simpa using e
theorem Compact_unit (v : Value) (l : List Nat) (w : World) (B : Nat) (hB : B ≤ w.heap.size) (hv : OwnK w B 30 (encN .u64) v (sortN l)) :
    Calls Try.prog 42 #[v] w fun e w' => ∃ v', e = .returned v' ∧ OwnK w' B 30 (encN .u64) v' (unitN l) ∧ Below B w w' := by
  unfold unitN
  exact Compact_own v (sortN l) w B hB hv
/-- Two rows of one device's numbers, joined. -/
def joinN (p q : Nm) : Nm := closeN (max p.upto q.upto) (unitN (p.more ++ q.more))
theorem joinN_ok {p q : Nm} (hp : p.Ok) (hq : q.Ok) : (joinN p q).Ok := close_ok _ _ (unitN_rise _) (fun x hx => by
  rcases List.mem_append.1 ((unitN_mem _ x).1 hx) with h | h
  · exact hp.mostM x h
  · exact hq.mostM x h) (by have := hp.most; have := hq.most; omega)
theorem joinN_len (p q : Nm) : (joinN p q).more.length ≤ p.more.length + q.more.length := Nat.le_trans (close_len _ _) (by have := unitN_len (p.more ++ q.more); rw [List.length_append] at this; exact this)
theorem joinN_has {p q : Nm} (y : Nat) : (joinN p q).has y = (p.has y || q.has y) := by
  unfold joinN
  rw [close_has _ _ (unitN_rise _), Nm.has, Nm.has, Bool.eq_iff_iff]
  simp only [Bool.or_eq_true, decide_eq_true_eq, unitN_mem, List.mem_append]
  rw [show y ≤ max p.upto q.upto ↔ y ≤ p.upto ∨ y ≤ q.upto by omega]
  exact or_or_or_comm
end Go.Proofs.Ytfgfamafjkjakaa
namespace Go.Proofs.Ytfgfamafjkjakaa
open Go.ChangeShapes Go.WideShapes Go.ChangeAt Go.RowKit Go.Deep
set_option linter.unusedVariables false
set_option linter.unusedSimpArgs false
/-- The first k devices joined. -/
def mixF (f f2 : List Nm) (k : Nat) : List Nm := (List.range 16).map fun i => if i < k then joinN (f.getD i Nm.zero) (f2.getD i Nm.zero) else f.getD i Nm.zero
def joinF (f f2 : List Nm) : List Nm := mixF f f2 16
theorem mixF_len (f f2 : List Nm) (k : Nat) : (mixF f f2 k).length = 16 := by simp [mixF]
theorem mixF_getD (f f2 : List Nm) (k i : Nat) (hi : i < 16) : (mixF f f2 k).getD i Nm.zero = if i < k then joinN (f.getD i Nm.zero) (f2.getD i Nm.zero) else f.getD i Nm.zero := by
  rw [List.getD_eq_getElem?_getD, mixF, List.getElem?_map, List.getElem?_range hi]
  rfl
theorem joinF_getD (f f2 : List Nm) (i : Nat) (hi : i < 16) : (joinF f f2).getD i Nm.zero = joinN (f.getD i Nm.zero) (f2.getD i Nm.zero) := by
  unfold joinF
  rw [mixF_getD f f2 16 i hi, if_pos hi]
theorem mixF_none (f f2 : List Nm) (hf : f.length = 16) : mixF f f2 0 = f := by
  apply List.ext_getElem
  · rw [mixF_len, hf]
  · intro i h1 h2
    rw [mixF_len] at h1
    have h := mixF_getD f f2 0 i h1
    rw [if_neg (Nat.not_lt_zero i), List.getD_eq_getElem?_getD, List.getD_eq_getElem?_getD, List.getElem?_eq_getElem (by rw [mixF_len]; exact h1), List.getElem?_eq_getElem h2] at h
    exact h
theorem mixF_set (f f2 : List Nm) (k : Nat) (hk : k < 16) : (mixF f f2 k).set k (joinN (f.getD k Nm.zero) (f2.getD k Nm.zero)) = mixF f f2 (k + 1) := by
  apply List.ext_getElem
  · rw [List.length_set, mixF_len, mixF_len]
  · intro i h1 h2
    rw [mixF_len] at h2
    have ha := mixF_getD f f2 k i h2
    have hb := mixF_getD f f2 (k + 1) i h2
    rw [List.getD_eq_getElem?_getD, List.getElem?_eq_getElem (by rw [mixF_len]; exact h2)] at ha hb
    simp only [Option.getD_some] at ha hb
    rw [List.getElem_set, ha, hb]
    by_cases e : k = i
    · subst e
      rw [if_pos rfl, if_pos (Nat.lt_succ_self k)]
    · rw [if_neg e]
      by_cases h3 : i < k
      · rw [if_pos h3, if_pos (by omega)]
      · rw [if_neg h3, if_neg (by omega)]
set_option maxRecDepth 100000 in
set_option maxHeartbeats 32000000 in
theorem Join_any (R O : Nat) (f f2 : List Nm) (w : World) (hS : SetIs w R f) (hT : SetIs w O f2) (hfew : ∀ i, i < 16 → (f.getD i Nm.zero).more.length + (f2.getD i Nm.zero).more.length ≤ 4096) :
    Calls Try.prog 23 #[.pointer (some ⟨R, 0, none⟩), .pointer (some ⟨O, 0, none⟩)] w fun e w' => e = .returned (.tuple #[]) ∧ SetIs w' R (joinF f f2) ∧ Kp R w w' := by
  have HF := Lib.hid hS.len
  have HFEW := Lib.hid hfew
  have HS := Lib.hid hS
  obtain ⟨ps, hps, hpl, hph, hp4⟩ := hT
  have HPS := Lib.hid hps
  have HPL := Lib.hid hpl
  have HP4 := Lib.hid hp4
  have hRc : ∃ c, w.heap[R]? = some (.cells c 58 (0, 0)) := by
    obtain ⟨_, _, _, h, _⟩ := hS
    exact ⟨_, h⟩
  obtain ⟨rc, hRc⟩ := hRc
  have HRC := Lib.hid hRc
  have hr1 : w.rangeAt O 0 (setRow16 ps) := setRow_range hph
  clear hps hpl hph hp4 hS hfew hRc
  go_enter Try.func23, Try.ntmps23
  go_wp2_with (refine wpList_load_mid rfl 56 (.tmp 10) rfl O 0 rfl (setRow16 ps) _ hr1 Try.underlying56 rfl (info_row HPL.out) ?_)
  clear hr1
  go_loopw [12] (fun vi wr => ∃ (k : Nat), vi = .int .i64 (k : Int) ∧ k ≤ 16 ∧ SetIs wr R (mixF f f2 k) ∧ Kp R w wr) (fun vi _ => 16 - (intOf vi).toNat)
  case atStart => exact ⟨0, rfl, by omega, by rw [mixF_none f f2 HF.out]; exact HS.out, Kp.refl _ _⟩
  case round =>
    obtain ⟨k, rfl, hk, hs, hkp⟩ := hrel
    rcases Nat.lt_or_ge k 16 with hlt | hge
    · have hkI : (k : Int) < 16 := by omega
      have hkp' : k < ps.length := by rw [HPL.out]; exact hlt
      have hk0 : (0 : Int) ≤ (k : Int) := by omega
      have hix := index_nm ps HPL.out k hkp'
      have h4 := HP4.out _ (List.getElem_mem hkp')
      have hfk : f2.getD k Nm.zero = ps[k].1 := by rw [← HPS.out, List.getD_eq_getElem?_getD, List.getElem?_map, List.getElem?_eq_getElem hkp']; rfl
      obtain ⟨⟨q, mv⟩, hq⟩ : ∃ q, ps[k] = q := ⟨_, rfl⟩
      rw [hq] at hix h4 hfk
      simp only at hix h4 hfk
      obtain ⟨hu, hok, hle⟩ := h4
      have hu2 := hu.kp HRC.out (by decide) hkp
      have hfw := HFEW.out k hlt
      rw [hfk] at hfw
      obtain ⟨pm, cm, rfl, -, -⟩ := hu.form
      obtain ⟨m, hm⟩ : ∃ m, q.more.length = m := ⟨_, rfl⟩
      rw [hm] at hix hu2 hle
      have HM := Lib.hid hm
      have HU := Lib.hid hu2
      have HOK := Lib.hid hok
      have HFK := Lib.hid hfk
      have HS1 := Lib.hid hs
      have HK1 := Lib.hid hkp
      have HIX := Lib.hid hix
      clear hu hu2 hok hle hfk hs hkp hix hq hm
      obtain ⟨W0, rfl⟩ : ∃ W0, W0 = wr := ⟨wr, rfl⟩
      go_upto_region 3 with (refine wpList_index_at rfl 56 (.tmp 11) (.tmp 12) rfl _ HIX.out ?_)
      have hb2 := (Below.refl W0.heap.size W0).alloc (Nat.le_refl _) (.cells #[.int .u64 (q.upto : Int), .slice pm m cm] 55)
      have hn2 := heap_alloc_new W0 (.cells #[.int .u64 (q.upto : Int), .slice pm m cm] 55)
      generalize (W0.alloc (.cells #[.int .u64 (q.upto : Int), .slice pm m cm] 55)) = w2 at *
      obtain ⟨G1, hG1⟩ : ∃ G, W0.heap.size = G := ⟨_, rfl⟩
      rw [hG1] at hn2 ⊢
      have HS2 := Lib.hid (HS1.out.below hb2)
      have HU2 := Lib.hid (HU.out.below hb2)
      have HK2 := Lib.hid (HK1.out.low hb2 HK1.out.size)
      have HN2 := Lib.hid hn2
      have hg1 : G1 < w2.heap.size := lt_of_block hn2
      obtain ⟨mo, r0, r1, ou, okR, -, -, -⟩ := HS2.out.at_ k hlt
      have hown : (mixF f f2 k).getD k Nm.zero = f.getD k Nm.zero := by rw [mixF_getD f f2 k k hlt, if_neg (Nat.lt_irrefl k)]
      rw [hown] at r0 ou okR
      obtain ⟨r, hr⟩ : ∃ r, f.getD k Nm.zero = r := ⟨_, rfl⟩
      rw [hr] at r0 ou okR hfw
      have HR := Lib.hid hr
      have HFW := Lib.hid hfw
      have HOKR := Lib.hid okR
      clear hown hr hfw okR
      obtain ⟨po, co, rfl, -, -⟩ := ou.form
      obtain ⟨mr, hmr⟩ : ∃ x, r.more.length = x := ⟨_, rfl⟩
      rw [hmr] at r1 ou
      have HMR := Lib.hid hmr
      clear hmr
      have HOU := Lib.hid ou
      clear hb2 hn2 hG1 ou
      go_upto_region 4 with fail
      have hb3 := (Below.refl w2.heap.size w2).alloc (Nat.le_refl _) (.cells #[.int .u64 (r.upto : Int), .slice po mr co] 55)
      have hn3 := heap_alloc_new w2 (.cells #[.int .u64 (r.upto : Int), .slice po mr co] 55)
      generalize (w2.alloc (.cells #[.int .u64 (r.upto : Int), .slice po mr co] 55)) = w3 at *
      obtain ⟨G2, hG2⟩ : ∃ G, w2.heap.size = G := ⟨_, rfl⟩
      rw [hG2] at hn3 hg1 ⊢
      have HS3 := Lib.hid (HS2.out.below hb3)
      have HU3 := Lib.hid (HU2.out.below hb3)
      have HOU3 := Lib.hid (HOU.out.below hb3)
      have HK3 := Lib.hid (HK2.out.low hb3 HK2.out.size)
      have HN3 := Lib.hid hn3
      have HN13 := Lib.hid ((hb3.block G1 (by omega)).trans HN2.out)
      have hn13 := HN13.out
      have hg2 : G2 < w3.heap.size := lt_of_block hn3
      have d1 : w3.cell? ⟨G1, 1, none⟩ = some (.slice pm m cm) := by simp [World.cell?, hn13]
      have d2 : w3.cell? ⟨G2, 1, none⟩ = some (.slice po mr co) := by simp [World.cell?, hn3]
      have e1 : w3.cell? ⟨G1, 0, none⟩ = some (.int .u64 (q.upto : Int)) := by simp [World.cell?, hn13]
      have e2 : w3.cell? ⟨G2, 0, none⟩ = some (.int .u64 (r.upto : Int)) := by simp [World.cell?, hn3]
      have h2 : TwoC ⟨G2, 0, none⟩ ⟨G1, 0, none⟩ (.int .u64 (r.upto : Int)) (.int .u64 (q.upto : Int)) w3 := ⟨e2, e1⟩
      have HTW := Lib.hid h2
      clear hb3 hn3 hn13 hG2 r0 r1 e1 e2 h2
      go_wp2_with fail
      have hb4 := (Below.refl w3.heap.size w3).alloc (Nat.le_refl _) (.cells #[.slice po mr co, .slice pm m cm] 51)
      have hn4 := heap_alloc_new w3 (.cells #[.slice po mr co, .slice pm m cm] 51)
      generalize (w3.alloc (.cells #[.slice po mr co, .slice pm m cm] 51)) = w4 at *
      refine (Concat_two w3.heap.size 51 _ _ r.more q.more w4 hn4 (HOU3.out.below hb4).has (HU3.out.below hb4).has (by have := HFW.out; omega) (by have := HFW.out; omega)).mono ?_
      rintro e w5 ⟨v5, rfl, ho5, hb5⟩
      have hb35 := hb4.trans (hb5.mono hb4.size)
      have HO5 := Lib.hid (ho5.mono hb4.size)
      have HB5 := Lib.hid hb35
      clear hb4 hn4 hb5 ho5 hb35 d1 d2
      go_wp2_with fail
      refine (Sort_own v5 (r.more ++ q.more) w5 w3.heap.size HB5.out.size HO5.out (by have := HFW.out; rw [List.length_append]; omega)).mono ?_
      rintro e w6 ⟨rfl, ho6, hb6⟩
      have HO6 := Lib.hid ho6
      have HB6 := Lib.hid (HB5.out.trans hb6)
      clear hb6 ho6
      go_upto_region 6 with fail
      have HT6 := Lib.hid (HTW.out.low HB6.out hg2 (by show G1 < _; omega))
      obtain ⟨mx, hmxn⟩ : ∃ x, max r.upto q.upto = x := ⟨_, rfl⟩
      have hmx : (if r.upto < q.upto then (q.upto : Int) else (r.upto : Int)) = (mx : Int) := by split <;> omega
      have HMXI := Lib.hid hmx
      clear hmx
      have hmxb : mx ≤ 1099511627776 := by have := HOK.out.most; have := HOKR.out.most; omega
      have HMX := Lib.hid hmxn
      clear hmxn
      refine AnyL.begin (S := fun W => TwoC ⟨G2, 0, none⟩ ⟨G1, 0, none⟩ (.int .u64 (r.upto : Int)) (.int .u64 (q.upto : Int)) W) 13 (by kernel_rfl) ⟨HT6.out.1, HT6.out.2⟩ (fun hHeld => ?_)
      refine AnyL.take (i := 0) (oi := _) (v := ?_) 30 rfl (by kernel_rfl) (by kernel_rfl) (by kernel_rfl) (by kernel_rfl) (by kernel_rfl) (fun _ _ _ h => h) (Or.inl ⟨by kernel_rfl, ?hy1⟩) (by assumption) ?_
      case hy1 =>
        intro w9 hSw
        try dsimp only at hSw
        try simp only [List.getElem_toArray, List.getElem_cons_zero, List.getElem_cons_succ]
        go_simp
        try with_reducible rfl
      try simp only [Act.put, List.setIfInBounds_toArray, List.set_cons_zero, List.set_cons_succ, List.getElem_toArray, List.getElem_cons_zero, List.getElem_cons_succ]
      refine AnyL.take (i := 1) (oi := _) (v := ?_) 30 rfl (by kernel_rfl) (by kernel_rfl) (by kernel_rfl) (by kernel_rfl) (by kernel_rfl) (fun _ _ _ h => h) (Or.inl ⟨by kernel_rfl, ?hy2⟩) (by assumption) ?_
      case hy2 =>
        intro w9 hSw
        try dsimp only at hSw
        try simp only [List.getElem_toArray, List.getElem_cons_zero, List.getElem_cons_succ]
        go_simp
        try with_reducible rfl
      try simp only [Act.put, List.setIfInBounds_toArray, List.set_cons_zero, List.set_cons_succ, List.getElem_toArray, List.getElem_cons_zero, List.getElem_cons_succ]
      refine AnyL.take (i := 2) (oi := _) (v := ?_) 30 rfl (by kernel_rfl) (by kernel_rfl) (by kernel_rfl) (by kernel_rfl) (by kernel_rfl) (fun _ _ _ h => h) (Or.inl ⟨by kernel_rfl, ?hy3⟩) (by assumption) ?_
      case hy3 =>
        intro w9 hSw
        try dsimp only at hSw
        try simp only [List.getElem_toArray, List.getElem_cons_zero, List.getElem_cons_succ]
        go_simp
        try with_reducible rfl
      try simp only [Act.put, List.setIfInBounds_toArray, List.set_cons_zero, List.set_cons_succ, List.getElem_toArray, List.getElem_cons_zero, List.getElem_cons_succ]
      refine AnyL.take (i := 3) (oi := _) (v := .int .u64 (r.upto : Int)) 30 rfl (by kernel_rfl) (by kernel_rfl) (by kernel_rfl) (by kernel_rfl) (by kernel_rfl) (fun _ _ _ h => h) (Or.inl ⟨by kernel_rfl, ?hy4⟩) (by assumption) ?_
      case hy4 =>
        intro w9 hSw
        try dsimp only at hSw
        try simp only [List.getElem_toArray, List.getElem_cons_zero, List.getElem_cons_succ]
        go_simp
        obtain ⟨hx0, hx1⟩ := hSw
        try go_simp
        try with_reducible rfl
      try simp only [Act.put, List.setIfInBounds_toArray, List.set_cons_zero, List.set_cons_succ, List.getElem_toArray, List.getElem_cons_zero, List.getElem_cons_succ]
      refine AnyL.take (i := 4) (oi := _) (v := ?_) 30 rfl (by kernel_rfl) (by kernel_rfl) (by kernel_rfl) (by kernel_rfl) (by kernel_rfl) (fun _ _ _ h => h) (Or.inl ⟨by kernel_rfl, ?hy5⟩) (by assumption) ?_
      case hy5 =>
        intro w9 hSw
        try dsimp only at hSw
        try simp only [List.getElem_toArray, List.getElem_cons_zero, List.getElem_cons_succ]
        go_simp
        try with_reducible rfl
      try simp only [Act.put, List.setIfInBounds_toArray, List.set_cons_zero, List.set_cons_succ, List.getElem_toArray, List.getElem_cons_zero, List.getElem_cons_succ]
      refine AnyL.take (i := 5) (oi := _) (v := .int .u64 (q.upto : Int)) 30 rfl (by kernel_rfl) (by kernel_rfl) (by kernel_rfl) (by kernel_rfl) (by kernel_rfl) (fun _ _ _ h => h) (Or.inl ⟨by kernel_rfl, ?hy6⟩) (by assumption) ?_
      case hy6 =>
        intro w9 hSw
        try dsimp only at hSw
        try simp only [List.getElem_toArray, List.getElem_cons_zero, List.getElem_cons_succ]
        go_simp
        obtain ⟨hx0, hx1⟩ := hSw
        try go_simp
        try with_reducible rfl
      try simp only [Act.put, List.setIfInBounds_toArray, List.set_cons_zero, List.set_cons_succ, List.getElem_toArray, List.getElem_cons_zero, List.getElem_cons_succ]
      refine AnyL.take (i := 6) (oi := _) (v := ?_) 30 rfl (by kernel_rfl) (by kernel_rfl) (by kernel_rfl) (by kernel_rfl) (by kernel_rfl) (fun _ _ _ h => h) (Or.inl ⟨by kernel_rfl, ?hy7⟩) (by assumption) ?_
      case hy7 =>
        intro w9 hSw
        try dsimp only at hSw
        try simp only [List.getElem_toArray, List.getElem_cons_zero, List.getElem_cons_succ]
        go_simp
        try with_reducible rfl
      try simp only [Act.put, List.setIfInBounds_toArray, List.set_cons_zero, List.set_cons_succ, List.getElem_toArray, List.getElem_cons_zero, List.getElem_cons_succ]
      refine AnyL.take (i := 7) (oi := _) (v := ?_) 30 rfl (by kernel_rfl) (by kernel_rfl) (by kernel_rfl) (by kernel_rfl) (by kernel_rfl) (fun _ _ _ h => h) (Or.inl ⟨by kernel_rfl, ?hy8⟩) (by assumption) ?_
      case hy8 =>
        intro w9 hSw
        try dsimp only at hSw
        try simp only [List.getElem_toArray, List.getElem_cons_zero, List.getElem_cons_succ]
        go_simp
        try with_reducible rfl
      try simp only [Act.put, List.setIfInBounds_toArray, List.set_cons_zero, List.set_cons_succ, List.getElem_toArray, List.getElem_cons_zero, List.getElem_cons_succ]
      refine AnyL.take (i := 10) (oi := _) (v := ?_) 30 rfl (by kernel_rfl) (by kernel_rfl) (by kernel_rfl) (by kernel_rfl) (by kernel_rfl) (fun _ _ _ h => h) (Or.inl ⟨by kernel_rfl, ?hy9⟩) (by assumption) ?_
      case hy9 =>
        intro w9 hSw
        try dsimp only at hSw
        try simp only [List.getElem_toArray, List.getElem_cons_zero, List.getElem_cons_succ]
        go_simp
        try with_reducible rfl
      try simp only [Act.put, List.setIfInBounds_toArray, List.set_cons_zero, List.set_cons_succ, List.getElem_toArray, List.getElem_cons_zero, List.getElem_cons_succ]
      refine AnyL.take (i := 11) (oi := _) (v := ?_) 30 rfl (by kernel_rfl) (by kernel_rfl) (by kernel_rfl) (by kernel_rfl) (by kernel_rfl) (fun _ _ _ h => h) (Or.inl ⟨by kernel_rfl, ?hy10⟩) (by assumption) ?_
      case hy10 =>
        intro w9 hSw
        try dsimp only at hSw
        try simp only [List.getElem_toArray, List.getElem_cons_zero, List.getElem_cons_succ]
        go_simp
        try with_reducible rfl
      try simp only [Act.put, List.setIfInBounds_toArray, List.set_cons_zero, List.set_cons_succ, List.getElem_toArray, List.getElem_cons_zero, List.getElem_cons_succ]
      have hbd : Below w3.heap.size w3 w6.drew := HB6.out.drew
      have HOD := Lib.hid (HO6.out.below ((Below.refl _ _).drew))
      refine AnyL.one (i := 8) (o := _) (by kernel_rfl) rfl (fun K hK => ?_)
      try simp only [List.getElem_toArray, List.getElem_cons_zero, List.getElem_cons_succ]
      go_simp
      refine (Compact_unit _ (r.more ++ q.more) _ w3.heap.size hbd.size HOD.out).mono ?_
      rintro e w8 ⟨v8, rfl, ho8, hb8⟩
      refine hK.out _ _ (fun _ => (hHeld.low hb8 hg2 (by show G1 < _; omega))) (fun hHeld => ?_)
      replace hHeld := hHeld (by decide)
      clear hK K
      try simp only [Act.put, List.setIfInBounds_toArray, List.set_cons_zero, List.set_cons_succ, List.getElem_toArray, List.getElem_cons_zero, List.getElem_cons_succ]
      have HU8 := Lib.hid (HasU.of_own ho8)
      have HB8 := Lib.hid (hbd.trans hb8)
      clear ho8 hb8 hbd
      refine AnyL.one (i := 9) (o := _) (by kernel_rfl) rfl (fun K hK => ?_)
      try simp only [List.getElem_toArray, List.getElem_cons_zero, List.getElem_cons_succ]
      go_simp
      rw [HMXI.out]
      refine (closed_any mx _ (unitN (r.more ++ q.more)) _ HU8.out (by have := HFW.out; have := unitN_len (r.more ++ q.more); rw [List.length_append] at this; omega) (by omega) (fun x hx => by
        rcases List.mem_append.1 ((unitN_mem _ x).1 hx) with h | h
        · have := HOKR.out.mostM x h; omega
        · have := HOK.out.mostM x h; omega)).mono ?_
      obtain ⟨J, hJ⟩ : ∃ J, closeN mx (unitN (r.more ++ q.more)) = J := ⟨_, rfl⟩
      rw [hJ]
      have HJ : Hid (joinN r q = J) := Lib.hid (by rw [← hJ, ← HMX.out]; rfl)
      clear hJ
      rintro e w9 ⟨mv9, rfl, hu9, hb9⟩
      obtain ⟨p9, c9, rfl, -, -⟩ := hu9.form
      refine hK.out _ _ (fun _ => (hHeld.below hb9)) (fun hHeld => ?_)
      replace hHeld := hHeld (by decide)
      clear hK K
      try simp only [Act.put, List.setIfInBounds_toArray, List.set_cons_zero, List.set_cons_succ, List.getElem_toArray, List.getElem_cons_zero, List.getElem_cons_succ]
      have hb39 := HB8.out.trans (hb9.mono HB8.out.size)
      have hs9 := HS3.out.below hb39
      have HU9 := Lib.hid hu9
      have HK9 := Lib.hid (HK3.out.low hb39 HK3.out.size)
      have HS9 := Lib.hid hs9
      obtain ⟨mvS, r0, r1, -, hokS, hleS, z0, z1⟩ := hs9.at_ k hlt
      obtain ⟨mJ, hmJ⟩ : ∃ x, J.more.length = x := ⟨_, rfl⟩
      rw [hmJ] at HU9 ⊢
      have HMJ := Lib.hid hmJ
      clear hmJ
      clear hs9 hu9 hb39 hb9 hokS hleS
      refine AnyL.take (i := 12) (oi := _) (v := ?_) 30 rfl (by kernel_rfl) (by kernel_rfl) (by kernel_rfl) (by kernel_rfl) (by kernel_rfl) (fun _ _ _ h => h) (Or.inl ⟨by kernel_rfl, ?hy11⟩) (by assumption) ?_
      case hy11 =>
        intro w9 hSw
        try dsimp only at hSw
        try simp only [List.getElem_toArray, List.getElem_cons_zero, List.getElem_cons_succ]
        go_simp
        try with_reducible rfl
      try simp only [Act.put, List.setIfInBounds_toArray, List.set_cons_zero, List.set_cons_succ, List.getElem_toArray, List.getElem_cons_zero, List.getElem_cons_succ]
      refine AnyL.one (i := 13) (o := _) (by kernel_rfl) rfl (fun K hK => ?_)
      try simp only [List.getElem_toArray, List.getElem_cons_zero, List.getElem_cons_succ]
      go_simp
      refine hK.out _ _ (fun h => absurd rfl h) (fun _ => ?_)
      clear hK K
      try simp only [Act.put, List.setIfInBounds_toArray, List.set_cons_zero, List.set_cons_succ, List.getElem_toArray, List.getElem_cons_zero, List.getElem_cons_succ]
      refine AnyL.done (by kernel_rfl) ?_ _
      have hup := HU9.out
      rw [← HMJ.out] at hup
      have hset := HS9.out.set k J _ hup (by rw [← HJ.out]; exact joinN_ok HOKR.out HOK.out) (by rw [← HJ.out]; exact Nat.le_trans (joinN_len r q) HFW.out)
      have hsm := mixF_set f f2 k hlt
      rw [HR.out, HFK.out, HJ.out] at hsm
      rw [hsm, HMJ.out] at hset
      have HSET := Lib.hid hset
      clear hset hup hsm r0 r1 z0 z1
      go_wp2
      go_roundw
      case rel => exact ⟨k + 1, by go_num, hlt, HSET.out, HK9.out.trans ((Kp.setCell R _ _ _).trans (Kp.setCell R _ _ _))⟩
      case measure => simp [intOf] <;> omega
    · obtain rfl : k = 16 := by omega
      have hkI : ¬ ((16 : Nat) : Int) < 16 := by omega
      have HS1 := Lib.hid hs
      have HK1 := Lib.hid hkp
      clear hs hkp
      go_wp2
      first | go_end0 | (refine bodyPost_end (results_none rfl _ _ _) rfl ?_) | (refine bodyPost_ret (results_none rfl _ _ _) rfl ?_)
      exact ⟨rfl, HS1.out, HK1.out⟩
end Go.Proofs.Ytfgfamafjkjakaa
namespace Go.Proofs.Ytfgfamafjkjakaa
open Go.ChangeShapes Go.WideShapes Go.ChangeAt Go.RowKit Go.Deep
set_option linter.unusedVariables false
set_option linter.unusedSimpArgs false
theorem within_has {p q : Nm} (hq : q.Ok) : withinN p q = true ↔ ∀ y, p.has y = true → q.has y = true := by
  rw [withinN_iff]
  unfold Nm.has
  simp only [Bool.or_eq_true, decide_eq_true_eq]
  constructor
  · rintro ⟨h1, h2⟩ y (h | h)
    · exact .inl (Nat.le_trans h h1)
    · exact h2 y h
  · intro h
    refine ⟨?_, fun x hx => h x (.inr hx)⟩
    rcases Nat.lt_or_ge q.upto p.upto with hlt | hge
    · rcases h (q.upto + 1) (.inl hlt) with h2 | h2
      · omega
      · have := hq.far _ h2
        omega
    · exact hge
theorem has_ext {p q : Nm} (hp : p.Ok) (hq : q.Ok) (h : ∀ y, p.has y = q.has y) : p = q :=
  within_anti hp hq ((within_has hq).2 fun y hy => by rw [← h]; exact hy) ((within_has hp).2 fun y hy => by rw [h]; exact hy)
theorem Tie.ok {f : List Nm} {l : List (Int × Nat)} (h : Tie f l) (d : Nat) (hd : d < 16) : (f.getD d Nm.zero).Ok := by
  rw [h.each d hd]
  refine close_ok _ _ (numsD_rising h.sorted d) (fun x hx => ?_) (by decide)
  obtain ⟨_, _, _, _, h2⟩ := good_parts (h.good _ (mem_numsD.1 hx))
  exact h2
theorem Tie.at_has {f : List Nm} {l : List (Int × Nat)} (h : Tie f l) (d : Nat) (hd : d < 16) (y : Nat) : (f.getD d Nm.zero).has y = true ↔ y = 0 ∨ ((d : Int), y) ∈ l := by
  rw [h.each d hd]
  unfold canon
  rw [close_has _ _ (numsD_rising h.sorted d), Bool.or_eq_true, decide_eq_true_eq, decide_eq_true_eq, mem_numsD]
  rw [Nat.le_zero]
theorem Tie.within {f g : List Nm} {l m : List (Int × Nat)} (h : Tie f l) (k : Tie g m) : withinS f g = true ↔ ∀ x ∈ l, x ∈ m := by
  rw [withinS_iff]
  constructor
  · rintro hw ⟨d, n⟩ hx
    obtain ⟨D, rfl, hD, h1, -⟩ := good_parts (h.good _ hx)
    rcases (k.at_has D hD n).1 ((within_has (k.ok D hD)).1 (hw D hD) n ((h.at_has D hD n).2 (.inr hx))) with h2 | h2
    · omega
    · exact h2
  · intro hs i hi
    refine (within_has (k.ok i hi)).2 fun y hy => (k.at_has i hi y).2 ?_
    rcases (h.at_has i hi y).1 hy with h2 | h2
    · exact .inl h2
    · exact .inr (hs _ h2)
/-- All of m added to l. -/
def allL (l m : List (Int × Nat)) : List (Int × Nat) := m.foldl addL l
theorem allL_mem : ∀ (m l : List (Int × Nat)) (y : Int × Nat), y ∈ allL l m ↔ y ∈ l ∨ y ∈ m
  | [], l, y => by simp [allL]
  | x :: r, l, y => by
    show y ∈ allL (addL l x) r ↔ _
    rw [allL_mem r, mem_addL, List.mem_cons]
    constructor
    · rintro ((h | h) | h)
      · exact .inr (.inl h)
      · exact .inl h
      · exact .inr (.inr h)
    · rintro (h | h | h)
      · exact .inl (.inr h)
      · exact .inl (.inl h)
      · exact .inr h
theorem allL_sorted : ∀ (m l : List (Int × Nat)), Sorted l → Sorted (allL l m)
  | [], _, h => h
  | x :: r, l, h => allL_sorted r (addL l x) (addL_sorted h x)
theorem allL_len : ∀ (m l : List (Int × Nat)), (allL l m).length ≤ l.length + m.length
  | [], _ => Nat.le_refl _
  | x :: r, l => by
    have h := allL_len r (addL l x)
    have h2 := addL_len l x
    show (allL (addL l x) r).length ≤ _
    rw [List.length_cons]
    omega
theorem allL_snoc (l m : List (Int × Nat)) (x : Int × Nat) : allL l (m ++ [x]) = addL (allL l m) x := by
  unfold allL
  rw [List.foldl_append]
  rfl
theorem sorted_ext : ∀ {l m : List (Int × Nat)}, Sorted l → Sorted m → (∀ x, x ∈ l ↔ x ∈ m) → l = m
  | [], [], _, _, _ => rfl
  | [], b :: m, _, _, h => nomatch ((h b).2 (List.mem_cons_self ..))
  | a :: l, [], _, _, h => nomatch ((h a).1 (List.mem_cons_self ..))
  | a :: l, b :: m, h1, h2, h => by
    obtain ⟨a1, a2⟩ := List.pairwise_cons.1 h1
    obtain ⟨b1, b2⟩ := List.pairwise_cons.1 h2
    have hab : a = b := by
      rcases List.mem_cons.1 ((h a).1 (List.mem_cons_self ..)) with e | e
      · exact e
      · rcases List.mem_cons.1 ((h b).2 (List.mem_cons_self ..)) with e2 | e2
        · exact e2.symm
        · have h3 := (aheadD_iff _ _).1 (b1 a e)
          have h4 := (aheadD_iff _ _).1 (a1 b e2)
          omega
    subst hab
    rw [sorted_ext a2 b2 (fun x => by
      constructor
      · intro hx
        rcases List.mem_cons.1 ((h x).1 (List.mem_cons_of_mem _ hx)) with e | e
        · subst e
          have h3 := (aheadD_iff _ _).1 (a1 x hx)
          omega
        · exact e
      · intro hx
        rcases List.mem_cons.1 ((h x).2 (List.mem_cons_of_mem _ hx)) with e | e
        · subst e
          have h3 := (aheadD_iff _ _).1 (b1 x hx)
          omega
        · exact e)]
theorem sorted_len {two v : List (Int × Nat)} (h1 : Sorted two) (h2 : Sorted v) (hs : ∀ x ∈ v, x ∈ two) : two.length = v.length ↔ ∀ x ∈ two, x ∈ v := by
  have e : v = two.filter (fun x => decide (x ∈ v)) := sorted_ext h2 (List.Pairwise.filter _ h1) (fun x => by
    rw [List.mem_filter, decide_eq_true_eq]
    exact ⟨fun h => ⟨hs x h, h⟩, fun h => h.2⟩)
  have hl : (two.filter (fun x => decide (x ∈ v))).length = two.length ↔ ∀ x ∈ two, decide (x ∈ v) = true := List.length_filter_eq_length_iff
  rw [← e] at hl
  constructor
  · intro h x hx
    exact of_decide_eq_true (hl.1 h.symm x hx)
  · intro h
    exact (hl.2 fun x hx => decide_eq_true (h x hx)).symm
/-- What is joined is the list of both. -/
theorem Tie.join {f g : List Nm} {l m : List (Int × Nat)} (h : Tie f l) (k : Tie g m) : Tie (joinF f g) (allL l m) := by
  have hg : ∀ x ∈ allL l m, goodB x.1 x.2 = true := fun x hx => by
    rcases (allL_mem m l x).1 hx with h2 | h2
    · exact h.good x h2
    · exact k.good x h2
  have hs := allL_sorted m l h.sorted
  refine ⟨mixF_len f g 16, hs, hg, fun d hd => ?_⟩
  rw [joinF_getD f g d hd]
  refine has_ext (joinN_ok (h.ok d hd) (k.ok d hd)) (close_ok _ _ (numsD_rising hs d) (fun x hx => ?_) (by decide)) (fun y => ?_)
  · obtain ⟨_, _, _, _, h2⟩ := good_parts (hg _ (mem_numsD.1 hx))
    exact h2
  · rw [Bool.eq_iff_iff, joinN_has, Bool.or_eq_true, h.at_has d hd, k.at_has d hd]
    unfold canon
    rw [close_has _ _ (numsD_rising hs d), Bool.or_eq_true, decide_eq_true_eq, decide_eq_true_eq, mem_numsD, allL_mem, Nat.le_zero]
    constructor
    · rintro ((h1 | h1) | (h1 | h1))
      · exact .inl h1
      · exact .inr (.inl h1)
      · exact .inl h1
      · exact .inr (.inr h1)
    · rintro (h1 | h1 | h1)
      · exact .inl (.inl h1)
      · exact .inl (.inr h1)
      · exact .inr (.inr h1)
/-- The same set, told by the same dots. -/
theorem Tie.same {f : List Nm} {l m : List (Int × Nat)} (h : Tie f l) (hm : Sorted m) (he : ∀ x, x ∈ l ↔ x ∈ m) : Tie f m := by
  obtain rfl := sorted_ext h.sorted hm he
  exact h
end Go.Proofs.Ytfgfamafjkjakaa
namespace Go.Proofs.Ytfgfamafjkjakaa
open Go.ChangeShapes Go.WideShapes Go.ChangeAt Go.RowKit Go.Deep
set_option linter.unusedVariables false
set_option linter.unusedSimpArgs false
/-- Three sets, their lists. -/
structure J3 (w : World) (X Y Z : Nat) (f g h : List Nm) (vu vv vw : Value) (lu lv lw : List (Int × Nat)) (W : World) : Prop where
  x : SetIs W X f
  y : SetIs W Y g
  z : SetIs W Z h
  u : HasK W encD vu lu
  v : HasK W encD vv lv
  k : HasK W encD vw lw
  b : Below w.heap.size w W
theorem J3.below {w : World} {X Y Z : Nat} {f g h : List Nm} {vu vv vw : Value} {lu lv lw : List (Int × Nat)} {W W' : World} (j : J3 w X Y Z f g h vu vv vw lu lv lw W) (hb : Below W.heap.size W W') : J3 w X Y Z f g h vu vv vw lu lv lw W' :=
  ⟨j.x.below hb, j.y.below hb, j.z.below hb, j.u.below hb, j.v.below hb, j.k.below hb, j.b.trans (hb.mono j.b.size)⟩
theorem J3.kp {w : World} {X Y Z S : Nat} {f g h q : List Nm} {vu vv vw : Value} {lu lv lw : List (Int × Nat)} {W W' : World} (j : J3 w X Y Z f g h vu vv vw lu lv lw W) (hs : SetIs W S q) (hk : Kp S W W') (hX : X ≠ S) (hY : Y ≠ S) (hZ : Z ≠ S) (hw : w.heap.size ≤ S) : J3 w X Y Z f g h vu vv vw lu lv lw W' :=
  ⟨j.x.kp hs hk hX, j.y.kp hs hk hY, j.z.kp hs hk hZ, j.u.add hs hk, j.v.add hs hk, j.k.add hs hk, j.b.trans (hk.below hw j.b.size)⟩
structure J5 (w : World) (X Y Z : Nat) (f g h : List Nm) (vu vv vw : Value) (lu lv lw : List (Int × Nat)) (vt va : Value) (lt la : List (Int × Nat)) (W : World) : Prop where
  j : J3 w X Y Z f g h vu vv vw lu lv lw W
  t : HasK W encD vt lt
  a : HasK W encD va la
theorem J5.below {w : World} {X Y Z : Nat} {f g h : List Nm} {vu vv vw vt va : Value} {lu lv lw lt la : List (Int × Nat)} {W W' : World} (k : J5 w X Y Z f g h vu vv vw lu lv lw vt va lt la W) (hb : Below W.heap.size W W') : J5 w X Y Z f g h vu vv vw lu lv lw vt va lt la W' :=
  ⟨k.j.below hb, k.t.below hb, k.a.below hb⟩
theorem J5.kp {w : World} {X Y Z S : Nat} {f g h q : List Nm} {vu vv vw vt va : Value} {lu lv lw lt la : List (Int × Nat)} {W W' : World} (k : J5 w X Y Z f g h vu vv vw lu lv lw vt va lt la W) (hs : SetIs W S q) (hk : Kp S W W') (hX : X ≠ S) (hY : Y ≠ S) (hZ : Z ≠ S) (hw : w.heap.size ≤ S) : J5 w X Y Z f g h vu vv vw lu lv lw vt va lt la W' :=
  ⟨k.j.kp hs hk hX hY hZ hw, k.t.add hs hk, k.a.add hs hk⟩
structure J6 (w : World) (X Y Z : Nat) (f g h : List Nm) (vu vv vw : Value) (lu lv lw : List (Int × Nat)) (vt va : Value) (lt la : List (Int × Nat)) (P Q R : Nat) (fp fq fr : List Nm) (W : World) : Prop where
  j : J5 w X Y Z f g h vu vv vw lu lv lw vt va lt la W
  p : SetIs W P fp
  q : SetIs W Q fq
  r : SetIs W R fr
theorem J6.below {w : World} {X Y Z P Q R : Nat} {f g h fp fq fr : List Nm} {vu vv vw vt va : Value} {lu lv lw lt la : List (Int × Nat)} {W W' : World} (k : J6 w X Y Z f g h vu vv vw lu lv lw vt va lt la P Q R fp fq fr W) (hb : Below W.heap.size W W') : J6 w X Y Z f g h vu vv vw lu lv lw vt va lt la P Q R fp fq fr W' :=
  ⟨k.j.below hb, k.p.below hb, k.q.below hb, k.r.below hb⟩
theorem J6.put {w : World} {X Y Z P Q R : Nat} {f g h fp fq fr fs : List Nm} {vu vv vw vt va : Value} {lu lv lw lt la : List (Int × Nat)} {W W' : World} (k : J6 w X Y Z f g h vu vv vw lu lv lw vt va lt la P Q R fp fq fr W) (hs : SetIs W' R fs) (hk : Kp R W W') (hX : X ≠ R) (hY : Y ≠ R) (hZ : Z ≠ R) (hP : P ≠ R) (hQ : Q ≠ R) (hw : w.heap.size ≤ R) : J6 w X Y Z f g h vu vv vw lu lv lw vt va lt la P Q R fp fq fs W' :=
  ⟨k.j.kp k.r hk hX hY hZ hw, k.p.kp k.r hk hP, k.q.kp k.r hk hQ, hs⟩
theorem mem_six {lu lv lw : List (Int × Nat)} (x : Int × Nat) : x ∈ allL (allL (allL (allL lw lv) lu) (allL (allL lw lv) lu)) lv ↔ x ∈ allL (allL lu lv) lw := by
  simp only [allL_mem]
  constructor
  · rintro ((((h | h) | h) | ((h | h) | h)) | h)
    · exact .inr h
    · exact .inl (.inr h)
    · exact .inl (.inl h)
    · exact .inr h
    · exact .inl (.inr h)
    · exact .inl (.inl h)
    · exact .inl (.inr h)
  · rintro ((h | h) | h)
    · exact .inl (.inl (.inr h))
    · exact .inr h
    · exact .inl (.inl (.inl (.inl h)))
theorem numsD_len (l : List (Int × Nat)) (d : Nat) : (numsD l d).length ≤ l.length := by
  unfold numsD
  rw [List.length_map]
  exact List.length_filter_le _ _
theorem Tie.few {f : List Nm} {l : List (Int × Nat)} (h : Tie f l) (i : Nat) (hi : i < 16) : (f.getD i Nm.zero).more.length ≤ l.length := by
  rw [h.each i hi]
  exact Nat.le_trans (close_len _ _) (numsD_len l i)
theorem Join_tie (R O : Nat) (f f2 : List Nm) (l m : List (Int × Nat)) (w : World) (hS : SetIs w R f) (hT : SetIs w O f2) (ht : Tie f l) (ht2 : Tie f2 m) (hl : l.length + m.length ≤ 4096) :
    Calls Try.prog 23 #[.pointer (some ⟨R, 0, none⟩), .pointer (some ⟨O, 0, none⟩)] w fun e w' => e = .returned (.tuple #[]) ∧ SetIs w' R (joinF f f2) ∧ Kp R w w' :=
  Join_any R O f f2 w hS hT (fun i hi => by have := ht.few i hi; have := ht2.few i hi; omega)
theorem take_snoc {l : List (Int × Nat)} {i : Nat} (h : i < l.length) : l.take (i + 1) = l.take i ++ [l[i]] := List.take_succ_eq_append_getElem h
set_option maxRecDepth 100000 in
set_option maxHeartbeats 32000000 in
theorem DotJoins_any (pa : Option Addr) (na ca ba oa : Nat) (Da : Nat → Int) (Na : Nat → Nat) (pb : Option Addr) (nb cb bb ob : Nat) (Db : Nat → Int) (Nb : Nat → Nat) (pc : Option Addr) (nc cc bc oc : Nat) (Dc : Nat → Int) (Nc : Nat → Nat) (w : World)
    (hpa : 0 < na → pa = some ⟨ba, oa, none⟩) (hna : na ≤ maxLen) (hDa : Dots w ba oa na Da Na) (hpb : 0 < nb → pb = some ⟨bb, ob, none⟩) (hnb : nb ≤ maxLen) (hDb : Dots w bb ob nb Db Nb) (hpc : 0 < nc → pc = some ⟨bc, oc, none⟩) (hnc : nc ≤ maxLen) (hDc : Dots w bc oc nc Dc Nc) :
    Calls Try.prog 5 #[.slice pa na ca, .slice pb nb cb, .slice pc nc cc] w fun e w' => e = .returned (.bool true) ∧ Below w.heap.size w w' := by
  have HDA := Lib.hid hDa
  have HDB := Lib.hid hDb
  have HDC := Lib.hid hDc
  have HPA := Lib.hid hpa
  have HPB := Lib.hid hpb
  have HPC := Lib.hid hpc
  have haI : (na : Int) ≤ 9223372036854775807 := by unfold maxLen at hna; omega
  have hbI : (nb : Int) ≤ 9223372036854775807 := by unfold maxLen at hnb; omega
  have hcI : (nc : Int) ≤ 9223372036854775807 := by unfold maxLen at hnc; omega
  clear hDa hDb hDc hpa hpb hpc hna hnb hnc
  go_enter Try.func5, Try.ntmps5
  go_wp2_with fail
  refine (Awake_any _).mono ?_
  rintro e w1 ⟨rfl, hb1⟩
  have HB1 := Lib.hid hb1
  clear hb1
  rcases Nat.lt_or_ge 80 na with h1 | h1
  · have h1I : (80 : Int) < (na : Int) := by omega
    go_wp2
    go_ret
    exact ⟨rfl, HB1.out⟩
  have h1I : ¬ (80 : Int) < (na : Int) := by omega
  rcases Nat.lt_or_ge 80 nb with h2 | h2
  · have h2I : (80 : Int) < (nb : Int) := by omega
    go_wp2
    go_ret
    exact ⟨rfl, HB1.out⟩
  have h2I : ¬ (80 : Int) < (nb : Int) := by omega
  rcases Nat.lt_or_ge 80 nc with h3 | h3
  · have h3I : (80 : Int) < (nc : Int) := by omega
    go_wp2
    go_ret
    exact ⟨rfl, HB1.out⟩
  have h3I : ¬ (80 : Int) < (nc : Int) := by omega
  go_wp2_with fail
  refine (Of_any pa na ca ba oa Da Na w1 HPA.out (by omega) (HDA.out.below HB1.out)).mono ?_
  rintro e w2 ⟨vu, rfl, hs2, hl2, hb2⟩
  obtain ⟨X, hX⟩ : ∃ X, w1.heap.size = X := ⟨_, rfl⟩
  have hwX : w.heap.size ≤ X := by have := HB1.out.size; omega
  rw [hX] at hs2 ⊢
  have hX2 : X < w2.heap.size := hs2.lt
  have HSX := Lib.hid hs2
  have HLU := Lib.hid hl2
  have HB2 := Lib.hid (HB1.out.trans (hb2.mono HB1.out.size))
  clear hs2 hl2 hb2 hX
  go_wp2_with fail
  refine (Of_any pb nb cb bb ob Db Nb w2 HPB.out (by omega) (HDB.out.below HB2.out)).mono ?_
  rintro e w3 ⟨vv, rfl, hs3, hl3, hb3⟩
  obtain ⟨Y, hY⟩ : ∃ Y, w2.heap.size = Y := ⟨_, rfl⟩
  have hXY : X < Y := by omega
  have HSX3 := Lib.hid (HSX.out.below hb3)
  have HLU3 := Lib.hid (HLU.out.below hb3)
  have HB3 := Lib.hid (HB2.out.trans (hb3.mono HB2.out.size))
  rw [hY] at hs3 ⊢
  have hY2 : Y < w3.heap.size := hs3.lt
  have HSY := Lib.hid hs3
  have HLV := Lib.hid hl3
  clear hs3 hl3 hb3 hY
  go_wp2_with fail
  refine (Of_any pc nc cc bc oc Dc Nc w3 HPC.out (by omega) (HDC.out.below HB3.out)).mono ?_
  rintro e w4 ⟨vw, rfl, hs4, hl4, hb4⟩
  obtain ⟨Z, hZ⟩ : ∃ Z, w3.heap.size = Z := ⟨_, rfl⟩
  have hYZ : Y < Z := by omega
  have hJ : J3 w X Y Z (ofF Da Na na) (ofF Db Nb nb) (ofF Dc Nc nc) vu vv vw (ofL Da Na na) (ofL Db Nb nb) (ofL Dc Nc nc) w4 := ⟨HSX3.out.below hb4, HSY.out.below hb4, by rw [← hZ]; exact hs4, HLU3.out.below hb4, HLV.out.below hb4, hl4, HB3.out.trans (hb4.mono HB3.out.size)⟩
  rw [hZ]
  have t1 := Lib.hid (tie_of Da Na na)
  have t2 := Lib.hid (tie_of Db Nb nb)
  have t3 := Lib.hid (tie_of Dc Nc nc)
  have n1 := ofL_len Da Na na
  have n2 := ofL_len Db Nb nb
  have n3 := ofL_len Dc Nc nc
  have HJ := Lib.hid hJ
  clear hs4 hl4 hb4 hZ hJ HSX HSY HLU HLV HSX3 HLU3 h1I h2I h3I
  obtain ⟨f, hf⟩ : ∃ x, ofF Da Na na = x := ⟨_, rfl⟩
  obtain ⟨g, hg⟩ : ∃ x, ofF Db Nb nb = x := ⟨_, rfl⟩
  obtain ⟨h, hh⟩ : ∃ x, ofF Dc Nc nc = x := ⟨_, rfl⟩
  obtain ⟨lu, hlu⟩ : ∃ x, ofL Da Na na = x := ⟨_, rfl⟩
  obtain ⟨lv, hlv⟩ : ∃ x, ofL Db Nb nb = x := ⟨_, rfl⟩
  obtain ⟨lw, hlw⟩ : ∃ x, ofL Dc Nc nc = x := ⟨_, rfl⟩
  rw [hf, hg, hh, hlu, hlv, hlw] at HJ
  rw [hf, hlu] at t1
  rw [hg, hlv] at t2
  rw [hh, hlw] at t3
  rw [hlu] at n1
  rw [hlv] at n2
  rw [hlw] at n3
  clear hf hg hh hlu hlv hlw
  obtain ⟨pv, cv, rfl, -, hcv⟩ := HJ.out.v.form
  obtain ⟨pw, cw, rfl, -, hcw⟩ := HJ.out.k.form
  obtain ⟨mu, hmu⟩ : ∃ x, lu.length = x := ⟨_, rfl⟩
  obtain ⟨mv, hmv⟩ : ∃ x, lv.length = x := ⟨_, rfl⟩
  obtain ⟨mw, hmw⟩ : ∃ x, lw.length = x := ⟨_, rfl⟩
  rw [hmv, hmw] at HJ
  rw [hmv, hmw]
  rw [hmu] at n1
  rw [hmv] at n2
  rw [hmw] at n3
  have HMU := Lib.hid hmu
  have HMV := Lib.hid hmv
  have HMW := Lib.hid hmw
  have hmvI : (mv : Int) ≤ 80 := by omega
  have hmwI : (mw : Int) ≤ 80 := by omega
  clear hmu hmv hmw hcv hcw
  go_wp2_with fail
  go_loopw [13, 14] (fun va vi wr => ∃ i : Nat, vi = .int .i64 (i : Int) ∧ i ≤ mv ∧ J3 w X Y Z f g h vu (.slice pv mv cv) (.slice pw mw cw) lu lv lw wr ∧ HasK wr encD va (allL lu (lv.take i))) (fun _ vi _ => mv - (intOf vi).toNat)
  case atStart => exact ⟨0, rfl, Nat.zero_le _, HJ.out, HJ.out.u⟩
  case round =>
    obtain ⟨i, rfl, hi, hj0, ha0⟩ := hrel
    obtain ⟨W0, rfl⟩ : ∃ W0, W0 = wr := ⟨wr, rfl⟩
    have H0 := Lib.hid hj0
    have HA0 := Lib.hid ha0
    clear hj0 ha0
    rcases Nat.lt_or_ge i mv with hlt | hge
    · have hI : (i : Int) < (mv : Int) := by omega
      have hi0 : (0 : Int) ≤ (i : Int) := by omega
      have hil : i < lv.length := by rw [HMV.out]; exact hlt
      obtain ⟨b, o, cap2, p2, hpe, -, -, HPP, HC⟩ := H0.out.v.open
      simp only [Value.slice.injEq] at hpe
      obtain ⟨rfl, -, rfl⟩ := hpe
      obtain ⟨rfl, hbl⟩ := HPP.out (by rw [HMV.out]; omega)
      have hdt := HasK.dotAt HC.out i hil
      obtain ⟨⟨x, y⟩, hxy⟩ : ∃ z, lv[i] = z := ⟨_, rfl⟩
      rw [hxy] at hdt
      have hall : allL lu (lv.take (i + 1)) = addL (allL lu (lv.take i)) (x, y) := by rw [take_snoc hil, hxy, allL_snoc]
      have hlen := allL_len (lv.take i) lu
      rw [List.length_take] at hlen
      have HLEN := Lib.hid hlen
      have HALL := Lib.hid hall
      obtain ⟨c0, c1⟩ := hdt
      clear hxy hall hlen HC HPP
      go_wp2_with fail
      clear c0 c1
      refine (RefAdd_any _ _ x y W0 HA0.out (by have := HLEN.out; have := HMU.out; omega)).mono ?_
      rintro e w5 ⟨v5, rfl, hl5, hb5⟩
      have HL5 := Lib.hid hl5
      have H5 := Lib.hid (H0.out.below hb5)
      clear hl5 hb5
      go_wp2
      go_roundw
      case rel => exact ⟨i + 1, by go_num, hlt, H5.out, by rw [HALL.out]; exact HL5.out⟩
      case measure => simp [intOf] <;> omega
    · obtain rfl : i = mv := by omega
      have hI : ¬ (i : Int) < (i : Int) := by omega
      have HA1 : Hid (HasK W0 encD u13 (allL lu lv)) := Lib.hid (by have h := HA0.out; rw [List.take_of_length_le (by rw [HMV.out]; exact Nat.le_refl _)] at h; exact h)
      obtain ⟨vt, rfl⟩ : ∃ x, x = u13 := ⟨u13, rfl⟩
      obtain ⟨lp, hlp⟩ : ∃ x, allL lu lv = x := ⟨_, rfl⟩
      have tp := Lib.hid (t1.out.join t2.out)
      have hpl := allL_len lv lu
      rw [HMU.out, HMV.out] at hpl
      rw [hlp] at HA1 tp hpl
      have HLP := Lib.hid hlp
      clear HA0 hlp hI
      have H1 : Hid (J5 w X Y Z f g h vu (.slice pv i cv) (.slice pw mw cw) lu lv lw vt vt lp lp W0) := Lib.hid ⟨H0.out, HA1.out, HA1.out⟩
      go_wp2_with fail
      go_loopw [13, 16] (fun va vi wr => ∃ j : Nat, vi = .int .i64 (j : Int) ∧ j ≤ mw ∧ J5 w X Y Z f g h vu (.slice pv i cv) (.slice pw mw cw) lu lv lw vt va lp (allL lp (lw.take j)) wr) (fun _ vi _ => mw - (intOf vi).toNat)
      case atStart => exact ⟨0, rfl, Nat.zero_le _, H1.out⟩
      case round =>
        obtain ⟨j, rfl, hj, hj0⟩ := hrel
        obtain ⟨W2, rfl⟩ : ∃ W2, W2 = wr := ⟨wr, rfl⟩
        have H2 := Lib.hid hj0
        clear hj0
        rcases Nat.lt_or_ge j mw with hlt | hge2
        · have hI : (j : Int) < (mw : Int) := by omega
          have hi0 : (0 : Int) ≤ (j : Int) := by omega
          have hil : j < lw.length := by rw [HMW.out]; exact hlt
          obtain ⟨b, o, cap2, p2, hpe, -, -, HPP, HC⟩ := H2.out.j.k.open
          simp only [Value.slice.injEq] at hpe
          obtain ⟨rfl, -, rfl⟩ := hpe
          obtain ⟨rfl, hbl⟩ := HPP.out (by rw [HMW.out]; omega)
          have hdt := HasK.dotAt HC.out j hil
          obtain ⟨⟨x, y⟩, hxy⟩ : ∃ z, lw[j] = z := ⟨_, rfl⟩
          rw [hxy] at hdt
          have hall : allL lp (lw.take (j + 1)) = addL (allL lp (lw.take j)) (x, y) := by rw [take_snoc hil, hxy, allL_snoc]
          have hlen := allL_len (lw.take j) lp
          rw [List.length_take] at hlen
          have HLEN := Lib.hid hlen
          have HALL := Lib.hid hall
          obtain ⟨c0, c1⟩ := hdt
          clear hxy hall hlen HC HPP
          go_wp2_with fail
          clear c0 c1
          refine (RefAdd_any _ _ x y W2 H2.out.a (by have := HLEN.out; omega)).mono ?_
          rintro e w5 ⟨v5, rfl, hl5, hb5⟩
          have HL5 := Lib.hid hl5
          have H5 := Lib.hid (H2.out.below hb5)
          clear hl5 hb5
          go_wp2
          go_roundw
          case rel => exact ⟨j + 1, by go_num, hlt, H5.out.j, H5.out.t, by rw [HALL.out]; exact HL5.out⟩
          case measure => simp [intOf] <;> omega
        · obtain rfl : j = mw := by omega
          have hI : ¬ (j : Int) < (j : Int) := by omega
          obtain ⟨va, rfl⟩ : ∃ x, x = u13 := ⟨u13, rfl⟩
          obtain ⟨lq, hlq⟩ : ∃ x, allL lp lw = x := ⟨_, rfl⟩
          have tq := Lib.hid (tp.out.join t3.out)
          have hql := allL_len lw lp
          rw [HMW.out] at hql
          have H3 : Hid (J5 w X Y Z f g h vu (.slice pv i cv) (.slice pw j cw) lu lv lw vt va lp lq W2) := Lib.hid (by have h := H2.out; rw [List.take_of_length_le (by rw [HMW.out]; exact Nat.le_refl _), hlq] at h; exact h)
          rw [hlq] at tq hql
          have HLQ := Lib.hid hlq
          clear hlq H2 hI
          have hZ3 : Z < W2.heap.size := H3.out.j.z.lt
          go_wp2_with fail
          refine (Copy_any X f W2 H3.out.j.x).mono ?_
          rintro e w5 ⟨rfl, hs5, hb5⟩
          obtain ⟨P, hP⟩ : ∃ P, W2.heap.size = P := ⟨_, rfl⟩
          rw [hP] at hs5 hZ3 ⊢
          have H5 := Lib.hid (H3.out.below hb5)
          have HP5 := Lib.hid hs5
          have hwP : w.heap.size ≤ P := by omega
          clear hs5 hb5 hP H3
          go_wp2_with fail
          refine (Join_tie P Y f g lu lv w5 HP5.out H5.out.j.y t1.out t2.out (by rw [HMU.out, HMV.out]; omega)).mono ?_
          rintro e w6 ⟨rfl, hs6, hk6⟩
          have H6 := Lib.hid (H5.out.kp HP5.out hk6 (by omega) (by omega) (by omega) hwP)
          obtain ⟨fp, hfp⟩ : ∃ x, joinF f g = x := ⟨_, rfl⟩
          rw [hfp] at hs6 tp tq
          have HP6 := Lib.hid hs6
          clear hs6 hk6 hfp H5 HP5
          have hP6 : P < w6.heap.size := HP6.out.lt
          go_wp2_with fail
          refine (Copy_any P fp w6 HP6.out).mono ?_
          rintro e w7 ⟨rfl, hs7, hb7⟩
          obtain ⟨Q, hQ⟩ : ∃ Q, w6.heap.size = Q := ⟨_, rfl⟩
          rw [hQ] at hs7 hP6 ⊢
          have H7 := Lib.hid (H6.out.below hb7)
          have HP7 := Lib.hid (HP6.out.below hb7)
          have HQ7 := Lib.hid hs7
          clear hs7 hb7 hQ H6 HP6
          go_wp2_with fail
          refine (Join_tie Q Z fp h lp lw w7 HQ7.out H7.out.j.z tp.out t3.out (by rw [HMW.out]; omega)).mono ?_
          rintro e w8 ⟨rfl, hs8, hk8⟩
          have H8 := Lib.hid (H7.out.kp HQ7.out hk8 (by omega) (by omega) (by omega) (by omega))
          have HP8 := Lib.hid (HP7.out.kp HQ7.out hk8 (by omega))
          obtain ⟨fq, hfq⟩ : ∃ x, joinF fp h = x := ⟨_, rfl⟩
          rw [hfq] at hs8 tq
          have HQ8 := Lib.hid hs8
          clear hs8 hk8 hfq H7 HP7 HQ7
          have hQ8 : Q < w8.heap.size := HQ8.out.lt
          go_wp2_with fail
          refine (Copy_any Z h w8 H8.out.j.z).mono ?_
          rintro e w9 ⟨rfl, hs9, hb9⟩
          obtain ⟨R, hR⟩ : ∃ R, w8.heap.size = R := ⟨_, rfl⟩
          rw [hR] at hs9 hQ8 ⊢
          have L80 : Hid (lu.length ≤ 80 ∧ lv.length ≤ 80 ∧ lw.length ≤ 80) := Lib.hid ⟨by rw [HMU.out]; omega, by rw [HMV.out]; omega, by rw [HMW.out]; omega⟩
          have H9 : Hid (J6 w X Y Z f g h vu (.slice pv i cv) (.slice pw j cw) lu lv lw vt va lp lq P Q R fp fq h w9) := Lib.hid ⟨H8.out.below hb9, HP8.out.below hb9, HQ8.out.below hb9, hs9⟩
          clear hs9 hb9 hR H8 HP8 HQ8
          go_wp2_with fail
          refine (Join_tie R Y h g lw lv w9 H9.out.r (H9.out.j.j.y) t3.out t2.out (by have e1 := allL_len lv lw; have e2 := allL_len lu (allL lw lv); have e3 := allL_len (allL (allL lw lv) lu) (allL (allL lw lv) lu); have e4 := L80.out; omega)).mono ?_
          rintro e w10 ⟨rfl, hs10, hk10⟩
          have r0 := Lib.hid (t3.out.join t2.out)
          obtain ⟨f0, hf0⟩ : ∃ x, joinF h g = x := ⟨_, rfl⟩
          rw [hf0] at hs10 r0
          have H10 := Lib.hid (H9.out.put hs10 hk10 (by omega) (by omega) (by omega) (by omega) (by omega) (by omega))
          clear hs10 hk10 hf0 H9
          go_wp2_with fail
          refine (Join_tie R X f0 f (allL lw lv) lu w10 H10.out.r (H10.out.j.j.x) r0.out t1.out (by have e1 := allL_len lv lw; have e2 := allL_len lu (allL lw lv); have e3 := allL_len (allL (allL lw lv) lu) (allL (allL lw lv) lu); have e4 := L80.out; omega)).mono ?_
          rintro e w11 ⟨rfl, hs11, hk11⟩
          have r1 := Lib.hid (r0.out.join t1.out)
          obtain ⟨f1, hf1⟩ : ∃ x, joinF f0 f = x := ⟨_, rfl⟩
          rw [hf1] at hs11 r1
          have H11 := Lib.hid (H10.out.put hs11 hk11 (by omega) (by omega) (by omega) (by omega) (by omega) (by omega))
          clear hs11 hk11 hf1 H10
          go_wp2_with fail
          refine (Join_tie R R f1 f1 (allL (allL lw lv) lu) (allL (allL lw lv) lu) w11 H11.out.r (H11.out.r) r1.out r1.out (by have e1 := allL_len lv lw; have e2 := allL_len lu (allL lw lv); have e3 := allL_len (allL (allL lw lv) lu) (allL (allL lw lv) lu); have e4 := L80.out; omega)).mono ?_
          rintro e w12 ⟨rfl, hs12, hk12⟩
          have r2 := Lib.hid (r1.out.join r1.out)
          obtain ⟨f2, hf2⟩ : ∃ x, joinF f1 f1 = x := ⟨_, rfl⟩
          rw [hf2] at hs12 r2
          have H12 := Lib.hid (H11.out.put hs12 hk12 (by omega) (by omega) (by omega) (by omega) (by omega) (by omega))
          clear hs12 hk12 hf2 H11
          go_wp2_with fail
          refine (Join_tie R Y f2 g (allL (allL (allL lw lv) lu) (allL (allL lw lv) lu)) lv w12 H12.out.r (H12.out.j.j.y) r2.out t2.out (by have e1 := allL_len lv lw; have e2 := allL_len lu (allL lw lv); have e3 := allL_len (allL (allL lw lv) lu) (allL (allL lw lv) lu); have e4 := L80.out; omega)).mono ?_
          rintro e w13 ⟨rfl, hs13, hk13⟩
          have r3 := Lib.hid (r2.out.join t2.out)
          obtain ⟨f3, hf3⟩ : ∃ x, joinF f2 g = x := ⟨_, rfl⟩
          rw [hf3] at hs13 r3
          have H13 := Lib.hid (H12.out.put hs13 hk13 (by omega) (by omega) (by omega) (by omega) (by omega) (by omega))
          clear hs13 hk13 hf3 H12
          have hsr := Lib.hid (r3.out.same tq.out.sorted (fun x => by rw [← HLQ.out, ← HLP.out]; exact mem_six x))
          clear r0 r1 r2 r3
          have LL : Hid (lp.length ≤ 160 ∧ lq.length ≤ 240) := Lib.hid ⟨by omega, by omega⟩
          have hw1 : Hid (withinS f fq = true) := Lib.hid ((t1.out.within tq.out).2 fun x hx => by rw [← HLQ.out, allL_mem, ← HLP.out, allL_mem]; exact .inl (.inl hx))
          have hw2 : Hid (withinS g fp = true) := Lib.hid ((t2.out.within tp.out).2 fun x hx => by rw [← HLP.out, allL_mem]; exact .inr hx)
          have hw3 : Hid (withinS fp f3 = true) := Lib.hid ((tp.out.within hsr.out).2 fun x hx => by rw [← HLQ.out, allL_mem]; exact .inl hx)
          obtain ⟨qq, hqq⟩ : ∃ q, withinS f g = q := ⟨_, rfl⟩
          have hw4 := Lib.hid hqq
          have hlen : lp.length = lv.length ↔ ∀ x ∈ lu, x ∈ lv := by
            rw [sorted_len tp.out.sorted t2.out.sorted (fun x hx => by rw [← HLP.out, allL_mem]; exact .inr hx)]
            constructor
            · intro hx x h1
              exact hx x (by rw [← HLP.out, allL_mem]; exact .inl h1)
            · intro hx x h1
              rw [← HLP.out, allL_mem] at h1
              rcases h1 with h1 | h1
              · exact hx x h1
              · exact h1
          rw [← t1.out.within t2.out, hqq, HMV.out] at hlen
          obtain ⟨pt, ct, rfl, -, -⟩ := H13.out.j.t.form
          obtain ⟨mt, hmt⟩ : ∃ x, lp.length = x := ⟨_, rfl⟩
          rw [hmt] at hlen H13 ⊢
          have heqI : ((mt : Int) == (i : Int)) = qq := by
            cases qq with
            | true => rw [hlen.2 rfl]; exact beq_self_eq_true _
            | false => exact beq_eq_false_iff_ne.2 (fun e => absurd (hlen.1 (by omega)) (by decide))
          have HEQ := Lib.hid heqI
          clear hlen heqI hqq hmt
          go_upto_region 27 with fail
          go_cut [20] (fun v wz => v = .bool qq ∧ w13 = wz)
          case first =>
            go_wp2
            go_meet
            exact ⟨congrArg Value.bool HEQ.out, rfl⟩
          case rest =>
          obtain ⟨rfl, rfl⟩ := hcut
          have hbq : (qq == qq) = true := beq_self_eq_true _
          go_wp2_with fail
          refine (Is_any P fp _ lp w13 H13.out.p H13.out.j.t (by have := L80.out; have := LL.out; omega) tp.out).mono ?_
          rintro e w14 ⟨rfl, hb14⟩
          have H14 := Lib.hid (H13.out.below hb14)
          clear hb14 H13
          go_wp2_with fail
          refine (Is_any Q fq _ lq w14 H14.out.q H14.out.j.a (by have := L80.out; have := LL.out; omega) tq.out).mono ?_
          rintro e w15 ⟨rfl, hb15⟩
          have H15 := Lib.hid (H14.out.below hb15)
          clear hb15 H14
          go_wp2_with fail
          refine (Is_any R f3 _ lq w15 H15.out.r H15.out.j.a (by have := L80.out; have := LL.out; omega) hsr.out).mono ?_
          rintro e w16 ⟨rfl, hb16⟩
          have H16 := Lib.hid (H15.out.below hb16)
          clear hb16 H15
          go_wp2_with fail
          refine (Is_any X f _ lu w16 H16.out.j.j.x H16.out.j.j.u (by have := L80.out; have := LL.out; omega) t1.out).mono ?_
          rintro e w17 ⟨rfl, hb17⟩
          have H17 := Lib.hid (H16.out.below hb17)
          clear hb17 H16
          go_wp2_with fail
          refine (Is_any Y g _ lv w17 H17.out.j.j.y H17.out.j.j.v (by have := L80.out; have := LL.out; omega) t2.out).mono ?_
          rintro e w18 ⟨rfl, hb18⟩
          have H18 := Lib.hid (H17.out.below hb18)
          clear hb18 H17
          go_wp2_with fail
          refine (Is_any Z h _ lw w18 H18.out.j.j.z H18.out.j.j.k (by have := L80.out; have := LL.out; omega) t3.out).mono ?_
          rintro e w19 ⟨rfl, hb19⟩
          have H19 := Lib.hid (H18.out.below hb19)
          clear hb19 H18
          go_wp2_with fail
          refine (Within_any X Q f fq w19 H19.out.j.j.x H19.out.q).mono ?_
          rw [hw1.out]
          rintro e w20 ⟨rfl, hb20⟩
          have H20 := Lib.hid (H19.out.below hb20)
          clear hb20 H19
          go_wp2_with fail
          refine (Within_any Y P g fp w20 H20.out.j.j.y H20.out.p).mono ?_
          rw [hw2.out]
          rintro e w21 ⟨rfl, hb21⟩
          have H21 := Lib.hid (H20.out.below hb21)
          clear hb21 H20
          go_wp2_with fail
          refine (Within_any P R fp f3 w21 H21.out.p H21.out.r).mono ?_
          rw [hw3.out]
          rintro e w22 ⟨rfl, hb22⟩
          have H22 := Lib.hid (H21.out.below hb22)
          clear hb22 H21
          go_wp2_with fail
          refine (Within_any X Y f g w22 H22.out.j.j.x H22.out.j.j.y).mono ?_
          rw [hw4.out]
          rintro e w23 ⟨rfl, hb23⟩
          have H23 := Lib.hid (H22.out.below hb23)
          clear hb23 H22
          have HF := Lib.hid H23.out.j.j.b
          go_wp2
          go_ret
          exact ⟨rfl, HF.out⟩
end Go.Proofs.Ytfgfamafjkjakaa
