/-
  The walk of the law BinReads.
-/
import Derived.Test.YtlmpokkpkglbfaaBinAwake
import Derived.Test.YtlmpokkpkglbfaaGet2
import Derived.Deep.DeepCutAuto
import Derived.Deep.CutBlock
import Derived.Deep.LoopGhost
namespace Go.Proofs.Ytlmpokkpkglbfaa.binReads
open Go.ChangeShapes Go.WideShapes Go.ChangeAt Go.RowKit Go.Deep
set_option linter.unusedVariables false

/-- The copy that is struck over: block g, of at least n cells that may be written. -/
def Mine (w : World) (g n : Nat) : Prop := ∃ (C : Array Value) (m : Nat), w.heap[g]? = some (.cells C 5 (m, m + 1)) ∧ C.size = m ∧ n ≤ m
theorem Mine.cell {w : World} {g n : Nat} (h : Mine w g n) (k : Nat) (hk : k < n) : ∃ v, w.cell? ⟨g, k, none⟩ = some v ∧ w.frozen? ⟨g, k, none⟩ = false := by
  obtain ⟨C, m, hh, hs, hn⟩ := h
  refine ⟨C[k]'(by omega), ?_, ?_⟩
  · simp [World.cell?, hh]
  · simp [World.frozen?, hh]; omega
theorem Mine.set {w : World} {g n : Nat} (h : Mine w g n) (k : Nat) (v : Value) : Mine (w.setCell ⟨g, k, none⟩ v) g n := by
  obtain ⟨C, m, hh, hs, hn⟩ := h
  exact ⟨_, m, Joins.block_setCell hh v, by simpa using hs, hn⟩
/-- How the reader and the document's own reading stand. -/
def St (w : World) (l : List UInt8) (at_ : Nat) (ok rest : Value) (f : Bool) : Prop :=
  (f = true ∧ ok = .bool false ∧ rest = .slice none 0 0) ∨ (f = false ∧ ok = .bool true ∧ HasA w rest (l.drop at_))
def Asks (w : World) (b off len : Nat) (A : Nat → Int) : Prop := ∀ i, i < len → w.cell? ⟨b, off + i, none⟩ = some (.int .i64 (A i))

theorem hasA_len {w : World} {p : Option Addr} {n c : Nat} {l : List UInt8} {d : Nat} (h : HasA w (.slice p n c) (l.drop d)) : n = l.length - d := by
  obtain ⟨_, _, _, _, he, _⟩ := h
  simp only [Value.slice.injEq] at he
  rw [he.2.1, List.length_drop]
theorem rU_fine (l : List UInt8) (a : Nat) (h : (num (l.drop a)).2 ≠ 0) : rU l a false = ((num (l.drop a)).1, a + (num (l.drop a)).2, false) := by
  unfold rU; rw [if_neg (by simp), if_neg h]
theorem rU_nofine (l : List UInt8) (a : Nat) (h : (num (l.drop a)).2 = 0) : ∃ a1, rU l a false = (0, a1, true) := ⟨a, by unfold rU; rw [if_neg (by simp), if_pos h]⟩
theorem rI_fine (l : List UInt8) (a : Nat) (most : Int) (h : Fine (l.drop a) most) : rI l a false most = ((num (l.drop a)).1, a + (num (l.drop a)).2, false) := by
  obtain ⟨h1, h2, h3⟩ := h
  unfold rI; rw [rU_fine l a h1, if_neg (by simp; omega)]
theorem rI_nofine (l : List UInt8) (a : Nat) (most : Int) (h : ¬ Fine (l.drop a) most) : ∃ a1, rI l a false most = (0, a1, true) := by
  by_cases h1 : (num (l.drop a)).2 = 0
  · obtain ⟨a1, hu⟩ := rU_nofine l a h1
    exact ⟨a1, by unfold rI; rw [hu, if_pos (.inl rfl)]⟩
  · refine ⟨a + (num (l.drop a)).2, ?_⟩
    have h2 : most < 0 ∨ most < ((num (l.drop a)).1 : Int) := by
      rcases Int.lt_or_le most 0 with h3 | h3
      · exact .inl h3
      · rcases Int.lt_or_le most ((num (l.drop a)).1 : Int) with h4 | h4
        · exact .inr h4
        · exact absurd ⟨h1, h3, h4⟩ h
    unfold rI; rw [rU_fine l a h1, if_pos (.inr h2)]
theorem rT_fine (l : List UInt8) (a : Nat) (most : Int) (h : FineS (l.drop a) most) : rT l a false most = (((l.drop a).drop (num (l.drop a)).2).take (num (l.drop a)).1, a + ((num (l.drop a)).2 + (num (l.drop a)).1), false) := by
  obtain ⟨h1, h2⟩ := h
  rw [List.length_drop] at h2
  have h3 := num_len (l.drop a)
  rw [List.length_drop] at h3
  have h4 := h1.1
  unfold rT; rw [rI_fine l a most h1, if_neg (by simp; omega), List.drop_drop, Nat.add_assoc]
theorem rT_nofine (l : List UInt8) (a : Nat) (most : Int) (h : ¬ FineS (l.drop a) most) : ∃ a1, rT l a false most = ([], a1, true) := by
  by_cases h1 : Fine (l.drop a) most
  · have h2 : ¬ (num (l.drop a)).2 + (num (l.drop a)).1 ≤ (l.drop a).length := fun h2 => h ⟨h1, h2⟩
    rw [List.length_drop] at h2
    exact ⟨_, by unfold rT; rw [rI_fine l a most h1, if_pos (.inr (by show l.length < a + _ + _; omega))]⟩
  · obtain ⟨a1, hu⟩ := rI_nofine l a most h1
    exact ⟨a1, by unfold rT; rw [hu, if_pos (.inl rfl)]⟩

/-- How it stands behind the thing that was asked. -/
def Cr (w wx : World) (B R : Nat) (l : List UInt8) (rest ok : Value) : Prop :=
  ∃ (a1 : Nat) (f1 : Bool), ((f1 = true ∧ ok = .bool false) ∨ (f1 = false ∧ ok = .bool true ∧ a1 ≤ l.length ∧ HasA w rest (l.drop a1))) ∧ Rd wx B R l a1 f1 ∧ Below w.heap.size w wx
theorem Cr.bad {w wx : World} {B R a1 : Nat} {l : List UInt8} {rest : Value} (h1 : Rd wx B R l a1 true) (h2 : Below w.heap.size w wx) : Cr w wx B R l rest (.bool false) := ⟨a1, true, .inl ⟨rfl, rfl⟩, h1, h2⟩
theorem Cr.good {w wx : World} {B R a1 : Nat} {l : List UInt8} {rest : Value} (h : HasA w rest (l.drop a1)) (h0 : a1 ≤ l.length) (h1 : Rd wx B R l a1 false) (h2 : Below w.heap.size w wx) : Cr w wx B R l rest (.bool true) := ⟨a1, false, .inr ⟨rfl, rfl, h0, h⟩, h1, h2⟩
set_option maxRecDepth 100000 in
set_option maxHeartbeats 4000000 in
theorem walk0 (v : Value) (l : List UInt8) (q : Option Addr) (m cm b2 o2 : Nat) (A : Nat → Int) (most : Int) (w : World) (m1 : -9223372036854775808 ≤ most) (m2 : most ≤ 9223372036854775807)
    (hv : HasA w v l) (hlim : l.length ≤ 140737488355328) (hm : (m : Int) ≤ 50) (hcm : m ≤ cm) (hq : 0 < m → q = some ⟨b2, o2, none⟩ ∧ b2 < w.heap.size) (hA : Asks w b2 o2 m A) :
    Calls Try.prog 5 #[v, .slice q m cm, .int .i64 most] w fun e w' => e = .returned (.bool true) ∧ Below w.heap.size w w' := by
  have HV := Lib.hid hv
  obtain ⟨p0, cap0, b0, o0, rfl, hk1, hk2, hk3, hkc⟩ := hv
  have HQ := Lib.hid hq
  have HA := Lib.hid hA
  have hml : (l.length : Int) ≤ 140737488355328 := by omega
  clear hq hA hk1 hk2 hk3 hkc
  go_enter Try.func5, Try.ntmps5
  go_wp2_with fail
  refine (awake w).mono ?_
  rintro e w0 ⟨rfl, hb⟩
  have HB := Lib.hid hb
  have hs0 := hb.size
  have hk1 : (convert 25 9 (.slice p0 l.length cap0)).run Try.prog w0 = .ok (.string ⟨l.toArray⟩) w0 := (HV.out.below hb).string 0
  have hk2 := Lib.run_convert_string_bytes (P := Try.prog) w0 9 25 5 ⟨l.toArray⟩ Try.underlying9 Try.underlying25 Try.underlying5
  have hsz : (⟨l.toArray⟩ : ByteArray).size = l.length := rfl
  rw [hsz] at hk2
  have hcapge : l.length ≤ grownCap w0 l.length 0 5 := grownCap_ge _ _ _ _
  have hcaple : grownCap w0 l.length 0 5 ≤ maxLen := grownCap_le_maxLen _ _ _ _ (by unfold maxLen; omega)
  have hbs := Lib.bytesWorld_size w0 5 ⟨l.toArray⟩
  have hnew : Has (Lib.bytesWorld w0 5 ⟨l.toArray⟩) (.slice (some ⟨w0.heap.size, 0, none⟩) l.length (grownCap w0 l.length 0 5)) l := by
    refine .inr ⟨w0.heap.size, 0, _, rfl, hcapge, hcaple, by rw [hbs]; omega, fun j hj => ?_⟩
    rw [Nat.zero_add, Lib.bytesWorld_cell w0 5 ⟨l.toArray⟩ j hj]
    simp [List.getD, hj]
  have hmine : Mine (Lib.bytesWorld w0 5 ⟨l.toArray⟩) w0.heap.size l.length := by
    refine ⟨_, _, Lib.bytesWorld_at_new w0 5 ⟨l.toArray⟩, rfl, ?_⟩
    simp [Lib.bytesCells]
  have hbw : Below w0.heap.size w0 (Lib.bytesWorld w0 5 ⟨l.toArray⟩) := ⟨rfl, rfl, rfl, by rw [hbs]; omega, fun k hk => Lib.bytesWorld_at_old w0 5 ⟨l.toArray⟩ k hk⟩
  generalize hW1 : Lib.bytesWorld w0 5 ⟨l.toArray⟩ = W1 at hk2 hbs hnew hmine hbw
  generalize hC1 : grownCap w0 l.length 0 5 = C1 at hk2 hcapge hcaple hnew
  have HN := Lib.hid hnew
  have HM := Lib.hid hmine
  have HB1 := Lib.hid (hb.trans (hbw.mono hs0))
  have hs1 : w.heap.size ≤ W1.heap.size := HB1.out.size
  have hbs' : w0.heap.size < W1.heap.size := by omega
  clear hb hnew hmine hbw hW1 hC1 hsz hbs
  go_wp2_with fail
  refine (Read_any _ l W1 HN.out hlim).mono ?_
  rintro e w2 ⟨R, rfl, hR, hb⟩
  have hBR := hR.base
  have HR := Lib.hid hR
  have HM2 : Hid (Mine w2 w0.heap.size l.length) := by
    obtain ⟨C, mm, hh, h1, h2⟩ := HM.out
    exact ⟨C, mm, (hb.block _ hbs').trans hh, h1, h2⟩
  have HB2 := Lib.hid (HB1.out.trans (hb.mono hs1))
  clear hR hb hk1 hk2 hcapge hcaple
  go_wp2_with fail
  go_loopw [9] (fun i wr => ∃ k : Nat, k ≤ l.length ∧ i = .int .i64 k ∧ Mine wr w0.heap.size l.length ∧ Rd wr W1.heap.size R l 0 false ∧ Below w.heap.size w wr) (fun i _ => l.length - (intOf i).toNat)
  case atStart => exact ⟨0, Nat.zero_le _, rfl, HM2.out, HR.out, HB2.out⟩
  case round =>
    obtain ⟨k, hk, rfl, hM, hR, hb⟩ := hrel
    have HM := Lib.hid hM
    have HR := Lib.hid hR
    have HB3 := Lib.hid hb
    clear hb hR
    by_cases hlt : k < l.length
    · obtain ⟨x, hx, hfz⟩ := hM.cell k hlt
      clear hM
      go_wp2_with fail
      go_roundw
      case rel => exact ⟨k + 1, by omega, by go_num, HM.out.set _ _, HR.out.other ((Only.refl _ _).set _ _) (.inl (by omega)), HB3.out.setCell (by show w.heap.size ≤ w0.heap.size; omega) _⟩
      case measure => simp [intOf]; omega
    · clear hM
      go_wp2_with fail
      go_loopg [10, 11, 12] m (fun g rest ok i ws => ∃ (j at_ : Nat) (f : Bool), j + g = m ∧ i = .int .i64 j ∧ St w l at_ ok rest f ∧ Rd ws W1.heap.size R l at_ f ∧ Below w.heap.size w ws)
      case atStart => exact ⟨0, 0, false, by omega, rfl, .inr ⟨rfl, rfl, HV.out⟩, HR.out, HB3.out⟩
      case round =>
        obtain ⟨j, at_, f, hj, rfl, hst, hR, hb⟩ := hrel
        have HR := Lib.hid hR
        have HB4 := Lib.hid hb
        clear hR hb
        by_cases jm : j < m
        · obtain ⟨hqq, hqb⟩ := HQ.out (by omega)
          subst hqq
          have hask := (HB4.out.cell (p := ⟨b2, o2 + j, none⟩) hqb).trans (HA.out j jm)
          have hgk : 0 < gk := by omega
          have HJ := Lib.hid hj
          clear hj
          go_upto_block 4 with fail
          go_cut [10, 11, 53] (fun rest ok x53 wx => Cr w wx W1.heap.size R l rest ok)
          case first =>
            by_cases o0 : A j = 0
            · have e0 : (A j == 0) = true := by simp [o0]
              clear o0
              as_aux_lemma =>
                rcases hst with ⟨rfl, rfl, rfl⟩ | ⟨rfl, rfl, hX⟩
                · clear HV
                  go_wp2_with fail
                  refine (Get_has _ _ [] (HasA.nil _)).mono ?_
                  rintro e wn ⟨V, N, g, n, rfl, rfl, ⟨p2, n2, c2, rfl⟩, hh⟩
                  rcases hh with ⟨rfl, h0, -⟩ | ⟨rfl, h0⟩
                  · exact absurd h0 (by decide)
                  · clear h0
                    have HR := Lib.hid (HR.out.drewN n)
                    have HB4 := Lib.hid (below_drewN' HB4.out n)
                    go_wp2_with fail
                    refine (Uint_at _ _ R _ at_ true HR.out _ _ _ (rU_failed _ _)).mono ?_
                    rintro e wn ⟨rfl, hR, ho⟩
                    have HR := Lib.hid hR
                    have HB4 := Lib.hid (below_only HB4.out ho (by omega))
                    clear hR ho
                    go_wp2_with fail
                    go_meet
                    exact Cr.bad HR.out HB4.out
                · have HX := Lib.hid hX
                  obtain ⟨px, cx, bx, ox, hxe, -⟩ := hX
                  obtain ⟨n3, hn3⟩ : ∃ n3, n3 = (l.drop at_).length := ⟨_, rfl⟩
                  rw [← hn3] at hxe
                  subst hxe
                  clear hn3
                  go_wp2_with fail
                  refine (Get_has _ _ (l.drop at_) (HX.out.below HB4.out)).mono ?_
                  rintro e wn ⟨V, N, g, n, rfl, rfl, ⟨p2, n2, c2, rfl⟩, hh⟩
                  have HR := Lib.hid (HR.out.drewN n)
                  have HB4 := Lib.hid (below_drewN' HB4.out n)
                  rcases hh with ⟨rfl, h0, hV, hN⟩ | ⟨rfl, h0⟩
                  · subst hV
                    have hnl := num_len (l.drop at_)
                    rw [List.length_drop] at hnl
                    have HU := Lib.hid (rU_fine l at_ h0)
                    have hN1 := hN w HX.out
                    rw [List.drop_drop] at hN1
                    have hle : at_ + (num (l.drop at_)).2 ≤ l.length := by omega
                    have HN := Lib.hid hN1
                    have HLE := Lib.hid hle
                    clear hN1 hN h0 hnl hle
                    go_wp2_with fail
                    refine (Uint_at _ _ R _ at_ false HR.out _ _ _ HU.out).mono ?_
                    rintro e wn ⟨rfl, hR, ho⟩
                    have HR := Lib.hid hR
                    have HB4 := Lib.hid (below_only HB4.out ho (by omega))
                    clear hR ho
                    go_wp2_with fail
                    go_meet
                    exact Cr.good HN.out HLE.out HR.out HB4.out
                  · obtain ⟨a1, hu⟩ := rU_nofine l at_ h0
                    have HU := Lib.hid hu
                    clear hu h0
                    go_wp2_with fail
                    refine (Uint_at _ _ R _ at_ false HR.out _ _ _ HU.out).mono ?_
                    rintro e wn ⟨rfl, hR, ho⟩
                    have HR := Lib.hid hR
                    have HB4 := Lib.hid (below_only HB4.out ho (by omega))
                    clear hR ho
                    go_wp2_with fail
                    go_meet
                    exact Cr.bad HR.out HB4.out
            · by_cases o1 : A j = 1
              · have e0 : (A j == 0) = false := by simp [o0]
                have e1 : (A j == 1) = true := by simp [o1]
                clear o0 o1
                as_aux_lemma =>
                  rcases hst with ⟨rfl, rfl, rfl⟩ | ⟨rfl, rfl, hX⟩
                  · clear HV
                    go_wp2_with fail
                    refine (Small_has _ _ [] (HasA.nil _) most m1 m2).mono ?_
                    rintro e wn ⟨V, p2, n2, c2, g, n, rfl, rfl, hh⟩
                    rcases hh with ⟨rfl, h0, -⟩ | ⟨rfl, h0⟩
                    · exact absurd h0 (fun h => h.1 rfl)
                    · clear h0
                      have HR := Lib.hid (HR.out.drewN n)
                      have HB4 := Lib.hid (below_drewN' HB4.out n)
                      go_wp2_with fail
                      refine (Int_at _ _ R _ at_ true most m1 m2 HR.out _ _ _ (rI_failed _ _ _)).mono ?_
                      rintro e wn ⟨rfl, hR, ho⟩
                      have HR := Lib.hid hR
                      have HB4 := Lib.hid (below_only HB4.out ho (by omega))
                      clear hR ho
                      go_wp2_with fail
                      go_meet
                      exact Cr.bad HR.out HB4.out
                  · have HX := Lib.hid hX
                    obtain ⟨px, cx, bx, ox, hxe, -⟩ := hX
                    obtain ⟨n3, hn3⟩ : ∃ n3, n3 = (l.drop at_).length := ⟨_, rfl⟩
                    rw [← hn3] at hxe
                    subst hxe
                    clear hn3
                    go_wp2_with fail
                    refine (Small_has _ _ (l.drop at_) (HX.out.below HB4.out) most m1 m2).mono ?_
                    rintro e wn ⟨V, p2, n2, c2, g, n, rfl, rfl, hh⟩
                    have HR := Lib.hid (HR.out.drewN n)
                    have HB4 := Lib.hid (below_drewN' HB4.out n)
                    rcases hh with ⟨rfl, h0, hV, hN⟩ | ⟨rfl, h0⟩
                    · subst hV
                      have hnl := num_len (l.drop at_)
                      rw [List.length_drop] at hnl
                      have HU := Lib.hid (rI_fine l at_ most h0)
                      have h01 := h0.1
                      have hN1 := hN w HX.out
                      rw [List.drop_drop] at hN1
                      have hle : at_ + (num (l.drop at_)).2 ≤ l.length := by omega
                      have HN := Lib.hid hN1
                      have HLE := Lib.hid hle
                      clear hN1 hN h0 h01 hnl hle
                      go_wp2_with fail
                      refine (Int_at _ _ R _ at_ false most m1 m2 HR.out _ _ _ HU.out).mono ?_
                      rintro e wn ⟨rfl, hR, ho⟩
                      have HR := Lib.hid hR
                      have HB4 := Lib.hid (below_only HB4.out ho (by omega))
                      clear hR ho
                      go_wp2_with fail
                      go_meet
                      exact Cr.good HN.out HLE.out HR.out HB4.out
                    · obtain ⟨a1, hu⟩ := rI_nofine l at_ most h0
                      have HU := Lib.hid hu
                      clear hu h0
                      go_wp2_with fail
                      refine (Int_at _ _ R _ at_ false most m1 m2 HR.out _ _ _ HU.out).mono ?_
                      rintro e wn ⟨rfl, hR, ho⟩
                      have HR := Lib.hid hR
                      have HB4 := Lib.hid (below_only HB4.out ho (by omega))
                      clear hR ho
                      go_wp2_with fail
                      go_meet
                      exact Cr.bad HR.out HB4.out
              · by_cases o2' : A j = 2
                · have e0 : (A j == 0) = false := by simp [o0]
                  have e1 : (A j == 1) = false := by simp [o1]
                  have e2 : (A j == 2) = true := by simp [o2']
                  clear o0 o1 o2'
                  as_aux_lemma =>
                    rcases hst with ⟨rfl, rfl, rfl⟩ | ⟨rfl, rfl, hX⟩
                    · clear HV
                      go_wp2_with fail
                      refine (String_has _ _ [] (HasA.nil _) most m1 m2).mono ?_
                      rintro e wn ⟨V, p2, n2, c2, g, n, rfl, rfl, hh⟩
                      rcases hh with ⟨rfl, h0, -⟩ | ⟨rfl, h0⟩
                      · exact absurd h0 (fun h => h.1.1 rfl)
                      · clear h0
                        have HR := Lib.hid (HR.out.drewN n)
                        have HB4 := Lib.hid (below_drewN' HB4.out n)
                        go_wp2_with fail
                        refine (Text_at _ _ R _ at_ true most m1 m2 HR.out _ _ _ (rT_failed _ _ _)).mono ?_
                        rintro e wn ⟨rfl, hR, ho⟩
                        have HR := Lib.hid hR
                        have HB4 := Lib.hid (below_only HB4.out ho (by omega))
                        clear hR ho
                        go_wp2_with fail
                        go_meet
                        exact Cr.bad HR.out HB4.out
                    · have HX := Lib.hid hX
                      obtain ⟨px, cx, bx, ox, hxe, -⟩ := hX
                      obtain ⟨n3, hn3⟩ : ∃ n3, n3 = (l.drop at_).length := ⟨_, rfl⟩
                      rw [← hn3] at hxe
                      subst hxe
                      clear hn3
                      go_wp2_with fail
                      refine (String_has _ _ (l.drop at_) (HX.out.below HB4.out) most m1 m2).mono ?_
                      rintro e wn ⟨V, p2, n2, c2, g, n, rfl, rfl, hh⟩
                      have HR := Lib.hid (HR.out.drewN n)
                      have HB4 := Lib.hid (below_drewN' HB4.out n)
                      rcases hh with ⟨rfl, h0, hV, hN⟩ | ⟨rfl, h0⟩
                      · subst hV
                        have hnl := num_len (l.drop at_)
                        rw [List.length_drop] at hnl
                        have HU := Lib.hid (rT_fine l at_ most h0)
                        have hN1 := hN w HX.out
                        rw [List.drop_drop] at hN1
                        have hfl := h0.2
                        have h01 := h0.1.1
                        rw [List.length_drop] at hfl
                        have hle : at_ + ((num (l.drop at_)).2 + (num (l.drop at_)).1) ≤ l.length := by omega
                        have HN := Lib.hid hN1
                        have HLE := Lib.hid hle
                        clear hN1 hN h0 h01 hnl hfl hle
                        generalize hY : (((l.drop at_).drop (num (l.drop at_)).2).take (num (l.drop at_)).1) = Y at HU ⊢
                        clear hY
                        go_wp2_with fail
                        refine (Text_at _ _ R _ at_ false most m1 m2 HR.out _ _ _ HU.out).mono ?_
                        rintro e wn ⟨rfl, hR, ho⟩
                        have HR := Lib.hid hR
                        have HB4 := Lib.hid (below_only HB4.out ho (by omega))
                        clear hR ho
                        go_wp2_with fail
                        go_meet
                        exact Cr.good HN.out HLE.out HR.out HB4.out
                      · obtain ⟨a1, hu⟩ := rT_nofine l at_ most h0
                        have HU := Lib.hid hu
                        clear hu h0
                        go_wp2_with fail
                        refine (Text_at _ _ R _ at_ false most m1 m2 HR.out _ _ _ HU.out).mono ?_
                        rintro e wn ⟨rfl, hR, ho⟩
                        have HR := Lib.hid hR
                        have HB4 := Lib.hid (below_only HB4.out ho (by omega))
                        clear hR ho
                        go_wp2_with fail
                        go_meet
                        exact Cr.bad HR.out HB4.out
                · have e0 : (A j == 0) = false := by simp [o0]
                  have e1 : (A j == 1) = false := by simp [o1]
                  have e2 : (A j == 2) = false := by simp [o2']
                  clear o0 o1 o2'
                  as_aux_lemma =>
                    rcases hst with ⟨rfl, rfl, rfl⟩ | ⟨rfl, rfl, hX⟩
                    · clear HV
                      go_wp2_with fail
                      refine (Byte_at _ _ R _ at_ true HR.out _ _ _ (rB_failed _ _)).mono ?_
                      rintro e wn ⟨rfl, hR, ho⟩
                      have HR := Lib.hid hR
                      have HB4 := Lib.hid (below_only HB4.out ho (by omega))
                      clear hR ho
                      go_wp2_with fail
                      go_meet
                      exact Cr.bad HR.out HB4.out
                    · have HX := Lib.hid hX
                      by_cases hat : at_ < l.length
                      · have HU := Lib.hid (show rB l at_ false = (l[at_].toNat, at_ + 1, false) from dif_pos ⟨rfl, hat⟩)
                        have hdl : 1 ≤ (l.drop at_).length := by rw [List.length_drop]; omega
                        obtain ⟨p1, n1, c1, hs1, hn1, hN⟩ := hX.from 1 1 rfl hdl
                        have hN1 := hN w hX
                        rw [List.drop_drop] at hN1
                        have HN := Lib.hid hN1
                        obtain ⟨px, cx, bx, ox, hxe, hk1, hk2, hpx, hcx⟩ := hX
                        obtain ⟨rfl, hbx⟩ := hpx (by omega)
                        have hl1 := (HB4.out.cell (p := ⟨bx, ox + 0, none⟩) hbx).trans (hcx 0 (by omega))
                        rw [List.getElem_drop] at hl1
                        simp only [Nat.add_zero] at hl1
                        obtain ⟨dn, hdn⟩ : ∃ dn, dn = (l.drop at_).length := ⟨_, rfl⟩
                        rw [← hdn] at hxe hdl hk1 hn1
                        subst hxe
                        have hdp : decide ((0 : Int) < (dn : Int)) = true := by simp; omega
                        have hdp2 : 0 < dn := by omega
                        have hdm : dn ≤ 9223372036854775807 := by unfold maxLen at hk2; omega
                        have HLE := Lib.hid (show at_ + 1 ≤ l.length from hat)
                        generalize hby : l[at_].toNat = by_ at HU hl1
                        clear hN hN1 hdn hby hcx hpx hk1 hk2 hn1 hdl HX hdm
                        go_wp2_with fail
                        refine (Byte_at _ _ R _ at_ false HR.out _ _ _ HU.out).mono ?_
                        rintro e wn ⟨rfl, hR, ho⟩
                        have HR := Lib.hid hR
                        have HB4 := Lib.hid (below_only HB4.out ho (by omega))
                        clear hR ho
                        go_wp2_with fail
                        go_meet
                        exact Cr.good HN.out HLE.out HR.out HB4.out
                      · have HU := Lib.hid (show rB l at_ false = (0, at_, true) from dif_neg (by simp; omega))
                        have hlz : (l.drop at_).length = 0 := by rw [List.length_drop]; omega
                        obtain ⟨px, cx, bx, ox, hxe, -⟩ := hX
                        rw [hlz] at hxe
                        subst hxe
                        clear hlz
                        go_wp2_with fail
                        refine (Byte_at _ _ R _ at_ false HR.out _ _ _ HU.out).mono ?_
                        rintro e wn ⟨rfl, hR, ho⟩
                        have HR := Lib.hid hR
                        have HB4 := Lib.hid (below_only HB4.out ho (by omega))
                        clear hR ho
                        go_wp2_with fail
                        go_meet
                        exact Cr.bad HR.out HB4.out
          case rest =>
            obtain ⟨a1, f1, hst, hR, hb⟩ := hcut
            have HR := Lib.hid hR
            have HB4 := Lib.hid hb
            clear hR hb HV
            rcases hst with ⟨rfl, rfl⟩ | ⟨rfl, rfl, hle, hX⟩
            · as_aux_lemma =>
                go_wp2_with fail
                refine (Left_at _ _ R _ a1 true HR.out 0 (if_pos rfl)).mono ?_
                rintro e wn ⟨rfl, hR, ho⟩
                have HR := Lib.hid hR
                have HB4 := Lib.hid (below_only HB4.out ho (by omega))
                clear hR ho
                go_wp2_with fail
                refine (Err_at _ _ R _ a1 true HR.out 14 (by decide)).mono ?_
                rintro e wn ⟨rfl, hR, ho⟩
                have HR := Lib.hid hR
                have HB4 := Lib.hid (below_only HB4.out ho (by omega))
                clear hR ho
                go_wp2_with fail
                refine (End_at _ _ R _ a1 true HR.out 14 (if_pos (.inl rfl))).mono ?_
                rintro e wn ⟨rfl, hR, ho⟩
                have HR := Lib.hid hR
                have HB4 := Lib.hid (below_only HB4.out ho (by omega))
                clear hR ho
                go_wp2_with fail
                refine (Err_at _ _ R _ a1 true HR.out 14 (by decide)).mono ?_
                rintro e wn ⟨rfl, hR, ho⟩
                have HR := Lib.hid hR
                have HB4 := Lib.hid (below_only HB4.out ho (by omega))
                clear hR ho
                go_wp2_with fail
                go_roundg (gk - 1)
                case measure => omega
                case rel => exact ⟨j + 1, a1, true, by have := HJ.out; omega, by go_num, .inl ⟨rfl, rfl, rfl⟩, HR.out, HB4.out⟩
            · have HN := Lib.hid hX
              have hn2 := HN.out
              obtain ⟨p2, c2, b3, o3, rfl, -⟩ := hn2
              have hn2 : (l.drop a1).length = l.length - a1 := List.length_drop
              obtain ⟨n2, hN2⟩ : ∃ n2, n2 = (l.drop a1).length := ⟨_, rfl⟩
              rw [← hN2] at hn2 ⊢
              have HN := Lib.hid (show HasA w (.slice p2 n2 c2) (l.drop a1) from hN2 ▸ HN.out)
              clear hN2 hX
              have hl2 : ((l.length : Int) - ((a1 : Nat) : Int)) = (n2 : Int) := by omega
              have HL2 := Lib.hid hl2
              clear hl2
              by_cases atEnd : n2 = 0
              · as_aux_lemma =>
                  have he0 : ((n2 : Int) == 0) = true := by simp [atEnd]
                  have he1 : decide ((0 : Int) < (n2 : Int)) = false := by simp; omega
                  have he2 : decide (0 < n2) = false := by simp; omega
                  have HE := Lib.hid (show eV l (a1) false = 0 from if_neg (by simp; omega))
                  have HN2 := Lib.hid hn2
                  clear hn2 atEnd
                  go_wp2_with fail
                  refine (Left_at _ _ R _ (a1) false HR.out (n2 : Int) (by rw [← HL2.out]; rfl)).mono ?_
                  rintro e wn ⟨rfl, hR, ho⟩
                  have HR := Lib.hid hR
                  have HB4 := Lib.hid (below_only HB4.out ho (by omega))
                  clear hR ho
                  go_wp2_with fail
                  refine (Err_at _ _ R _ (a1) false HR.out 0 (by decide)).mono ?_
                  rintro e wn ⟨rfl, hR, ho⟩
                  have HR := Lib.hid hR
                  have HB4 := Lib.hid (below_only HB4.out ho (by omega))
                  clear hR ho
                  go_wp2_with fail
                  refine (End_at _ _ R _ (a1) false HR.out 0 HE.out).mono ?_
                  rintro e wn ⟨rfl, hR, ho⟩
                  have HR := Lib.hid hR
                  have HB4 := Lib.hid (below_only HB4.out ho (by omega))
                  clear hR ho
                  go_wp2_with fail
                  go_roundg (gk - 1)
                  case measure => omega
                  case rel => exact ⟨j + 1, a1, false, by have := HJ.out; omega, by go_num, .inr ⟨rfl, rfl, HN.out⟩, HR.out, HB4.out⟩
              · as_aux_lemma =>
                  have he0 : ((n2 : Int) == 0) = false := by simp; omega
                  have he1 : decide ((0 : Int) < (n2 : Int)) = true := by simp; omega
                  have he2 : 0 < n2 := by omega
                  have HE := Lib.hid (show eV l (a1) false = 14 from if_pos (.inr (by omega)))
                  have HN2 := Lib.hid hn2
                  clear hn2 atEnd
                  go_wp2_with fail
                  refine (Left_at _ _ R _ (a1) false HR.out (n2 : Int) (by rw [← HL2.out]; rfl)).mono ?_
                  rintro e wn ⟨rfl, hR, ho⟩
                  have HR := Lib.hid hR
                  have HB4 := Lib.hid (below_only HB4.out ho (by omega))
                  clear hR ho
                  go_wp2_with fail
                  refine (Err_at _ _ R _ (a1) false HR.out 0 (by decide)).mono ?_
                  rintro e wn ⟨rfl, hR, ho⟩
                  have HR := Lib.hid hR
                  have HB4 := Lib.hid (below_only HB4.out ho (by omega))
                  clear hR ho
                  go_wp2_with fail
                  refine (End_at _ _ R _ (a1) false HR.out 14 HE.out).mono ?_
                  rintro e wn ⟨rfl, hR, ho⟩
                  have HR := Lib.hid hR
                  have HB4 := Lib.hid (below_only HB4.out ho (by omega))
                  clear hR ho
                  go_wp2_with fail
                  refine (End_at _ _ R _ (a1) false HR.out 14 HE.out).mono ?_
                  rintro e wn ⟨rfl, hR, ho⟩
                  have HR := Lib.hid hR
                  have HB4 := Lib.hid (below_only HB4.out ho (by omega))
                  clear hR ho
                  go_wp2_with fail
                  go_roundg (gk - 1)
                  case measure => omega
                  case rel => exact ⟨j + 1, a1, false, by have := HJ.out; omega, by go_num, .inr ⟨rfl, rfl, HN.out⟩, HR.out, HB4.out⟩
        · go_wp2_with fail
          go_ret
          exact ⟨rfl, HB4.out⟩
end Go.Proofs.Ytlmpokkpkglbfaa.binReads
