/-
  Layer 13's law: bytes and DotBytes walked.
-/
import Derived.Test.YtfgfamafjkjakaaDotOf
import Derived.Test.YtfgfamafjkjakaaDotDecA
import Derived.Test.YtfgfamafjkjakaaDotBack
import Derived.Laws.OwnMore
namespace Go.Proofs.Ytfgfamafjkjakaa
open Go.ChangeShapes Go.WideShapes Go.ChangeAt Go.RowKit Go.Deep
set_option linter.unusedVariables false
set_option linter.unusedSimpArgs false
theorem Own.store {w : World} {B : Nat} {e : TypeId} {g n cap : Nat} {l : List UInt8} (h : Own w B e (.slice (some ⟨g, 0, none⟩) n cap) l) (hn : n = l.length) (j : Nat) (y : UInt8) :
    Own (w.setCell ⟨g, j, none⟩ (.int .u8 (y.toNat : Int))) B e (.slice (some ⟨g, 0, none⟩) n cap) (l.set j y) := by
  subst hn
  have h1 := (World.ownsRow.stored h j (.int .u8 (y.toNat : Int))).1
  have h2 : (Lib.byteCells l).set j (.int .u8 (y.toNat : Int)) = Lib.byteCells (l.set j y) := by unfold Lib.byteCells; rw [List.map_set]
  rw [h2] at h1
  unfold Own
  rw [List.length_set]
  exact h1
theorem Own.place {w : World} {B : Nat} {e : TypeId} {v : Value} {l : List UInt8} (h : Own w B e v l) (h0 : 0 < l.length) : ∃ g cap, v = .slice (some ⟨g, 0, none⟩) l.length cap ∧ B ≤ g ∧ g < w.heap.size ∧ l.length ≤ cap ∧ (cap : Int) ≤ 9223372036854775807 ∧ Hid (∀ j (h : j < l.length), w.cell? ⟨g, j, none⟩ = some (.int .u8 (l[j].toNat : Int)) ∧ w.frozen? ⟨g, j, none⟩ = false) := by
  have hlt := World.ownsRow.lt h
  have hfr := fun {g cap : Nat} (hv : v = .slice (some ⟨g, 0, none⟩) l.length cap) (j : Nat) => World.ownsRow.frozenAt (hv ▸ h : w.ownsRow B e 1 (.slice (some ⟨g, 0, none⟩) l.length cap) l.length (Lib.byteCells l)) j
  have hca := fun {g cap : Nat} (hv : v = .slice (some ⟨g, 0, none⟩) l.length cap) (j : Nat) (hj : j < l.length) => World.ownsRow.cellAt (hv ▸ h : w.ownsRow B e 1 (.slice (some ⟨g, 0, none⟩) l.length cap) l.length (Lib.byteCells l)) j (by omega)
  rcases h.2 with ⟨_, h1⟩ | ⟨g, cap, cur, hv, hg, hh, h1, h2, _⟩
  · omega
  · refine ⟨g, cap, hv, hg, lt_of_block hh, h1, by unfold maxLen at h2; omega, fun j hj => ⟨?_, hfr hv j⟩⟩
    rw [hca hv j hj]
    exact byteCells_get hj
theorem xor_byte (x : UInt8) (by_ : Int) (h : 0 ≤ by_ ∧ by_ ≤ 255) : ∃ y : UInt8, bits .xor .u8 (x.toNat : Int) by_ = (y.toNat : Int) ∧ y.toNat = x.toNat ^^^ by_.toNat := by
  have hx := x.toNat_lt
  have hlt : x.toNat ^^^ by_.toNat < 256 := Nat.xor_lt_two_pow (n := 8) (by omega) (by omega)
  refine ⟨UInt8.ofNat (x.toNat ^^^ by_.toNat), ?_, ?_⟩
  · rw [u8_xor _ _ (by omega) (by omega) (by omega) (by omega), UInt8.toNat_ofNat']
    simp only [Int.toNat_natCast]
    omega
  · rw [UInt8.toNat_ofNat']; omega
set_option maxRecDepth 100000 in
set_option maxHeartbeats 16000000 in
theorem bytes_any (v : Value) (l : List UInt8) (w : World) (hv : HasA w v l) (hlim : l.length ≤ 140737488355328) :
    Calls Try.prog 25 #[v] w fun e w' => e = .returned (.bool true) ∧ Below w.heap.size w w' := by
  have HV := Lib.hid hv
  clear hv
  go_enter Try.func25, Try.ntmps25
  go_wp2_with fail
  obtain ⟨o, ho⟩ : ∃ o, rDec l = o := ⟨_, rfl⟩
  refine (DecodeA_any v l w HV.out hlim).mono ?_
  rw [ho]
  rcases o with _ | g
  · rintro e w1 ⟨hb, rfl⟩
    have HB := Lib.hid hb
    clear hb ho
    go_wp2
    go_ret
    exact ⟨rfl, HB.out⟩
  · rintro e w1 ⟨hb, S, rfl, hSS, hs⟩
    have HE := Lib.hid (rDec_back ho)
    have HB := Lib.hid hb
    have HS := Lib.hid hs
    have HV1 := Lib.hid (HV.out.below hb)
    clear hb ho hs hSS
    go_upto_region 4 with fail
    refine wp_region_held_drew (S := fun W => HasA W v l ∧ Below w.heap.size w W) (by kernel_rfl) ⟨HV1.out.below ((Below.refl _ _).drew), HB.out.trans (((Below.refl _ _).drew).mono HB.out.size)⟩ (fun hHeld => ?_)
    refine wpAnyH_take (i := 0) (oi := _) (v := ?_) rfl (by kernel_rfl) (by kernel_rfl) (by kernel_rfl) (fun _ _ _ h => h) (Or.inl ⟨by kernel_rfl, ?hy1⟩) (by assumption) ?_
    case hy1 =>
      intro w9 hSw
      try dsimp only at hSw
      try simp only [List.getElem_toArray, List.getElem_cons_zero, List.getElem_cons_succ]
      go_simp
      try with_reducible rfl
    try simp only [Act.put, List.setIfInBounds_toArray, List.set_cons_zero, List.set_cons_succ, List.getElem_toArray, List.getElem_cons_zero, List.getElem_cons_succ]
    refine wpAnyH_take (i := 1) (oi := _) (v := ?_) rfl (by kernel_rfl) (by kernel_rfl) (by kernel_rfl) (fun _ _ _ h => h) (Or.inl ⟨by kernel_rfl, ?hy2⟩) (by assumption) ?_
    case hy2 =>
      intro w9 hSw
      try dsimp only at hSw
      try simp only [List.getElem_toArray, List.getElem_cons_zero, List.getElem_cons_succ]
      go_simp
      try with_reducible rfl
    try simp only [Act.put, List.setIfInBounds_toArray, List.set_cons_zero, List.set_cons_succ, List.getElem_toArray, List.getElem_cons_zero, List.getElem_cons_succ]
    refine wpAnyH_take (i := 2) (oi := _) (v := ?_) rfl (by kernel_rfl) (by kernel_rfl) (by kernel_rfl) (fun _ _ _ h => h) (Or.inl ⟨by kernel_rfl, ?hy3⟩) (by assumption) ?_
    case hy3 =>
      intro w9 hSw
      try dsimp only at hSw
      try simp only [List.getElem_toArray, List.getElem_cons_zero, List.getElem_cons_succ]
      go_simp
      try with_reducible rfl
    try simp only [Act.put, List.setIfInBounds_toArray, List.set_cons_zero, List.set_cons_succ, List.getElem_toArray, List.getElem_cons_zero, List.getElem_cons_succ]
    refine wpAnyH_take (i := 3) (oi := _) (v := ?_) rfl (by kernel_rfl) (by kernel_rfl) (by kernel_rfl) (fun _ _ _ h => h) (Or.inl ⟨by kernel_rfl, ?hy4⟩) (by assumption) ?_
    case hy4 =>
      intro w9 hSw
      try dsimp only at hSw
      try simp only [List.getElem_toArray, List.getElem_cons_zero, List.getElem_cons_succ]
      go_simp
      try with_reducible rfl
    try simp only [Act.put, List.setIfInBounds_toArray, List.set_cons_zero, List.set_cons_succ, List.getElem_toArray, List.getElem_cons_zero, List.getElem_cons_succ]
    refine wpAnyH_take (i := 6) (oi := _) (v := ?_) rfl (by kernel_rfl) (by kernel_rfl) (by kernel_rfl) (fun _ _ _ h => h) (Or.inl ⟨by kernel_rfl, ?hy5⟩) (by assumption) ?_
    case hy5 =>
      intro w9 hSw
      try dsimp only at hSw
      try simp only [List.getElem_toArray, List.getElem_cons_zero, List.getElem_cons_succ]
      go_simp
      try with_reducible rfl
    try simp only [Act.put, List.setIfInBounds_toArray, List.set_cons_zero, List.set_cons_succ, List.getElem_toArray, List.getElem_cons_zero, List.getElem_cons_succ]
    refine wpAnyH_take (i := 7) (oi := _) (v := (.string ⟨l.toArray⟩)) rfl (by kernel_rfl) (by kernel_rfl) (by kernel_rfl) (fun _ _ _ h => h) (Or.inl ⟨by kernel_rfl, ?hy6⟩) (by assumption) ?_
    case hy6 =>
      intro w9 hSw
      try dsimp only at hSw
      try simp only [List.getElem_toArray, List.getElem_cons_zero, List.getElem_cons_succ]
      go_simp
      have hcv : (convert 28 9 v).run Try.prog w9 = .ok (.string ⟨l.toArray⟩) w9 := HasA.string (w := w9) hSw.1 0
      rw [hcv]
      rfl
    try simp only [Act.put, List.setIfInBounds_toArray, List.set_cons_zero, List.set_cons_succ, List.getElem_toArray, List.getElem_cons_zero, List.getElem_cons_succ]
    refine wpAnyH_ready (rs := [4]) (by kernel_rfl) (by simp) (AllReadyH.cons (o := _) rfl (fun K hK => ?_) AllReadyH.nil)
    try simp only [List.getElem_toArray, List.getElem_cons_zero, List.getElem_cons_succ]
    go_simp
    refine (Encode_any S g _ (HS.out.below ((Below.refl _ _).drew))).mono ?_
    rw [HE.out]
    rintro e w5 ⟨v5, rfl, ho5, hb5⟩
    refine hK.out _ _ (⟨hHeld.1.below hb5, hHeld.2.trans (hb5.mono hHeld.2.size)⟩) (fun hHeld => ?_)
    clear hK K
    try simp only [Act.put, List.setIfInBounds_toArray, List.set_cons_zero, List.set_cons_succ, List.getElem_toArray, List.getElem_cons_zero, List.getElem_cons_succ]
    have hcv5 : (convert 28 9 v5).run Try.prog w5 = .ok (.string ⟨l.toArray⟩) w5 := HasA.string (w := w5) ho5.has0 0
    refine wpAnyH_ready (rs := [5]) (by kernel_rfl) (by simp) (AllReadyH.cons (o := _) rfl (fun K hK => ?_) AllReadyH.nil)
    try simp only [List.getElem_toArray, List.getElem_cons_zero, List.getElem_cons_succ]
    go_simp
    refine hK.out _ _ (hHeld) (fun hHeld => ?_)
    clear hK K
    try simp only [Act.put, List.setIfInBounds_toArray, List.set_cons_zero, List.set_cons_succ, List.getElem_toArray, List.getElem_cons_zero, List.getElem_cons_succ]
    refine wpAnyH_take (i := 8) (oi := _) (v := ?_) rfl (by kernel_rfl) (by kernel_rfl) (by kernel_rfl) (fun _ _ _ h => h) (Or.inl ⟨by kernel_rfl, ?hy7⟩) (by assumption) ?_
    case hy7 =>
      intro w9 hSw
      try dsimp only at hSw
      try simp only [List.getElem_toArray, List.getElem_cons_zero, List.getElem_cons_succ]
      go_simp
      try with_reducible rfl
    try simp only [Act.put, List.setIfInBounds_toArray, List.set_cons_zero, List.set_cons_succ, List.getElem_toArray, List.getElem_cons_zero, List.getElem_cons_succ]
    refine wpAnyH_take (i := 9) (oi := _) (v := ?_) rfl (by kernel_rfl) (by kernel_rfl) (by kernel_rfl) (fun _ _ _ h => h) (Or.inl ⟨by kernel_rfl, ?hy8⟩) (by assumption) ?_
    case hy8 =>
      intro w9 hSw
      try dsimp only at hSw
      try simp only [List.getElem_toArray, List.getElem_cons_zero, List.getElem_cons_succ]
      go_simp
      try with_reducible rfl
    try simp only [Act.put, List.setIfInBounds_toArray, List.set_cons_zero, List.set_cons_succ, List.getElem_toArray, List.getElem_cons_zero, List.getElem_cons_succ]
    refine wpAnyH_take (i := 10) (oi := _) (v := ?_) rfl (by kernel_rfl) (by kernel_rfl) (by kernel_rfl) (fun _ _ _ h => h) (Or.inl ⟨by kernel_rfl, ?hy9⟩) (by assumption) ?_
    case hy9 =>
      intro w9 hSw
      try dsimp only at hSw
      try simp only [List.getElem_toArray, List.getElem_cons_zero, List.getElem_cons_succ]
      go_simp
      try with_reducible rfl
    try simp only [Act.put, List.setIfInBounds_toArray, List.set_cons_zero, List.set_cons_succ, List.getElem_toArray, List.getElem_cons_zero, List.getElem_cons_succ]
    refine wpAnyH_done (by kernel_rfl) ?_ _
    have HH := Lib.hid hHeld.2
    clear hHeld hcv5 ho5 hb5
    go_wp2
    go_ret
    exact ⟨rfl, HH.out⟩
set_option maxRecDepth 100000 in
set_option maxHeartbeats 32000000 in
theorem DotBytes_any (v : Value) (b : List UInt8) (p : Option Addr) (n cap g o : Nat) (D : Nat → Int) (N : Nat → Nat) (at_ by_ : Int) (w : World) (hv : HasA w v b) (hlim : b.length ≤ 140737488355328) (hp : 0 < n → p = some ⟨g, o, none⟩) (hnc : n ≤ cap) (hcap : cap ≤ maxLen) (hD : Dots w g o n D N) (hat : (Lit.int .i64 at_).wf = true) (hby : (Lit.int .u8 by_).wf = true) :
    Calls Try.prog 6 #[v, .slice p n cap, .int .i64 at_, .int .u8 by_] w fun e w' => e = .returned (.bool true) ∧ Below w.heap.size w w' := by
  have hcc : -9223372036854775808 ≤ at_ ∧ at_ ≤ 9223372036854775807 := by
    have e1 : IntKind.i64.min = -9223372036854775808 := by decide
    have h : IntKind.i64.min ≤ at_ ∧ at_ ≤ 9223372036854775807 := by simpa [Lit.wf] using hat
    rw [e1] at h
    exact h
  have hbb : 0 ≤ by_ ∧ by_ ≤ 255 := by
    have e1 : IntKind.u8.min = 0 := by decide
    have e2 : IntKind.u8.max = 255 := by decide
    have h : IntKind.u8.min ≤ by_ ∧ by_ ≤ IntKind.u8.max := by simpa [Lit.wf] using hby
    rw [e1, e2] at h
    exact h
  obtain ⟨hc1, hc2⟩ := hcc
  obtain ⟨hb1, hb2⟩ := hbb
  have HD := Lib.hid hD
  have HP := Lib.hid hp
  have HV := Lib.hid hv
  have hcI : (n : Int) ≤ 9223372036854775807 := by unfold maxLen at hcap; omega
  clear hD hp hcap hat hby hv
  go_enter Try.func6, Try.ntmps6
  go_wp2_with fail
  refine (Awake_any w).mono ?_
  rintro e w1 ⟨rfl, hb1'⟩
  have HB1 := Lib.hid hb1'
  clear hb1'
  go_wp2_with fail
  refine (bytes_any v b w1 (HV.out.below HB1.out) hlim).mono ?_
  rintro e w2 ⟨rfl, hb2'⟩
  have HB2 := Lib.hid (HB1.out.trans (hb2'.mono HB1.out.size))
  clear hb2'
  rcases Nat.lt_or_ge 40 n with h40 | h40
  · have h40I : (40 : Int) < (n : Int) := by omega
    go_wp2
    go_ret
    exact ⟨rfl, HB2.out⟩
  have h40I : ¬ (40 : Int) < (n : Int) := by omega
  go_wp2_with fail
  refine (Of_any p n cap g o D N w2 HP.out (by omega) (HD.out.below HB2.out)).mono ?_
  rintro e w3 ⟨lv, rfl, hs3, -, hb3⟩
  obtain ⟨S, hS⟩ : ∃ S, w2.heap.size = S := ⟨_, rfl⟩
  obtain ⟨F, hF⟩ : ∃ F, ofF D N n = F := ⟨_, rfl⟩
  rw [hS, hF] at hs3
  rw [hS] at ⊢
  have HS3 := Lib.hid hs3
  have HB3 := Lib.hid (HB2.out.trans (hb3.mono HB2.out.size))
  clear hs3 hb3 hS hF
  go_wp2_with fail
  refine (Encode_any S F w3 HS3.out).mono ?_
  rintro e w4 ⟨v4, rfl, ho4, hb4⟩
  have hel : (encS F).length ≤ 10 + (partsS F).length * 41000 := encParts_len (partsUpto_len F 16) (parts_ok HS3.out) _ (Nat.le_refl _)
  have hpl : (partsS F).length ≤ 16 := partsUpto_len F 16
  obtain ⟨X, hX⟩ : ∃ X, encS F = X := ⟨_, rfl⟩
  rw [hX] at ho4 hel
  have hXl : X.length ≤ 1000000 := by omega
  have HO4 := Lib.hid (ho4.mono (B' := w.heap.size) HB3.out.size)
  have HB4 := Lib.hid (HB3.out.trans (hb4.mono HB3.out.size))
  clear ho4 hb4 hel hpl hX
  obtain ⟨p4, cap4, rfl, hk4, hm4⟩ := HO4.out.has.form
  obtain ⟨m, hm⟩ : ∃ m, X.length = m := ⟨_, rfl⟩
  have HO4' : Hid (Own w4 w.heap.size 5 (.slice p4 m cap4) X) := by rw [← hm]; exact HO4
  rw [hm] at hk4 ⊢
  have HM := Lib.hid hm
  have hmI : (m : Int) ≤ 1000000 := by omega
  have hcapI : (cap4 : Int) ≤ 9223372036854775807 := by unfold maxLen at hm4; omega
  clear hm HO4 hm4
  by_cases ha0 : at_ < 0
  · have ha0' : ¬ (0 : Int) ≤ at_ := by omega
    go_wp2_with fail
    refine (bytes_any _ X w4 HO4'.out.has.wide (by omega)).mono ?_
    rintro e w5 ⟨rfl, hb5⟩
    have HB5 := Lib.hid (HB4.out.trans (hb5.mono HB4.out.size))
    clear hb5
    go_wp2_with fail
    go_ret
    exact ⟨rfl, HB5.out⟩
  · have ha0' : (0 : Int) ≤ at_ := by omega
    by_cases ha1 : at_ < (m : Int)
    · obtain ⟨A, rfl⟩ : ∃ A : Nat, at_ = (A : Int) := ⟨at_.toNat, by omega⟩
      have hA : A < X.length := by rw [HM.out]; omega
      have hown : Own w4 w.heap.size 5 (.slice p4 X.length cap4) X := by rw [HM.out]; exact HO4'.out
      obtain ⟨G, cap, hpl, hgB, hgl, hk5, hm5, HC5⟩ := hown.place (by omega)
      simp only [Value.slice.injEq] at hpl
      obtain ⟨rfl, -, rfl⟩ := hpl
      obtain ⟨hcA, hfA⟩ := HC5.out A hA
      obtain ⟨y, hy⟩ : ∃ y : UInt8, bits .xor .u8 ((X[A]).toNat : Int) by_ = (y.toNat : Int) := by
        obtain ⟨y, hy, _⟩ := xor_byte (X[A]) by_ ⟨by omega, by omega⟩
        exact ⟨y, hy⟩
      have hst : Own (w4.setCell ⟨G, A, none⟩ (.int .u8 (y.toNat : Int))) w.heap.size 5 (.slice (some ⟨G, 0, none⟩) m cap4) (X.set A y) := HO4'.out.store HM.out.symm A y
      have HST := Lib.hid hst
      have HBS := Lib.hid (HB4.out.setCell (p := ⟨G, A, none⟩) hgB (.int .u8 (y.toNat : Int)))
      generalize (X[A]).toNat = xn at hcA hy
      clear hst hA hown
      go_wp2_with fail
      refine (bytes_any _ (X.set A y) _ HST.out.has.wide (by rw [List.length_set]; omega)).mono ?_
      rintro e w5 ⟨rfl, hb5⟩
      have HB5 := Lib.hid (HBS.out.trans (hb5.mono HBS.out.size))
      clear hb5
      go_wp2_with fail
      go_ret
      exact ⟨rfl, HB5.out⟩
    · go_wp2_with fail
      refine (bytes_any _ X w4 HO4'.out.has.wide (by omega)).mono ?_
      rintro e w5 ⟨rfl, hb5⟩
      have HB5 := Lib.hid (HB4.out.trans (hb5.mono HB4.out.size))
      clear hb5
      go_wp2_with fail
      go_ret
      exact ⟨rfl, HB5.out⟩
end Go.Proofs.Ytfgfamafjkjakaa
