/-
  Package dot: a set read from bytes.
-/
import Derived.Test.YtfgfamafjkjakaaDotReadN
namespace Go.Proofs.Ytfgfamafjkjakaa
open Go.ChangeShapes Go.WideShapes Go.ChangeAt Go.RowKit Go.Deep
set_option linter.unusedVariables false
set_option linter.unusedSimpArgs false
/-- The devices, one behind another. -/
def dStep (l : List UInt8) : Nat → Nat → Bool → Nat → List Nm → Option (List Nm × Nat × Bool)
  | 0, at_, f, least, g => some (g, at_, f)
  | c + 1, at_, f, least, g =>
    if (rNum l (rI l at_ f 15).2.1 (rI l at_ f 15).2.2).1.2 = false ∨ (rI l at_ f 15).1 < least then none
    else dStep l c (rNum l (rI l at_ f 15).2.1 (rI l at_ f 15).2.2).2.1 (rNum l (rI l at_ f 15).2.1 (rI l at_ f 15).2.2).2.2 ((rI l at_ f 15).1 + 1) (g.set (rI l at_ f 15).1 (rNum l (rI l at_ f 15).2.1 (rI l at_ f 15).2.2).1.1)
theorem dStep_bad {l : List UInt8} {c at_ : Nat} {f : Bool} {least : Nat} {g : List Nm} {d a1 : Nat} {f1 : Bool} {q : Nm} {ok : Bool} {a2 : Nat} {f2 : Bool} (h1 : rI l at_ f 15 = (d, a1, f1)) (h2 : rNum l a1 f1 = ((q, ok), a2, f2)) (h : ok = false ∨ d < least) : dStep l (c + 1) at_ f least g = none := by
  unfold dStep
  simp only [h1, h2]
  exact if_pos h
theorem dStep_good {l : List UInt8} {c at_ : Nat} {f : Bool} {least : Nat} {g : List Nm} {d a1 : Nat} {f1 : Bool} {q : Nm} {ok : Bool} {a2 : Nat} {f2 : Bool} (h1 : rI l at_ f 15 = (d, a1, f1)) (h2 : rNum l a1 f1 = ((q, ok), a2, f2)) (h : ¬ (ok = false ∨ d < least)) : dStep l (c + 1) at_ f least g = dStep l c a2 f2 (d + 1) (g.set d q) := by
  conv => lhs; unfold dStep
  simp only [h1, h2]
  exact if_neg h
/-- A set read. -/
def rDec (l : List UInt8) : Option (List Nm) :=
  match dStep l (rI l 0 false 16).1 (rI l 0 false 16).2.1 (rI l 0 false 16).2.2 0 none16 with
  | none => none
  | some (g, at_, f) => if eV l at_ f = 0 then some g else none
theorem SetIs.reader {W W' : World} {S R : Nat} {f : List Nm} {c : Array Value} {T : TypeId} (h : SetIs W S f) (hr : W.heap[R]? = some (.cells c T (0, 0))) (hT : T ≠ 30) (hk : Kp R W W') (hne : S ≠ R) : SetIs W' S f := by
  have hl := h.lt
  obtain ⟨ps, h1, h2, h3, h4⟩ := h
  refine ⟨ps, h1, h2, (hk.block S hl hne).trans h3, fun p hp => ⟨(h4 p hp).1.stay (fun b c hc => hk.block b (lt_of_block hc) (fun e => ?_)), (h4 p hp).2⟩⟩
  subst e
  rw [hr] at hc
  simp only [Option.some.injEq, Obj.cells.injEq] at hc
  exact hT hc.2.1
/-- What a reading of a set holds. -/
structure Dc (w : World) (R S : Nat) (l : List UInt8) (at_ : Nat) (f : Bool) (g : List Nm) (wr : World) : Prop where
  rd : Rd wr w.heap.size R l at_ f
  set : SetIs wr S g
  below : Below w.heap.size w wr
  order : w.heap.size ≤ R ∧ R < S
theorem Dc.kp {w : World} {R S : Nat} {l : List UInt8} {at_ a1 : Nat} {f f1 : Bool} {g : List Nm} {wr w' : World} (h : Dc w R S l at_ f g wr) (hr : Rd w' w.heap.size R l a1 f1) (hk : Kp R wr w') : Dc w R S l a1 f1 g w' := by
  have hord := h.order
  obtain ⟨sv, hc, _⟩ := h.rd
  exact ⟨hr, h.set.reader hc (by decide) hk (by omega), h.below.trans (hk.below hord.1 h.below.size), h.order⟩
theorem Dc.up {w : World} {R S : Nat} {l : List UInt8} {at_ : Nat} {f : Bool} {g : List Nm} {wr w' : World} (h : Dc w R S l at_ f g wr) (hb : Below wr.heap.size wr w') : Dc w R S l at_ f g w' :=
  ⟨h.rd.below hb, h.set.below hb, h.below.trans (hb.mono h.below.size), h.order⟩
theorem Dc.put {w : World} {R S : Nat} {l : List UInt8} {at_ : Nat} {f : Bool} {g : List Nm} {wr : World} (h : Dc w R S l at_ f g wr) (d : Nat) (q : Nm) (mv : Value) (hm : HasU wr mv q.more) (ho : q.Ok) (hl : q.more.length ≤ 4096) : Dc w R S l at_ f (g.set d q) ((wr.setCell ⟨S, d * 2, none⟩ (.int .u64 (q.upto : Int))).setCell ⟨S, d * 2 + 1, none⟩ mv) := by
  have hord := h.order
  have hb2 : Below S wr ((wr.setCell ⟨S, d * 2, none⟩ (.int .u64 (q.upto : Int))).setCell ⟨S, d * 2 + 1, none⟩ mv) := ((Below.refl _ _).setCell (p := ⟨S, d * 2, none⟩) (Nat.le_refl _) _).setCell (p := ⟨S, d * 2 + 1, none⟩) (Nat.le_refl _) _
  exact ⟨h.rd.under hb2.size (fun k hk => hb2.block k (by omega)), h.set.set d q mv hm ho hl, h.below.trans (hb2.mono (by omega)), h.order⟩
def DecPost (w : World) (o : Option (List Nm)) (e : Ending) (w' : World) : Prop :=
  Below w.heap.size w w' ∧ match o with
    | none => e = .returned (.tuple #[.pointer none, .int .i64 14])
    | some g => ∃ S, e = .returned (.tuple #[.pointer (some ⟨S, 0, none⟩), .int .i64 0]) ∧ w.heap.size ≤ S ∧ SetIs w' S g
set_option maxRecDepth 100000 in
set_option maxHeartbeats 16000000 in
theorem Decode_any (v : Value) (l : List UInt8) (w : World) (hv : Has w v l) (hlim : l.length ≤ 140737488355328) :
    Calls Try.prog 11 #[v] w fun e w' => DecPost w (rDec l) e w' := by
  obtain ⟨⟨n, a1, f1⟩, hn⟩ : ∃ x, rI l 0 false 16 = x := ⟨_, rfl⟩
  have hnm := rI_most l 0 false 16 (by decide)
  rw [hn] at hnm
  simp only at hnm
  obtain ⟨o, ho⟩ : ∃ o, rDec l = o := ⟨_, rfl⟩
  have hrd : rDec l = (match dStep l n a1 f1 0 none16 with | none => none | some (g, at_, f) => if eV l at_ f = 0 then some g else none) := by unfold rDec; simp only [hn]
  rw [ho] at hrd ⊢
  have HN := Lib.hid hn
  have HRD := Lib.hid hrd
  clear hn hrd ho
  go_enter Try.func11, Try.ntmps11
  go_wp2_with fail
  refine (Read_any v l w hv hlim).mono ?_
  rintro e w1 ⟨R, rfl, hr1, hb1⟩
  have HR1 := Lib.hid hr1
  have HB1 := Lib.hid hb1
  clear hv hr1 hb1
  go_wp2_with fail
  refine (New_any w1).mono ?_
  rintro e w2 ⟨rfl, hs2, hb2⟩
  obtain ⟨S, hS⟩ : ∃ S, w1.heap.size = S := ⟨_, rfl⟩
  have hdc : Dc w R S l 0 false none16 w2 := ⟨HR1.out.below hb2, by rw [← hS]; exact hs2, HB1.out.trans (hb2.mono HB1.out.size), HR1.out.base, by rw [← hS]; exact HR1.out.lt⟩
  rw [hS]
  have HD2 := Lib.hid hdc
  clear hs2 hb2 hS hdc
  go_wp2_with fail
  refine (Int_at w2 _ R l 0 false 16 (by decide) (by decide) HD2.out.rd n a1 f1 HN.out).mono ?_
  rintro e w3 ⟨rfl, hr3, ho3⟩
  have HD3 := Lib.hid (HD2.out.kp hr3 ((Kp.refl R w2).only ho3))
  clear hr3 ho3
  go_wp2_with fail
  go_loopw [6, 15] (fun v6 vi wr => ∃ (k least : Nat) (g : List Nm) (at1 : Nat) (f1' : Bool), vi = .int .i64 (k : Int) ∧ v6 = .int .i64 (least : Int) ∧ k ≤ n ∧ least ≤ 16 ∧ Dc w R S l at1 f1' g wr ∧ dStep l n a1 f1 0 none16 = dStep l (n - k) at1 f1' least g) (fun _ vi _ => n - (intOf vi).toNat)
  case atStart => exact ⟨0, 0, none16, a1, f1, rfl, rfl, Nat.zero_le _, by omega, HD3.out, rfl⟩
  case round =>
    obtain ⟨k, least, g, at1, f1', rfl, rfl, hk, hleast, hd, hst⟩ := hrel
    have HST := Lib.hid hst
    have HD := Lib.hid hd
    obtain ⟨W0, rfl⟩ : ∃ W0, W0 = wr := ⟨wr, rfl⟩
    clear hst hd
    rcases Nat.lt_or_ge k n with hlt | hge
    · have hkI : (k : Int) < (n : Int) := by omega
      obtain ⟨c, hc⟩ : ∃ c, n - k = c + 1 := ⟨n - k - 1, by omega⟩
      have hdm := rI_most l at1 f1' 15 (by decide)
      obtain ⟨⟨d, a5, f5⟩, hx⟩ : ∃ x, rI l at1 f1' 15 = x := ⟨_, rfl⟩
      rw [hx] at hdm
      simp only at hdm
      obtain ⟨⟨⟨q, ok⟩, a6, f6⟩, hy⟩ : ∃ x, rNum l a5 f5 = x := ⟨_, rfl⟩
      have HX := Lib.hid hx
      have HY := Lib.hid hy
      have hbad := dStep_bad (c := c) (least := least) (g := g) hx hy
      have hgood := dStep_good (c := c) (least := least) (g := g) hx hy
      rw [← hc, ← HST.out] at hbad hgood
      have HBAD := Lib.hid hbad
      have HGOOD := Lib.hid hgood
      have hc1 : c = n - (k + 1) := by omega
      have HC1 := Lib.hid hc1
      have hd0 : (0 : Int) ≤ (d : Int) ∧ (d : Int) < 16 := by omega
      clear hx hy hbad hgood hc hc1
      go_wp2_with fail
      refine (Int_at W0 _ R l at1 f1' 15 (by decide) (by decide) HD.out.rd d a5 f5 HX.out).mono ?_
      rintro e w5 ⟨rfl, hr5, ho5⟩
      have HD5 := Lib.hid (HD.out.kp hr5 ((Kp.refl R W0).only ho5))
      clear hr5 ho5
      go_wp2_with fail
      refine (ReadNums_any w5 _ R l a5 f5 HD5.out.rd q ok a6 f6 HY.out).mono ?_
      rintro e w6 ⟨mv, rfl, hu6, hr6, hk6⟩
      obtain ⟨pm, cm, rfl, -, -⟩ := hu6.form
      have HD6 := Lib.hid (HD5.out.kp hr6 hk6)
      have HU6 := Lib.hid hu6
      clear hu6 hr6 hk6
      obtain ⟨m, hm⟩ : ∃ m, q.more.length = m := ⟨_, rfl⟩
      have HM := Lib.hid hm
      rw [hm] at HU6 ⊢
      clear hm
      go_upto_region 8 with fail
      have hb7 := (Below.refl w6.heap.size w6).alloc (Nat.le_refl _) (.cells #[.int .u64 (q.upto : Int), .slice pm m cm] 55)
      have hn7 := heap_alloc_new w6 (.cells #[.int .u64 (q.upto : Int), .slice pm m cm] 55)
      generalize w6.alloc (.cells #[.int .u64 (q.upto : Int), .slice pm m cm] 55) = w7 at *
      obtain ⟨G, hG⟩ : ∃ G, w6.heap.size = G := ⟨_, rfl⟩
      rw [hG] at hn7 ⊢
      have HD7 := Lib.hid (HD6.out.up hb7)
      have HU7 := Lib.hid (HU6.out.below hb7)
      have HN7 := Lib.hid hn7
      clear hb7 hn7 hG
      cases ok with
      | false =>
        have hno := HRD.out
        rw [HBAD.out (.inl rfl)] at hno
        simp only at hno
        subst hno
        go_wp2
        go_ret2
        exact ⟨HD7.out.below, rfl⟩
      | true =>
        rcases Nat.lt_or_ge d least with hdl | hdl
        · have hI : (d : Int) < (least : Int) := by omega
          have hno := HRD.out
          rw [HBAD.out (.inr hdl)] at hno
          simp only at hno
          subst hno
          go_wp2
          go_ret2
          exact ⟨HD7.out.below, rfl⟩
        · have hI : ¬ (d : Int) < (least : Int) := by omega
          have HG9 := Lib.hid (HGOOD.out (by simp; omega))
          obtain ⟨hqo, hql, -, -⟩ := rNum_ok HY.out
          have HQO := Lib.hid hqo
          have HQL := Lib.hid hql
          clear hdl hqo hql
          go_upto_region 10 with fail
          have hd16 : d < 16 := by omega
          have ht := HN7.out
          have hs7 := HD7.out.set
          obtain ⟨mvS, r0, r1, -, -, -, z0, z1⟩ := hs7.at_ d hd16
          clear hs7
          refine AnyL.begin (S := fun W => TwoC ⟨G, 0, none⟩ ⟨G, 1, none⟩ (.int .u64 (q.upto : Int)) (.slice pm m cm) W) 6 (by kernel_rfl) ⟨by show w7.cell? _ = _; simp [World.cell?, ht], by show w7.cell? _ = _; simp [World.cell?, ht]⟩ (fun hHeld => ?_)
          clear ht
          refine AnyL.take (i := 0) (oi := _) (v := ?_) 30 rfl (by kernel_rfl) (by kernel_rfl) (by kernel_rfl) (by kernel_rfl) (by kernel_rfl) (fun _ _ _ h => h) (Or.inl ⟨by kernel_rfl, ?hy1⟩) (by assumption) ?_
          case hy1 =>
            intro w9 hSw
            try dsimp only at hSw
            try simp only [List.getElem_toArray, List.getElem_cons_zero, List.getElem_cons_succ]
            go_simp
            try with_reducible rfl
          try simp only [Act.put, List.setIfInBounds_toArray, List.set_cons_zero, List.set_cons_succ, List.getElem_toArray, List.getElem_cons_zero, List.getElem_cons_succ]
          refine AnyL.take (i := 1) (oi := _) (v := ?_) 30 rfl (by kernel_rfl) (by kernel_rfl) (by kernel_rfl) (by kernel_rfl) (by kernel_rfl) (fun _ _ _ h => h) (Or.inl ⟨by kernel_rfl, ?hy2⟩) (by assumption) ?_
          case hy2 =>
            intro w9 hSw
            try dsimp only at hSw
            try simp only [List.getElem_toArray, List.getElem_cons_zero, List.getElem_cons_succ]
            go_simp
            try with_reducible rfl
          try simp only [Act.put, List.setIfInBounds_toArray, List.set_cons_zero, List.set_cons_succ, List.getElem_toArray, List.getElem_cons_zero, List.getElem_cons_succ]
          refine AnyL.take (i := 2) (oi := _) (v := .agg #[.int .u64 (q.upto : Int), .slice pm m cm]) 30 rfl (by kernel_rfl) (by kernel_rfl) (by kernel_rfl) (by kernel_rfl) (by kernel_rfl) (fun _ _ _ h => h) (Or.inl ⟨by kernel_rfl, ?hy3⟩) (by assumption) ?_
          case hy3 =>
            intro w9 hSw
            try dsimp only at hSw
            try simp only [List.getElem_toArray, List.getElem_cons_zero, List.getElem_cons_succ]
            go_simp
            obtain ⟨hx0, hx1⟩ := hSw
            try go_simp
            try with_reducible rfl
          try simp only [Act.put, List.setIfInBounds_toArray, List.set_cons_zero, List.set_cons_succ, List.getElem_toArray, List.getElem_cons_zero, List.getElem_cons_succ]
          refine AnyL.take (i := 3) (oi := _) (v := ?_) 30 rfl (by kernel_rfl) (by kernel_rfl) (by kernel_rfl) (by kernel_rfl) (by kernel_rfl) (fun _ _ _ h => h) (Or.inl ⟨by kernel_rfl, ?hy4⟩) (by assumption) ?_
          case hy4 =>
            intro w9 hSw
            try dsimp only at hSw
            try simp only [List.getElem_toArray, List.getElem_cons_zero, List.getElem_cons_succ]
            go_simp
            try with_reducible rfl
          try simp only [Act.put, List.setIfInBounds_toArray, List.set_cons_zero, List.set_cons_succ, List.getElem_toArray, List.getElem_cons_zero, List.getElem_cons_succ]
          refine AnyL.take (i := 4) (oi := _) (v := ?_) 30 rfl (by kernel_rfl) (by kernel_rfl) (by kernel_rfl) (by kernel_rfl) (by kernel_rfl) (fun _ _ _ h => h) (Or.inl ⟨by kernel_rfl, ?hy5⟩) (by assumption) ?_
          case hy5 =>
            intro w9 hSw
            try dsimp only at hSw
            try simp only [List.getElem_toArray, List.getElem_cons_zero, List.getElem_cons_succ]
            go_simp
            try with_reducible rfl
          try simp only [Act.put, List.setIfInBounds_toArray, List.set_cons_zero, List.set_cons_succ, List.getElem_toArray, List.getElem_cons_zero, List.getElem_cons_succ]
          refine AnyL.take (i := 5) (oi := _) (v := ?_) 30 rfl (by kernel_rfl) (by kernel_rfl) (by kernel_rfl) (by kernel_rfl) (by kernel_rfl) (fun _ _ _ h => h) (Or.inl ⟨by kernel_rfl, ?hy6⟩) (by assumption) ?_
          case hy6 =>
            intro w9 hSw
            try dsimp only at hSw
            try simp only [List.getElem_toArray, List.getElem_cons_zero, List.getElem_cons_succ]
            go_simp
            try with_reducible rfl
          try simp only [Act.put, List.setIfInBounds_toArray, List.set_cons_zero, List.set_cons_succ, List.getElem_toArray, List.getElem_cons_zero, List.getElem_cons_succ]
          refine AnyL.one (i := 6) (o := _) (by kernel_rfl) rfl (fun K hK => ?_)
          try simp only [List.getElem_toArray, List.getElem_cons_zero, List.getElem_cons_succ]
          go_simp
          refine hK.out _ _ (fun h => absurd rfl h) (fun _ => ?_)
          clear hK K
          try simp only [Act.put, List.setIfInBounds_toArray, List.set_cons_zero, List.set_cons_succ, List.getElem_toArray, List.getElem_cons_zero, List.getElem_cons_succ]
          refine AnyL.done (by kernel_rfl) ?_ _
          have hup := HU7.out
          rw [← HM.out] at hup
          have hput := HD7.out.put d q _ hup HQO.out HQL.out
          rw [HM.out] at hput
          have HP := Lib.hid hput
          clear hput hup r0 r1 z0 z1
          go_wp2
          go_roundw
          case rel => exact ⟨k + 1, d + 1, g.set d q, a6, f6, by go_num, by go_num, hlt, by omega, HP.out.up ((Below.refl _ _).drew), by rw [HG9.out, HC1.out]⟩
          case measure => simp [intOf] <;> omega
    · obtain rfl : k = n := by omega
      have hkI : ¬ (k : Int) < (k : Int) := by omega
      have hfin := HRD.out
      rw [HST.out, Nat.sub_self] at hfin
      have hz9 : dStep l 0 at1 f1' least g = some (g, at1, f1') := rfl
      rw [hz9] at hfin
      simp only at hfin
      have HFIN := Lib.hid hfin
      obtain ⟨ev, hev⟩ : ∃ ev, eV l at1 f1' = ev := ⟨_, rfl⟩
      have hev2 : ev = 14 ∨ ev = 0 := by rw [← hev]; unfold eV; split <;> simp
      have HEV := Lib.hid hev
      clear hfin hz9 hev
      go_wp2_with fail
      refine (End_at W0 _ R l at1 f1' HD.out.rd ev HEV.out).mono ?_
      rintro e w5 ⟨rfl, hr5, ho5⟩
      have HD5 := Lib.hid (HD.out.kp hr5 ((Kp.refl R W0).only ho5))
      clear hr5 ho5
      rcases hev2 with rfl | rfl
      · have ho := HFIN.out
        rw [HEV.out, if_neg (by decide)] at ho
        subst ho
        go_wp2
        go_ret2
        exact ⟨HD5.out.below, rfl⟩
      · have ho := HFIN.out
        rw [HEV.out, if_pos rfl] at ho
        subst ho
        go_wp2
        go_ret2
        exact ⟨HD5.out.below, S, rfl, by have := HD5.out.order; omega, HD5.out.set⟩
end Go.Proofs.Ytfgfamafjkjakaa
