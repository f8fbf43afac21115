/-
  Package dot: a set joined with one that is the same, of few numbers.
-/
import Derived.Test.YtfgfamafjkjakaaDotCat
import Derived.Test.YtfgfamafjkjakaaDotSorts
import Derived.Test.YtfgfamafjkjakaaDotReadN
namespace Go.Proofs.Ytfgfamafjkjakaa
open Go.ChangeShapes Go.WideShapes Go.ChangeAt Go.RowKit Go.Deep
set_option linter.unusedVariables false
set_option linter.unusedSimpArgs false
theorem close_self {p : Nm} (h : p.Ok) : closeN p.upto p.more = p := by
  obtain ⟨u, l⟩ := p
  cases l with
  | nil => rfl
  | cons x r =>
    have := h.far x (List.mem_cons_self ..)
    show closeN u (x :: r) = _
    unfold closeN
    rw [if_neg (by show ¬ x ≤ u + 1; simp only at this; omega)]
theorem set_same {f : List Nm} {k : Nat} (hk : k < f.length) : f.set k (f.getD k Nm.zero) = f := by
  rw [List.getD_eq_getElem?_getD, List.getElem?_eq_getElem hk]
  exact List.set_getElem_self hk
theorem twice_up {l : List Nat} (h : l.length ≤ 1) : flatUp (l ++ l) := by
  match l, h with
  | [], _ => exact fun i hi => absurd hi (by simp)
  | [x], _ =>
    intro i hi
    obtain rfl : i = 0 := by simp at hi; omega
    exact Nat.le_refl _
theorem Compact_self (v : Value) (l : List Nat) (w : World) (B : Nat) (hB : B ≤ w.heap.size) (hl : l.length ≤ 1) (hv : OwnK w B 30 (encN .u64) v (l ++ l)) :
    Calls Try.prog 42 #[v] w fun e w' => ∃ v', e = .returned v' ∧ OwnK w' B 30 (encN .u64) v' l ∧ Below B w w' := by
  match l, hl with
  | [], _ =>
    obtain ⟨p, c, rfl, -, -⟩ := hv.sl
    exact (Compact_none p c w).mono fun e w' ⟨he, hw⟩ => ⟨_, he, by rw [hw]; exact hv, by rw [hw]; exact Below.refl _ _⟩
  | [x], _ => exact Compact_twice v x w B hB hv
theorem TwoC.low {a b : Addr} {x y : Value} {W W' : World} {K : Nat} (h : TwoC a b x y W) (hb : Below K W W') (ha : a.block < K) (hb' : b.block < K) : TwoC a b x y W' := ⟨(World.cell?_of_block (hb.block _ ha)).trans h.1, (World.cell?_of_block (hb.block _ hb')).trans h.2⟩
theorem HasU.kp {W W' : World} {R : Nat} {v : Value} {l : List Nat} {c : Array Value} {T : TypeId} (h : HasU W v l) (hr : W.heap[R]? = some (.cells c T (0, 0))) (hT : T ≠ 30) (hk : Kp R W W') : HasU W' v l := h.stay (fun b c' hc => hk.block b (lt_of_block hc) (fun e => by
  subst e
  rw [hr] at hc
  simp only [Option.some.injEq, Obj.cells.injEq] at hc
  exact hT hc.2.1))
set_option maxRecDepth 100000 in
set_option maxHeartbeats 16000000 in
theorem Join_self (R O : Nat) (f : List Nm) (w : World) (hS : SetIs w R f) (hT : SetIs w O f) (hfew : ∀ i, i < 16 → (f.getD i Nm.zero).more.length ≤ 1) :
    Calls Try.prog 23 #[.pointer (some ⟨R, 0, none⟩), .pointer (some ⟨O, 0, none⟩)] w fun e w' => e = .returned (.tuple #[]) ∧ SetIs w' R f ∧ Kp R w w' := by
  have HF := Lib.hid hS.len
  have HFEW := Lib.hid hfew
  have HS := Lib.hid hS
  obtain ⟨ps, hps, hpl, hph, hp4⟩ := hT
  have HPS := Lib.hid hps
  have HPL := Lib.hid hpl
  have HP4 := Lib.hid hp4
  have hRc : ∃ c, w.heap[R]? = some (.cells c 58 (0, 0)) := by
    obtain ⟨_, _, _, h, _⟩ := hS
    exact ⟨_, h⟩
  obtain ⟨rc, hRc⟩ := hRc
  have HRC := Lib.hid hRc
  have hr1 : w.rangeAt O 0 (setRow16 ps) := setRow_range hph
  clear hps hpl hph hp4 hS hfew hRc
  go_enter Try.func23, Try.ntmps23
  go_wp2_with (refine wpList_load_mid rfl 56 (.tmp 10) rfl O 0 rfl (setRow16 ps) _ hr1 Try.underlying56 rfl (info_row HPL.out) ?_)
  clear hr1
  go_loopw [12] (fun vi wr => ∃ (k : Nat), vi = .int .i64 (k : Int) ∧ k ≤ 16 ∧ SetIs wr R f ∧ Kp R w wr) (fun vi _ => 16 - (intOf vi).toNat)
  case atStart => exact ⟨0, rfl, by omega, HS.out, Kp.refl _ _⟩
  case round =>
    obtain ⟨k, rfl, hk, hs, hkp⟩ := hrel
    rcases Nat.lt_or_ge k 16 with hlt | hge
    · have hkI : (k : Int) < 16 := by omega
      have hkp' : k < ps.length := by rw [HPL.out]; exact hlt
      have hk0 : (0 : Int) ≤ (k : Int) := by omega
      have hix := index_nm ps HPL.out k hkp'
      have h4 := HP4.out _ (List.getElem_mem hkp')
      have hfk : f.getD k Nm.zero = ps[k].1 := by rw [← HPS.out, List.getD_eq_getElem?_getD, List.getElem?_map, List.getElem?_eq_getElem hkp']; rfl
      obtain ⟨⟨q, mv⟩, hq⟩ : ∃ q, ps[k] = q := ⟨_, rfl⟩
      rw [hq] at hix h4 hfk
      simp only at hix h4 hfk
      obtain ⟨hu, hok, hle⟩ := h4
      have hu2 := hu.kp HRC.out (by decide) hkp
      have hfw := HFEW.out k hlt
      rw [hfk] at hfw
      obtain ⟨pm, cm, rfl, -, -⟩ := hu.form
      obtain ⟨m, hm⟩ : ∃ m, q.more.length = m := ⟨_, rfl⟩
      rw [hm] at hix hu2 hle
      have HM := Lib.hid hm
      have HU := Lib.hid hu2
      have HOK := Lib.hid hok
      have HFW := Lib.hid hfw
      have HFK := Lib.hid hfk
      have HS1 := Lib.hid hs
      have HK1 := Lib.hid hkp
      have HIX := Lib.hid hix
      clear hu hu2 hok hle hfk hs hkp hix hq hm hfw
      obtain ⟨W0, rfl⟩ : ∃ W0, W0 = wr := ⟨wr, rfl⟩
      go_upto_region 3 with (refine wpList_index_at rfl 56 (.tmp 11) (.tmp 12) rfl _ HIX.out ?_)
      have hb2 := (Below.refl W0.heap.size W0).alloc (Nat.le_refl _) (.cells #[.int .u64 (q.upto : Int), .slice pm m cm] 55)
      have hn2 := heap_alloc_new W0 (.cells #[.int .u64 (q.upto : Int), .slice pm m cm] 55)
      generalize (W0.alloc (.cells #[.int .u64 (q.upto : Int), .slice pm m cm] 55)) = w2 at *
      obtain ⟨G1, hG1⟩ : ∃ G, W0.heap.size = G := ⟨_, rfl⟩
      rw [hG1] at hn2 ⊢
      have HS2 := Lib.hid (HS1.out.below hb2)
      have HU2 := Lib.hid (HU.out.below hb2)
      have HK2 := Lib.hid (HK1.out.low hb2 HK1.out.size)
      have HN2 := Lib.hid hn2
      have hg1 : G1 < w2.heap.size := lt_of_block hn2
      obtain ⟨mo, r0, r1, ou, -, -, -, -⟩ := HS2.out.at_ k hlt
      rw [HFK.out] at r0 ou
      obtain ⟨po, co, rfl, -, -⟩ := ou.form
      rw [HM.out] at r1 ou
      have HOU := Lib.hid ou
      clear hb2 hn2 hG1 ou
      go_upto_region 4 with fail
      have hb3 := (Below.refl w2.heap.size w2).alloc (Nat.le_refl _) (.cells #[.int .u64 (q.upto : Int), .slice po m co] 55)
      have hn3 := heap_alloc_new w2 (.cells #[.int .u64 (q.upto : Int), .slice po m co] 55)
      generalize (w2.alloc (.cells #[.int .u64 (q.upto : Int), .slice po m co] 55)) = w3 at *
      obtain ⟨G2, hG2⟩ : ∃ G, w2.heap.size = G := ⟨_, rfl⟩
      rw [hG2] at hn3 hg1 ⊢
      have HS3 := Lib.hid (HS2.out.below hb3)
      have HU3 := Lib.hid (HU2.out.below hb3)
      have HOU3 := Lib.hid (HOU.out.below hb3)
      have HK3 := Lib.hid (HK2.out.low hb3 HK2.out.size)
      have HN3 := Lib.hid hn3
      have HN13 := Lib.hid ((hb3.block G1 (by omega)).trans HN2.out)
      have hn13 := HN13.out
      have hg2 : G2 < w3.heap.size := lt_of_block hn3
      have d1 : w3.cell? ⟨G1, 1, none⟩ = some (.slice pm m cm) := by simp [World.cell?, hn13]
      have d2 : w3.cell? ⟨G2, 1, none⟩ = some (.slice po m co) := by simp [World.cell?, hn3]
      have e1 : w3.cell? ⟨G1, 0, none⟩ = some (.int .u64 (q.upto : Int)) := by simp [World.cell?, hn13]
      have e2 : w3.cell? ⟨G2, 0, none⟩ = some (.int .u64 (q.upto : Int)) := by simp [World.cell?, hn3]
      have h2 : TwoC ⟨G2, 0, none⟩ ⟨G1, 0, none⟩ (.int .u64 (q.upto : Int)) (.int .u64 (q.upto : Int)) w3 := ⟨e2, e1⟩
      have HTW := Lib.hid h2
      clear hb3 hn3 hn13 hG2 r0 r1 e1 e2 h2
      go_wp2_with fail
      have hb4 := (Below.refl w3.heap.size w3).alloc (Nat.le_refl _) (.cells #[.slice po m co, .slice pm m cm] 51)
      have hn4 := heap_alloc_new w3 (.cells #[.slice po m co, .slice pm m cm] 51)
      generalize (w3.alloc (.cells #[.slice po m co, .slice pm m cm] 51)) = w4 at *
      refine (Concat_two w3.heap.size 51 _ _ q.more q.more w4 hn4 (HOU3.out.below hb4).has (HU3.out.below hb4).has (by have := HFW.out; omega) (by have := HFW.out; omega)).mono ?_
      rintro e w5 ⟨v5, rfl, ho5, hb5⟩
      have hb35 := hb4.trans (hb5.mono hb4.size)
      have HO5 := Lib.hid (ho5.mono hb4.size)
      have HB5 := Lib.hid hb35
      clear hb4 hn4 hb5 ho5 hb35 d1 d2
      go_wp2_with fail
      refine (Sort_up v5 (q.more ++ q.more) w5 HO5.out.has (twice_up HFW.out) (by have := HFW.out; rw [List.length_append]; omega)).mono ?_
      rintro e w6 ⟨rfl, hb6⟩
      have HO6 := Lib.hid (HO5.out.below hb6)
      have HB6 := Lib.hid (HB5.out.trans (hb6.mono HB5.out.size))
      clear hb6
      go_upto_region 6 with fail
      have HT6 := Lib.hid (HTW.out.low HB6.out hg2 (by show G1 < _; omega))
      have hmx : max (q.upto : Int) (q.upto : Int) = (q.upto : Int) := by omega
      refine AnyL.begin (S := fun W => TwoC ⟨G2, 0, none⟩ ⟨G1, 0, none⟩ (.int .u64 (q.upto : Int)) (.int .u64 (q.upto : Int)) W) 13 (by kernel_rfl) ⟨HT6.out.1, HT6.out.2⟩ (fun hHeld => ?_)
      refine AnyL.take (i := 0) (oi := _) (v := ?_) 30 rfl (by kernel_rfl) (by kernel_rfl) (by kernel_rfl) (by kernel_rfl) (by kernel_rfl) (fun _ _ _ h => h) (Or.inl ⟨by kernel_rfl, ?hy1⟩) (by assumption) ?_
      case hy1 =>
        intro w9 hSw
        try dsimp only at hSw
        try simp only [List.getElem_toArray, List.getElem_cons_zero, List.getElem_cons_succ]
        go_simp
        try with_reducible rfl
      try simp only [Act.put, List.setIfInBounds_toArray, List.set_cons_zero, List.set_cons_succ, List.getElem_toArray, List.getElem_cons_zero, List.getElem_cons_succ]
      refine AnyL.take (i := 1) (oi := _) (v := ?_) 30 rfl (by kernel_rfl) (by kernel_rfl) (by kernel_rfl) (by kernel_rfl) (by kernel_rfl) (fun _ _ _ h => h) (Or.inl ⟨by kernel_rfl, ?hy2⟩) (by assumption) ?_
      case hy2 =>
        intro w9 hSw
        try dsimp only at hSw
        try simp only [List.getElem_toArray, List.getElem_cons_zero, List.getElem_cons_succ]
        go_simp
        try with_reducible rfl
      try simp only [Act.put, List.setIfInBounds_toArray, List.set_cons_zero, List.set_cons_succ, List.getElem_toArray, List.getElem_cons_zero, List.getElem_cons_succ]
      refine AnyL.take (i := 2) (oi := _) (v := ?_) 30 rfl (by kernel_rfl) (by kernel_rfl) (by kernel_rfl) (by kernel_rfl) (by kernel_rfl) (fun _ _ _ h => h) (Or.inl ⟨by kernel_rfl, ?hy3⟩) (by assumption) ?_
      case hy3 =>
        intro w9 hSw
        try dsimp only at hSw
        try simp only [List.getElem_toArray, List.getElem_cons_zero, List.getElem_cons_succ]
        go_simp
        try with_reducible rfl
      try simp only [Act.put, List.setIfInBounds_toArray, List.set_cons_zero, List.set_cons_succ, List.getElem_toArray, List.getElem_cons_zero, List.getElem_cons_succ]
      refine AnyL.take (i := 3) (oi := _) (v := .int .u64 (q.upto : Int)) 30 rfl (by kernel_rfl) (by kernel_rfl) (by kernel_rfl) (by kernel_rfl) (by kernel_rfl) (fun _ _ _ h => h) (Or.inl ⟨by kernel_rfl, ?hy4⟩) (by assumption) ?_
      case hy4 =>
        intro w9 hSw
        try dsimp only at hSw
        try simp only [List.getElem_toArray, List.getElem_cons_zero, List.getElem_cons_succ]
        go_simp
        obtain ⟨hx0, hx1⟩ := hSw
        try go_simp
        try with_reducible rfl
      try simp only [Act.put, List.setIfInBounds_toArray, List.set_cons_zero, List.set_cons_succ, List.getElem_toArray, List.getElem_cons_zero, List.getElem_cons_succ]
      refine AnyL.take (i := 4) (oi := _) (v := ?_) 30 rfl (by kernel_rfl) (by kernel_rfl) (by kernel_rfl) (by kernel_rfl) (by kernel_rfl) (fun _ _ _ h => h) (Or.inl ⟨by kernel_rfl, ?hy5⟩) (by assumption) ?_
      case hy5 =>
        intro w9 hSw
        try dsimp only at hSw
        try simp only [List.getElem_toArray, List.getElem_cons_zero, List.getElem_cons_succ]
        go_simp
        try with_reducible rfl
      try simp only [Act.put, List.setIfInBounds_toArray, List.set_cons_zero, List.set_cons_succ, List.getElem_toArray, List.getElem_cons_zero, List.getElem_cons_succ]
      refine AnyL.take (i := 5) (oi := _) (v := .int .u64 (q.upto : Int)) 30 rfl (by kernel_rfl) (by kernel_rfl) (by kernel_rfl) (by kernel_rfl) (by kernel_rfl) (fun _ _ _ h => h) (Or.inl ⟨by kernel_rfl, ?hy6⟩) (by assumption) ?_
      case hy6 =>
        intro w9 hSw
        try dsimp only at hSw
        try simp only [List.getElem_toArray, List.getElem_cons_zero, List.getElem_cons_succ]
        go_simp
        obtain ⟨hx0, hx1⟩ := hSw
        try go_simp
        try with_reducible rfl
      try simp only [Act.put, List.setIfInBounds_toArray, List.set_cons_zero, List.set_cons_succ, List.getElem_toArray, List.getElem_cons_zero, List.getElem_cons_succ]
      refine AnyL.take (i := 6) (oi := _) (v := ?_) 30 rfl (by kernel_rfl) (by kernel_rfl) (by kernel_rfl) (by kernel_rfl) (by kernel_rfl) (fun _ _ _ h => h) (Or.inl ⟨by kernel_rfl, ?hy7⟩) (by assumption) ?_
      case hy7 =>
        intro w9 hSw
        try dsimp only at hSw
        try simp only [List.getElem_toArray, List.getElem_cons_zero, List.getElem_cons_succ]
        go_simp
        try with_reducible rfl
      try simp only [Act.put, List.setIfInBounds_toArray, List.set_cons_zero, List.set_cons_succ, List.getElem_toArray, List.getElem_cons_zero, List.getElem_cons_succ]
      refine AnyL.take (i := 7) (oi := _) (v := ?_) 30 rfl (by kernel_rfl) (by kernel_rfl) (by kernel_rfl) (by kernel_rfl) (by kernel_rfl) (fun _ _ _ h => h) (Or.inl ⟨by kernel_rfl, ?hy8⟩) (by assumption) ?_
      case hy8 =>
        intro w9 hSw
        try dsimp only at hSw
        try simp only [List.getElem_toArray, List.getElem_cons_zero, List.getElem_cons_succ]
        go_simp
        try with_reducible rfl
      try simp only [Act.put, List.setIfInBounds_toArray, List.set_cons_zero, List.set_cons_succ, List.getElem_toArray, List.getElem_cons_zero, List.getElem_cons_succ]
      refine AnyL.take (i := 10) (oi := _) (v := ?_) 30 rfl (by kernel_rfl) (by kernel_rfl) (by kernel_rfl) (by kernel_rfl) (by kernel_rfl) (fun _ _ _ h => h) (Or.inl ⟨by kernel_rfl, ?hy9⟩) (by assumption) ?_
      case hy9 =>
        intro w9 hSw
        try dsimp only at hSw
        try simp only [List.getElem_toArray, List.getElem_cons_zero, List.getElem_cons_succ]
        go_simp
        try with_reducible rfl
      try simp only [Act.put, List.setIfInBounds_toArray, List.set_cons_zero, List.set_cons_succ, List.getElem_toArray, List.getElem_cons_zero, List.getElem_cons_succ]
      refine AnyL.take (i := 11) (oi := _) (v := ?_) 30 rfl (by kernel_rfl) (by kernel_rfl) (by kernel_rfl) (by kernel_rfl) (by kernel_rfl) (fun _ _ _ h => h) (Or.inl ⟨by kernel_rfl, ?hy10⟩) (by assumption) ?_
      case hy10 =>
        intro w9 hSw
        try dsimp only at hSw
        try simp only [List.getElem_toArray, List.getElem_cons_zero, List.getElem_cons_succ]
        go_simp
        try with_reducible rfl
      try simp only [Act.put, List.setIfInBounds_toArray, List.set_cons_zero, List.set_cons_succ, List.getElem_toArray, List.getElem_cons_zero, List.getElem_cons_succ]
      have hbd : Below w3.heap.size w3 w6.drew := HB6.out.drew
      have HOD := Lib.hid (HO6.out.below ((Below.refl _ _).drew))
      refine AnyL.one (i := 8) (o := _) (by kernel_rfl) rfl (fun K hK => ?_)
      try simp only [List.getElem_toArray, List.getElem_cons_zero, List.getElem_cons_succ]
      go_simp
      refine (Compact_self _ q.more _ w3.heap.size hbd.size HFW.out HOD.out).mono ?_
      rintro e w8 ⟨v8, rfl, ho8, hb8⟩
      refine hK.out _ _ (fun _ => (hHeld.low hb8 hg2 (by show G1 < _; omega))) (fun hHeld => ?_)
      replace hHeld := hHeld (by decide)
      clear hK K
      try simp only [Act.put, List.setIfInBounds_toArray, List.set_cons_zero, List.set_cons_succ, List.getElem_toArray, List.getElem_cons_zero, List.getElem_cons_succ]
      have HU8 := Lib.hid (HasU.of_own ho8)
      have HB8 := Lib.hid (hbd.trans hb8)
      clear ho8 hb8 hbd
      refine AnyL.one (i := 9) (o := _) (by kernel_rfl) rfl (fun K hK => ?_)
      try simp only [List.getElem_toArray, List.getElem_cons_zero, List.getElem_cons_succ]
      go_simp
      refine (closed_any q.upto _ q.more _ HU8.out (by have := HFW.out; omega) (by have := HOK.out.most; omega) (fun x hx => by have := HOK.out.mostM x hx; omega)).mono ?_
      rw [close_self HOK.out]
      rintro e w9 ⟨mv9, rfl, hu9, hb9⟩
      obtain ⟨p9, c9, rfl, -, -⟩ := hu9.form
      refine hK.out _ _ (fun _ => (hHeld.below hb9)) (fun hHeld => ?_)
      replace hHeld := hHeld (by decide)
      clear hK K
      try simp only [Act.put, List.setIfInBounds_toArray, List.set_cons_zero, List.set_cons_succ, List.getElem_toArray, List.getElem_cons_zero, List.getElem_cons_succ]
      have hb39 := HB8.out.trans (hb9.mono HB8.out.size)
      have hs9 := HS3.out.below hb39
      have HU9 := Lib.hid hu9
      have HK9 := Lib.hid (HK3.out.low hb39 HK3.out.size)
      have HS9 := Lib.hid hs9
      obtain ⟨mvS, r0, r1, -, hokS, hleS, z0, z1⟩ := hs9.at_ k hlt
      rw [HFK.out] at hleS
      have HLE9 := Lib.hid hleS
      rw [HM.out] at HU9 ⊢
      clear hs9 hu9 hb39 hb9 hokS hleS
      refine AnyL.take (i := 12) (oi := _) (v := ?_) 30 rfl (by kernel_rfl) (by kernel_rfl) (by kernel_rfl) (by kernel_rfl) (by kernel_rfl) (fun _ _ _ h => h) (Or.inl ⟨by kernel_rfl, ?hy11⟩) (by assumption) ?_
      case hy11 =>
        intro w9 hSw
        try dsimp only at hSw
        try simp only [List.getElem_toArray, List.getElem_cons_zero, List.getElem_cons_succ]
        go_simp
        try with_reducible rfl
      try simp only [Act.put, List.setIfInBounds_toArray, List.set_cons_zero, List.set_cons_succ, List.getElem_toArray, List.getElem_cons_zero, List.getElem_cons_succ]
      refine AnyL.one (i := 13) (o := _) (by kernel_rfl) rfl (fun K hK => ?_)
      try simp only [List.getElem_toArray, List.getElem_cons_zero, List.getElem_cons_succ]
      go_simp
      refine hK.out _ _ (fun h => absurd rfl h) (fun _ => ?_)
      clear hK K
      try simp only [Act.put, List.setIfInBounds_toArray, List.set_cons_zero, List.set_cons_succ, List.getElem_toArray, List.getElem_cons_zero, List.getElem_cons_succ]
      refine AnyL.done (by kernel_rfl) ?_ _
      have hup := HU9.out
      rw [← HM.out] at hup
      have hset := HS9.out.set k q _ hup HOK.out HLE9.out
      have hsm := set_same (f := f) (k := k) (by rw [HF.out]; exact hlt)
      rw [HFK.out] at hsm
      rw [hsm, HM.out] at hset
      have HSET := Lib.hid hset
      clear hset hup hsm r0 r1 z0 z1
      go_wp2
      go_roundw
      case rel => exact ⟨k + 1, by go_num, hlt, HSET.out, HK9.out.trans ((Kp.setCell R _ _ _).trans (Kp.setCell R _ _ _))⟩
      case measure => simp [intOf] <;> omega
    · obtain rfl : k = 16 := by omega
      have hkI : ¬ ((16 : Nat) : Int) < 16 := by omega
      have HS1 := Lib.hid hs
      have HK1 := Lib.hid hkp
      clear hs hkp
      go_wp2
      first | go_end0 | (refine bodyPost_end (results_none rfl _ _ _) rfl ?_) | (refine bodyPost_ret (results_none rfl _ _ _) rfl ?_)
      exact ⟨rfl, HS1.out, HK1.out⟩
end Go.Proofs.Ytfgfamafjkjakaa
