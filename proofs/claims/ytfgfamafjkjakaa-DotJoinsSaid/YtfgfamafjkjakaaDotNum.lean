/-
  Package dot: a device's numbers as slices of numbers in memory: closed, asked for one (has).
-/
import Derived.Test.YtfgfamafjkjakaaDotIns
namespace Go.Proofs.Ytfgfamafjkjakaa
open Go.ChangeShapes Go.WideShapes Go.ChangeAt Go.RowKit Go.Deep
set_option linter.unusedVariables false
set_option linter.unusedSimpArgs false
theorem Insert_any (v : Value) (l : List Nat) (i x gv : Nat) (w : World) (B : Nat) (hB : B ≤ w.heap.size) (hv : OwnK w B 30 (encN .u64) v l) (hl : l.length ≤ 100000000) (hi : i ≤ l.length) (hne : v.ownBlock ≠ some gv) (hx : w.heap[gv]? = some (.cells #[.int .u64 (x : Int)] 30 (0, 0))) :
    Calls Try.prog 46 #[v, .int .i64 (i : Int), .slice (some ⟨gv, 0, none⟩) 1 1] w fun e w' => ∃ v', e = .returned v' ∧ OwnK w' B 30 (encN .u64) v' (putAt l i x) ∧ Below B w w' := by
  rcases Nat.lt_or_ge i l.length with h | h
  · obtain ⟨g, c, rfl, hBg, hg, hc1, hc2, hcell, hf⟩ := hv.form (by omega)
    have hgv : gv ≠ g := fun e => hne (by rw [e]; rfl)
    rcases Nat.lt_or_ge c (l.length + 1) with hr | hr
    · exact Ins_grow g l.length c l i x gv w B hB hv hl h hr hx
    · exact Ins_room g l.length c l i x gv w B hv hl h hr hgv hx
  · obtain rfl : i = l.length := by omega
    exact Ins_end v l x gv w B hB hv hl hx
/-- The slice v reads as the numbers l, in a block of numbers that a call made. -/
def HasU (w : World) (v : Value) (l : List Nat) : Prop :=
  ∃ p cap b o, v = .slice p l.length cap ∧ l.length ≤ cap ∧ cap ≤ maxLen ∧ (0 < l.length → p = some ⟨b, o, none⟩ ∧ ∃ cur : Array Value, w.heap[b]? = some (.cells cur 30 (0, 0)) ∧ ∀ i, i < l.length → cur[o + i]? = some (.int .u64 ((l.getD i 0 : Nat) : Int)))
theorem HasU.stay {w w' : World} {v : Value} {l : List Nat} (h : HasU w v l) (hb : ∀ (b : Nat) (c : Array Value), w.heap[b]? = some (.cells c 30 (0, 0)) → w'.heap[b]? = w.heap[b]?) : HasU w' v l := by
  obtain ⟨p, cap, b, o, hv, h1, h2, h3⟩ := h
  refine ⟨p, cap, b, o, hv, h1, h2, fun h => ?_⟩
  obtain ⟨hp, cur, hc, hi⟩ := h3 h
  exact ⟨hp, cur, (hb b cur hc).trans hc, hi⟩
theorem HasU.below {w w' : World} {v : Value} {l : List Nat} (h : HasU w v l) (hb : Below w.heap.size w w') : HasU w' v l := h.stay (fun b c hc => hb.block b (lt_of_block hc))
theorem HasU.drewN {w : World} {v : Value} {l : List Nat} (h : HasU w v l) (n : Nat) : HasU (w.drewN n) v l := h
theorem HasU.nil (w : World) : HasU w (.slice none 0 0) [] := ⟨none, 0, 0, 0, rfl, Nat.le_refl _, Nat.zero_le _, fun h => absurd h (Nat.lt_irrefl _)⟩
theorem HasU.has {w : World} {v : Value} {l : List Nat} (h : HasU w v l) : HasK w (encN .u64) v l := by
  obtain ⟨p, cap, b, o, rfl, h1, h2, h3⟩ := h
  refine ⟨p, cap, b, o, rfl, h1, h2, fun h => ?_, fun i hi j u hu => ?_⟩
  · obtain ⟨hp, cur, hc, _⟩ := h3 h
    exact ⟨hp, lt_of_block hc⟩
  · obtain ⟨_, cur, hc, hx⟩ := h3 (by omega)
    cases j with
    | succ j => simp [encN] at hu
    | zero =>
      have e : o + i * (encN .u64).k + 0 = o + i := by show o + i * 1 + 0 = o + i; omega
      rw [e]
      have := hx i hi
      simp only [World.cell?, hc]
      simp [encN] at hu
      subst hu
      simp only [Option.isSome_none, Bool.false_eq_true, if_false]
      rw [this, List.getD_eq_getElem?_getD, List.getElem?_eq_getElem hi]
      rfl
theorem HasU.form {w : World} {v : Value} {l : List Nat} (h : HasU w v l) : ∃ p cap, v = .slice p l.length cap ∧ l.length ≤ cap ∧ cap ≤ maxLen := h.has.form
theorem HasU.of_own {w : World} {B : Nat} {v : Value} {l : List Nat} (h : OwnK w B 30 (encN .u64) v l) : HasU w v l := by
  obtain ⟨p, cap, rfl, h1, h2⟩ := h.sl
  by_cases h0 : 0 < l.length
  · obtain ⟨g, c, hv, _⟩ := h.form h0
    simp only [Value.slice.injEq, true_and] at hv
    obtain ⟨rfl, rfl⟩ := hv
    obtain ⟨cur, _, _, _, hh, _, _, hs, ht⟩ := own_parts h h0
    refine ⟨_, cap, g, 0, rfl, h1, h2, fun _ => ⟨rfl, cur, hh, fun i hi => ?_⟩⟩
    rw [Nat.zero_add, ← Array.getElem?_toList]
    have e : (cur.toList.take l.length)[i]? = (flatK (encN .u64) l)[i]? := by rw [ht]
    rw [List.getElem?_take_of_lt hi] at e
    rw [e]
    have q := flatK_get (encN .u64) l i hi 0 (by decide)
    rw [show i * (encN .u64).k + 0 = i by show i * 1 + 0 = i; omega] at q
    rw [q, List.getD_eq_getElem?_getD, List.getElem?_eq_getElem hi]
    rfl
  · exact ⟨p, cap, 0, 0, rfl, h1, h2, fun h => absurd h h0⟩
set_option maxRecDepth 100000 in
/-- What is behind a place. -/
theorem HasU.from {w : World} {p : Option Addr} {n cap : Nat} {l : List Nat} (h : HasU w (.slice p n cap) l) (k : Nat) (hk : k ≤ l.length) (hn : n = l.length) :
    ∃ p' c', (∀ W, (Instr.slice 51 (.slice p n cap) (some (.int .i64 (k : Int))) none none).run Try.prog W = .ok (.slice p' (n - k) c') W) ∧ HasU w (.slice p' (n - k) c') (l.drop k) := by
  subst hn
  obtain ⟨p0, cap0, b, o, hv, h1, h2, h3⟩ := h
  simp only [Value.slice.injEq, true_and] at hv
  obtain ⟨rfl, rfl⟩ := hv
  refine ⟨if cap = k then p else p.map fun x => x.add (k * 1), cap - k, fun W => ?_, ?_⟩
  · rw [run_slice_l (P := Try.prog) (w := W) (t := 51) (a := p) (len := l.length) (cap := cap) Try.underlying51 .i64 (k : Int) (by omega) (by omega), size_n64]
    simp only [Result.andThen, sliced, Int.toNat_natCast]
  · have hl : (l.drop k).length = l.length - k := List.length_drop ..
    refine ⟨_, cap - k, b, o + k, by rw [hl], by rw [hl]; omega, by omega, fun h => ?_⟩
    rw [hl] at h
    obtain ⟨rfl, cur, hc, hx⟩ := h3 (by omega)
    refine ⟨by rw [if_neg (by omega)]; simp [add_plain], cur, hc, fun i hi => ?_⟩
    rw [hl] at hi
    have := hx (k + i) (by omega)
    rw [Nat.add_assoc, this, List.getD_eq_getElem?_getD, List.getD_eq_getElem?_getD, List.getElem?_drop]
theorem close_drop (l : List Nat) (k u : Nat) (hk : k < l.length) (h : l.getD k 0 ≤ u + 1) : closeN u (l.drop k) = closeN (max u (l.getD k 0)) (l.drop (k + 1)) := by
  rw [List.drop_eq_getElem_cons hk, closeN]
  have e : l.getD k 0 = l[k] := by rw [List.getD_eq_getElem?_getD, List.getElem?_eq_getElem hk]; rfl
  rw [e] at h ⊢
  rw [if_pos h]
theorem close_stop (l : List Nat) (k u : Nat) (hk : k < l.length) (h : ¬ l.getD k 0 ≤ u + 1) : closeN u (l.drop k) = ⟨u, l.drop k⟩ := by
  rw [List.drop_eq_getElem_cons hk, closeN]
  have e : l.getD k 0 = l[k] := by rw [List.getD_eq_getElem?_getD, List.getElem?_eq_getElem hk]; rfl
  rw [e] at h
  rw [if_neg h]
theorem HasU.other {w : World} {v : Value} {l : List Nat} (h : HasU w v l) {r o : Nat} {x : Value} {T : TypeId} {C : Array Value} (hr : w.heap[r]? = some (.cells C T (0, 0))) (hT : T ≠ 30) : HasU (w.setCell ⟨r, o, none⟩ x) v l :=
  h.stay (fun b c hc => Below.heap_setCell _ _ _ _ (fun e => by
    have e' : b = r := e
    subst e'
    rw [hr] at hc
    simp only [Option.some.injEq, Obj.cells.injEq] at hc
    exact hT hc.2.1))
theorem info_nb : (Try.prog.info? 55).map (fun i => (i.zero, i.size, i.bytes)) = some (some (.agg #[.int .u64 0, .slice none 0 0]), 2, 32) := by kernel_rfl
theorem size_nb : (Try.prog.info? 55).map (·.size) = some 2 := by kernel_rfl
/-- A pair of cells written. -/
theorem two_set {w : World} {r : Nat} {T : TypeId} {a b x y : Value} (h : w.heap[r]? = some (.cells #[a, b] T (0, 0))) : ((w.setCell ⟨r, 0, none⟩ x).setCell ⟨r, 1, none⟩ y).heap[r]? = some (.cells #[x, y] T (0, 0)) := by
  rw [heap_setCell_same _ _ _ _ _ _ (heap_setCell_same _ _ _ _ _ _ h)]
  rfl
theorem HasU.two {w : World} {v : Value} {l : List Nat} (h : HasU w v l) {r : Nat} {x y a b : Value} (hr : w.heap[r]? = some (.cells #[a, b] 55 (0, 0))) : HasU ((w.setCell ⟨r, 0, none⟩ x).setCell ⟨r, 1, none⟩ y) v l :=
  (h.other hr (by decide)).other (heap_setCell_same _ _ _ _ _ _ hr) (by decide)
set_option maxRecDepth 100000 in
set_option maxHeartbeats 4000000 in
theorem closed_any (u : Nat) (mv : Value) (l : List Nat) (w : World) (hv : HasU w mv l) (hl : l.length ≤ 1000000000) (hu : u ≤ 2199023255552) (hm : ∀ x ∈ l, x ≤ 2199023255552) :
    Calls Try.prog 41 #[.int .u64 (u : Int), mv] w fun e w' => ∃ mv', e = .returned (.agg #[.int .u64 ((closeN u l).upto : Int), mv']) ∧ HasU w' mv' (closeN u l).more ∧ Below w.heap.size w w' := by
  obtain ⟨p, cap, rfl, h1, h2⟩ := hv.form
  have hcI : (cap : Int) ≤ 9223372036854775807 := by unfold maxLen at h2; omega
  obtain ⟨n, hn⟩ : ∃ n, l.length = n := ⟨_, rfl⟩
  rw [hn] at hv h1 hl ⊢
  have hb0 := (Below.refl w.heap.size w).alloc (Nat.le_refl _) (.cells #[.int .u64 0, .slice none 0 0] 55)
  have hcells : (w.alloc (.cells #[.int .u64 0, .slice none 0 0] 55)).heap[w.heap.size]? = some (.cells #[.int .u64 0, .slice none 0 0] 55 (0, 0)) := heap_alloc_new _ _
  have HN := Lib.hid hn
  have HV := Lib.hid (hv.below hb0)
  have HB := Lib.hid hb0
  have HCE := Lib.hid hcells
  have HM := Lib.hid hm
  clear hv hn hb0 h2 hm hcells
  go_enter Try.func41, Try.ntmps41
  go_wp2_with fail
  generalize (w.alloc (.cells #[.int .u64 0, .slice none 0 0] 55)) = w1 at *
  have hce := HCE.out
  have c0 : w1.cell? ⟨w.heap.size, 0, none⟩ = some (.int .u64 0) := by simp [World.cell?, hce]
  have c1 : w1.cell? ⟨w.heap.size, 1, none⟩ = some (.slice none 0 0) := by simp [World.cell?, hce]
  have f0 : w1.frozen? ⟨w.heap.size, 0, none⟩ = false := by simp [World.frozen?, hce]
  have f1 : w1.frozen? ⟨w.heap.size, 1, none⟩ = false := by simp [World.frozen?, hce]
  clear hce
  go_loop [0, 5] (fun v0 v5 => ∃ k u' : Nat, v0 = .int .u64 (u' : Int) ∧ v5 = .int .i64 (k : Int) ∧ k ≤ n ∧ u' ≤ 2199023255552 ∧ closeN u l = closeN u' (l.drop k)) (fun _ v5 => n - (intOf v5).toNat)
  case atStart => exact ⟨0, u, rfl, rfl, Nat.zero_le _, hu, rfl⟩
  case round =>
    obtain ⟨k, u', rfl, rfl, hk, hu', hc⟩ := hrel
    have HC := Lib.hid hc
    clear hc
    have hu1 : (u' : Int) ≤ 2199023255552 := by omega
    rcases Nat.lt_or_ge k n with hlt | hge
    · have hltI : (k : Int) < (n : Int) := by omega
      have hk0 : (0 : Int) ≤ (k : Int) := by omega
      have hkl : k < l.length := by rw [HN.out]; exact hlt
      have hmy := HM.out _ (mem_getD l k hkl)
      have hcd := close_drop l k u' hkl
      have hcs := close_stop l k u' hkl
      obtain ⟨b, o, cap2, p2, hpe, -, -, HP, HC2⟩ := HV.out.has.open
      simp only [Value.slice.injEq] at hpe
      obtain ⟨rfl, -, rfl⟩ := hpe
      obtain ⟨rfl, hbl⟩ := HP.out (by omega)
      have hcy := HasK.numAt HC2.out k hkl
      obtain ⟨y, hy⟩ : ∃ y, l.getD k 0 = y := ⟨_, rfl⟩
      rw [hy] at hmy hcd hcs hcy
      have HCD := Lib.hid hcd
      have HCS := Lib.hid hcs
      clear hy hcd hcs HC2 HP
      rcases Nat.lt_or_ge (u' + 1) y with hyu | hyu
      · have hyI : ¬ (y : Int) ≤ (u' : Int) + 1 := by omega
        obtain ⟨p', c', hsl, hh⟩ := HV.out.from k (by omega) HN.out.symm
        have HSL := Lib.hid hh
        have hco := HC.out.trans (HCS.out (by omega))
        have HCO := Lib.hid hco
        clear hh hco
        go_wp2
        refine bodyPost_ret (v := .agg #[.int .u64 (u' : Int), .slice p' (n - k) c']) (results_cell_row rfl _ _ w.heap.size 55 _ (0, 0) _ rfl (two_set HCE.out) Try.underlying55 rfl size_nb) rfl ⟨_, by rw [HCO.out], by rw [HCO.out]; exact HSL.out.two HCE.out, (HB.out.setCell (Nat.le_refl _) _).setCell (Nat.le_refl _) _⟩
      · have hyI : (y : Int) ≤ (u' : Int) + 1 := by omega
        have hmx : max (u' : Int) (y : Int) = ((max u' y : Nat) : Int) := by omega
        go_wp2
        go_round
        case rel => exact ⟨k + 1, max u' y, by first | rfl | (rw [hmx]) | go_num, by go_num, hlt, by omega, HC.out.trans (HCD.out (by omega))⟩
        case measure => simp [intOf] <;> omega
    · obtain rfl : k = n := by omega
      have hnl : ¬ (k : Int) < (k : Int) := by omega
      obtain ⟨p', c', hsl, hh⟩ := HV.out.from k (by rw [HN.out]; exact Nat.le_refl _) HN.out.symm
      have hde : l.drop k = [] := List.drop_eq_nil_of_le (by rw [HN.out]; exact Nat.le_refl _)
      have hco : closeN u l = ⟨u', []⟩ := by rw [HC.out, hde]; rfl
      rw [hde] at hh
      have HSL := Lib.hid hh
      have HCO := Lib.hid hco
      clear hh hco hde
      go_wp2
      rw [Nat.sub_self] at HSL
      refine bodyPost_ret (v := .agg #[.int .u64 (u' : Int), .slice p' 0 c']) (results_cell_row rfl _ _ w.heap.size 55 _ (0, 0) _ rfl (two_set HCE.out) Try.underlying55 rfl size_nb) rfl ⟨_, by rw [HCO.out], by rw [HCO.out]; exact HSL.out.two HCE.out, (HB.out.setCell (Nat.le_refl _) _).setCell (Nat.le_refl _) _⟩
theorem results_bool {a b : Bool} (h : a = b) : Ending.returned (.bool a) = .returned (.bool b) := by rw [h]
set_option maxRecDepth 100000 in
set_option maxHeartbeats 4000000 in
theorem has_any (q : Nm) (mv : Value) (n : Nat) (w : World) (hv : HasU w mv q.more) (hr : rising q.more) (hl : q.more.length ≤ 1000000000) :
    Calls Try.prog 32 #[.agg #[.int .u64 (q.upto : Int), mv], .int .u64 (n : Int)] w fun e w' => e = .returned (.bool (q.has n)) ∧ Below w.heap.size w w' := by
  obtain ⟨u, l⟩ := q
  simp only at hv hr hl ⊢
  have hq : Nm.has ⟨u, l⟩ n = (decide (n ≤ u) || decide (n ∈ l)) := rfl
  have hb0 := (Below.refl w.heap.size w).alloc (Nat.le_refl _) (.cells #[.int .u64 (u : Int), mv] 55)
  obtain ⟨p, cap, rfl, h1, h2⟩ := hv.form
  have HV := Lib.hid (hv.below hb0)
  have HB := Lib.hid hb0
  have HQ := Lib.hid hq
  have HR := Lib.hid hr
  obtain ⟨m, hm⟩ : ∃ m, l.length = m := ⟨_, rfl⟩
  have HLL := Lib.hid hl
  rw [hm] at HV HB h1 ⊢
  clear hv hb0 hq hr h2 hm hl
  rcases Nat.lt_or_ge u n with h | h
  · have hI : ¬ (n : Int) ≤ (u : Int) := by omega
    go_enter Try.func32, Try.ntmps32
    go_wp2_with fail
    refine (Search_any _ l n _ (by have z := HV.out.has; exact z) HR.out HLL.out).mono ?_
    rintro e w' ⟨rfl, rfl⟩
    have hf : Nm.has ⟨u, l⟩ n = decide (n ∈ l) := by rw [HQ.out, decide_eq_false (by omega), Bool.false_or]
    have HF := Lib.hid hf
    generalize decide (n ∈ l) = bb at *
    clear hf
    go_wp2
    go_ret
    exact ⟨by rw [HF.out]; rfl, HB.out⟩
  · have hI : (n : Int) ≤ (u : Int) := by omega
    have hf : Nm.has ⟨u, l⟩ n = true := by rw [HQ.out, decide_eq_true h, Bool.true_or]
    rw [hf]
    clear hf
    go_enter Try.func32, Try.ntmps32
    go_wp2
    go_ret
    exact ⟨rfl, HB.out⟩
end Go.Proofs.Ytfgfamafjkjakaa
