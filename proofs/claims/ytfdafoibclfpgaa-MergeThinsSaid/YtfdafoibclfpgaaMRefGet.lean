/-
  The document's own answer: a key's item at a moment; whether an item is what is seen.
-/
import Derived.Test.YtfdafoibclfpgaaMRefSeen
import Derived.Laws.ResultCell
import Derived.Laws.Rows
namespace Go.Proofs.Ytfdafoibclfpgaa
open Go.ChangeShapes Go.WideShapes Go.ChangeAt Go.RowKit Go.Deep
set_option linter.unusedVariables false
set_option linter.unusedSimpArgs false
/-- The best of the first i, by its place; none: -1. -/
def BestAt (l : List Itm) (key : ByteArray) (q i : Nat) (vb : Value) : Prop :=
  (vb = .int .i64 (-1) ∧ ∀ j (h : j < l.length), j < i → ¬ (l[j].key = key ∧ l[j].seq ≤ q)) ∨
  ∃ b : Nat, ∃ hb : b < l.length, vb = .int .i64 (b : Int) ∧ b < i ∧ l[b].key = key ∧ l[b].seq ≤ q ∧ ∀ j (h : j < l.length), j < i → l[j].key = key → l[j].seq ≤ q → l[j].seq ≤ l[b].seq
def zeroI : Itm := ⟨⟨#[]⟩, 0, false, ⟨#[]⟩⟩
def GetRes (l : List Itm) (key : ByteArray) (q : Nat) (e : Ending) : Prop :=
  (∃ y ∈ l, e = .returned (.tuple #[y.v, .bool true]) ∧ y.key = key ∧ y.seq ≤ q ∧ ∀ z ∈ l, z.key = key → z.seq ≤ q → z.seq ≤ y.seq) ∨
  ((∀ z ∈ l, z.key = key → ¬ z.seq ≤ q) ∧ e = .returned (.tuple #[zeroI.v, .bool false]))
theorem results_item {fn : Func} {p u : Tmp} (h : fn.results = #[.cell p 29, .tmp u]) (tmps : Array Value) (W : World) (g : Nat) (x : Itm) (hp : tmps.getD p undef = .pointer (some ⟨g, 0, none⟩)) (hg : W.heap[g]? = some (.cells #[.string x.key, .int .u64 (x.seq : Int), .bool x.gone, .string x.val] 29 (0, 0))) :
    (results fn tmps).run Try.prog W = .ok (.tuple #[x.v, tmps.getD u undef]) W := by
  have hl := run_loadVar_row (P := Try.prog) W g 29 29 #[.string x.key, .int .u64 (x.seq : Int), .bool x.gone, .string x.val] (0, 0) _ hg Try.underlying29 rfl (by kernel_rfl)
  rw [results_cell_tmp h, hp]
  simp only [asAddr, Sem.run_pure, Result.andThen_ok, hl]
  rfl
theorem set4 {W : World} {G : Nat} {T : TypeId} {a b c d x y z t : Value} (h : W.heap[G]? = some (.cells #[a, b, c, d] T (0, 0))) :
    ((((W.setCell ⟨G, 0, none⟩ x).setCell ⟨G, 1, none⟩ y).setCell ⟨G, 2, none⟩ z).setCell ⟨G, 3, none⟩ t).heap[G]? = some (.cells #[x, y, z, t] T (0, 0)) := by
  have h1 : (W.setCell ⟨G, 0, none⟩ x).heap[G]? = some (.cells #[x, b, c, d] T (0, 0)) := heap_setCell_same _ _ _ _ _ _ h
  have h2 : ((W.setCell ⟨G, 0, none⟩ x).setCell ⟨G, 1, none⟩ y).heap[G]? = some (.cells #[x, y, c, d] T (0, 0)) := heap_setCell_same _ _ _ _ _ _ h1
  have h3 : (((W.setCell ⟨G, 0, none⟩ x).setCell ⟨G, 1, none⟩ y).setCell ⟨G, 2, none⟩ z).heap[G]? = some (.cells #[x, y, z, d] T (0, 0)) := heap_setCell_same _ _ _ _ _ _ h2
  exact heap_setCell_same _ _ _ _ _ _ h3
theorem below4 {B G : Nat} {w W : World} (h : Below B w W) (hG : B ≤ G) (x y z t : Value) : Below B w ((((W.setCell ⟨G, 0, none⟩ x).setCell ⟨G, 1, none⟩ y).setCell ⟨G, 2, none⟩ z).setCell ⟨G, 3, none⟩ t) :=
  (((h.setCell (p := ⟨G, 0, none⟩) hG x).setCell (p := ⟨G, 1, none⟩) hG y).setCell (p := ⟨G, 2, none⟩) hG z).setCell (p := ⟨G, 3, none⟩) hG t
set_option maxRecDepth 100000 in
set_option maxHeartbeats 16000000 in
theorem Get_any (v : Value) (l : List Itm) (key : ByteArray) (q : Nat) (w : World) (hv : HasK w encI v l) (hl : l.length ≤ 1000000) :
    Calls Try.prog 33 #[v, .string key, .int .u64 (q : Int)] w fun e w' => GetRes l key q e ∧ Below w.heap.size w w' := by
  obtain ⟨p, cap, rfl, h1, h2⟩ := hv.form
  obtain ⟨n, hn⟩ : ∃ n, l.length = n := ⟨_, rfl⟩
  have HN := Lib.hid hn
  have HV := Lib.hid hv
  rw [hn] at hl h1 HV ⊢
  have hcI : (cap : Int) ≤ 9223372036854775807 := by unfold maxLen at h2; omega
  clear hv hn h2
  have hba := (Below.refl w.heap.size w).alloc (Nat.le_refl _) (.cells #[.string ⟨#[]⟩, .int .u64 0, .bool false, .string ⟨#[]⟩] 29)
  have hna := heap_alloc_new w (.cells #[.string ⟨#[]⟩, .int .u64 0, .bool false, .string ⟨#[]⟩] 29)
  go_enter Try.func33, Try.ntmps33
  go_wp2_with fail
  obtain ⟨W, hW⟩ : ∃ W, w.alloc (.cells #[.string ⟨#[]⟩, .int .u64 0, .bool false, .string ⟨#[]⟩] 29) = W := ⟨_, rfl⟩
  obtain ⟨G, hG⟩ : ∃ G, w.heap.size = G := ⟨_, rfl⟩
  rw [hW] at hba hna ⊢
  have HV1 := Lib.hid (HV.out.below hba)
  rw [hG] at hba hna ⊢
  have HBA := Lib.hid hba
  have HNA := Lib.hid hna
  have HGG := Lib.hid hG
  clear hW hG hba hna
  go_loopw [8, 9] (fun vb vi wr => ∃ i : Nat, vi = .int .i64 (i : Int) ∧ i ≤ n ∧ BestAt l key q i vb ∧ Below W.heap.size W wr) (fun _ vi _ => n - (intOf vi).toNat)
  case atStart => exact ⟨0, rfl, Nat.zero_le _, .inl ⟨rfl, fun j _ h => absurd h (Nat.not_lt_zero _)⟩, Below.refl _ _⟩
  case round =>
    obtain ⟨i, rfl, hi, hbest, hb⟩ := hrel
    obtain ⟨W0, rfl⟩ : ∃ W0, W0 = wr := ⟨wr, rfl⟩
    have HB := Lib.hid hb
    have HV0 := Lib.hid (HV1.out.below hb)
    have HBEST := Lib.hid hbest
    clear hb hbest
    rcases Nat.lt_or_ge i n with hlt | hge
    · have hI : (i : Int) < (n : Int) := by omega
      have hi0 : (0 : Int) ≤ (i : Int) := by omega
      have hil : i < l.length := by rw [HN.out]; exact hlt
      obtain ⟨b, o, cap2, p2, hpe, -, -, HPP, HC⟩ := HV0.out.open
      simp only [Value.slice.injEq] at hpe
      obtain ⟨rfl, -, rfl⟩ := hpe
      obtain ⟨rfl, hbl⟩ := HPP.out (by rw [HN.out]; omega)
      obtain ⟨c0, c1, -, -⟩ := HasK.itAt HC.out i hil
      have hno : ∀ vb, BestAt l key q i vb → ¬ (l[i].key = key ∧ l[i].seq ≤ q) → BestAt l key q (i + 1) vb := fun vb h hn => by
        have hj : ∀ j (h : j < l.length), j < i + 1 → j < i ∨ ¬ (l[j].key = key ∧ l[j].seq ≤ q) := fun j h hji => by
          rcases Nat.lt_or_ge j i with h' | h'
          · exact .inl h'
          · obtain rfl : j = i := by omega
            exact .inr hn
        rcases h with ⟨h1, h2⟩ | ⟨a, ha, h1, h2, h3, h4, h5⟩
        · exact .inl ⟨h1, fun j h hji => (hj j h hji).elim (h2 j h) id⟩
        · exact .inr ⟨a, ha, h1, by omega, h3, h4, fun j h hji hk hs => (hj j h hji).elim (fun h' => h5 j h h' hk hs) (fun h' => absurd ⟨hk, hs⟩ h')⟩
      have hyes : l[i].key = key → l[i].seq ≤ q → (∀ j (h : j < l.length), j < i → l[j].key = key → l[j].seq ≤ q → l[j].seq ≤ l[i].seq) → BestAt l key q (i + 1) (.int .i64 (i : Int)) := fun hk hs h => .inr ⟨i, hil, rfl, by omega, hk, hs, fun j hj hji h1 h2 => by
        rcases Nat.lt_or_ge j i with h' | h'
        · exact h j hj h' h1 h2
        · obtain rfl : j = i := by omega
          exact Nat.le_refl _⟩
      have hstay : ∀ a (ha : a < l.length), BestAt l key q i (.int .i64 (a : Int)) → l[i].seq ≤ l[a].seq → BestAt l key q (i + 1) (.int .i64 (a : Int)) := fun a ha h hle => by
        rcases h with ⟨h1, h2⟩ | ⟨a', ha', h1, h2, h3, h4, h5⟩
        · simp only [Value.int.injEq] at h1
          omega
        · simp only [Value.int.injEq] at h1
          obtain rfl : a = a' := by omega
          refine .inr ⟨a, ha, rfl, by omega, h3, h4, fun j hj hji hk hs => ?_⟩
          rcases Nat.lt_or_ge j i with h' | h'
          · exact h5 j hj h' hk hs
          · obtain rfl : j = i := by omega
            exact hle
      have HNO := Lib.hid hno
      have HYES := Lib.hid hyes
      have HSTAY := Lib.hid hstay
      obtain ⟨x, hx⟩ : ∃ x, l[i] = x := ⟨_, rfl⟩
      rw [hx] at c0 c1 HNO HYES HSTAY
      clear hno hyes hstay hx HPP
      rcases hq1 : (x.key.toList == key.toList) with _ | _
      · have hne : ¬ (x.key = key ∧ x.seq ≤ q) := fun h => by
          have := (kEq_iff x.key key).2 h.1
          unfold kEq at this
          rw [hq1] at this
          exact absurd this (by decide)
        have HR := Lib.hid (HNO.out _ HBEST.out hne)
        clear HC hil hne
        go_upto_region 5 with fail
        go_quiet (fail)
        go_wp2
        go_roundw
        case rel => exact ⟨i + 1, by go_num, by omega, HR.out, below_drewN' HB.out _⟩
        case measure => simp [intOf] <;> omega
      · have hk : x.key = key := (kEq_iff x.key key).1 hq1
        rcases (by omega : ¬ (x.seq : Int) ≤ (q : Int) ∨ (x.seq : Int) ≤ (q : Int)) with hq2 | hq2
        · have hq2b : decide ((x.seq : Int) ≤ (q : Int)) = false := decide_eq_false hq2
          have HR := Lib.hid (HNO.out _ HBEST.out (fun h => by have := h.2; omega))
          clear HC hil hk
          go_upto_region 5 with fail
          go_quiet (fail)
          go_wp2
          go_roundw
          case rel => exact ⟨i + 1, by go_num, by omega, HR.out, below_drewN' HB.out _⟩
          case measure => simp [intOf] <;> omega
        · have hq2b : decide ((x.seq : Int) ≤ (q : Int)) = true := decide_eq_true hq2
          rcases HBEST.out with ⟨rfl, hb2⟩ | ⟨a, ha, rfl, hai, hb3, hb4, hb5⟩
          · have HR := Lib.hid (HYES.out hk (by omega) (fun j hj hji h1 h2 => absurd ⟨h1, h2⟩ (hb2 j hj hji)))
            clear HC hil hk hb2
            go_upto_region 5 with fail
            go_quiet (fail)
            go_wp2
            go_roundw
            case rel => exact ⟨i + 1, by go_num, by omega, HR.out, below_drewN' HB.out _⟩
            case measure => simp [intOf] <;> omega
          · obtain ⟨-, d1, -, -⟩ := HasK.itAt HC.out a ha
            have ha0 : ¬ (a : Int) < 0 := by omega
            have ha0b : decide ((a : Int) < 0) = false := decide_eq_false ha0
            have ha00 : (0 : Int) ≤ (a : Int) := by omega
            have han : (a : Int) < (n : Int) := by rw [HN.out] at ha; omega
            have hcmp : l[a].seq < x.seq ∨ x.seq ≤ l[a].seq := by omega
            have HRa := Lib.hid (fun h : x.seq ≤ l[a].seq => HSTAY.out a ha HBEST.out h)
            have HRb := Lib.hid (fun h : l[a].seq < x.seq => HYES.out hk (by omega) (fun j hj hji h1 h2 => by have := hb5 j hj hji h1 h2; omega))
            obtain ⟨y, hy⟩ : ∃ y, l[a] = y := ⟨_, rfl⟩
            rw [hy] at d1 hcmp HRa HRb
            clear HC hil hk hb5 hb3 hb4 hy
            rcases hcmp with hc | hc
            · have hcI : (y.seq : Int) < (x.seq : Int) := by omega
              have hcb : decide ((y.seq : Int) < (x.seq : Int)) = true := decide_eq_true hcI
              go_upto_region 5 with fail
              go_quiet (fail)
              go_wp2
              go_roundw
              case rel => exact ⟨i + 1, by go_num, by omega, HRb.out hc, below_drewN' HB.out _⟩
              case measure => simp [intOf] <;> omega
            · have hcI : ¬ (y.seq : Int) < (x.seq : Int) := by omega
              have hcb : decide ((y.seq : Int) < (x.seq : Int)) = false := decide_eq_false hcI
              go_upto_region 5 with fail
              go_quiet (fail)
              go_wp2
              go_roundw
              case rel => exact ⟨i + 1, by go_num, by omega, HRa.out hc, below_drewN' HB.out _⟩
              case measure => simp [intOf] <;> omega
    · have hI : ¬ (i : Int) < (n : Int) := by omega
      have hnG : W0.heap[G]? = some (.cells #[.string ⟨#[]⟩, .int .u64 0, .bool false, .string ⟨#[]⟩] 29 (0, 0)) := (HB.out.block G (lt_of_block HNA.out)).trans HNA.out
      have g0 : W0.cell? ⟨G, 0, none⟩ = some (.string ⟨#[]⟩) := by simp [World.cell?, hnG]
      have g1 : W0.cell? ⟨G, 1, none⟩ = some (.int .u64 0) := by simp [World.cell?, hnG]
      have g2 : W0.cell? ⟨G, 2, none⟩ = some (.bool false) := by simp [World.cell?, hnG]
      have g3 : W0.cell? ⟨G, 3, none⟩ = some (.string ⟨#[]⟩) := by simp [World.cell?, hnG]
      have f0 : ∀ j, W0.frozen? ⟨G, j, none⟩ = false := fun j => by simp [World.frozen?, hnG]
      rcases HBEST.out with ⟨rfl, hb2⟩ | ⟨a, ha, rfl, hai, hb3, hb4, hb5⟩
      · have hbW : Below G w W0 := HBA.out.trans (HB.out.mono (by have := HBA.out.size; rw [HGG.out] at this; exact this))
        go_wp2
        refine bodyPost_ret (results_item (p := 6) (u := 7) rfl _ _ G zeroI rfl (set4 hnG)) rfl ⟨.inr ⟨fun z hz hk hs => ?_, rfl⟩, ?_⟩
        · obtain ⟨j, hj, rfl⟩ := List.getElem_of_mem hz
          exact hb2 j hj (by rw [HN.out] at hj; omega) ⟨hk, hs⟩
        · rw [HGG.out]
          exact below4 hbW (Nat.le_refl _) _ _ _ _
      · have hbW : Below G w W0 := HBA.out.trans (HB.out.mono (by have := HBA.out.size; rw [HGG.out] at this; exact this))
        obtain ⟨b, o, cap2, p2, hpe, -, -, HPP, HC⟩ := HV0.out.open
        simp only [Value.slice.injEq] at hpe
        obtain ⟨rfl, -, rfl⟩ := hpe
        obtain ⟨rfl, hbl⟩ := HPP.out (by rw [HN.out] at ha; omega)
        obtain ⟨d0, d1, d2, d3⟩ := HasK.itAt HC.out a ha
        have ha0 : ¬ (a : Int) < 0 := by omega
        have ha0b : decide ((a : Int) < 0) = false := decide_eq_false ha0
        have ha00 : (0 : Int) ≤ (a : Int) := by omega
        have han : (a : Int) < (n : Int) := by rw [HN.out] at ha; omega
        have hfin : GetRes l key q (.returned (.tuple #[(l[a]).v, .bool true])) := .inl ⟨l[a], List.getElem_mem ha, rfl, hb3, hb4, fun z hz hk hs => by
          obtain ⟨j, hj, rfl⟩ := List.getElem_of_mem hz
          exact hb5 j hj (by rw [HN.out] at hj; omega) hk hs⟩
        obtain ⟨y, hy⟩ : ∃ y, l[a] = y := ⟨_, rfl⟩
        rw [hy] at d0 d1 d2 d3 hfin
        have HFIN := Lib.hid hfin
        clear hfin hb5 hb3 hb4 hy HC HPP
        go_wp2
        refine bodyPost_ret (results_item (p := 6) (u := 7) rfl _ _ G y rfl (set4 hnG)) rfl ⟨HFIN.out, ?_⟩
        rw [HGG.out]
        exact below4 hbW (Nat.le_refl _) _ _ _ _
section
variable {P : Program} {ops : Array Oper} {Q : Exit → Act → World → Prop}
theorem wpList_runI {rest : List Oper} {o : Oper} {a : Act} {w : World} {v : Value} (hw : Region.wanted o (yielded ops a.tmps) = true) (hr : (execOp a.eval o).run P w = .ok (.value v) w) (h : wpList P ops Q rest (a.put o.dst v) w) : wpList P ops Q (o :: rest) a w :=
  wpList_step fun K hK => by
    rw [if_pos hw]
    unfold Oper.wp
    rw [hr, Oper.upon_value]
    exact hK _ _ h
end
def ShownRes (l : List Itm) (q : Nat) (x : Itm) (e : Ending) : Prop := ∃ r : Bool, e = .returned (.bool r) ∧ (r = true ↔ shownAt l q x)
theorem shownRes {l : List Itm} {q : Nat} {x : Itm} {r : Bool} (h : r = true ↔ shownAt l q x) : ShownRes l q x (.returned (.bool r)) := ⟨r, rfl, h⟩
set_option maxRecDepth 100000 in
set_option maxHeartbeats 8000000 in
theorem Shown_any (v : Value) (l : List Itm) (x : Itm) (q : Nat) (w : World) (hv : HasK w encI v l) (hl : l.length ≤ 1000000) (hs : SortedI l) (hx : x ∈ l) :
    Calls Try.prog 27 #[v, x.v, .int .u64 (q : Int)] w fun e w' => ShownRes l q x e ∧ Below w.heap.size w w' := by
  have HL := Lib.hid hl
  have HSO := Lib.hid hs
  have HXM := Lib.hid hx
  have hba := (Below.refl w.heap.size w).alloc (Nat.le_refl _) (.cells #[.string x.key, .int .u64 (x.seq : Int), .bool x.gone, .string x.val] 29)
  have hna := heap_alloc_new w (.cells #[.string x.key, .int .u64 (x.seq : Int), .bool x.gone, .string x.val] 29)
  unfold Itm.v
  go_enter Try.func27, Try.ntmps27
  go_wp2_with fail
  obtain ⟨W, hW⟩ : ∃ W, w.alloc (.cells #[.string x.key, .int .u64 (x.seq : Int), .bool x.gone, .string x.val] 29) = W := ⟨_, rfl⟩
  obtain ⟨G, hG⟩ : ∃ G, w.heap.size = G := ⟨_, rfl⟩
  rw [hW] at hba hna ⊢
  have HV1 := Lib.hid (hv.below hba)
  rw [hG] at hba hna ⊢
  have HBA := Lib.hid hba
  have HNA := Lib.hid hna
  have HGG := Lib.hid hG
  have HGW := Lib.hid (lt_of_block hna)
  clear hW hG hba hna hl hs hx hv
  refine (Get_any v l x.key q W HV1.out HL.out).mono ?_
  rintro e w1 ⟨hres, hb1⟩
  have hn1 : w1.heap[G]? = some (.cells #[.string x.key, .int .u64 (x.seq : Int), .bool x.gone, .string x.val] 29 (0, 0)) := (hb1.block G HGW.out).trans HNA.out
  have HB1 := Lib.hid (HBA.out.trans (hb1.mono (Nat.le_of_lt HGW.out)))
  have HS1 := Lib.hid (Nat.le_trans (Nat.le_of_lt HGW.out) hb1.size)
  have HG1 := Lib.hid (Nat.lt_of_lt_of_le HGW.out hb1.size)
  clear hb1
  rcases hres with ⟨y, hy, rfl, hyk, hyq, hym⟩ | ⟨hno, rfl⟩
  · have hiff : eqI y x = true ↔ shownAt l q x := by
      rw [eqI_iff]
      constructor
      · rintro rfl
        exact ⟨hyq, fun z hz hk hs => hym z hz hk hs⟩
      · rintro ⟨h1, h2⟩
        have e1 := h2 y hy hyk hyq
        have e2 := hym x HXM.out rfl h1
        exact sorted_unique HSO.out hy HXM.out hyk (by omega)
    have HIFF := Lib.hid hiff
    have hbb := (Below.refl w1.heap.size w1).alloc (Nat.le_refl _) (.cells #[.string y.key, .int .u64 (y.seq : Int), .bool y.gone, .string y.val] 29)
    have hn2 := heap_alloc_new w1 (.cells #[.string y.key, .int .u64 (y.seq : Int), .bool y.gone, .string y.val] 29)
    have hn1' := (hbb.block G HG1.out).trans hn1
    have HB2 := Lib.hid (HB1.out.trans (hbb.mono HS1.out))
    clear hiff hyk hyq hym hy hbb
    unfold Itm.v
    go_upto_region 2 with fail
    obtain ⟨W2, hW2⟩ : ∃ W2, w1.alloc (.cells #[.string y.key, .int .u64 (y.seq : Int), .bool y.gone, .string y.val] 29) = W2 := ⟨_, rfl⟩
    obtain ⟨G2, hG2⟩ : ∃ G, w1.heap.size = G := ⟨_, rfl⟩
    rw [hW2] at hn2 hn1' HB2 ⊢
    rw [hG2] at hn2 ⊢
    obtain ⟨a0, a1, a2, a3⟩ : ItC W2 G2 0 y := ⟨by simp [World.cell?, hn2], by simp [World.cell?, hn2], by simp [World.cell?, hn2], by simp [World.cell?, hn2]⟩
    obtain ⟨b0, b1, b2, b3⟩ : ItC W2 G 0 x := ⟨by simp [World.cell?, hn1'], by simp [World.cell?, hn1'], by simp [World.cell?, hn1'], by simp [World.cell?, hn1']⟩
    obtain ⟨r, hr⟩ : ∃ r, eqI y x = r := ⟨_, rfl⟩
    rw [hr] at HIFF
    have HR := Lib.hid hr
    clear hW2 hG2 hn2 hn1' hn1 hr
    go_wp2_with (refine wpList_runI (by kernel_rfl) (exec_eqI (.tmp 19) (.tmp 20) 29 rfl y x rfl rfl r HR.out _) ?_)
    go_ret
    exact ⟨shownRes HIFF.out, by rw [HGG.out]; exact HB2.out⟩
  · have hns : false = true ↔ shownAt l q x := ⟨fun h => absurd h (by decide), fun h => absurd h.1 (hno x HXM.out rfl)⟩
    have HNS := Lib.hid hns
    have hbb := (Below.refl w1.heap.size w1).alloc (Nat.le_refl _) (.cells #[.string ⟨#[]⟩, .int .u64 0, .bool false, .string ⟨#[]⟩] 29)
    have HB2 := Lib.hid (HB1.out.trans (hbb.mono HS1.out))
    clear hns hno hbb hn1
    unfold zeroI Itm.v
    go_wp2
    go_ret
    exact ⟨shownRes HNS.out, by rw [HGG.out]; exact HB2.out⟩
end Go.Proofs.Ytfdafoibclfpgaa
