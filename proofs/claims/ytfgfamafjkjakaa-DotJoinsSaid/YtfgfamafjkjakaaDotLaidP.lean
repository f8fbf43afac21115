/-
  A set that is laid is read as it was; sets that are within one another are the same: plain mathematics.
  A set made anew out of its parts: plain mathematics.
-/
import Derived.Test.YtfgfamafjkjakaaDotBackA
import Derived.Test.YtfgfamafjkjakaaDotGrowM
namespace Go.Proofs.Ytfgfamafjkjakaa
open Go.ChangeShapes Go.WideShapes Go.ChangeAt Go.RowKit Go.Deep
set_option linter.unusedVariables false
set_option linter.unusedSimpArgs false
/-- What a set's numbers are like. -/
def OkS (f : List Nm) : Prop := f.length = 16 ∧ ∀ i, i < 16 → (f.getD i Nm.zero).Ok ∧ (f.getD i Nm.zero).more.length ≤ 4096
theorem SetIs.oks {W : World} {R : Nat} {f : List Nm} (h : SetIs W R f) : OkS f :=
  ⟨h.len, fun i hi => by obtain ⟨_, _, _, _, h1, h2, _⟩ := h.at_ i hi; exact ⟨h1, h2⟩⟩
theorem rU_tail {l : List UInt8} {a x : Nat} {t : List UInt8} (h : l.drop a = Lib.uvarint x ++ t) (hx : x < 18446744073709551616) : rU l a false = (x, a + (Lib.uvarint x).length, false) := by
  have hp := Lib.uvarint_pos x
  unfold rU
  rw [h, num_uv x hx t, if_neg (by simp), if_neg (show ¬ (Lib.uvarint x).length = 0 by omega)]
theorem rI_tail {l : List UInt8} {a x : Nat} {t : List UInt8} {most : Int} (h : l.drop a = Lib.uvarint x ++ t) (hx : (x : Int) ≤ most) (hm : most < 18446744073709551616) : rI l a false most = (x, a + (Lib.uvarint x).length, false) := by
  unfold rI
  rw [rU_tail h (by omega), if_neg (by simp; omega)]
theorem drop_tail {l : List UInt8} {a : Nat} {s t : List UInt8} (h : l.drop a = s ++ t) : l.drop (a + s.length) = t := by
  rw [← List.drop_drop, h, List.drop_left]
theorem rStep_laid (l : List UInt8) : ∀ (T : List Nat) (a last least : Nat) (acc : List Nat) (t : List UInt8), rising T → (∀ y ∈ T, last + least ≤ y) → (∀ y ∈ T, y ≤ 1099511627776) → l.drop a = encFrom last T ++ t →
    rStep l T.length a false last least acc = (true, acc ++ T, a + (encFrom last T).length, false)
  | [], a, last, least, acc, t, _, _, _, _ => by rw [List.append_nil]; rfl
  | x :: r, a, last, least, acc, t, hr, hl, hm, hd => by
    have hx := hl x (List.mem_cons_self ..)
    have hx2 := hm x (List.mem_cons_self ..)
    rw [encFrom, List.append_assoc] at hd
    have h1 := rI_tail (most := 1099511627776) hd (by omega) (by decide)
    rw [List.length_cons, rStep_good h1 (by omega), show last + (x - last) = x by omega,
      rStep_laid l r _ x 1 _ t hr.2 (fun y hy => by have := hr.1 y hy; omega) (fun y hy => hm y (List.mem_cons_of_mem _ hy)) (drop_tail hd), encFrom, List.length_append, List.append_assoc, Nat.add_assoc]
    rfl
theorem rNum_laid {l : List UInt8} {a : Nat} {q : Nm} {t : List UInt8} (ho : q.Ok) (hl : q.more.length ≤ 4096) (hv : live q = true) (hd : l.drop a = (Lib.uvarint q.upto ++ Lib.uvarint q.more.length ++ encMore q q.more.length) ++ t) :
    rNum l a false = ((q, true), a + (Lib.uvarint q.upto ++ Lib.uvarint q.more.length ++ encMore q q.more.length).length, false) := by
  rw [encMore_from] at hd ⊢
  simp only [List.append_assoc] at hd
  have hu := ho.most
  have h1 := rI_tail (most := 1099511627776) hd (by omega) (by decide)
  have hd2 := drop_tail hd
  have h2 := rI_tail (most := 4096) hd2 (by omega) (by decide)
  have hd3 := drop_tail hd2
  have h3 := rStep_laid l q.more _ q.upto 2 [] t ho.rise (fun y hy => by have := ho.far y hy; omega) ho.mostM hd3
  unfold rNum
  simp only [h1, h2, h3, List.nil_append, if_true, hv, Bool.not_false, Bool.and_true]
  simp only [List.length_append, Nat.add_assoc]
theorem dStep_laid (l : List UInt8) (f : List Nm) (hf : OkS f) : ∀ (n k a least : Nat) (g : List Nm) (t : List UInt8), k + n = 16 → least ≤ k → g.length = 16 → (∀ i, i < k → g.getD i Nm.zero = f.getD i Nm.zero) → (∀ i, k ≤ i → i < 16 → g.getD i Nm.zero = Nm.zero) →
    l.drop a = (partsFrom f k).flatMap encPart ++ t → dStep l (partsFrom f k).length a false least g = some (f, a + ((partsFrom f k).flatMap encPart).length, false)
  | 0, k, a, least, g, t, h, _, hg, h1, _, _ => by
    obtain rfl : k = 16 := by omega
    have e : g = f := List.ext_getElem? (fun i => by
      rcases Nat.lt_or_ge i 16 with hi | hi
      · have := h1 i hi
        rw [List.getD_eq_getElem?_getD, List.getD_eq_getElem?_getD, List.getElem?_eq_getElem (by omega), List.getElem?_eq_getElem (by rw [hf.1]; omega)] at this
        rw [List.getElem?_eq_getElem (by omega), List.getElem?_eq_getElem (by rw [hf.1]; omega)]
        exact congrArg some this
      · rw [List.getElem?_eq_none (by omega), List.getElem?_eq_none (by rw [hf.1]; omega)])
    rw [e]
    rfl
  | n + 1, k, a, least, g, t, h, hle, hg, h1, h2, hd => by
    obtain ⟨ho, hl⟩ := hf.2 k (by omega)
    have hpf := partsFrom_next f k (by omega)
    obtain ⟨q, hq⟩ : ∃ q, f.getD k Nm.zero = q := ⟨_, rfl⟩
    rw [hq] at ho hl hpf
    cases hv : live q with
    | false =>
      rw [hv, if_neg Bool.false_ne_true] at hpf
      rw [hpf] at hd ⊢
      have hq0 : q = Nm.zero := by
        unfold live at hv
        simp only [Bool.or_eq_false_iff, decide_eq_false_iff_not] at hv
        obtain ⟨u, m⟩ := q
        simp only at hv
        obtain rfl : u = 0 := by omega
        obtain rfl : m = [] := List.eq_nil_of_length_eq_zero (by omega)
        rfl
      exact dStep_laid l f hf n (k + 1) a least g t (by omega) (by omega) hg (fun i hi => by
        rcases (by omega : i < k ∨ i = k) with h | rfl
        · exact h1 i h
        · rw [h2 i (Nat.le_refl _) (by omega), hq, hq0]) (fun i j1 j2 => h2 i (by omega) j2) hd
    | true =>
      rw [hv, if_pos rfl] at hpf
      rw [hpf, List.flatMap_cons] at hd ⊢
      have hd0 : l.drop a = Lib.uvarint k ++ ((Lib.uvarint q.upto ++ Lib.uvarint q.more.length ++ encMore q q.more.length) ++ ((partsFrom f (k + 1)).flatMap encPart ++ t)) := by
        rw [hd]; simp only [encPart, encHead, List.append_assoc]
      have e1 := rI_tail (most := 15) hd0 (by omega) (by decide)
      have hd1 := drop_tail hd0
      have e2 := rNum_laid ho hl hv hd1
      have hd2 := drop_tail hd1
      rw [List.length_cons, dStep_good e1 e2 (by simp; omega)]
      rw [dStep_laid l f hf n (k + 1) _ (k + 1) (g.set k q) t (by omega) (Nat.le_refl _) (by rw [List.length_set]; exact hg)
        (fun i hi => by
          rw [set_getD _ _ _ _ (by omega)]
          rcases (by omega : i < k ∨ i = k) with h | rfl
          · rw [if_neg (by omega)]; exact h1 i h
          · rw [if_pos rfl, hq])
        (fun i j1 j2 => by rw [set_getD _ _ _ _ (by omega), if_neg (by omega)]; exact h2 i (by omega) j2) hd2]
      congr 2
      simp only [encPart, encHead, List.length_append, Prod.mk.injEq, and_true]
      omega
theorem rDec_laid {f : List Nm} (hf : OkS f) : rDec (encS f) = some f := by
  have hL : (partsS f).length ≤ 16 := partsUpto_len f 16
  have he : (encS f).drop 0 = Lib.uvarint (partsS f).length ++ ((partsS f).flatMap encPart) := by
    rw [List.drop_zero, encS, encParts, List.take_length]
  have h1 := rI_tail (most := 16) he (by omega) (by decide)
  have hd1 := drop_tail he
  rw [← List.append_nil ((partsS f).flatMap encPart), ← partsFrom_zero] at hd1
  have h2 := dStep_laid (encS f) f hf 16 0 _ 0 none16 [] rfl (Nat.le_refl _) rfl (fun i hi => absurd hi (Nat.not_lt_zero _)) (fun i _ hi => by
    unfold none16
    rw [List.getD_eq_getElem?_getD, List.getElem?_replicate, if_pos hi]; rfl) hd1
  rw [partsFrom_zero] at h2
  unfold rDec
  simp only [h1, h2]
  have hlen : (encS f).length = 0 + (Lib.uvarint (partsS f).length).length + ((partsS f).flatMap encPart).length := by
    rw [encS, encParts, List.take_length, List.length_append, Nat.zero_add]
  have he0 : eV (encS f) (0 + (Lib.uvarint (partsS f).length).length + ((partsS f).flatMap encPart).length) false = 0 := by
    unfold eV
    exact if_neg (fun h => by
      rcases h with h | h
      · exact Bool.false_ne_true h
      · omega)
  rw [he0, if_pos rfl]
theorem encS_inj {f g : List Nm} (hf : OkS f) (hg : OkS g) (h : encS f = encS g) : f = g := by
  have := rDec_laid hf
  rw [h, rDec_laid hg] at this
  exact (Option.some.inj this).symm
theorem rising_ext : ∀ {l m : List Nat}, rising l → rising m → (∀ x, x ∈ l ↔ x ∈ m) → l = m
  | [], [], _, _, _ => rfl
  | [], y :: s, _, _, h => absurd ((h y).2 (List.mem_cons_self ..)) List.not_mem_nil
  | x :: r, [], _, _, h => absurd ((h x).1 (List.mem_cons_self ..)) List.not_mem_nil
  | x :: r, y :: s, h1, h2, h => by
    have e : x = y := by
      rcases List.mem_cons.1 ((h x).1 (List.mem_cons_self ..)) with e | e
      · exact e
      · have a := h2.1 x e
        rcases List.mem_cons.1 ((h y).2 (List.mem_cons_self ..)) with e2 | e2
        · exact e2.symm
        · have b := h1.1 y e2; omega
    subst e
    rw [rising_ext h1.2 h2.2 (fun z => by
      constructor
      · intro hz
        rcases List.mem_cons.1 ((h z).1 (List.mem_cons_of_mem _ hz)) with e | e
        · have := h1.1 z hz; omega
        · exact e
      · intro hz
        rcases List.mem_cons.1 ((h z).2 (List.mem_cons_of_mem _ hz)) with e | e
        · have := h2.1 z hz; omega
        · exact e)]
theorem within_anti {p q : Nm} (hp : p.Ok) (hq : q.Ok) (h1 : withinN p q = true) (h2 : withinN q p = true) : p = q := by
  obtain ⟨a1, a2⟩ := (withinN_iff _ _).1 h1
  obtain ⟨b1, b2⟩ := (withinN_iff _ _).1 h2
  have hu : p.upto = q.upto := by omega
  have hm : p.more = q.more := rising_ext hp.rise hq.rise (fun x => by
    constructor
    · intro hx
      have h := a2 x hx
      have hf := hp.far x hx
      unfold Nm.has at h
      simp only [Bool.or_eq_true, decide_eq_true_eq] at h
      rcases h with h | h
      · omega
      · exact h
    · intro hx
      have h := b2 x hx
      have hf := hq.far x hx
      unfold Nm.has at h
      simp only [Bool.or_eq_true, decide_eq_true_eq] at h
      rcases h with h | h
      · omega
      · exact h)
  obtain ⟨u, m⟩ := p
  obtain ⟨u', m'⟩ := q
  simp only at hu hm
  rw [hu, hm]
theorem ext16 {f g : List Nm} (hf : f.length = 16) (hg : g.length = 16) (h : ∀ i, i < 16 → f.getD i Nm.zero = g.getD i Nm.zero) : f = g :=
  List.ext_getElem? (fun i => by
    rcases Nat.lt_or_ge i 16 with hi | hi
    · have := h i hi
      rw [List.getD_eq_getElem?_getD, List.getD_eq_getElem?_getD, List.getElem?_eq_getElem (by omega), List.getElem?_eq_getElem (by omega)] at this
      rw [List.getElem?_eq_getElem (by omega), List.getElem?_eq_getElem (by omega)]
      exact congrArg some this
    · rw [List.getElem?_eq_none (by omega), List.getElem?_eq_none (by omega)])
theorem withinS_iff (f g : List Nm) : withinS f g = true ↔ ∀ i, i < 16 → withinN (f.getD i Nm.zero) (g.getD i Nm.zero) = true := by
  unfold withinS
  rw [List.all_eq_true]
  exact ⟨fun h i hi => h i (List.mem_range.2 hi), fun h i hi => h i (List.mem_range.1 hi)⟩
theorem withinS_anti {f g : List Nm} (hf : OkS f) (hg : OkS g) (h1 : withinS f g = true) (h2 : withinS g f = true) : f = g :=
  ext16 hf.1 hg.1 (fun i hi => within_anti (hf.2 i hi).1 (hg.2 i hi).1 ((withinS_iff _ _).1 h1 i hi) ((withinS_iff _ _).1 h2 i hi))
/-- The bytes are the same just if each is within the other. -/
theorem same_bytes {f g : List Nm} (hf : OkS f) (hg : OkS g) : decide (encS f = encS g) = (withinS f g && withinS g f) := by
  rw [Bool.eq_iff_iff]
  simp only [decide_eq_true_eq, Bool.and_eq_true]
  constructor
  · intro h
    obtain rfl := encS_inj hf hg h
    exact ⟨withinS_refl _, withinS_refl _⟩
  · rintro ⟨h1, h2⟩
    rw [withinS_anti hf hg h1 h2]
end Go.Proofs.Ytfgfamafjkjakaa
namespace Go.Proofs.Ytfgfamafjkjakaa
open Go.ChangeShapes Go.WideShapes Go.ChangeAt Go.RowKit Go.Deep
set_option linter.unusedVariables false
set_option linter.unusedSimpArgs false
theorem good_nat {d n : Nat} (hd : d < 16) (hn : 1 ≤ n) (hm : n ≤ 1099511627776) : goodB (d : Int) n = true := by
  unfold goodB
  exact decide_eq_true ⟨by omega, by omega, hn, hm⟩
theorem addS_next (g : List Nm) (d n : Nat) (hg : g.length = 16) (hd : d < 16) (hn : 1 ≤ n) (hm : n ≤ 1099511627776) : addS (g.set d ⟨n - 1, []⟩) d n = (g.set d ⟨n, []⟩, 0) := by
  unfold addS
  rw [good_nat hd hn hm, if_pos rfl, Int.toNat_natCast, set_getD _ _ _ _ (by omega), if_pos rfl]
  have h1 : (⟨n - 1, []⟩ : Nm).has n = false := by
    unfold Nm.has
    simp
    omega
  have h2 : (⟨n - 1, []⟩ : Nm).with n = ⟨n, []⟩ := by
    unfold Nm.with
    rw [if_pos (show n = n - 1 + 1 by omega)]
    rfl
  rw [h1, h2, if_neg Bool.false_ne_true, if_neg (by show ¬ (4096 < 0); omega), List.set_set]
theorem insN_last (n : Nat) : ∀ (l : List Nat), (∀ y ∈ l, y < n) → insN n l = l ++ [n]
  | [], _ => rfl
  | x :: r, h => by
    have hx := h x (List.mem_cons_self ..)
    unfold insN
    rw [if_neg (by omega), insN_last n r (fun y hy => h y (List.mem_cons_of_mem _ hy))]
    rfl
theorem take_below {l : List Nat} (h : rising l) {k : Nat} (hk : k < l.length) : ∀ y ∈ l.take k, y < l.getD k 0 := fun y hy => by
  obtain ⟨j, hj, rfl⟩ := List.getElem_of_mem hy
  rw [List.length_take] at hj
  rw [List.getElem_take]
  have := rising_get h j k (by omega) hk
  rwa [List.getD_eq_getElem?_getD, List.getElem?_eq_getElem (by omega)] at this
theorem addS_more (g : List Nm) (d : Nat) (q : Nm) (k : Nat) (hg : g.length = 16) (hd : d < 16) (hq : q.Ok) (hl : q.more.length ≤ 4096) (hk : k < q.more.length) :
    addS (g.set d ⟨q.upto, q.more.take k⟩) d (q.more.getD k 0) = (g.set d ⟨q.upto, q.more.take (k + 1)⟩, 0) := by
  have hmem : q.more.getD k 0 ∈ q.more := mem_getD q.more k hk
  have hfar := hq.far _ hmem
  have hmost := hq.mostM _ hmem
  have hbel := take_below hq.rise hk
  unfold addS
  rw [good_nat hd (by omega) hmost, if_pos rfl, Int.toNat_natCast, set_getD _ _ _ _ (by omega), if_pos rfl]
  have h1 : (⟨q.upto, q.more.take k⟩ : Nm).has (q.more.getD k 0) = false := by
    unfold Nm.has
    rw [Bool.or_eq_false_iff, decide_eq_false_iff_not, decide_eq_false_iff_not]
    exact ⟨by show ¬ (_ ≤ q.upto); omega, fun hm => by have := hbel _ hm; omega⟩
  have h2 : (⟨q.upto, q.more.take k⟩ : Nm).with (q.more.getD k 0) = ⟨q.upto, q.more.take (k + 1)⟩ := by
    unfold Nm.with
    rw [if_neg (by show ¬ (_ = q.upto + 1); omega), insN_last _ _ hbel, List.take_succ_eq_append_getElem hk]
    congr 3
    rw [List.getD_eq_getElem?_getD, List.getElem?_eq_getElem hk]
    rfl
  rw [h1, h2, if_neg Bool.false_ne_true, if_neg (by show ¬ (4096 < (q.more.take (k + 1)).length); rw [List.length_take]; omega), List.set_set]
def setL (g : List Nm) (L : List (Nat × Nm)) : List Nm := L.foldl (fun g x => g.set x.1 x.2) g
theorem setL_append (g : List Nm) (L : List (Nat × Nm)) (x : Nat × Nm) : setL g (L ++ [x]) = (setL g L).set x.1 x.2 := by
  unfold setL
  rw [List.foldl_append]
  rfl
theorem setL_len (L : List (Nat × Nm)) : ∀ g : List Nm, (setL g L).length = g.length := by
  induction L with
  | nil => intro g; rfl
  | cons x r ih => intro g; show (setL (g.set x.1 x.2) r).length = _; rw [ih, List.length_set]
theorem setL_off (d : Nat) (L : List (Nat × Nm)) : ∀ g : List Nm, (∀ x ∈ L, x.1 ≠ d) → (setL g L).getD d Nm.zero = g.getD d Nm.zero := by
  induction L with
  | nil => intro g _; rfl
  | cons x r ih =>
    intro g h
    show (setL (g.set x.1 x.2) r).getD d Nm.zero = _
    rw [ih _ (fun y hy => h y (List.mem_cons_of_mem _ hy)), List.getD_eq_getElem?_getD, List.getElem?_set, if_neg (h x (List.mem_cons_self ..)), List.getD_eq_getElem?_getD]
theorem parts_mem {f : List Nm} {x : Nat × Nm} (h : x ∈ partsS f) : x.1 < 16 ∧ x.2 = f.getD x.1 Nm.zero ∧ live x.2 = true := by
  unfold partsS partsUpto at h
  obtain ⟨i, hi, rfl⟩ := List.mem_map.1 h
  obtain ⟨h1, h2⟩ := List.mem_filter.1 hi
  exact ⟨List.mem_range.1 h1, rfl, h2⟩
theorem parts_mono {f : List Nm} {i j : Nat} (hij : i < j) (hj : j < (partsS f).length) : ((partsS f)[i]'(by omega)).1 < (partsS f)[j].1 := by
  have hp : (partsS f).Pairwise (fun a b => a.1 < b.1) := by
    unfold partsS partsUpto
    refine List.pairwise_map.2 ?_
    exact (List.pairwise_lt_range (n := 16)).sublist List.filter_sublist
  exact List.pairwise_iff_getElem.1 hp i j (by omega) hj hij
theorem live_not {q : Nm} (hv : live q = false) : q = Nm.zero := by
  unfold live at hv
  simp only [Bool.or_eq_false_iff, decide_eq_false_iff_not] at hv
  obtain ⟨u, m⟩ := q
  simp only at hv
  obtain rfl : u = 0 := by omega
  obtain rfl : m = [] := List.eq_nil_of_length_eq_zero (by omega)
  rfl
theorem none16_getD (i : Nat) : none16.getD i Nm.zero = Nm.zero := by
  unfold none16
  rw [List.getD_eq_getElem?_getD, List.getElem?_replicate]
  split <;> rfl
theorem setL_parts (f : List Nm) : ∀ k, k ≤ 16 → ∀ i, (setL none16 (partsUpto f k)).getD i Nm.zero = if i < k then f.getD i Nm.zero else Nm.zero
  | 0, _, i => by rw [if_neg (Nat.not_lt_zero _)]; exact none16_getD i
  | k + 1, hk, i => by
    have ih := setL_parts f k (by omega) i
    cases hv : live (f.getD k Nm.zero) with
    | true =>
      rw [partsUpto_live hv, setL_append, set_getD _ _ _ _ (by rw [setL_len]; show k < 16; omega)]
      by_cases h : k = i
      · subst h; rw [if_pos rfl, if_pos (Nat.lt_succ_self _)]
      · rw [if_neg h, ih]
        by_cases h2 : i < k
        · rw [if_pos h2, if_pos (by omega)]
        · rw [if_neg h2, if_neg (by omega)]
    | false =>
      rw [partsUpto_not hv, ih]
      by_cases h2 : i < k
      · rw [if_pos h2, if_pos (by omega)]
      · by_cases h : i = k
        · subst h; rw [if_neg h2, if_pos (Nat.lt_succ_self _), live_not hv]
        · rw [if_neg h2, if_neg (by omega)]
/-- The set of the first i parts. -/
def uAt (f : List Nm) (i : Nat) : List Nm := setL none16 ((partsS f).take i)
theorem uAt_len (f : List Nm) (i : Nat) : (uAt f i).length = 16 := setL_len _ _
theorem uAt_first (f : List Nm) : uAt f 0 = none16 := rfl
theorem uAt_next (f : List Nm) (i : Nat) (h : i < (partsS f).length) : uAt f (i + 1) = (uAt f i).set (partsS f)[i].1 (partsS f)[i].2 := by
  unfold uAt
  rw [List.take_succ_eq_append_getElem h, setL_append]
theorem uAt_zero (f : List Nm) (i : Nat) (h : i < (partsS f).length) : (uAt f i).getD (partsS f)[i].1 Nm.zero = Nm.zero := by
  unfold uAt
  rw [setL_off _ _ _ (fun x hx => by
    obtain ⟨j, hj, rfl⟩ := List.getElem_of_mem hx
    rw [List.length_take] at hj
    rw [List.getElem_take]
    have := parts_mono (f := f) (i := j) (j := i) (by omega) h
    omega), none16_getD]
theorem uAt_end {f : List Nm} (hf : OkS f) : uAt f (partsS f).length = f := by
  refine ext16 (uAt_len f _) hf.1 (fun i hi => ?_)
  unfold uAt
  rw [List.take_length]
  have := setL_parts f 16 (Nat.le_refl _) i
  rw [if_pos hi] at this
  exact this
theorem set_zero {g : List Nm} {d : Nat} (hg : g.length = 16) (hd : d < 16) (h : g.getD d Nm.zero = Nm.zero) : g.set d ⟨0, []⟩ = g :=
  ext16 (by rw [List.length_set]; exact hg) hg (fun i hi => by
    rw [set_getD _ _ _ _ (by omega)]
    by_cases e : d = i
    · subst e; rw [if_pos rfl, h]; rfl
    · rw [if_neg e])
end Go.Proofs.Ytfgfamafjkjakaa
