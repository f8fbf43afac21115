/-
  A set that is laid is read as it was; sets that are within one another are the same: plain mathematics.
-/
import Derived.Test.YtfgfamafjkjakabDotBack
import Derived.Test.YtfgfamafjkjakabDotGrowM
namespace Go.Proofs.Ytfgfamafjkjakab
open Go.ChangeShapes Go.WideShapes Go.ChangeAt Go.RowKit Go.Deep
set_option linter.unusedVariables false
set_option linter.unusedSimpArgs false
/-- What a set's numbers are like. -/
def OkS (f : List Nm) : Prop := f.length = 16 ∧ ∀ i, i < 16 → (f.getD i Nm.zero).Ok ∧ (f.getD i Nm.zero).more.length ≤ 4096
theorem SetIs.oks {W : World} {R : Nat} {f : List Nm} (h : SetIs W R f) : OkS f :=
  ⟨h.len, fun i hi => by obtain ⟨_, _, _, _, h1, h2, _⟩ := h.at_ i hi; exact ⟨h1, h2⟩⟩
theorem rU_tail {l : List UInt8} {a x : Nat} {t : List UInt8} (h : l.drop a = Lib.uvarint x ++ t) (hx : x < 18446744073709551616) : rU l a false = (x, a + (Lib.uvarint x).length, false) := by
  have hp := Lib.uvarint_pos x
  unfold rU
  rw [h, num_uv x hx t, if_neg (by simp), if_neg (show ¬ (Lib.uvarint x).length = 0 by omega)]
theorem rI_tail {l : List UInt8} {a x : Nat} {t : List UInt8} {most : Int} (h : l.drop a = Lib.uvarint x ++ t) (hx : (x : Int) ≤ most) (hm : most < 18446744073709551616) : rI l a false most = (x, a + (Lib.uvarint x).length, false) := by
  unfold rI
  rw [rU_tail h (by omega), if_neg (by simp; omega)]
theorem drop_tail {l : List UInt8} {a : Nat} {s t : List UInt8} (h : l.drop a = s ++ t) : l.drop (a + s.length) = t := by
  rw [← List.drop_drop, h, List.drop_left]
theorem rStep_laid (l : List UInt8) : ∀ (T : List Nat) (a last least : Nat) (acc : List Nat) (t : List UInt8), rising T → (∀ y ∈ T, last + least ≤ y) → (∀ y ∈ T, y ≤ 1099511627776) → l.drop a = encFrom last T ++ t →
    rStep l T.length a false last least acc = (true, acc ++ T, a + (encFrom last T).length, false)
  | [], a, last, least, acc, t, _, _, _, _ => by rw [List.append_nil]; rfl
  | x :: r, a, last, least, acc, t, hr, hl, hm, hd => by
    have hx := hl x (List.mem_cons_self ..)
    have hx2 := hm x (List.mem_cons_self ..)
    rw [encFrom, List.append_assoc] at hd
    have h1 := rI_tail (most := 1099511627776) hd (by omega) (by decide)
    rw [List.length_cons, rStep_good h1 (by omega), show last + (x - last) = x by omega,
      rStep_laid l r _ x 1 _ t hr.2 (fun y hy => by have := hr.1 y hy; omega) (fun y hy => hm y (List.mem_cons_of_mem _ hy)) (drop_tail hd), encFrom, List.length_append, List.append_assoc, Nat.add_assoc]
    rfl
theorem rNum_laid {l : List UInt8} {a : Nat} {q : Nm} {t : List UInt8} (ho : q.Ok) (hl : q.more.length ≤ 4096) (hv : live q = true) (hd : l.drop a = (Lib.uvarint q.upto ++ Lib.uvarint q.more.length ++ encMore q q.more.length) ++ t) :
    rNum l a false = ((q, true), a + (Lib.uvarint q.upto ++ Lib.uvarint q.more.length ++ encMore q q.more.length).length, false) := by
  rw [encMore_from] at hd ⊢
  simp only [List.append_assoc] at hd
  have hu := ho.most
  have h1 := rI_tail (most := 1099511627776) hd (by omega) (by decide)
  have hd2 := drop_tail hd
  have h2 := rI_tail (most := 4096) hd2 (by omega) (by decide)
  have hd3 := drop_tail hd2
  have h3 := rStep_laid l q.more _ q.upto 2 [] t ho.rise (fun y hy => by have := ho.far y hy; omega) ho.mostM hd3
  unfold rNum
  simp only [h1, h2, h3, List.nil_append, if_true, hv, Bool.not_false, Bool.and_true]
  simp only [List.length_append, Nat.add_assoc]
theorem dStep_laid (l : List UInt8) (f : List Nm) (hf : OkS f) : ∀ (n k a least : Nat) (g : List Nm) (t : List UInt8), k + n = 16 → least ≤ k → g.length = 16 → (∀ i, i < k → g.getD i Nm.zero = f.getD i Nm.zero) → (∀ i, k ≤ i → i < 16 → g.getD i Nm.zero = Nm.zero) →
    l.drop a = (partsFrom f k).flatMap encPart ++ t → dStep l (partsFrom f k).length a false least g = some (f, a + ((partsFrom f k).flatMap encPart).length, false)
  | 0, k, a, least, g, t, h, _, hg, h1, _, _ => by
    obtain rfl : k = 16 := by omega
    have e : g = f := List.ext_getElem? (fun i => by
      rcases Nat.lt_or_ge i 16 with hi | hi
      · have := h1 i hi
        rw [List.getD_eq_getElem?_getD, List.getD_eq_getElem?_getD, List.getElem?_eq_getElem (by omega), List.getElem?_eq_getElem (by rw [hf.1]; omega)] at this
        rw [List.getElem?_eq_getElem (by omega), List.getElem?_eq_getElem (by rw [hf.1]; omega)]
        exact congrArg some this
      · rw [List.getElem?_eq_none (by omega), List.getElem?_eq_none (by rw [hf.1]; omega)])
    rw [e]
    rfl
  | n + 1, k, a, least, g, t, h, hle, hg, h1, h2, hd => by
    obtain ⟨ho, hl⟩ := hf.2 k (by omega)
    have hpf := partsFrom_next f k (by omega)
    obtain ⟨q, hq⟩ : ∃ q, f.getD k Nm.zero = q := ⟨_, rfl⟩
    rw [hq] at ho hl hpf
    cases hv : live q with
    | false =>
      rw [hv, if_neg Bool.false_ne_true] at hpf
      rw [hpf] at hd ⊢
      have hq0 : q = Nm.zero := by
        unfold live at hv
        simp only [Bool.or_eq_false_iff, decide_eq_false_iff_not] at hv
        obtain ⟨u, m⟩ := q
        simp only at hv
        obtain rfl : u = 0 := by omega
        obtain rfl : m = [] := List.eq_nil_of_length_eq_zero (by omega)
        rfl
      exact dStep_laid l f hf n (k + 1) a least g t (by omega) (by omega) hg (fun i hi => by
        rcases (by omega : i < k ∨ i = k) with h | rfl
        · exact h1 i h
        · rw [h2 i (Nat.le_refl _) (by omega), hq, hq0]) (fun i j1 j2 => h2 i (by omega) j2) hd
    | true =>
      rw [hv, if_pos rfl] at hpf
      rw [hpf, List.flatMap_cons] at hd ⊢
      have hd0 : l.drop a = Lib.uvarint k ++ ((Lib.uvarint q.upto ++ Lib.uvarint q.more.length ++ encMore q q.more.length) ++ ((partsFrom f (k + 1)).flatMap encPart ++ t)) := by
        rw [hd]; simp only [encPart, encHead, List.append_assoc]
      have e1 := rI_tail (most := 15) hd0 (by omega) (by decide)
      have hd1 := drop_tail hd0
      have e2 := rNum_laid ho hl hv hd1
      have hd2 := drop_tail hd1
      rw [List.length_cons, dStep_good e1 e2 (by simp; omega)]
      rw [dStep_laid l f hf n (k + 1) _ (k + 1) (g.set k q) t (by omega) (Nat.le_refl _) (by rw [List.length_set]; exact hg)
        (fun i hi => by
          rw [set_getD _ _ _ _ (by omega)]
          rcases (by omega : i < k ∨ i = k) with h | rfl
          · rw [if_neg (by omega)]; exact h1 i h
          · rw [if_pos rfl, hq])
        (fun i j1 j2 => by rw [set_getD _ _ _ _ (by omega), if_neg (by omega)]; exact h2 i (by omega) j2) hd2]
      congr 2
      simp only [encPart, encHead, List.length_append, Prod.mk.injEq, and_true]
      omega
theorem rDec_laid {f : List Nm} (hf : OkS f) : rDec (encS f) = some f := by
  have hL : (partsS f).length ≤ 16 := partsUpto_len f 16
  have he : (encS f).drop 0 = Lib.uvarint (partsS f).length ++ ((partsS f).flatMap encPart) := by
    rw [List.drop_zero, encS, encParts, List.take_length]
  have h1 := rI_tail (most := 16) he (by omega) (by decide)
  have hd1 := drop_tail he
  rw [← List.append_nil ((partsS f).flatMap encPart), ← partsFrom_zero] at hd1
  have h2 := dStep_laid (encS f) f hf 16 0 _ 0 none16 [] rfl (Nat.le_refl _) rfl (fun i hi => absurd hi (Nat.not_lt_zero _)) (fun i _ hi => by
    unfold none16
    rw [List.getD_eq_getElem?_getD, List.getElem?_replicate, if_pos hi]; rfl) hd1
  rw [partsFrom_zero] at h2
  unfold rDec
  simp only [h1, h2]
  have hlen : (encS f).length = 0 + (Lib.uvarint (partsS f).length).length + ((partsS f).flatMap encPart).length := by
    rw [encS, encParts, List.take_length, List.length_append, Nat.zero_add]
  have he0 : eV (encS f) (0 + (Lib.uvarint (partsS f).length).length + ((partsS f).flatMap encPart).length) false = 0 := by
    unfold eV
    exact if_neg (fun h => by
      rcases h with h | h
      · exact Bool.false_ne_true h
      · omega)
  rw [he0, if_pos rfl]
theorem encS_inj {f g : List Nm} (hf : OkS f) (hg : OkS g) (h : encS f = encS g) : f = g := by
  have := rDec_laid hf
  rw [h, rDec_laid hg] at this
  exact (Option.some.inj this).symm
theorem rising_ext : ∀ {l m : List Nat}, rising l → rising m → (∀ x, x ∈ l ↔ x ∈ m) → l = m
  | [], [], _, _, _ => rfl
  | [], y :: s, _, _, h => absurd ((h y).2 (List.mem_cons_self ..)) List.not_mem_nil
  | x :: r, [], _, _, h => absurd ((h x).1 (List.mem_cons_self ..)) List.not_mem_nil
  | x :: r, y :: s, h1, h2, h => by
    have e : x = y := by
      rcases List.mem_cons.1 ((h x).1 (List.mem_cons_self ..)) with e | e
      · exact e
      · have a := h2.1 x e
        rcases List.mem_cons.1 ((h y).2 (List.mem_cons_self ..)) with e2 | e2
        · exact e2.symm
        · have b := h1.1 y e2; omega
    subst e
    rw [rising_ext h1.2 h2.2 (fun z => by
      constructor
      · intro hz
        rcases List.mem_cons.1 ((h z).1 (List.mem_cons_of_mem _ hz)) with e | e
        · have := h1.1 z hz; omega
        · exact e
      · intro hz
        rcases List.mem_cons.1 ((h z).2 (List.mem_cons_of_mem _ hz)) with e | e
        · have := h2.1 z hz; omega
        · exact e)]
theorem within_anti {p q : Nm} (hp : p.Ok) (hq : q.Ok) (h1 : withinN p q = true) (h2 : withinN q p = true) : p = q := by
  obtain ⟨a1, a2⟩ := (withinN_iff _ _).1 h1
  obtain ⟨b1, b2⟩ := (withinN_iff _ _).1 h2
  have hu : p.upto = q.upto := by omega
  have hm : p.more = q.more := rising_ext hp.rise hq.rise (fun x => by
    constructor
    · intro hx
      have h := a2 x hx
      have hf := hp.far x hx
      unfold Nm.has at h
      simp only [Bool.or_eq_true, decide_eq_true_eq] at h
      rcases h with h | h
      · omega
      · exact h
    · intro hx
      have h := b2 x hx
      have hf := hq.far x hx
      unfold Nm.has at h
      simp only [Bool.or_eq_true, decide_eq_true_eq] at h
      rcases h with h | h
      · omega
      · exact h)
  obtain ⟨u, m⟩ := p
  obtain ⟨u', m'⟩ := q
  simp only at hu hm
  rw [hu, hm]
theorem ext16 {f g : List Nm} (hf : f.length = 16) (hg : g.length = 16) (h : ∀ i, i < 16 → f.getD i Nm.zero = g.getD i Nm.zero) : f = g :=
  List.ext_getElem? (fun i => by
    rcases Nat.lt_or_ge i 16 with hi | hi
    · have := h i hi
      rw [List.getD_eq_getElem?_getD, List.getD_eq_getElem?_getD, List.getElem?_eq_getElem (by omega), List.getElem?_eq_getElem (by omega)] at this
      rw [List.getElem?_eq_getElem (by omega), List.getElem?_eq_getElem (by omega)]
      exact congrArg some this
    · rw [List.getElem?_eq_none (by omega), List.getElem?_eq_none (by omega)])
theorem withinS_iff (f g : List Nm) : withinS f g = true ↔ ∀ i, i < 16 → withinN (f.getD i Nm.zero) (g.getD i Nm.zero) = true := by
  unfold withinS
  rw [List.all_eq_true]
  exact ⟨fun h i hi => h i (List.mem_range.2 hi), fun h i hi => h i (List.mem_range.1 hi)⟩
theorem withinS_anti {f g : List Nm} (hf : OkS f) (hg : OkS g) (h1 : withinS f g = true) (h2 : withinS g f = true) : f = g :=
  ext16 hf.1 hg.1 (fun i hi => within_anti (hf.2 i hi).1 (hg.2 i hi).1 ((withinS_iff _ _).1 h1 i hi) ((withinS_iff _ _).1 h2 i hi))
/-- The bytes are the same just if each is within the other. -/
theorem same_bytes {f g : List Nm} (hf : OkS f) (hg : OkS g) : decide (encS f = encS g) = (withinS f g && withinS g f) := by
  rw [Bool.eq_iff_iff]
  simp only [decide_eq_true_eq, Bool.and_eq_true]
  constructor
  · intro h
    obtain rfl := encS_inj hf hg h
    exact ⟨withinS_refl _, withinS_refl _⟩
  · rintro ⟨h1, h2⟩
    rw [withinS_anti hf hg h1 h2]
end Go.Proofs.Ytfgfamafjkjakab
