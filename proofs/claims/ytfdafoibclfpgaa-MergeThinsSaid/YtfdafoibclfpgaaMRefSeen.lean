/-
  The document's own answer: what is seen at a moment.
-/
import Derived.Test.YtfdafoibclfpgaaMKeepsW
namespace Go.Proofs.Ytfdafoibclfpgaa
open Go.ChangeShapes Go.WideShapes Go.ChangeAt Go.RowKit Go.Deep
set_option linter.unusedVariables false
set_option linter.unusedSimpArgs false
/-- Has an item of these that key, at the moment? -/
def metB (q : Nat) (k : ByteArray) (l : List Itm) : Bool := l.any fun y => kEq y.key k && decide (y.seq ≤ q)
def metD (q : Nat) (d : List ByteArray) (l : List Itm) : Prop := ∀ k, d.any (kEq k) = metB q k l
theorem metB_snoc (q : Nat) (k : ByteArray) (l : List Itm) (x : Itm) : metB q k (l ++ [x]) = (metB q k l || (kEq x.key k && decide (x.seq ≤ q))) := by
  unfold metB
  rw [List.any_append]
  simp
def firstB (q : Nat) (l : List Itm) (x : Itm) : Bool := decide (x.seq ≤ q) && !metB q x.key l
/-- One item further. -/
theorem seen_step (q : Nat) (d : List ByteArray) (l r : List Itm) (x : Itm) (hd : metD q d l) :
    ∃ d', metD q d' (l ++ [x]) ∧ seenGo q d (x :: r) = (if firstB q l x && !x.gone then [x] else []) ++ seenGo q d' r := by
  by_cases hq : q < x.seq
  · refine ⟨d, fun k => ?_, ?_⟩
    · rw [metB_snoc, hd k, decide_eq_false (by omega : ¬ x.seq ≤ q), Bool.and_false, Bool.or_false]
    · unfold firstB
      rw [seenGo, if_pos hq, decide_eq_false (by omega : ¬ x.seq ≤ q)]
      rfl
  · rcases hm : metB q x.key l with _ | _
    · have hdm : d.any (kEq x.key) = false := by rw [hd, hm]
      refine ⟨d ++ [x.key], fun k => ?_, ?_⟩
      · rw [metB_snoc, List.any_append, hd k, decide_eq_true (by omega : x.seq ≤ q), Bool.and_true]
        simp [kEq_comm k x.key]
      · unfold firstB
        rw [seenGo, if_neg hq, if_neg (by rw [hdm]; decide), decide_eq_true (by omega : x.seq ≤ q), hm]
        cases x.gone <;> rfl
    · have hdm : d.any (kEq x.key) = true := by rw [hd, hm]
      refine ⟨d, fun k => ?_, ?_⟩
      · rw [metB_snoc, hd k]
        rcases hk : kEq x.key k with _ | _
        · simp
        · have e := (kEq_iff _ _).1 hk
          rw [← e, hm]
          rfl
      · unfold firstB
        rw [seenGo, if_neg hq, if_pos hdm, hm, Bool.not_true, Bool.and_false]
        rfl
set_option maxRecDepth 100000 in
set_option maxHeartbeats 16000000 in
theorem RefSeen_any (v : Value) (l : List Itm) (q : Nat) (w : World) (hv : HasK w encI v l) (hl : l.length ≤ 1000000) :
    Calls Try.prog 18 #[v, .int .u64 (q : Int)] w fun e w' => ∃ v', e = .returned v' ∧ OwnK w' w.heap.size 29 encI v' (seenL q l) ∧ Below w.heap.size w w' := by
  obtain ⟨p, cap, rfl, h1, h2⟩ := hv.form
  obtain ⟨n, hn⟩ : ∃ n, l.length = n := ⟨_, rfl⟩
  have HN := Lib.hid hn
  have HV := Lib.hid hv
  rw [hn] at hl h1 HV ⊢
  obtain ⟨B, hB⟩ : ∃ B, w.heap.size = B := ⟨_, rfl⟩
  have HBB := Lib.hid hB
  rw [hB]
  have hcI : (cap : Int) ≤ 9223372036854775807 := by unfold maxLen at h2; omega
  clear hv hn h2 hB
  go_enter Try.func18, Try.ntmps18
  go_wp2_with (at_make; refine wpList_make_k rfl _ _ 23 rfl B 29 encI _ 48 Try.underlying23 info_item rfl (by decide) 0 0 rfl rfl rfl (by decide) (by rw [HBB.out]; exact Nat.le_refl _) w (by rw [← HBB.out]; exact Below.refl _ _) (fun v1 w1 ho1 hb1 => ?_))
  have HO1 := Lib.hid ho1
  have HB1 := Lib.hid hb1
  clear ho1 hb1
  go_loopw [5, 6] (fun vo vi wr => ∃ (i : Nat) (d : List ByteArray) (lo : List Itm), vi = .int .i64 (i : Int) ∧ i ≤ n ∧ OwnK wr B 29 encI vo lo ∧ metD q d (l.take i) ∧ lo ++ seenGo q d (l.drop i) = seenL q l ∧ Below B w wr ∧ lo.length ≤ i) (fun _ vi _ => n - (intOf vi).toNat)
  case atStart => exact ⟨0, [], [], rfl, Nat.zero_le _, HO1.out, fun k => rfl, rfl, HB1.out, Nat.le_refl _⟩
  case round =>
    obtain ⟨i, d, lo, rfl, hi, ho, hd, he, hb, hlo⟩ := hrel
    obtain ⟨W0, rfl⟩ : ∃ W0, W0 = wr := ⟨wr, rfl⟩
    have HO := Lib.hid ho
    have HD := Lib.hid hd
    have HE := Lib.hid he
    have HB := Lib.hid hb
    have HLO := Lib.hid hlo
    have HS := Lib.hid (show B ≤ W0.heap.size by have := hb.size; rw [HBB.out] at this; exact this)
    have HV0 := Lib.hid (HV.out.below (hb.mono (by rw [HBB.out]; exact Nat.le_refl _)))
    clear ho hd he hb hlo
    rcases Nat.lt_or_ge i n with hlt | hge
    · have hI : (i : Int) < (n : Int) := by omega
      have hi0 : (0 : Int) ≤ (i : Int) := by omega
      have hil : i < l.length := by rw [HN.out]; exact hlt
      obtain ⟨b, o, cap2, p2, hpe, -, -, HPP, HC⟩ := HV0.out.open
      simp only [Value.slice.injEq] at hpe
      obtain ⟨rfl, -, rfl⟩ := hpe
      obtain ⟨rfl, hbl⟩ := HPP.out (by rw [HN.out]; omega)
      have hxc := HasK.itAt HC.out i hil
      have hdr : l.drop i = l[i] :: l.drop (i + 1) := List.drop_eq_getElem_cons hil
      have htk : l.take (i + 1) = l.take i ++ [l[i]] := List.take_succ_eq_append_getElem hil
      obtain ⟨d', hd', hst⟩ := seen_step q d (l.take i) (l.drop (i + 1)) l[i] HD.out
      rw [← htk] at hd'
      rw [← hdr] at hst
      obtain ⟨x, hx⟩ : ∃ x, l[i] = x := ⟨_, rfl⟩
      rw [hx] at hxc hst
      have HX := Lib.hid hxc
      have HST := Lib.hid hst
      have HD' := Lib.hid hd'
      obtain ⟨b0, hb0⟩ : ∃ b : Bool, decide (x.seq ≤ q) = b := ⟨_, rfl⟩
      have HB0 := Lib.hid hb0
      obtain ⟨c0, c1, c2, c3⟩ := hxc
      clear hx hst hd' hdr htk hb0 HPP
      go_wp2_with fail
      clear c0 c1 c2 c3 HC
      go_loopw [7, 8] (fun vf vk wr => ∃ k : Nat, vk = .int .i64 (k : Int) ∧ k ≤ i ∧ vf = .bool (decide (x.seq ≤ q) && !metB q x.key (l.take k)) ∧ Below W0.heap.size W0 wr) (fun _ vk _ => i - (intOf vk).toNat)
      case atStart => exact ⟨0, rfl, Nat.zero_le _, by simp [metB], Below.refl _ _⟩
      case round =>
        obtain ⟨k, rfl, hk, rfl, hbk⟩ := hrel
        obtain ⟨W1, rfl⟩ : ∃ W1, W1 = wr := ⟨wr, rfl⟩
        have HBK := Lib.hid hbk
        have HX1 := Lib.hid (HX.out.below hbk)
        have HV1 := Lib.hid (HV0.out.below hbk)
        clear hbk
        rcases Nat.lt_or_ge k i with hki | hki
        · have hkI : (k : Int) < (i : Int) := by omega
          have hk0 : (0 : Int) ≤ (k : Int) := by omega
          have hkn : (k : Int) < (n : Int) := by omega
          have hkl : k < l.length := by rw [HN.out]; omega
          obtain ⟨b', o', cap3, p3, hpe, -, -, HPP, HC⟩ := HV1.out.open
          simp only [Value.slice.injEq, Option.some.injEq, Addr.mk.injEq, and_true] at hpe
          obtain ⟨hpe1, -, rfl⟩ := hpe
          have hPP := HPP.out (by rw [HN.out]; omega)
          rw [← hpe1] at hPP
          have hab := hPP.1
          simp only [Option.some.injEq, Addr.mk.injEq, and_true] at hab
          obtain ⟨rfl, rfl⟩ := hab
          obtain ⟨d0, d1, -, -⟩ := HasK.itAt HC.out k hkl
          obtain ⟨e0, e1, -, -⟩ := HX1.out
          have hsn : metB q x.key (l.take (k + 1)) = (metB q x.key (l.take k) || (kEq l[k].key x.key && decide (l[k].seq ≤ q))) := by rw [List.take_succ_eq_append_getElem hkl, metB_snoc]
          obtain ⟨y, hy⟩ : ∃ y, l[k] = y := ⟨_, rfl⟩
          rw [hy] at d0 d1 hsn
          obtain ⟨f, hf⟩ : ∃ f, (decide (x.seq ≤ q) && !metB q x.key (l.take k)) = f := ⟨_, rfl⟩
          obtain ⟨nf, hnf⟩ : ∃ f, (decide (x.seq ≤ q) && !metB q x.key (l.take (k + 1))) = f := ⟨_, rfl⟩
          have HNF := Lib.hid hnf
          have hrelf : nf = (f && !(kEq y.key x.key && decide (y.seq ≤ q))) := by
            rw [← hnf, ← hf, hsn]
            cases decide (x.seq ≤ q) <;> cases metB q x.key (l.take k) <;> rfl
          rw [hf]
          unfold kEq at hrelf
          clear hsn hf hnf HC HPP hy hPP hpe1
          go_upto_region 9 with fail
          cases f with
          | false =>
            have hnt : nf = false := hrelf
            subst hnt
            clear hrelf
            go_quiet (fail)
            go_wp2
            go_roundw
            case rel => exact ⟨k + 1, by go_num, by omega, by rw [HNF.out], below_drewN' HBK.out _⟩
            case measure => simp [intOf] <;> omega
          | true =>
            rcases hq1 : (y.key.toList == x.key.toList) with _ | _
            · have hnt : nf = true := by rw [hrelf, hq1]; rfl
              subst hnt
              clear hrelf
              go_quiet (fail)
              go_wp2
              go_roundw
              case rel => exact ⟨k + 1, by go_num, by omega, by rw [HNF.out], below_drewN' HBK.out _⟩
              case measure => simp [intOf] <;> omega
            · rcases (by omega : (y.seq : Int) ≤ (q : Int) ∨ ¬ (y.seq : Int) ≤ (q : Int)) with hq2 | hq2
              · have hnt : nf = false := by rw [hrelf, hq1, decide_eq_true (by omega : y.seq ≤ q)]; rfl
                have hq2b : decide ((y.seq : Int) ≤ (q : Int)) = true := decide_eq_true hq2
                subst hnt
                clear hrelf
                go_quiet (fail)
                go_wp2
                go_roundw
                case rel => exact ⟨k + 1, by go_num, by omega, by rw [HNF.out], below_drewN' HBK.out _⟩
                case measure => simp [intOf] <;> omega
              · have hnt : nf = true := by rw [hrelf, hq1, decide_eq_false (by omega : ¬ y.seq ≤ q)]; rfl
                have hq2b : decide ((y.seq : Int) ≤ (q : Int)) = false := decide_eq_false hq2
                subst hnt
                clear hrelf
                go_quiet (fail)
                go_wp2
                go_roundw
                case rel => exact ⟨k + 1, by go_num, by omega, by rw [HNF.out], below_drewN' HBK.out _⟩
                case measure => simp [intOf] <;> omega
        · have hkI : ¬ (k : Int) < (i : Int) := by omega
          obtain rfl : k = i := by omega
          obtain ⟨fb, hfb⟩ : ∃ f, (decide (x.seq ≤ q) && !metB q x.key (l.take k)) = f := ⟨_, rfl⟩
          have HFB := Lib.hid (show firstB q (l.take k) x = fb from hfb)
          rw [hfb]
          clear hfb
          obtain ⟨e0, e1, e2, e3⟩ := HX1.out
          have HO1' := Lib.hid (HO.out.below HBK.out)
          have HB1' := Lib.hid (HB.out.trans (HBK.out.mono HS.out))
          have HS1 := Lib.hid (Nat.le_trans HS.out HBK.out.size)
          have hiI : (k : Int) < (n : Int) := by omega
          have hi0' : (0 : Int) ≤ (k : Int) := by omega
          rcases fb with _ | _
          · have HQ := Lib.hid (show seenGo q d (l.drop k) = seenGo q d' (l.drop (k + 1)) by rw [HST.out, HFB.out]; rfl)
            go_wp2
            go_roundw
            case rel => exact ⟨k + 1, d', lo, by go_num, by omega, HO1'.out, HD'.out, by rw [← HQ.out]; exact HE.out, HB1'.out, by have := HLO.out; omega⟩
            case measure => simp [intOf] <;> omega
          · rcases hg : x.gone with _ | _
            · have HQ := Lib.hid (show seenGo q d (l.drop k) = x :: seenGo q d' (l.drop (k + 1)) by rw [HST.out, HFB.out, hg]; rfl)
              rw [hg] at e2
              have hbb := (Below.refl W1.heap.size W1).alloc (Nat.le_refl _) (.cells #[.string x.key, .int .u64 (x.seq : Int), .bool false, .string x.val] 29)
              have hyy : HasK (W1.alloc (.cells #[.string x.key, .int .u64 (x.seq : Int), .bool false, .string x.val] 29)) encI (.slice (some ⟨W1.heap.size, 0, none⟩) 1 1) [x] := one_item x (by rw [hg]; exact heap_alloc_new W1 _)
              have HYY := Lib.hid hyy
              have HOX := Lib.hid (HO1'.out.below hbb)
              have HBX := Lib.hid (HB1'.out.trans (hbb.mono HS1.out))
              have HSX := Lib.hid (Nat.le_trans HS1.out hbb.size)
              clear hbb hyy
              go_wp2_with (at_builtin; refine wpList_append_k rfl (.tmp 61) (.tmp 66) 23 rfl B 29 encI _ 48 Try.underlying23 info_item rfl (by decide) _ lo rfl HOX.out _ [x] rfl HYY.out Nat.one_pos (by have := HLO.out; simp only [List.length_cons, List.length_nil]; omega) HSX.out w HBX.out (fun v7 w7 ho7 hb7 _ _ => ?_); have HO7 := Lib.hid ho7; have HB7 := Lib.hid hb7; clear ho7 hb7)
              go_roundw
              case rel => exact ⟨k + 1, d', lo ++ [x], by go_num, by omega, HO7.out, HD'.out, by rw [← HE.out, HQ.out, List.append_assoc]; rfl, HB7.out, by have := HLO.out; simp only [List.length_append, List.length_cons, List.length_nil]; omega⟩
              case measure => simp [intOf] <;> omega
            · have HQ := Lib.hid (show seenGo q d (l.drop k) = seenGo q d' (l.drop (k + 1)) by rw [HST.out, HFB.out, hg]; rfl)
              rw [hg] at e2
              go_wp2
              go_roundw
              case rel => exact ⟨k + 1, d', lo, by go_num, by omega, HO1'.out, HD'.out, by rw [← HQ.out]; exact HE.out, HB1'.out, by have := HLO.out; omega⟩
              case measure => simp [intOf] <;> omega
    · have hI : ¬ (i : Int) < (n : Int) := by omega
      have HQ := Lib.hid (show lo = seenL q l by have z := HE.out; rw [List.drop_eq_nil_of_le (by rw [HN.out]; exact hge)] at z; unfold seenGo at z; rw [List.append_nil] at z; exact z)
      go_wp2
      go_ret
      exact ⟨_, rfl, by rw [← HQ.out]; exact HO.out, HB.out⟩
end Go.Proofs.Ytfdafoibclfpgaa
