/-
  Package merge: what is seen at a moment.
-/
import Derived.Test.YtfdafoibclfpgaaMMerge
import Derived.Maps.OwnSet
import Derived.Maps.Keyed
import Derived.StringKeys
namespace Go.Proofs.Ytfdafoibclfpgaa
open Go.ChangeShapes Go.WideShapes Go.ChangeAt Go.RowKit Go.Deep
open Go.Maps (Keyed IsMap Tidy)
set_option linter.unusedVariables false
set_option linter.unusedSimpArgs false
def keyLit (k : ByteArray) : Lit := .string k.data.toList
def setD (d : List ByteArray) : DataW Unit := Maps.setOf (.agg []) (d.map keyLit)
theorem setD_snoc (d : List ByteArray) (k : ByteArray) : setD (d ++ [k]) = (setD d).put (keyLit k) (.agg []) := by
  unfold setD
  rw [List.map_append, List.map_cons, List.map_nil, Maps.setOf_snoc]
theorem has_setD (d : List ByteArray) (k : ByteArray) : Maps.has (setD d) (keyLit k) = d.any (kEq k) := by
  unfold setD
  rw [Maps.has_setOf _ _ _ (fun x hx => by
    obtain ⟨y, _, rfl⟩ := List.mem_map.1 hx
    trivial), List.any_map]
  congr 1
  funext y
  show (keyLit y).sameKey (keyLit k) = kEq k y
  rw [kEq_comm, Bool.eq_iff_iff, kEq_iff]
  unfold keyLit Lit.sameKey
  simp only [beq_iff_eq]
  constructor
  · intro h
    cases y; cases k
    simp only at h
    rw [Array.toList_inj.1 h]
  · rintro rfl; rfl
theorem keyedS : Keyed Try.prog 9 := Maps.string_keyed Try.underlying9
theorem zeroU (w : World) : (zeroValue 49).run Try.prog w = .ok (.agg #[]) w := by kernel_rfl
theorem keyOfS (k : ByteArray) (h : k.size ≤ 140737488351232) : keyOf Try.prog 9 (.string k) = some (keyLit k) := Go.WideMaps.keyOf_string_mk Try.underlying9 (by unfold maxLen; omega)
def keysOk (l : List Itm) : Prop := ∀ x ∈ l, x.key.size ≤ 140737488351232
set_option maxRecDepth 100000 in
set_option maxHeartbeats 16000000 in
theorem Seen_any (v : Value) (l : List Itm) (q : Nat) (w : World) (hv : HasK w encI v l) (hl : l.length ≤ 1000000) (hk : keysOk l) :
    Calls Try.prog 11 #[v, .int .u64 (q : Int)] w fun e w' => ∃ v', e = .returned v' ∧ OwnK w' w.heap.size 29 encI v' (seenL q l) ∧ Below w.heap.size w w' := by
  have hmm := @run_makeMap Try.prog
  obtain ⟨p, cap, rfl, h1, h2⟩ := hv.form
  obtain ⟨n, hn⟩ : ∃ n, l.length = n := ⟨_, rfl⟩
  have HN := Lib.hid hn
  have HV := Lib.hid hv
  have HK := Lib.hid hk
  rw [hn] at hl h1 HV ⊢
  obtain ⟨B, hB⟩ : ∃ B, w.heap.size = B := ⟨_, rfl⟩
  have HBB := Lib.hid hB
  rw [hB]
  have hb0 := (Below.refl w.heap.size w).alloc (Nat.le_refl _) (.map #[] 0)
  have hm0 : (w.alloc (.map #[] 0)).ownsMap Try.prog 9 (unitElem (H := Unit)) w.heap.size 0 (setD []) := World.ownsMap_made _ _ _ _
  have hs0 : (w.alloc (.map #[] 0)).heap.size = B + 1 := by rw [World.size_alloc, hB]
  have HB0 := Lib.hid hb0
  have HM0 := Lib.hid hm0
  have HS0 := Lib.hid hs0
  have hcI : (cap : Int) ≤ 9223372036854775807 := by unfold maxLen at h2; omega
  clear hv hk hn h2 hB hb0 hm0 hs0
  go_enter Try.func11, Try.ntmps11
  go_wp2
  clear hmm
  generalize (w.alloc (.map #[] 0)) = w1 at *
  rw [HBB.out]
  go_loopw [5, 14] (fun vo vi wr => ∃ (i : Nat) (d : List ByteArray) (lo : List Itm), vi = .int .i64 (i : Int) ∧ i ≤ n ∧ wr.ownsMap Try.prog 9 (unitElem (H := Unit)) B i (setD d) ∧ OwnK wr (B + 1) 29 encI vo lo ∧ lo ++ seenGo q d (l.drop i) = seenL q l ∧ Below B w wr ∧ B + 1 ≤ wr.heap.size ∧ lo.length ≤ i) (fun _ vi _ => n - (intOf vi).toNat)
  case atStart => exact ⟨0, [], [], rfl, Nat.zero_le _, by have z := HM0.out; rw [HBB.out] at z; exact z, OwnK.nil _ _ _ _, rfl, by have z := HB0.out; rw [HBB.out] at z; exact z, by rw [HS0.out]; exact Nat.le_refl _, Nat.le_refl _⟩
  case round =>
    obtain ⟨i, d, lo, rfl, hi, hm, ho, he, hb, hs, hlo⟩ := hrel
    obtain ⟨W0, rfl⟩ : ∃ W0, W0 = wr := ⟨wr, rfl⟩
    have HM := Lib.hid hm
    have HO := Lib.hid ho
    have HE := Lib.hid he
    have HB := Lib.hid hb
    have HS := Lib.hid hs
    have HLO := Lib.hid hlo
    clear hm ho he hb hs hlo
    rcases Nat.lt_or_ge i n with hlt | hge
    · have hI : (i : Int) < (n : Int) := by omega
      have hi0 : (0 : Int) ≤ (i : Int) := by omega
      have hil : i < l.length := by rw [HN.out]; exact hlt
      obtain ⟨b, o, cap2, p2, hpe, -, -, HPP, HC⟩ := (HV.out.below (HB.out.mono (by rw [HBB.out]; exact Nat.le_refl _))).open
      simp only [Value.slice.injEq] at hpe
      obtain ⟨rfl, -, rfl⟩ := hpe
      obtain ⟨rfl, hbl⟩ := HPP.out (by rw [HN.out]; omega)
      have hx := HasK.itAt HC.out i hil
      have hkx := HK.out l[i] (List.getElem_mem hil)
      have hdr : l.drop i = l[i] :: l.drop (i + 1) := List.drop_eq_getElem_cons hil
      obtain ⟨x, hxe⟩ : ∃ x, l[i] = x := ⟨_, rfl⟩
      rw [hxe] at hx hkx hdr
      have hsg : seenGo q d (l.drop i) = if q < x.seq then seenGo q d (l.drop (i + 1)) else if d.any (kEq x.key) then seenGo q d (l.drop (i + 1)) else if x.gone then seenGo q (d ++ [x.key]) (l.drop (i + 1)) else x :: seenGo q (d ++ [x.key]) (l.drop (i + 1)) := by rw [hdr]; rfl
      obtain ⟨c0, c1, c2, c3⟩ := hx
      have HSG := Lib.hid hsg
      have HKX := Lib.hid (keyOfS x.key hkx)
      have HC3 := Lib.hid c3
      clear hxe hsg hdr HC HPP hil hkx
      have hbn : B ≠ W0.heap.size := by have := HS.out; omega
      have hWB : Below B w W0 := HB.out
      have hba := (Below.refl W0.heap.size W0).alloc (Nat.le_refl _) (.cells #[.string x.key, .int .u64 (x.seq : Int), .bool x.gone, .string x.val] 29)
      have HBA := Lib.hid (HB.out.trans (hba.mono (by have := HS.out; omega)))
      have HMA := Lib.hid (HM.out.alloc (.cells #[.string x.key, .int .u64 (x.seq : Int), .bool x.gone, .string x.val] 29))
      have HOA := Lib.hid (HO.out.below hba)
      have HSA := Lib.hid (show B + 1 ≤ (W0.alloc (.cells #[.string x.key, .int .u64 (x.seq : Int), .bool x.gone, .string x.val] 29)).heap.size by rw [World.size_alloc]; have := HS.out; omega)
      have HNA := Lib.hid (heap_alloc_new W0 (.cells #[.string x.key, .int .u64 (x.seq : Int), .bool x.gone, .string x.val] 29))
      clear hWB hba
      rcases (by omega : (q : Int) < (x.seq : Int) ∨ ¬ (q : Int) < (x.seq : Int)) with hq | hq
      · have HQ := Lib.hid (show seenGo q d (l.drop i) = seenGo q d (l.drop (i + 1)) by rw [HSG.out, if_pos (by omega)])
        go_wp2
        go_roundw
        case rel => exact ⟨i + 1, d, lo, by go_num, by omega, HMA.out.mono (Nat.le_succ _), HOA.out, by rw [← HQ.out]; exact HE.out, HBA.out, HSA.out, by have := HLO.out; omega⟩
        case measure => simp [intOf] <;> omega
      · obtain ⟨W1, hW1⟩ : ∃ W1, W0.alloc (.cells #[.string x.key, .int .u64 (x.seq : Int), .bool x.gone, .string x.val] 29) = W1 := ⟨_, rfl⟩
        obtain ⟨G, hG⟩ : ∃ G, W0.heap.size = G := ⟨_, rfl⟩
        rw [hW1] at HBA HMA HOA HSA HNA
        rw [hG] at HNA hbn
        have HGG := Lib.hid hG
        have HW1 := Lib.hid hW1
        have hbu := (Below.refl W1.heap.size W1).alloc (Nat.le_refl _) (.cells #[] 49)
        have HBU := Lib.hid (HBA.out.trans (hbu.mono (by have := HSA.out; omega)))
        have HMU := Lib.hid (HMA.out.alloc (.cells #[] 49))
        have HOU := Lib.hid (HOA.out.below hbu)
        have HSU := Lib.hid (show B + 1 ≤ (W1.alloc (.cells #[] 49)).heap.size by rw [World.size_alloc]; have := HSA.out; omega)
        have hGl : G < W1.heap.size := lt_of_block HNA.out
        have HNU := Lib.hid ((hbu.block G hGl).trans HNA.out)
        have HGL := Lib.hid (show G < (W1.alloc (.cells #[] 49)).heap.size by rw [World.size_alloc]; omega)
        clear hbu hGl hW1 hG
        rcases hhas : d.any (kEq x.key) with _ | _
        · have hh : Maps.has (setD d) (keyLit x.key) = false := by rw [has_setD]; exact hhas
          have HHAS := Lib.hid hhas
          clear hhas
          go_upto_region 9 with (at_lookup; rw [HW1.out]; refine wpList_lookup_own_unit _ rfl _ _ 48 rfl 9 49 keyedS Try.underlying48 (zeroU _) B i _ rfl HMA.out _ _ rfl HKX.out ?_)
          obtain ⟨W2, hW2⟩ : ∃ W2, W1.alloc (.cells #[] 49) = W2 := ⟨_, rfl⟩
          rw [hW2] at HBU HMU HOU HSU HNU HGL ⊢
          rw [HGG.out]
          have g0 : W2.cell? ⟨G, 0, none⟩ = some (.string x.key) := by simp [World.cell?, HNU.out]
          have hB2 : B ≤ W2.heap.size := by have := HSU.out; omega
          clear hW2 c0 c1 c2
          go_upto_region 10 with (at_mapUpdate; refine wpList_mapUpdate_own _ rfl _ _ _ 48 rfl 9 49 keyedS Try.underlying48 (unitElem (H := Unit)) B i _ rfl HMU.out (by unfold maxLen; omega) _ _ _ rfl rfl HKX.out _ [] unitElem_mk ?_; intro w5 hown5 hgrow5)
          rw [← setD_snoc] at hown5
          have hne5 : u5.ownBlock ≠ some B := fun e => by have := (HOU.out.lt B e).1; omega
          have HM5 := Lib.hid hown5
          have HO5 := Lib.hid (HOU.out.kept hgrow5 hne5)
          have hn5 : w5.heap[G]? = some (.cells #[.string x.key, .int .u64 (x.seq : Int), .bool x.gone, .string x.val] 29 (0, 0)) := (hgrow5.block G HGL.out (fun e => hbn (Option.some.inj e).symm)).trans HNU.out
          have HB5 := Lib.hid (HBU.out.grown hgrow5 hB2 (fun k e => by cases e; exact Nat.le_refl _))
          have HS5 := Lib.hid (show B + 1 ≤ w5.heap.size from Nat.le_trans HSU.out hgrow5.size)
          have k0 : w5.cell? ⟨G, 0, none⟩ = some (.string x.key) := by simp [World.cell?, hn5]
          have k1 : w5.cell? ⟨G, 1, none⟩ = some (.int .u64 (x.seq : Int)) := by simp [World.cell?, hn5]
          have k2 : w5.cell? ⟨G, 2, none⟩ = some (.bool x.gone) := by simp [World.cell?, hn5]
          have k3 : w5.cell? ⟨G, 3, none⟩ = some (.string x.val) := by simp [World.cell?, hn5]
          clear hown5 hgrow5 hn5 g0
          rcases hgn : x.gone with _ | _
          · have HQ := Lib.hid (show seenGo q d (l.drop i) = x :: seenGo q (d ++ [x.key]) (l.drop (i + 1)) by rw [HSG.out, if_neg (by omega), HHAS.out, hgn]; rfl)
            rw [hgn] at k2
            have hbb := (Below.refl w5.heap.size w5).alloc (Nat.le_refl _) (.cells #[.string x.key, .int .u64 (x.seq : Int), .bool false, .string x.val] 29)
            have hyy : HasK (w5.alloc (.cells #[.string x.key, .int .u64 (x.seq : Int), .bool false, .string x.val] 29)) encI (.slice (some ⟨w5.heap.size, 0, none⟩) 1 1) [x] := one_item x (by rw [hgn]; exact heap_alloc_new w5 _)
            have HYY := Lib.hid hyy
            have HOX := Lib.hid (HO5.out.below hbb)
            have HMX := Lib.hid (HM5.out.alloc (.cells #[.string x.key, .int .u64 (x.seq : Int), .bool false, .string x.val] 29))
            have HBX := Lib.hid (HB5.out.trans (hbb.mono (by have := HS5.out; omega)))
            have HSX := Lib.hid (show B + 1 ≤ (w5.alloc (.cells #[.string x.key, .int .u64 (x.seq : Int), .bool false, .string x.val] 29)).heap.size by rw [World.size_alloc]; have := HS5.out; omega)
            clear hbb hyy
            go_wp2_with (at_builtin; refine wpList_append_k rfl (.tmp 37) (.tmp 39) 23 rfl (B + 1) 29 encI _ 48 Try.underlying23 info_item rfl (by decide) _ lo rfl HOX.out _ [x] rfl HYY.out Nat.one_pos (by have := HLO.out; simp only [List.length_cons, List.length_nil]; omega) HSX.out _ (Below.refl _ _) (fun v7 w7 ho7 hb7 hg7 _ => ?_); have HO7 := Lib.hid ho7; have HB7 := Lib.hid (HBX.out.trans (hb7.mono (Nat.le_succ _))); have HM7 := Lib.hid (HMX.out.kept hg7 (fun e => hne5 e.symm)); have HS7 := Lib.hid (Nat.le_trans HSX.out hb7.size); clear ho7 hb7 hg7)
            go_roundw
            case rel => exact ⟨i + 1, d ++ [x.key], lo ++ [x], by go_num, by omega, HM7.out, HO7.out, by rw [← HE.out, HQ.out, List.append_assoc]; rfl, HB7.out, HS7.out, by have := HLO.out; simp only [List.length_append, List.length_cons, List.length_nil]; omega⟩
            case measure => simp [intOf] <;> omega
          · have HQ := Lib.hid (show seenGo q d (l.drop i) = seenGo q (d ++ [x.key]) (l.drop (i + 1)) by rw [HSG.out, if_neg (by omega), HHAS.out, hgn]; rfl)
            rw [hgn] at k2
            go_wp2
            go_roundw
            case rel => exact ⟨i + 1, d ++ [x.key], lo, by go_num, by omega, HM5.out, HO5.out, by rw [← HE.out, HQ.out], HB5.out, HS5.out, by have := HLO.out; omega⟩
            case measure => simp [intOf] <;> omega
        · have hh : Maps.has (setD d) (keyLit x.key) = true := by rw [has_setD]; exact hhas
          have HQ := Lib.hid (show seenGo q d (l.drop i) = seenGo q d (l.drop (i + 1)) by rw [HSG.out, if_neg (by omega), hhas]; rfl)
          clear hhas
          go_wp2_with (at_lookup; rw [HW1.out]; refine wpList_lookup_own_unit _ rfl _ _ 48 rfl 9 49 keyedS Try.underlying48 (zeroU _) B i _ rfl HMA.out _ _ rfl HKX.out ?_)
          go_roundw
          case rel => exact ⟨i + 1, d, lo, by go_num, by omega, HMU.out.mono (Nat.le_succ _), HOU.out, by rw [← HQ.out]; exact HE.out, HBU.out, HSU.out, by have := HLO.out; omega⟩
          case measure => simp [intOf] <;> omega
    · have hI : ¬ (i : Int) < (n : Int) := by omega
      have HQ := Lib.hid (show lo = seenL q l by have z := HE.out; rw [List.drop_eq_nil_of_le (by rw [HN.out]; exact hge)] at z; unfold seenGo at z; rw [List.append_nil] at z; exact z)
      go_wp2
      go_ret
      exact ⟨_, rfl, by rw [← HQ.out]; exact HO.out.mono (Nat.le_succ _), HB.out⟩
end Go.Proofs.Ytfdafoibclfpgaa
