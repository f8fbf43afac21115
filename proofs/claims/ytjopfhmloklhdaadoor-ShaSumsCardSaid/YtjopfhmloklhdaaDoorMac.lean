/-
  Package sha: keyed digests.
-/
import Derived.Test.YtjopfhmloklhdaaDoorStd
namespace Go.Proofs.YtjopfhmloklhdaaDoor
open Go.ChangeShapes Go.WideShapes Go.ChangeAt Go.RowKit Go.Deep
set_option linter.unusedVariables false
set_option linter.unusedSimpArgs false

/-- copy, as a step of a region that draws. -/
theorem step_copy_row {P : Program} {ops : Array Oper} {o : Oper} {a : Act} {w : World} {K : Act → World → Prop} {Q : Exit → Act → World → Prop} {E : Prop} (hgd : o.guard = none) (d s : Operand) (dT sT : TypeId)
    (ho : o.op = .call { callee := .builtin .copy, args := #[d, s], argTypes := #[dT, sT] }) (elem : TypeId) (hu : P.underlying dT = some (.slice elem)) (hsz : (P.info? elem).map (·.size) = some 1)
    (g off dLen dCap : Nat) (ad : Addr) (sLen sCap : Nat) (hd : a.eval d = .slice (some ⟨g, off, none⟩) dLen dCap) (hs : a.eval s = .slice (some ad) sLen sCap)
    (cur : Array Value) (t : TypeId) (hg : w.heap[g]? = some (.cells cur t (0, 0))) (cs : List Value) (hn : cs.length = Nat.min sLen dLen)
    (hsrc : ∀ j v, cs[j]? = some v → w.cell? (ad.add j) = some v) (hfit : off + cs.length ≤ cur.size) (h1 : ∀ v ∈ cs, v.oneCell' = true)
    (h : K (a.put o.dst (goInt cs.length)) (w.setRow g (cur.toList.take off ++ (cs ++ cur.toList.drop (off + cs.length))).toArray)) :
    if Region.wanted o (yielded ops a.tmps) = true then Oper.wp P o a w K Q else E := by
  have hw : Region.wanted o (yielded ops a.tmps) = true := by simp [Region.wanted, hgd]
  rw [if_pos hw]
  have hrun := run_copy_row (P := P) w dT sT o.type elem g off dLen dCap ad sLen sCap cur t cs hu hsz hg hn hsrc hfit h1
  unfold Oper.wp
  simp [execOp, ho, resolve, invoke, builtin, hd, hs, hrun, Result.andThen]
  exact h
theorem size_u8' : (Tryd.prog.info? 5).map (·.size) = some 1 := by kernel_rfl
theorem arr64 (D : List UInt8) (h : D.length = 64) : (Tryd.prog.info? 48).map (·.size) = some (Lib.byteCells D).toArray.size ∧ (Lib.byteCells D).toArray.all (·.oneCell') = true ∧ (Lib.byteCells D).toArray.size = 64 := by
  have e : (Lib.byteCells D).toArray.size = 64 := by rw [List.size_toArray, bytes_len, h]
  exact ⟨by rw [e]; exact info64, all_oneCell_toArray (Lib.byteCells_one _), e⟩
theorem arr32' (D : List UInt8) (h : D.length = 32) : (Tryd.prog.info? 23).map (·.size) = some (Lib.byteCells D).toArray.size ∧ (Lib.byteCells D).toArray.all (·.oneCell') = true ∧ (Lib.byteCells D).toArray.size = 32 := by
  have e : (Lib.byteCells D).toArray.size = 32 := by rw [List.size_toArray, bytes_len, h]
  exact ⟨by rw [e]; exact info32, all_oneCell_toArray (Lib.byteCells_one _), e⟩
theorem key_splice (key : List UInt8) (h : key.length ≤ 64) : splice (noBytes 64) 0 (Lib.byteCells key) = Lib.byteCells (keyB key) := by
  unfold splice keyB noBytes
  rw [if_pos h, Lib.byteCells_append, bytes_len, List.take_zero, List.nil_append, Nat.zero_add]
  congr 1
  unfold Lib.byteCells zeros
  rw [List.map_replicate, List.map_replicate, List.drop_replicate]
theorem sum_splice (D : List UInt8) (hD : D.length = 32) : ((noBytes 64).toArray.toList.take 0 ++ (Lib.byteCells D ++ (noBytes 64).toArray.toList.drop (0 + (Lib.byteCells D).length))).toArray = (Lib.byteCells (D ++ zeros 32)).toArray := by
  congr 1
  rw [Lib.byteCells_append, bytes_len, hD, List.take_zero, List.nil_append, Nat.zero_add]
  congr 1
theorem setRow_row {w0 w : World} {B g : Nat} {t : TypeId} {C : Array Value} {D : List UInt8} (h : w.heap[g]? = some (.cells C t (0, 0))) (hB : B ≤ g) (hb : Below B w0 w) : BRow (w.setRow g (Lib.byteCells D).toArray) t g D ∧ Below B w0 (w.setRow g (Lib.byteCells D).toArray) :=
  ⟨setRow_heap _ _ _ _ _ _ h, below_setRow hb hB _⟩
theorem masked_54 (w : World) (l : List UInt8) (hl : l.length = 64) :
    Calls Tryd.prog 30 #[.agg (Lib.byteCells l).toArray, .int .u8 54] w fun e w' => e = .returned (.slice (some ⟨w.heap.size, 0, none⟩) 64 64) ∧ BRow w' 48 w.heap.size (maskOf l 54) ∧ Below w.heap.size w w' := masked_any w l hl 54
theorem masked_92 (w : World) (l : List UInt8) (hl : l.length = 64) :
    Calls Tryd.prog 30 #[.agg (Lib.byteCells l).toArray, .int .u8 92] w fun e w' => e = .returned (.slice (some ⟨w.heap.size, 0, none⟩) 64 64) ∧ BRow w' 48 w.heap.size (maskOf l 92) ∧ Below w.heap.size w w' := masked_any w l hl 92
theorem own_ne {w : World} {v : Value} {l : List UInt8} (h : HasA w v l) (R : Nat) (hR : w.heap.size ≤ R) : 0 < l.length → v.ownBlock ≠ some R := by
  obtain ⟨p, cap, bb, o, rfl, k1, k2, k3, kc⟩ := h
  intro h0
  obtain ⟨rfl, hlt⟩ := k3 h0
  show some bb ≠ some _
  rw [Ne, Option.some.injEq]
  omega
theorem lay_row' {w0 w : World} {B g : Nat} {t : TypeId} {D E : List UInt8} (h : BRow w t g D) (hl : D.length = E.length) (hB : B ≤ g) (hb : Below B w0 w) : BRow (w.setCells g 0 (Lib.byteCells E).toArray.toList) t g E ∧ Below B w0 (w.setCells g 0 (Lib.byteCells E).toArray.toList) :=
  ⟨heap_setCells_whole (ws := (Lib.byteCells E).toArray) h (by rw [List.size_toArray, List.size_toArray, bytes_len, bytes_len, hl]), below_setCellsC hB _ _ _ hb⟩
/-- What stays through the second half. -/
structure MacIn (w : World) (E : Array Value) (u : Value) (b : List UInt8) (wc : World) : Prop where
  res : BRow wc 23 w.heap.size (zeros 32)
  blk : wc.heap[w.heap.size + 1]? = some (.cells E 48 (0, 0))
  bel : Below w.heap.size w wc
  g : Grnd wc
  has : HasA wc u b
  size : w.heap.size + 2 ≤ wc.heap.size
theorem MacIn.below {w wc w' : World} {E : Array Value} {u : Value} {b : List UInt8} (h : MacIn w E u b wc) (hb : Below wc.heap.size wc w') : MacIn w E u b w' := by
  have := h.size
  have := hb.size
  exact ⟨h.res.below hb (by omega), (hb.block _ (by omega)).trans h.blk, h.bel.trans (hb.mono (by omega)), h.g.below hb, h.has.below hb, by omega⟩
theorem MacIn.kp {w wc w' : World} {E : Array Value} {u : Value} {b : List UInt8} {R : Nat} (h : MacIn w E u b wc) (hk : Kp R wc w') (hR : w.heap.size + 2 ≤ R) (hne : 0 < b.length → u.ownBlock ≠ some R) (hs : 0 < w.heap.size) (hr : 1 < w.heap.size) : MacIn w E u b w' := by
  have := h.size
  have := hk.size
  exact ⟨h.res.kp hk (by omega), (hk.block _ (by omega) (by omega)).trans h.blk, h.bel.trans (hk.below (by omega) (by omega)), h.g.kp hk (by omega) (by omega), h.has.kp hk hne, by omega⟩
set_option maxRecDepth 100000 in
set_option maxHeartbeats 8000000 in
theorem Mac_any (w : World) (v u : Value) (key b : List UInt8) (hv : HasA w v key) (hu : HasA w u b) (hkb : key.length ≤ 1000000000) (hbb : b.length ≤ 1000000000) (hG : Grnd w) :
    Calls Tryd.prog 18 #[v, u] w fun e w' => e = .returned (.agg (Lib.byteCells (macOf key b)).toArray) ∧ Below w.heap.size w w' := by
  have hgs := hG.s
  have hgr := hG.r
  have hr1 : BRow (w.alloc (.cells (noBytes 32).toArray 23)) 23 w.heap.size (zeros 32) := heap_alloc_new _ _
  have hb1 := (Below.refl w.heap.size w).alloc (Nat.le_refl _) (.cells (noBytes 32).toArray 23)
  have hz1 := size_alloc1 w (.cells (noBytes 32).toArray 23)
  have HR1 := Lib.hid hr1
  have HB1 := Lib.hid hb1
  have HZ1 := Lib.hid hz1
  obtain ⟨kp, kc, rfl, kk1, kk2⟩ := hv.form
  have HV := Lib.hid hv
  have HU := Lib.hid hu
  have HG := Lib.hid hG
  have KK1 := Lib.hid kk1
  have KK2 := Lib.hid kk2
  obtain ⟨n, hn⟩ : ∃ n, key.length = n := ⟨_, rfl⟩
  have HN := Lib.hid hn
  rw [show (Value.slice kp key.length kc) = .slice kp n kc by rw [hn]]
  rw [hn] at hkb
  clear hr1 hb1 hz1 hv hu hG kk1 kk2 hn
  go_enter Tryd.func18, Tryd.ntmps18
  go_upto_region 1 with (refine wpList_alloc_of rfl 23 (noBytes 32).toArray rfl made32 ?_)
  generalize w.alloc (.cells (noBytes 32).toArray 23) = w1 at *
  have hr2 : BRow (w1.alloc (.cells (noBytes 64).toArray 48)) 48 w1.heap.size (zeros 64) := heap_alloc_new _ _
  have hb2 := (Below.refl w1.heap.size w1).alloc (Nat.le_refl _) (.cells (noBytes 64).toArray 48)
  have hz2 := size_alloc1 w1 (.cells (noBytes 64).toArray 48)
  have hz1 := HZ1.out
  have hq2 := HR1.out.below hb2 (by omega)
  have hb02 := HB1.out.trans (hb2.mono (by omega))
  have HR2 := Lib.hid hr2
  have HZ2 := Lib.hid hz2
  have HQ2 := Lib.hid hq2
  have HB2 := Lib.hid hb02
  clear hr2 hb2 hz2 hq2 hb02
  go_upto_region 2 with (refine wpList_alloc_of rfl 48 (noBytes 64).toArray rfl made64 ?_)
  generalize w1.alloc (.cells (noBytes 64).toArray 48) = w2 at *
  rw [hz1] at HR2 HZ2
  rw [hz1]
  have hz2 := HZ2.out
  clear hz1
  go_upto_if 12 with fail
  go_cut [5] (fun v5 wz => v5 = .pointer (some ⟨w.heap.size + 1, 0, none⟩) ∧ BRow wz 48 (w.heap.size + 1) (keyB key) ∧ BRow wz 23 w.heap.size (zeros 32) ∧ Below w.heap.size w wz ∧ w.heap.size + 2 ≤ wz.heap.size)
  case first =>
    have hs5 : ∀ W, (Instr.sliceAt 48 (.pointer (some ⟨w.heap.size + 1, 0, none⟩)) none none none).run Tryd.prog W = .ok (.slice (some ⟨w.heap.size + 1, 0, none⟩) 64 64) W := fun W => run_all64 _ W
    rcases Nat.lt_or_ge 64 n with hlt | hge
    · have hlt' : (64 : Int) < (n : Int) := by omega
      have hg2 := HG.out.below HB2.out
      have hv2 := HV.out.below HB2.out
      have HG2 := Lib.hid hg2
      have HV2 := Lib.hid hv2
      clear hg2 hv2
      go_wp2_with fail
      refine (Sum_any w2 (.slice kp n kc) key (by have q := HV2.out; rw [HN.out] at q; exact q) (by have := HN.out; omega) HG2.out).mono ?_
      rintro e w3 ⟨rfl, hb3⟩
      have hdl := shaOf_len key
      have hkbe : keyB key = shaOf key ++ zeros 32 := by unfold keyB; rw [if_neg (by have := HN.out; omega)]
      generalize shaOf key = D at *
      have HKBE := Lib.hid hkbe
      have hz3 := hb3.size
      obtain ⟨a1, a2, a3⟩ := arr32' D hdl
      have hr3 := HR2.out.below hb3 HR2.out.lt
      have hq3 := HQ2.out.below hb3 HQ2.out.lt
      have hb03 := HB2.out.trans (hb3.mono (by omega))
      obtain ⟨hd4, hb4⟩ := laid_row w3 (noBytes 32).toArray (Lib.byteCells D).toArray 23 (by rw [a3]; rfl)
      have hd4' : BRow ((w3.alloc (.cells (noBytes 32).toArray 23)).setCells w3.heap.size 0 (Lib.byteCells D).toArray.toList) 23 w3.heap.size D := hd4
      have hr4 := hr3.below hb4 (by omega)
      have hq4 := hq3.below hb4 (by omega)
      have hb04 := hb03.trans (hb4.mono (by omega))
      have hs6 : ∀ W, (Instr.sliceAt 23 (.pointer (some ⟨w3.heap.size, 0, none⟩)) none none none).run Tryd.prog W = .ok (.slice (some ⟨w3.heap.size, 0, none⟩) 32 32) W := fun W => run_all32 _ W
      have A1 := Lib.hid a1
      have A2 := Lib.hid a2
      have A3 := Lib.hid a3
      have HTH := Lib.hid (there_alloc w3 (noBytes 32).toArray 23 (Lib.byteCells D).toArray.size (by rw [a3]; decide))
      have HD4 := Lib.hid hd4'
      have HR4 := Lib.hid hr4
      have HQ4 := Lib.hid hq4
      have HB4 := Lib.hid hb04
      have HZ4 := Lib.hid hb4.size
      have HDL := Lib.hid hdl
      clear hb3 hdl hkbe a1 a2 a3 hr3 hq3 hb03 hd4 hb4 hd4' hr4 hq4 hb04
      go_upto_region 4 with (first | (refine wpList_alloc_of rfl 23 (noBytes 32).toArray rfl made32 ?_) | (refine wpList_store_mid rfl 23 (.tmp 6) (.tmp 14) rfl w3.heap.size 0 (Lib.byteCells D).toArray rfl rfl HTH.out A1.out A2.out ?_))
      generalize ((w3.alloc (.cells (noBytes 32).toArray 23)).setCells w3.heap.size 0 (Lib.byteCells D).toArray.toList) = w4 at *
      have hsr := setRow_row (w0 := w) (w := w4.drew) (D := D ++ zeros 32) (B := w.heap.size) HR4.out (by omega) HB4.out.drew
      have hsq : BRow (w4.drew.setRow (w.heap.size + 1) (Lib.byteCells (D ++ zeros 32)).toArray) 23 w.heap.size (zeros 32) := (setRow_other w4.drew _ _ _ (by omega)).trans HQ4.out
      have hsz : w.heap.size + 2 ≤ (w4.drew.setRow (w.heap.size + 1) (Lib.byteCells (D ++ zeros 32)).toArray).heap.size := by rw [setRow_size]; have := HZ4.out; show _ ≤ w4.heap.size; omega
      have HSR := Lib.hid hsr
      have HSQ := Lib.hid hsq
      have HSZ := Lib.hid hsz
      have hsp := sum_splice D HDL.out
      have HSP := Lib.hid hsp
      clear hsr hsq hsz hsp
      have hcn : (Lib.byteCells D).length = Nat.min 32 64 := by rw [bytes_len, HDL.out]; rfl
      have hcs : ∀ j v, (Lib.byteCells D)[j]? = some v → w4.drew.cell? ((⟨w3.heap.size, 0, none⟩ : Addr).add j) = some v := fun j v hj => by
        have q := HD4.out.range j v hj
        rw [Nat.zero_add] at q
        rw [add_plain, Nat.zero_add]
        exact q
      have hcf : 0 + (Lib.byteCells D).length ≤ (noBytes 64).toArray.size := by rw [bytes_len, HDL.out, List.size_toArray]; decide
      have HCN := Lib.hid hcn
      have HCS := Lib.hid hcs
      have HCF := Lib.hid hcf
      clear hcn hcs hcf
      refine wp_region_held_drew (S := fun w' => True) (by kernel_rfl) trivial (fun hHeld => ?_)
      refine wpAnyH_take (i := 0) (oi := _) (v := ?_) rfl (by kernel_rfl) (by kernel_rfl) (by kernel_rfl) (fun _ _ _ h => h) (Or.inl ⟨by rfl, ?hy1⟩) (by assumption) ?_
      case hy1 =>
        intro w9 hSw
        try dsimp only at hSw
        try simp only [List.getElem_toArray, List.getElem_cons_zero, List.getElem_cons_succ]
        go_simp
        try with_reducible rfl
      try simp only [Act.put, List.setIfInBounds_toArray, List.set_cons_zero, List.set_cons_succ, List.getElem_toArray, List.getElem_cons_zero, List.getElem_cons_succ]
      refine wpAnyH_take (i := 1) (oi := _) (v := ?_) rfl (by kernel_rfl) (by kernel_rfl) (by kernel_rfl) (fun _ _ _ h => h) (Or.inl ⟨by rfl, ?hy2⟩) (by assumption) ?_
      case hy2 =>
        intro w9 hSw
        try dsimp only at hSw
        try simp only [List.getElem_toArray, List.getElem_cons_zero, List.getElem_cons_succ]
        go_simp
        try with_reducible rfl
      try simp only [Act.put, List.setIfInBounds_toArray, List.set_cons_zero, List.set_cons_succ, List.getElem_toArray, List.getElem_cons_zero, List.getElem_cons_succ]
      refine wpAnyH_ready (rs := [2]) (by kernel_rfl) (by simp) (AllReadyH.cons (o := _) rfl (fun K hK => ?_) AllReadyH.nil)
      refine step_copy_row rfl (.tmp 15) (.tmp 16) 31 31 rfl 5 Tryd.underlying31 size_u8' (w.heap.size + 1) 0 64 64 ⟨w3.heap.size, 0, none⟩ 32 32 rfl rfl (noBytes 64).toArray 48 HR4.out (Lib.byteCells D) HCN.out HCS.out HCF.out (Lib.byteCells_one _) ?_
      rw [HSP.out]
      refine hK.out _ _ (trivial) (fun hHeld => ?_)
      clear hK K
      try simp only [Act.put, List.setIfInBounds_toArray, List.set_cons_zero, List.set_cons_succ, List.getElem_toArray, List.getElem_cons_zero, List.getElem_cons_succ]
      refine wpAnyH_done (by kernel_rfl) ?_ _
      generalize w4.drew.setRow (w.heap.size + 1) (Lib.byteCells (D ++ zeros 32)).toArray = w5 at *
      go_wp2
      go_meet
      exact ⟨rfl, by rw [HKBE.out]; exact HSR.out.1, HSQ.out, HSR.out.2, HSZ.out⟩
    · have hlt' : ¬ (64 : Int) < (n : Int) := by omega
      have hv2 := HV.out.below HB2.out
      obtain ⟨p, cap, bb, o, hve, q1, q2, q3, qc⟩ := hv2
      rw [HN.out] at hve q1
      simp only [Value.slice.injEq, true_and] at hve
      obtain ⟨rfl, rfl⟩ := hve
      have hks := key_splice key (by rw [HN.out]; exact hge)
      have hcn : (Lib.byteCells key).length = Nat.min n 64 := by rw [bytes_len, HN.out]; exact (Nat.min_eq_left hge).symm
      have hpos : 0 < (Lib.byteCells key).length → (some (⟨w.heap.size + 1, 0, none⟩ : Addr)) = some ⟨w.heap.size + 1, 0, none⟩ ∧ ∃ ad, kp = some ad ∧ ∀ j v, (Lib.byteCells key)[j]? = some v → w2.cell? (ad.add j) = some v := fun h0 => by
        rw [bytes_len] at h0
        obtain ⟨rfl, _⟩ := q3 h0
        exact ⟨rfl, _, rfl, fun j v hj => cells_at qc j v hj⟩
      have hfit : 0 + (Lib.byteCells key).length ≤ (noBytes 64).length := by rw [bytes_len, HN.out, noBytes_len]; omega
      have HKS := Lib.hid hks
      have HCN := Lib.hid hcn
      have HPOS := Lib.hid hpos
      have HFIT := Lib.hid hfit
      clear q1 q2 q3 qc hks hcn hpos hfit
      go_wp2_with (refine wpList_copy_splice rfl (.tmp 18) (.tmp 19) 31 31 rfl 5 Tryd.underlying31 size_u8' _ kp 64 64 n kc rfl rfl (w.heap.size + 1) 0 (noBytes 64) 48 HR2.out (Lib.byteCells key) HCN.out HPOS.out HFIT.out (Lib.byteCells_one _) (w.heap.size + 1) w2 (Below.refl _ _) (Nat.le_refl _) (fun w5 hw5 hb5 => ?_))
      go_meet
      have hrow : BRow w5 48 (w.heap.size + 1) (keyB key) := by
        have q := hw5.out
        rw [HKS.out] at q
        exact q
      have := hb5.size
      exact ⟨rfl, hrow, HQ2.out.below hb5 (by omega), HB2.out.trans (hb5.mono (by omega)), by omega⟩
  case rest =>
    obtain ⟨rfl, hrb, hrq, hb3, hz3⟩ := hcut
    have hkl := keyB_len key
    obtain ⟨k, hk⟩ : ∃ k, keyB key = k := ⟨_, rfl⟩
    rw [hk] at hrb hkl
    have hmac : macOf key b = shaOf (maskOf k 92 ++ shaOf (maskOf k 54 ++ b)) := by unfold macOf; rw [hk]
    have HMAC := Lib.hid hmac
    have hne := own_ne HU.out
    have HNE := Lib.hid hne
    have HKL := Lib.hid hkl
    have hk54 : (maskOf k 54).length = 64 := by rw [maskOf_len]; exact hkl
    have hk92 : (maskOf k 92).length = 64 := by rw [maskOf_len]; exact hkl
    have HK54 := Lib.hid hk54
    have HK92 := Lib.hid hk92
    obtain ⟨e1, e2, e3⟩ := arr64 k hkl
    obtain ⟨E, hE⟩ : ∃ E, (Lib.byteCells k).toArray = E := ⟨_, rfl⟩
    have hrb' := hrb
    unfold BRow at hrb'
    rw [hE] at e1 e2 e3 hrb'
    have E1 := Lib.hid e1
    have HE := Lib.hid hE
    have hin : MacIn w E u b wc := ⟨hrq, hrb', hb3, HG.out.below hb3, HU.out.below hb3, hz3⟩
    have HIN := Lib.hid hin
    clear hrb hrq hb3 hne hkl hk hmac hk54 hk92 e1 e2 e3 hE hrb' hin
    go_wp2_with fail
    refine (New_std wc HIN.out.g).mono ?_
    rintro e w4 ⟨rfl, hs4, hb4⟩
    have HIN4 := Lib.hid (HIN.out.below hb4)
    have hz4 := hs4.lt
    have HS4 := Lib.hid hs4
    clear hs4 hb4
    generalize wc.heap.size = R1 at *
    go_wp2_with (refine wpList_load_row rfl 48 (.tmp 5) rfl (w.heap.size + 1) rfl 48 E (0, 0) _ HIN4.out.blk Tryd.underlying48 rfl E1.out ?_)
    rw [← HE.out]
    refine (masked_54 w4 k HKL.out).mono ?_
    rintro e w5 ⟨rfl, hm5, hb5⟩
    have HIN5 := Lib.hid (HIN4.out.below hb5)
    have HM5 := Lib.hid (hm5.hasA 64 HK54.out.symm (by decide))
    have HS5 := Lib.hid (HS4.out.below hb5)
    clear hb5 hm5
    rw [HE.out]
    go_wp2_with fail
    refine (Write_std w5 R1 [] HS5.out _ (maskOf k 54) HM5.out (fun _ => by show some w4.heap.size ≠ some R1; rw [Ne, Option.some.injEq]; omega) (by rw [HK54.out]; decide) HIN5.out.g (by omega)).mono ?_
    rintro e w6 ⟨rfl, hk6, hs6⟩
    rw [List.nil_append] at hs6
    have HIN6 := Lib.hid (HIN5.out.kp hk6 (by omega) (HNE.out R1 (by omega)) hgs hgr)
    have HS6 := Lib.hid hs6
    clear hk6 hs6
    go_wp2_with fail
    refine (Write_std w6 R1 _ HS6.out u b HIN6.out.has (HNE.out R1 (by omega)) (by rw [HK54.out]; omega) HIN6.out.g (by omega)).mono ?_
    rintro e w7 ⟨rfl, hk7, hs7⟩
    have HIN7 := Lib.hid (HIN6.out.kp hk7 (by omega) (HNE.out R1 (by omega)) hgs hgr)
    have HS7 := Lib.hid hs7
    clear hk7 hs7
    go_wp2_with fail
    refine (Sum_std w7 R1 _ HS7.out (by rw [List.length_append, HK54.out]; omega) HIN7.out.g (by omega)).mono ?_
    rintro e w8 ⟨rfl, -, hk8⟩
    have HIN8 := Lib.hid (HIN7.out.kp hk8 (by omega) (HNE.out R1 (by omega)) hgs hgr)
    have hdl := shaOf_len (maskOf k 54 ++ b)
    have hmc := HMAC.out
    generalize shaOf (maskOf k 54 ++ b) = D1 at *
    have HMC := Lib.hid hmc
    obtain ⟨a1, a2, a3⟩ := arr32' D1 hdl
    have HDL := Lib.hid hdl
    obtain ⟨hd9, hb9⟩ := laid_row w8 (noBytes 32).toArray (Lib.byteCells D1).toArray 23 (by rw [a3]; rfl)
    have hd9' : BRow ((w8.alloc (.cells (noBytes 32).toArray 23)).setCells w8.heap.size 0 (Lib.byteCells D1).toArray.toList) 23 w8.heap.size D1 := hd9
    have HIN9 := Lib.hid (HIN8.out.below hb9)
    have HD9 := Lib.hid hd9'
    have A1 := Lib.hid a1
    have A2 := Lib.hid a2
    have HTH := Lib.hid (there_alloc w8 (noBytes 32).toArray 23 (Lib.byteCells D1).toArray.size (by rw [a3]; decide))
    clear hk8 hmc hdl a1 a2 a3 hd9 hb9 hd9'
    go_upto_region 10 with (first | (refine wpList_alloc_of rfl 23 (noBytes 32).toArray rfl made32 ?_) | (refine wpList_store_mid rfl 23 (.tmp 8) (.tmp 30) rfl w8.heap.size 0 (Lib.byteCells D1).toArray rfl rfl HTH.out A1.out A2.out ?_))
    generalize ((w8.alloc (.cells (noBytes 32).toArray 23)).setCells w8.heap.size 0 (Lib.byteCells D1).toArray.toList) = w9 at *
    have hz8 := HIN8.out.size
    have hz9 := HD9.out.lt
    generalize w8.heap.size = G8 at *
    go_wp2_with fail
    refine (New_std w9 HIN9.out.g).mono ?_
    rintro e w10 ⟨rfl, hs10, hb10⟩
    have HIN10 := Lib.hid (HIN9.out.below hb10)
    have HD10 := Lib.hid (HD9.out.below hb10 hz9)
    have hz10 := hs10.lt
    have HS10 := Lib.hid hs10
    have hz9' := HIN9.out.size
    clear hs10 hb10
    generalize w9.heap.size = R2 at *
    go_wp2_with (refine wpList_load_row rfl 48 (.tmp 5) rfl (w.heap.size + 1) rfl 48 E (0, 0) _ HIN10.out.blk Tryd.underlying48 rfl E1.out ?_)
    rw [← HE.out]
    refine (masked_92 w10 k HKL.out).mono ?_
    rintro e w11 ⟨rfl, hm11, hb11⟩
    have HIN11 := Lib.hid (HIN10.out.below hb11)
    have HM11 := Lib.hid (hm11.hasA 64 HK92.out.symm (by decide))
    have HS11 := Lib.hid (HS10.out.below hb11)
    have HD11 := Lib.hid (HD10.out.below hb11 (by omega))
    clear hb11 hm11
    rw [HE.out]
    go_wp2_with fail
    refine (Write_std w11 R2 [] HS11.out _ (maskOf k 92) HM11.out (fun _ => by show some w10.heap.size ≠ some R2; rw [Ne, Option.some.injEq]; omega) (by rw [HK92.out]; decide) HIN11.out.g (by omega)).mono ?_
    rintro e w12 ⟨rfl, hk12, hs12⟩
    rw [List.nil_append] at hs12
    have HIN12 := Lib.hid (HIN11.out.kp hk12 (by omega) (HNE.out R2 (by omega)) hgs hgr)
    have HS12 := Lib.hid hs12
    have HD12 := Lib.hid ((HD11.out.kp hk12 (by omega)).hasA 32 HDL.out.symm (by decide))
    clear hk12 hs12
    have hs9 : ∀ W, (Instr.sliceAt 23 (.pointer (some ⟨G8, 0, none⟩)) none none none).run Tryd.prog W = .ok (.slice (some ⟨G8, 0, none⟩) 32 32) W := fun W => run_all32 _ W
    go_wp2_with fail
    refine (Write_std w12 R2 _ HS12.out _ D1 HD12.out (fun _ => by show some G8 ≠ some R2; rw [Ne, Option.some.injEq]; omega) (by rw [HK92.out, HDL.out]; decide) HIN12.out.g (by omega)).mono ?_
    rintro e w13 ⟨rfl, hk13, hs13⟩
    have HIN13 := Lib.hid (HIN12.out.kp hk13 (by omega) (HNE.out R2 (by omega)) hgs hgr)
    have HS13 := Lib.hid hs13
    clear hk13 hs13 hs9
    go_upto_region 13 with fail
    go_cut [4] (fun v4 wz => v4 = .pointer (some ⟨w.heap.size, 0, none⟩) ∧ BRow wz 23 w.heap.size (macOf key b) ∧ Below w.heap.size w wz)
    case first =>
      go_wp2_with fail
      refine (Sum_std w13 R2 _ HS13.out (by rw [List.length_append, HK92.out, HDL.out]; decide) HIN13.out.g (by omega)).mono ?_
      rintro e w14 ⟨rfl, -, hk14⟩
      have hin14 := HIN13.out.kp hk14 (by omega) (HNE.out R2 (by omega)) hgs hgr
      have hdm := shaOf_len (maskOf k 92 ++ D1)
      have hmc := HMC.out
      generalize shaOf (maskOf k 92 ++ D1) = D2 at *
      have HMC2 := Lib.hid hmc
      obtain ⟨b1, b2, b3⟩ := arr32' D2 hdm
      have hl := lay_row' (E := D2) hin14.res (by rw [hdm]; rfl) (Nat.le_refl _) hin14.bel
      have HL := Lib.hid hl
      have B1 := Lib.hid b1
      have B2 := Lib.hid b2
      have HTH2 := Lib.hid (hin14.res.there (Lib.byteCells D2).toArray.size (by rw [b3]; decide))
      clear hmc hk14 hin14 hdm b1 b2 b3 hl
      go_wp2_with (refine wpList_store_mid rfl 23 (.tmp 4) (.tmp 40) rfl w.heap.size 0 (Lib.byteCells D2).toArray rfl rfl HTH2.out B1.out B2.out ?_)
      go_meet
      exact ⟨rfl, by rw [HMC2.out]; exact HL.out.1, HL.out.2⟩
    case rest =>
      obtain ⟨rfl, h1, h2⟩ := hcut
      have hl := shaOf_len (maskOf (keyB key) 92 ++ shaOf (maskOf (keyB key) 54 ++ b))
      rw [show shaOf (maskOf (keyB key) 92 ++ shaOf (maskOf (keyB key) 54 ++ b)) = macOf key b from rfl] at hl
      refine (‹∀ (a : Act) (w : World), Code.wp Tryd.prog Code.ret _ a w → _› : ∀ (a : Act) (w : World), Code.wp Tryd.prog Code.ret _ a w → _) _ _ ?_
      apply wp_ret
      refine bodyPost_ret (v := .agg (Lib.byteCells (macOf key b)).toArray) ?_ rfl ⟨rfl, h2⟩
      generalize macOf key b = D at *
      exact results_cell_row rfl _ _ w.heap.size 23 _ (0, 0) _ rfl h1 Tryd.underlying23 rfl (by rw [List.size_toArray, bytes_len, hl]; exact info32)
end Go.Proofs.YtjopfhmloklhdaaDoor
