/-
  Package sha: Write.
-/
import Derived.Test.YtjopfhmloklhdaaDoorHashSet
import Derived.Test.YtjopfhmloklhdaaDoorShaTook
import Derived.Test.YtjopfhmloklhdaaDoorSlices
import Derived.Deep.DeepCutAuto
import Derived.Deep.CutBlock
import Derived.Deep.LoopGhost
namespace Go.Proofs.YtjopfhmloklhdaaDoor
open Go.ChangeShapes Go.WideShapes Go.ChangeAt Go.RowKit Go.Deep
set_option linter.unusedVariables false
set_option linter.unusedSimpArgs false

/-- Of what was there block R alone was written. -/
structure Kp (R : Nat) (w w' : World) : Prop where
  os : w'.os = w.os
  tape : w'.tape = w.tape
  output : w'.output = w.output
  size : w.heap.size ≤ w'.heap.size
  block : ∀ k, k < w.heap.size → k ≠ R → w'.heap[k]? = w.heap[k]?
theorem Kp.refl (R : Nat) (w : World) : Kp R w w := ⟨rfl, rfl, rfl, Nat.le_refl _, fun _ _ _ => rfl⟩
theorem Kp.of_below {R : Nat} {w w' : World} (h : Below w.heap.size w w') : Kp R w w' := ⟨h.os, h.tape, h.output, h.size, fun k hk _ => h.block k hk⟩
theorem Kp.trans {R : Nat} {a b c : World} (h : Kp R a b) (k : Kp R b c) : Kp R a c :=
  ⟨k.os.trans h.os, k.tape.trans h.tape, k.output.trans h.output, Nat.le_trans h.size k.size, fun i hi hn => (k.block i (Nat.lt_of_lt_of_le hi h.size) hn).trans (h.block i hi hn)⟩
theorem Kp.below {R B : Nat} {w w' : World} (h : Kp R w w') (hR : B ≤ R) (hB : B ≤ w.heap.size) : Below B w w' := ⟨h.os, h.tape, h.output, h.size, fun k hk => h.block k (by omega) (by omega)⟩
theorem Kp.setCell (R o : Nat) (w : World) (v : Value) : Kp R w (w.setCell ⟨R, o, none⟩ v) := ⟨rfl, rfl, rfl, by rw [World.size_setCell]; exact Nat.le_refl _, fun k _ hn => Below.heap_setCell _ _ _ _ hn⟩
theorem Kp.setRow (R : Nat) (w : World) (cs : Array Value) : Kp R w (w.setRow R cs) := ⟨rfl, rfl, rfl, by rw [setRow_size]; exact Nat.le_refl _, fun k _ hn => setRow_other w R k cs hn⟩
theorem Kp.setCells (R : Nat) : ∀ (vs : List Value) (o : Nat) (w : World), Kp R w (w.setCells R o vs)
  | [], _, w => Kp.refl R w
  | v :: r, o, w => by unfold World.setCells; exact (Kp.setCell R o w v).trans (Kp.setCells R r (o + 1) _)
theorem Kp.drewN (R : Nat) (w : World) (n : Nat) : Kp R w (w.drewN n) := ⟨rfl, rfl, rfl, Nat.le_refl _, fun _ _ _ => rfl⟩
theorem HasA.kp {w w' : World} {v : Value} {l : List UInt8} {R : Nat} (h : HasA w v l) (hk : Kp R w w') (hn : 0 < l.length → v.ownBlock ≠ some R) : HasA w' v l := by
  obtain ⟨p, cap, b, o, rfl, k1, k2, k3, kc⟩ := h
  refine ⟨p, cap, b, o, rfl, k1, k2, fun h => ⟨(k3 h).1, Nat.lt_of_lt_of_le (k3 h).2 hk.size⟩, fun j hj => ?_⟩
  obtain ⟨rfl, hb⟩ := k3 (by omega)
  rw [World.cell?_of_block (a := ⟨b, o + j, none⟩) (hk.block b hb (fun e => hn (by omega) (by rw [show b = R from e]; rfl)))]
  exact kc j hj
theorem Rnd.kp {w w' : World} {K : List Nat} {R : Nat} (h : Rnd w K) (hk : Kp R w w') (hn : 1 ≠ R) (hl : 1 < w.heap.size) : Rnd w' K := fun i hi => by
  rw [World.cell?_of_block (a := ⟨1, i, none⟩) (hk.block _ hl hn)]
  exact h i hi
/-- How a hash stands behind the bytes l. -/
structure Stands (w : World) (R : Nat) (l : List UInt8) (d : List UInt8) (n : Nat) (h : HashV) : Prop where
  is : HashIs w R h
  open_ : h.closed = false
  dig : h.dig = d
  done : h.done = n
  free : h.lock = 0
theorem HashIs.blk {w : World} {R : Nat} {h : HashV} (hi : HashIs w R h) : Blk w R 8 h.rest := fun j hj => by
  have hr := hi.2.1
  have hq := hi.byte j (.int .u8 ((h.rest.getD j 0).toNat : Int)) (by
    rw [byteCells_get (by omega), List.getD_eq_getElem?_getD, List.getElem?_eq_getElem (by omega)]
    rfl)
  exact hq
theorem HashIs.there {w : World} {R : Nat} {h : HashV} (hi : HashIs w R h) (n : Nat) (hn : n ≤ 109) : w.there R 0 n := fun j hj => by
  have hs := hash_size h hi.2.1 hi.2.2
  rw [Nat.zero_add, (hi.at j).1, (hi.at j).2]
  exact ⟨by rw [List.getElem?_eq_getElem (by omega)]; rfl, rfl⟩
theorem sliced_own (b o lo hi cap : Nat) : ∃ p2 c2, sliced (some ⟨b, o, none⟩) lo hi cap 1 = .slice p2 (hi - lo) c2 ∧ (Value.slice p2 (hi - lo) c2).ownBlock = some b := by
  unfold sliced
  refine ⟨_, _, rfl, ?_⟩
  split
  · rfl
  · simp [Value.ownBlock, add_plain]
theorem run_tail (b o lo n c : Nat) (h1 : lo ≤ n) (h2 : n ≤ c) (W : World) : (Instr.slice 31 (.slice (some ⟨b, o, none⟩) n c) (some (.int .i64 (lo : Int))) none none).run Tryd.prog W = .ok (sliced (some ⟨b, o, none⟩) lo n c 1) W := by
  rw [run_slice_l (P := Tryd.prog) (w := W) (t := 31) (a := some ⟨b, o, none⟩) (len := n) (cap := c) Tryd.underlying31 .i64 (lo : Int) (by omega) (by omega), size_one]
  rfl
set_option maxRecDepth 100000 in
set_option maxHeartbeats 8000000 in
theorem Write_any (w : World) (R : Nat) (h : HashV) (hi : HashIs w R h) (hc : h.closed = false) (hfree : h.lock = 0) (l : List UInt8) (ht : Took l h.st h.rest (l.length % 64)) (hlen : h.len = l.length) (v : Value) (b : List UInt8) (hb : HasA w v b) (hne : 0 < b.length → v.ownBlock ≠ some R)
    (hbd : l.length + b.length ≤ 1125899906842624) (hK : Rnd w shaK) (hgl : 1 < w.heap.size) (hgR : 1 ≠ R) :
    Calls Tryd.prog 13 #[.pointer (some ⟨R, 0, none⟩), v] w fun e w' => e = .returned (.int .i64 (b.length : Int)) ∧ Kp R w w' ∧ ∃ h', Stands w' R (l ++ b) h.dig h.done h' ∧ h'.len = l.length + b.length ∧ Took (l ++ b) h'.st h'.rest ((l.length + b.length) % 64) := by
  have c72 := hi.len
  have c73 := hi.shut
  have f72 := (hi.at 72).2
  rw [hc] at c73
  rw [hlen] at c72
  obtain ⟨p0, cap0, rfl, hk0, hm0⟩ := hb.form
  have hcm : (cap0 : Int) ≤ 9223372036854775807 := by unfold maxLen at hm0; omega
  obtain ⟨n, hn⟩ : ∃ n, l.length = n := ⟨_, rfl⟩
  obtain ⟨m, hm⟩ : ∃ m, b.length = m := ⟨_, rfl⟩
  rw [hn] at c72 hbd ht
  rw [hm] at hbd hk0
  have hwr : IntKind.i64.wrap ((n : Int) + (m : Int)) = ((n + m : Nat) : Int) := by rw [IntKind.wrap_i64]; omega
  have HB := Lib.hid hb
  have HNE := Lib.hid hne
  have HI := Lib.hid hi
  have HC := Lib.hid hc
  have HFREE := Lib.hid hfree
  have HT := Lib.hid ht
  have HN := Lib.hid hn
  have HM := Lib.hid hm
  have HKR := Lib.hid hK
  have HM0 := Lib.hid hm0
  have hst : HashIs (w.setCell ⟨R, 72, none⟩ (.int .i64 ((n : Int) + (m : Int)))) R { h with len := n + m } := hi.setLen (n + m)
  have HST := Lib.hid hst
  have hkp : Kp R w (w.setCell ⟨R, 72, none⟩ (.int .i64 ((n : Int) + (m : Int)))) := Kp.setCell R 72 w _
  have HKP := Lib.hid hkp
  rw [show (Value.slice p0 b.length cap0) = .slice p0 m cap0 by rw [hm]]
  clear hb hne hi hc hfree ht hn hm hK hm0 hst hkp hlen
  go_enter Tryd.func13, Tryd.ntmps13
  go_wp2_with fail
  generalize w.setCell ⟨R, 72, none⟩ (.int .i64 ((n : Int) + (m : Int))) = w1 at *
  go_loopg [1, 6, 7] m (fun g v1 v6 v7 wr => ∃ (k at_ : Nat) (h' : HashV) (p : Option Addr) (c : Nat), k + g = m ∧ v1 = .slice p (m - k) c ∧ v6 = .int .i64 (at_ : Int) ∧ HasA wr (.slice p (m - k) c) (b.drop k) ∧ (0 < m - k → (Value.slice p (m - k) c).ownBlock ≠ some R) ∧ Stands wr R [] h.dig h.done h' ∧ h'.len = n + m ∧ Took (l ++ b.take k) h'.st h'.rest at_ ∧ Kp R w wr)
  case atStart =>
    refine ⟨0, n % 64, _, p0, cap0, by omega, rfl, by rw [Int.natCast_emod]; rfl, ?_, ?_, ⟨HST.out, HC.out, rfl, rfl, HFREE.out⟩, rfl, ?_, HKP.out⟩
    · have hq := HB.out.kp HKP.out HNE.out
      rw [HM.out] at hq
      exact hq
    · intro h0
      have := HNE.out (by rw [HM.out]; exact h0)
      rw [HM.out] at this
      exact this
    · rw [List.take_zero, List.append_nil]
      exact HT.out
  case round =>
    obtain ⟨k, at_, h', p, c, hkg, rfl, rfl, ha, hno, hs, hl, htk, hkp⟩ := hrel
    have hq : m - k = gk := by omega
    rw [hq] at ha hno ⊢
    have hat := htk.lt
    have hdl : (b.drop k).length = gk := by rw [List.length_drop]; have := HM.out; omega
    obtain ⟨b0, o0, cap', p', he, q1, q2, HP, HCC⟩ := ha.open
    rw [hdl] at he q1
    simp only [Value.slice.injEq, true_and] at he
    obtain ⟨rfl, rfl⟩ := he
    have hcm2 : (c : Int) ≤ 9223372036854775807 := by unfold maxLen at q2; omega
    have HHA := Lib.hid ha
    have HNO := Lib.hid hno
    have HS := Lib.hid hs
    have HL := Lib.hid hl
    have HTK := Lib.hid htk
    have HKP2 := Lib.hid hkp
    have HDL := Lib.hid hdl
    have HQ := Lib.hid hq
    have HQ2 := Lib.hid q2
    rcases Nat.eq_zero_or_pos gk with h0 | hpos
    · have hz : ¬ (0 : Int) < (gk : Int) := by omega
      have hkm : k = m := by omega
      have htb : b.take k = b := List.take_of_length_le (by rw [hkm, HM.out]; exact Nat.le_refl _)
      have hpos := htk.pos
      rw [htb] at htk hpos
      rw [List.length_append, HN.out, HM.out] at hpos
      have HT2 := Lib.hid htk
      have HP2 := Lib.hid hpos
      clear ha hno hs hl htk hkp hdl hq q2 htb hkm h0 hpos
      go_wp2
      go_ret
      rw [HN.out, HM.out]
      refine ⟨rfl, HKP2.out, h', ⟨HS.out.is, HS.out.open_, HS.out.dig, HS.out.done, HS.out.free⟩, HL.out, ?_⟩
      rw [← HP2.out]
      exact HT2.out
    · obtain ⟨nn, hnn⟩ : ∃ nn, nn = min (64 - at_) gk := ⟨_, rfl⟩
      have hn1 : nn ≤ 64 - at_ := by omega
      have hn2 : nn ≤ gk := by omega
      have hn3 : 0 < nn := by omega
      have hpo : (0 : Int) < (gk : Int) := by omega
      have hatI : (at_ : Int) ≤ 64 := by omega
      obtain ⟨rfl, hbl⟩ := HP.out (by rw [hdl]; exact hpos)
      have hbs : ((b.drop k).take nn).length = nn := by rw [List.length_take, hdl]; omega
      obtain ⟨cs, hcs⟩ : ∃ cs, Lib.byteCells ((b.drop k).take nn) = cs := ⟨_, rfl⟩
      have hcl : cs.length = nn := by rw [← hcs, bytes_len, hbs]
      have hg1 : cs.length = Nat.min gk (64 - at_) := by rw [hcl, hnn]; exact Nat.min_comm _ _
      have hg2 : ∀ (j : Nat) (v : Value), cs[j]? = some v → wr.cell? ((⟨b0, o0, none⟩ : Addr).add j) = some v := fun j v hj => by
        have hjl : j < nn := by have := (List.getElem?_eq_some_iff.1 hj).1; omega
        rw [← hcs, byteCells_get (by omega)] at hj
        rw [add_plain, HCC.out j (by omega), ← hj, List.getElem_take]
      have hg3 : 8 + at_ + cs.length ≤ (hashCells h').toArray.size := by
        rw [List.size_toArray, hash_size h' HS.out.is.2.1 HS.out.is.2.2, hcl]; omega
      have hg4 : ∀ v ∈ cs, v.oneCell' = true := by rw [← hcs]; exact Lib.byteCells_one _
      have hrow := HS.out.is.setRest at_ ((b.drop k).take nn) (by rw [hbs]; omega)
      rw [hcs] at hrow
      have hkr := Kp.setRow R wr ((hashCells h').toArray.toList.take (8 + at_) ++ (cs ++ (hashCells h').toArray.toList.drop (8 + at_ + cs.length))).toArray
      have HG1 := Lib.hid hg1
      have HG2 := Lib.hid hg2
      have HG3 := Lib.hid hg3
      have HG4 := Lib.hid hg4
      have HROW := Lib.hid hrow
      have HKR2 := Lib.hid hkr
      have HCL := Lib.hid hcl
      have HBS := Lib.hid hbs
      have HNN := Lib.hid hnn
      have hcp : (by exact (hashCells h').toArray : Array Value).toList = hashCells h' := rfl
      obtain ⟨p2, c2, hsl, hown⟩ := sliced_own b0 o0 nn gk c
      have hrun := run_tail b0 o0 nn gk c hn2 q1
      have htl := HHA.out.sub nn gk hn2 (by rw [hdl]; exact Nat.le_refl _)
      rw [hsl] at hrun htl
      rw [List.take_of_length_le (by rw [hdl]; exact Nat.le_refl _), List.drop_drop] at htl
      have hbR : b0 ≠ R := fun e => HNO.out hpos (by rw [← e]; rfl)
      have HOWN : Hid ((Value.slice p2 (gk - nn) c2).ownBlock ≠ some R) := Lib.hid (by rw [hown]; simpa using hbR)
      have HTL := Lib.hid htl
      have htI : 0 ≤ (nn : Int) ∧ (nn : Int) ≤ (gk : Int) := by omega
      clear ha hno hs hl htk hkp hdl hq q2 hbs hnn hg1 hg2 hg3 hg4 hrow hkr hcs hcp htl hcl hsl hown hbR
      go_upto_region 8 with (refine wpList_copy_own rfl (.tmp 34) (.tmp 35) 31 31 rfl 5 Tryd.underlying31 (by kernel_rfl) R (8 + at_) (64 - at_) (64 - at_) ⟨b0, o0, none⟩ gk c rfl rfl (hashCells h').toArray 61 HS.out.is.1 cs HG1.out HG2.out HG3.out HG4.out ?_)
      generalize wr.setRow R ((hashCells h').toArray.toList.take (8 + at_) ++ (cs ++ (hashCells h').toArray.toList.drop (8 + at_ + cs.length))).toArray = w2 at *
      rw [HCL.out]
      have hap : splice h'.rest at_ ((b.drop k).take nn) = h'.rest.take at_ ++ ((b.drop k).take nn ++ h'.rest.drop (at_ + nn)) := by unfold splice; rw [HBS.out]
      have HAP := Lib.hid hap
      have hmore : l ++ b.take (k + nn) = (l ++ b.take k) ++ (b.drop k).take nn := by rw [List.append_assoc, List.take_add]
      have HMORE := Lib.hid hmore
      have hrt : (h'.rest.take at_).length = at_ := by rw [List.length_take, HTK.out.size]; omega
      have HRT := Lib.hid hrt
      have hsum : ((at_ : Int) + (nn : Int)) = ((at_ + nn : Nat) : Int) := by omega
      clear hap hmore hrt
      rcases Nat.lt_or_ge (at_ + nn) 64 with hle | hge
      · have hnk : nn = gk := by have := HNN.out; omega
        have hbe : (((at_ : Int) + (nn : Int)) == 64) = false := by rw [beq_eq_false_iff_ne]; omega
        clear hsum hnk
        go_wp2
        go_roundg (gk - nn)
        case rel =>
          refine ⟨k + nn, at_ + nn, _, p2, c2, by omega, ?_, by go_num, ?_, ?_, ⟨HROW.out, HS.out.open_, HS.out.dig, HS.out.done, HS.out.free⟩, HL.out, ?_, HKP2.out.trans HKR2.out⟩
          · exact congrArg (fun q => Value.slice p2 q c2) (by omega)
          · rw [show m - (k + nn) = gk - nn by omega]
            exact HTL.out.kp HKR2.out (fun _ => HOWN.out)
          · rw [show m - (k + nn) = gk - nn by omega]
            exact fun _ => HOWN.out
          · rw [HMORE.out]
            have hq := HTK.out.less ((b.drop k).take nn) (splice h'.rest at_ ((b.drop k).take nn)) (by rw [HBS.out]; exact hle) (by
              rw [HAP.out, HBS.out, ← List.append_assoc, List.take_append_of_le_length (by rw [List.length_append, HRT.out, HBS.out]; exact Nat.le_refl _), List.take_of_length_le (by rw [List.length_append, HRT.out, HBS.out]; exact Nat.le_refl _)]) HROW.out.2.1
            rw [HBS.out] at hq
            exact hq
        all_goals omega
      · have h64 : at_ + nn = 64 := by omega
        have hbe : (((at_ : Int) + (nn : Int)) == 64) = true := by rw [beq_iff_eq]; omega
        have hi8 : (Tryd.prog.info? 47).map (·.size) = some (words h'.st.list).length := by
          rw [words_len]
          kernel_rfl
        have HI8 := Lib.hid hi8
        have hstl := HTK.out.st_lt
        have hz1 := HKP2.out.size
        have hz2 := HKR2.out.size
        have hK2 := (HKR.out.kp HKP2.out hgR hgl).kp HKR2.out hgR (by omega)
        have HK2 := Lib.hid hK2
        obtain ⟨st', hst'⟩ : ∃ s, mixW shaK h'.st (splice h'.rest at_ ((b.drop k).take nn)) = s := ⟨_, rfl⟩
        have HST2 := Lib.hid hst'
        have hi9 : (Tryd.prog.info? 47).map (·.size) = some (words st'.list).toArray.size := by
          rw [List.size_toArray, words_len]
          kernel_rfl
        have hone9 : (words st'.list).toArray.all (·.oneCell') = true := all_oneCell_toArray (fun v hv => by
          obtain ⟨x, _, rfl⟩ := List.mem_map.1 hv
          rfl)
        have HI9 := Lib.hid hi9
        have HONE9 := Lib.hid hone9
        have HH64 := Lib.hid h64
        have hRl : R < w2.heap.size := lt_of_block HROW.out.1
        clear hsum hi8 hK2 hst' hi9 hone9 h64
        go_upto_region 11 with fail
        refine AnyL.begin (S := fun w' => HashIs w' R { h' with rest := splice h'.rest at_ ((b.drop k).take nn) }) 11 (by kernel_rfl) HROW.out (fun hHeld => ?_)
        refine AnyL.take (i := 0) (oi := _) (v := ?_) 30 rfl (by kernel_rfl) (by kernel_rfl) (by kernel_rfl) (by kernel_rfl) (by kernel_rfl) (fun _ _ _ h => h) (Or.inl ⟨by rfl, ?hy1⟩) (by assumption) ?_
        case hy1 =>
          intro w9 hSw
          try dsimp only at hSw
          try simp only [List.getElem_toArray, List.getElem_cons_zero, List.getElem_cons_succ]
          go_simp
          try with_reducible rfl
        try simp only [Act.put, List.setIfInBounds_toArray, List.set_cons_zero, List.set_cons_succ, List.getElem_toArray, List.getElem_cons_zero, List.getElem_cons_succ]
        refine AnyL.take (i := 1) (oi := _) (v := ?_) 30 rfl (by kernel_rfl) (by kernel_rfl) (by kernel_rfl) (by kernel_rfl) (by kernel_rfl) (fun _ _ _ h => h) (Or.inl ⟨by rfl, ?hy2⟩) (by assumption) ?_
        case hy2 =>
          intro w9 hSw
          try dsimp only at hSw
          try simp only [List.getElem_toArray, List.getElem_cons_zero, List.getElem_cons_succ]
          go_simp
          try with_reducible rfl
        try simp only [Act.put, List.setIfInBounds_toArray, List.set_cons_zero, List.set_cons_succ, List.getElem_toArray, List.getElem_cons_zero, List.getElem_cons_succ]
        refine AnyL.take (i := 2) (oi := _) (v := ?_) 30 rfl (by kernel_rfl) (by kernel_rfl) (by kernel_rfl) (by kernel_rfl) (by kernel_rfl) (fun _ _ _ h => h) (Or.inl ⟨by rfl, ?hy3⟩) (by assumption) ?_
        case hy3 =>
          intro w9 hSw
          try dsimp only at hSw
          try simp only [List.getElem_toArray, List.getElem_cons_zero, List.getElem_cons_succ]
          go_simp
          try with_reducible rfl
        try simp only [Act.put, List.setIfInBounds_toArray, List.set_cons_zero, List.set_cons_succ, List.getElem_toArray, List.getElem_cons_zero, List.getElem_cons_succ]
        refine AnyL.take (i := 3) (oi := _) (v := ?_) 30 rfl (by kernel_rfl) (by kernel_rfl) (by kernel_rfl) (by kernel_rfl) (by kernel_rfl) (fun _ _ _ h => h) (Or.inl ⟨by rfl, ?hy4⟩) (by assumption) ?_
        case hy4 =>
          intro w9 hSw
          try dsimp only at hSw
          try simp only [List.getElem_toArray, List.getElem_cons_zero, List.getElem_cons_succ]
          go_simp
          try with_reducible rfl
        try simp only [Act.put, List.setIfInBounds_toArray, List.set_cons_zero, List.set_cons_succ, List.getElem_toArray, List.getElem_cons_zero, List.getElem_cons_succ]
        refine AnyL.take (i := 4) (oi := _) (v := ?_) 30 rfl (by kernel_rfl) (by kernel_rfl) (by kernel_rfl) (by kernel_rfl) (by kernel_rfl) (fun _ _ _ h => h) ?hl5 (by assumption) ?_
        case hl5 => refine yieldsIf_load_mid ?_ 47 (.tmp 48) ?_ R 0 ?_ (words h'.st.list) _ ?_ Tryd.underlying47 rfl HI8.out <;> first | rfl | exact fun _ hw => HashIs.word (h := { h' with rest := splice h'.rest at_ ((b.drop k).take nn) }) hw
        try simp only [Act.put, List.setIfInBounds_toArray, List.set_cons_zero, List.set_cons_succ, List.getElem_toArray, List.getElem_cons_zero, List.getElem_cons_succ]
        refine AnyL.take (i := 5) (oi := _) (v := ?_) 30 rfl (by kernel_rfl) (by kernel_rfl) (by kernel_rfl) (by kernel_rfl) (by kernel_rfl) (fun _ _ _ h => h) (Or.inl ⟨by rfl, ?hy6⟩) (by assumption) ?_
        case hy6 =>
          intro w9 hSw
          try dsimp only at hSw
          try simp only [List.getElem_toArray, List.getElem_cons_zero, List.getElem_cons_succ]
          go_simp
          try with_reducible rfl
        try simp only [Act.put, List.setIfInBounds_toArray, List.set_cons_zero, List.set_cons_succ, List.getElem_toArray, List.getElem_cons_zero, List.getElem_cons_succ]
        refine AnyL.take (i := 6) (oi := _) (v := ?_) 30 rfl (by kernel_rfl) (by kernel_rfl) (by kernel_rfl) (by kernel_rfl) (by kernel_rfl) (fun _ _ _ h => h) (Or.inl ⟨by rfl, ?hy7⟩) (by assumption) ?_
        case hy7 =>
          intro w9 hSw
          try dsimp only at hSw
          try simp only [List.getElem_toArray, List.getElem_cons_zero, List.getElem_cons_succ]
          go_simp
          try with_reducible rfl
        try simp only [Act.put, List.setIfInBounds_toArray, List.set_cons_zero, List.set_cons_succ, List.getElem_toArray, List.getElem_cons_zero, List.getElem_cons_succ]
        refine AnyL.take (i := 7) (oi := _) (v := ?_) 30 rfl (by kernel_rfl) (by kernel_rfl) (by kernel_rfl) (by kernel_rfl) (by kernel_rfl) (fun _ _ _ h => h) (Or.inl ⟨by rfl, ?hy8⟩) (by assumption) ?_
        case hy8 =>
          intro w9 hSw
          try dsimp only at hSw
          try simp only [List.getElem_toArray, List.getElem_cons_zero, List.getElem_cons_succ]
          go_simp
          try with_reducible rfl
        try simp only [Act.put, List.setIfInBounds_toArray, List.set_cons_zero, List.set_cons_succ, List.getElem_toArray, List.getElem_cons_zero, List.getElem_cons_succ]
        refine AnyL.one (i := 8) (o := _) (by kernel_rfl) rfl (fun K hK => ?_)
        try simp only [List.getElem_toArray, List.getElem_cons_zero, List.getElem_cons_succ]
        go_simp
        refine (mixed_any w2.drew shaK h'.st hstl R 8 (splice h'.rest at_ ((b.drop k).take nn)) hRl HROW.out.blk HK2.out shaK_lt (by show _ < w2.heap.size; omega)).mono ?_
        rw [HST2.out]
        rintro e w3 ⟨rfl, hb3⟩
        have hS3 := HROW.out.below (w' := w3) (((Below.refl _ _).drew).trans hb3)
        have HB3 : Hid (Below w2.heap.size w2 w3) := Lib.hid (((Below.refl _ _).drew).trans hb3)
        have HS3 := Lib.hid hS3
        clear hb3
        refine hK.out _ _ (fun _ => hS3) (fun hHeld => ?_)
        replace hHeld := hHeld (by decide)
        clear hK K
        try simp only [Act.put, List.setIfInBounds_toArray, List.set_cons_zero, List.set_cons_succ, List.getElem_toArray, List.getElem_cons_zero, List.getElem_cons_succ]
        refine AnyL.take (i := 9) (oi := _) (v := ?_) 30 rfl (by kernel_rfl) (by kernel_rfl) (by kernel_rfl) (by kernel_rfl) (by kernel_rfl) (fun _ _ _ h => h) (Or.inl ⟨by rfl, ?hy9⟩) (by assumption) ?_
        case hy9 =>
          intro w9 hSw
          try dsimp only at hSw
          try simp only [List.getElem_toArray, List.getElem_cons_zero, List.getElem_cons_succ]
          go_simp
          try with_reducible rfl
        try simp only [Act.put, List.setIfInBounds_toArray, List.set_cons_zero, List.set_cons_succ, List.getElem_toArray, List.getElem_cons_zero, List.getElem_cons_succ]
        refine AnyL.take (i := 10) (oi := _) (v := ?_) 30 rfl (by kernel_rfl) (by kernel_rfl) (by kernel_rfl) (by kernel_rfl) (by kernel_rfl) (fun _ _ _ h => h) (Or.inl ⟨by rfl, ?hy10⟩) (by assumption) ?_
        case hy10 =>
          intro w9 hSw
          try dsimp only at hSw
          try simp only [List.getElem_toArray, List.getElem_cons_zero, List.getElem_cons_succ]
          go_simp
          try with_reducible rfl
        try simp only [Act.put, List.setIfInBounds_toArray, List.set_cons_zero, List.set_cons_succ, List.getElem_toArray, List.getElem_cons_zero, List.getElem_cons_succ]
        refine AnyL.one (i := 11) (o := _) (by kernel_rfl) rfl (fun K hK => ?_)
        rw [if_pos (by rfl)]
        refine wp_store_mid 47 (.tmp 55) (.tmp 53) (by rfl) R 0 (words st'.list).toArray (by rfl) (by rfl) (HS3.out.there _ (by rw [List.size_toArray, words_len]; omega)) HI9.out HONE9.out ?_
        refine hK.out _ _ (fun h => absurd rfl h) (fun _ => ?_)
        clear hK K
        try simp only [Act.put, List.setIfInBounds_toArray, List.set_cons_zero, List.set_cons_succ, List.getElem_toArray, List.getElem_cons_zero, List.getElem_cons_succ]
        refine AnyL.done (by kernel_rfl) ?_ _
        have hk3 : Kp R wr (w3.setCells R 0 (words st'.list)) := (HKR2.out.trans (Kp.of_below HB3.out)).trans (Kp.setCells R _ _ _)
        have hw9 := HS3.out.setWord st'
        have HK3 := Lib.hid hk3
        have HW9 := Lib.hid hw9
        clear hk3 hw9 hbe
        generalize w3.setCells R 0 (words st'.list) = w4 at *
        go_wp2
        go_roundg (gk - nn)
        case rel =>
          refine ⟨k + nn, 0, _, p2, c2, by omega, ?_, rfl, ?_, ?_, ⟨HW9.out, HS.out.open_, HS.out.dig, HS.out.done, HS.out.free⟩, HL.out, ?_, HKP2.out.trans HK3.out⟩
          · exact congrArg (fun q => Value.slice p2 q c2) (by omega)
          · rw [show m - (k + nn) = gk - nn by omega]
            exact HTL.out.kp HK3.out (fun _ => HOWN.out)
          · rw [show m - (k + nn) = gk - nn by omega]
            exact fun _ => HOWN.out
          · rw [HMORE.out]
            have hq := HTK.out.full ((b.drop k).take nn) (splice h'.rest at_ ((b.drop k).take nn)) (by rw [HBS.out]; exact HH64.out) (by
              rw [HAP.out, HH64.out, (List.drop_eq_nil_of_le (by rw [HTK.out.size]; exact Nat.le_refl _) : h'.rest.drop 64 = []), List.append_nil])
            rw [HST2.out] at hq
            exact hq
        all_goals omega
set_option maxRecDepth 100000 in
set_option maxHeartbeats 2000000 in
/-- A closed hash takes nothing. -/
theorem Write_closed (w : World) (R : Nat) (h : HashV) (hi : HashIs w R h) (hc : h.closed = true) (v : Value) :
    Calls Tryd.prog 13 #[.pointer (some ⟨R, 0, none⟩), v] w fun e w' => e = .returned (.int .i64 0) ∧ w' = w := by
  have c73 := hi.shut
  rw [hc] at c73
  clear hi hc
  go_enter Tryd.func13, Tryd.ntmps13
  go_wp2
  go_ret
  exact ⟨rfl, rfl⟩
end Go.Proofs.YtjopfhmloklhdaaDoor
