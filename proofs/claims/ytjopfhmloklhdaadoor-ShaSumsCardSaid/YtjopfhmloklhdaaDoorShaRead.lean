/-
  Package sha: digits read.
-/
import Derived.Test.YtjopfhmloklhdaaDoorHex
import Derived.Test.YtjopfhmloklhdaaDoorDigAll
namespace Go.Proofs.YtjopfhmloklhdaaDoor
open Go.ChangeShapes Go.WideShapes Go.ChangeAt Go.RowKit Go.Deep
set_option linter.unusedVariables false
set_option linter.unusedSimpArgs false

/-- Digits as bytes: the first k. -/
def unB (l : List UInt8) (i : Nat) : UInt8 := UInt8.ofNat (digV (l.getD (2 * i) 0).toNat * 16 + digV (l.getD (2 * i + 1) 0).toNat)
def unN (l : List UInt8) (k : Nat) : List UInt8 := (List.range k).map (unB l)
theorem unN_len (l : List UInt8) (k : Nat) : (unN l k).length = k := by simp [unN]
theorem unN_succ (l : List UInt8) (k : Nat) : unN l (k + 1) = unN l k ++ [unB l k] := by simp [unN, List.range_succ]
def readV (l : List UInt8) : List UInt8 × Int := if l.length = 64 ∧ digAll l = true then (unN l 32, 0) else (zeros 32, 14)
/-- The bytes while they are read. -/
def readN (l : List UInt8) (k : Nat) : List UInt8 := unN l k ++ zeros (32 - k)
theorem readN_len (l : List UInt8) (k : Nat) (hk : k ≤ 32) : (readN l k).length = 32 := by
  unfold readN
  rw [List.length_append, unN_len]
  simp only [zeros, List.length_replicate]
  omega
theorem readN_set (l : List UInt8) (k : Nat) (hk : k < 32) : (readN l k).set k (unB l k) = readN l (k + 1) := by
  unfold readN
  rw [unN_succ, List.set_append_right _ _ (by rw [unN_len]; exact Nat.le_refl _), unN_len, Nat.sub_self, List.append_assoc]
  congr 1
  rw [show 32 - k = (32 - (k + 1)) + 1 by omega]
  rfl
theorem readN_end (l : List UInt8) : readN l 32 = unN l 32 := by simp [readN, zeros]
theorem shl4 (h lo : Nat) (hh : h < 16) (hl : lo < 16) : bits .or .u8 ((h * 16 : Nat) : Int) (lo : Int) = ((UInt8.ofNat (h * 16 + lo)).toNat : Int) := by
  rw [u8_or_nat _ _ (by omega) (by omega), UInt8.toNat_ofNat', Nat.mod_eq_of_lt (by omega : h * 16 + lo < 2 ^ 8)]
  congr 1
  have := Nat.two_pow_add_eq_or_of_lt (i := 4) (b := lo) hl h
  rw [Nat.mul_comm h 16]
  exact this.symm
theorem run_char (s : ByteArray) (k : Nat) (hk : k < s.size) (i : Int) (hi : i = (k : Int)) (W : World) : (Instr.index 9 (.string s) (.int .i64 i)).run Tryd.prog W = .ok (.int .u8 ((s.data.toList.getD k 0).toNat : Int)) W := by
  subst hi
  rw [run_index_string W 9 s .i64 (k : Int) Tryd.underlying9, dif_pos (by omega)]
  congr 3
  rw [List.getD_eq_getElem?_getD, List.getElem?_eq_getElem (show k < s.data.toList.length from hk)]
  rfl
theorem then_ret {n : Act → World → Prop} {Q : Exit → Act → World → Prop} {a : Act} {w : World} (h : Q .ret a w) : Exit.then n Q .ret a w := h
theorem block_ret {n : Nat} {Q : Exit → Act → World → Prop} {a : Act} {w : World} (h : Q .ret a w) : Exit.inBlock n Q .ret a w := h
theorem results_pair {P : Program} {fn : Func} {p q : Tmp} {ty : TypeId} (h : fn.results = #[.cell p ty, .tmp q]) (tmps : Array Value) (w : World) (g : Nat) (t : TypeId) (cs : Array Value) (fr : Nat × Nat) (d : TypeDesc) (x : Value)
    (hp : tmps.getD p undef = .pointer (some ⟨g, 0, none⟩)) (hq : tmps.getD q undef = x) (hg : w.heap[g]? = some (.cells cs t fr))
    (hu : P.underlying ty = some d) (hd : (match d with | .struct _ | .array _ _ => true | _ => false) = true) (hi : (P.info? ty).map (·.size) = some cs.size) :
    (results fn tmps).run P w = .ok (.tuple #[.agg cs, x]) w := by
  have hp' : tmps[p]?.getD undef = .pointer (some ⟨g, 0, none⟩) := by simpa using hp
  have hq' : tmps[q]?.getD undef = x := by simpa using hq
  simp [results, h, hp', hq', asAddr, run_loadVar_row w g t ty cs fr d hg hu hd hi]
theorem built_32 : Tryd.prog.built 23 [] = some (noBytes 32).toArray := by kernel_rfl
theorem wpList_build_none {ops : Array Oper} {rest : List Oper} {o : Oper} {a : Act} {w : World} {Q : Exit → Act → World → Prop} (hg : o.guard = none) (ho : o.op = .build 23 #[])
    (h : wpList Tryd.prog ops Q rest (a.put o.dst (.agg (noBytes 32).toArray)) w) : wpList Tryd.prog ops Q (o :: rest) a w := by
  refine wpList_plain hg fun _ hK => wp_build 23 #[] ho ?_ ?_
  · rw [Array.map_empty]
    show (Tryd.prog.built 23 []).isSome = true
    rw [built_32]; rfl
  · rw [Array.map_empty]
    have e : (Tryd.prog.built 23 (#[] : Array (Nat × Value)).toList) = some (noBytes 32).toArray := built_32
    rw [e]
    exact hK _ _ h
/-- Laid again. -/
theorem lay_row {w0 w : World} {B g : Nat} {t : TypeId} {D E : List UInt8} (h : BRow w t g D) (hl : D.length = E.length) (hB : B ≤ g) (hb : Below B w0 w) : BRow (w.setCells g 0 (Lib.byteCells E).toArray.toList) t g E ∧ Below B w0 (w.setCells g 0 (Lib.byteCells E).toArray.toList) :=
  ⟨heap_setCells_whole (ws := (Lib.byteCells E).toArray) h (by rw [List.size_toArray, List.size_toArray, bytes_len, bytes_len, hl]), below_setCellsC hB _ _ _ hb⟩
theorem arr32 (D : List UInt8) (h : D.length = 32) : (Tryd.prog.info? 23).map (·.size) = some (Lib.byteCells D).toArray.size ∧ (Lib.byteCells D).toArray.all (·.oneCell') = true ∧ (Lib.byteCells D).toArray.size = 32 := by
  have e : (Lib.byteCells D).toArray.size = 32 := by rw [List.size_toArray, bytes_len, h]
  exact ⟨by rw [e]; exact info32, all_oneCell_toArray (Lib.byteCells_one _), e⟩
set_option maxRecDepth 100000 in
set_option maxHeartbeats 8000000 in
theorem Read_any (w : World) (s : ByteArray) (hs : s.size ≤ maxLen) :
    Calls Tryd.prog 10 #[.string s] w fun e w' => e = .returned (.tuple #[.agg (Lib.byteCells (readV s.data.toList).1).toArray, .int .i64 (readV s.data.toList).2]) ∧ Below w.heap.size w w' := by
  unfold maxLen at hs
  have hsl : s.data.toList.length = s.size := rfl
  have HSL := Lib.hid hsl
  clear hsl
  have hr1 : BRow (w.alloc (.cells (noBytes 32).toArray 23)) 23 w.heap.size (zeros 32) := heap_alloc_new _ _
  have hb1 := (Below.refl w.heap.size w).alloc (Nat.le_refl _) (.cells (noBytes 32).toArray 23)
  have hz1 := size_alloc1 w (.cells (noBytes 32).toArray 23)
  have HR1 := Lib.hid hr1
  have HB1 := Lib.hid hb1
  have HZ1 := Lib.hid hz1
  clear hr1 hb1 hz1
  go_enter Tryd.func10, Tryd.ntmps10
  go_upto_region 1 with (refine wpList_alloc_of rfl 23 (noBytes 32).toArray rfl made32 ?_)
  generalize w.alloc (.cells (noBytes 32).toArray 23) = w1 at *
  have hr2 : BRow (w1.alloc (.cells (noBytes 32).toArray 23)) 23 w1.heap.size (zeros 32) := heap_alloc_new _ _
  have hb2 := (Below.refl w1.heap.size w1).alloc (Nat.le_refl _) (.cells (noBytes 32).toArray 23)
  have hz1 := HZ1.out
  have HR2 := Lib.hid hr2
  have HQ2 := Lib.hid (HR1.out.below hb2 (by omega))
  have HB2 := Lib.hid (HB1.out.trans (hb2.mono (by omega)))
  clear hr2 hb2
  go_upto_region 2 with (refine wpList_alloc_of rfl 23 (noBytes 32).toArray rfl made32 ?_)
  generalize w1.alloc (.cells (noBytes 32).toArray 23) = w2 at *
  rw [hz1] at HR2
  rw [hz1]
  obtain ⟨a1, a2, a3⟩ := arr32 (zeros 32) rfl
  obtain ⟨C, hC⟩ : ∃ C, (Lib.byteCells (zeros 32)).toArray = C := ⟨_, rfl⟩
  rw [hC] at a1 a2 a3
  have A1 := Lib.hid a1
  have A2 := Lib.hid a2
  have A3 := Lib.hid a3
  have HC := Lib.hid hC
  clear a1 a2 a3 hC
  by_cases hne : s.size = 64
  · have hne' : (s.size : Int) = 64 := by omega
    have HS64 := Lib.hid hne
    have hneB : ((s.size : Int) != 64) = false := by rw [hne']; rfl
    clear hne'
    go_wp2_with fail
    go_loopw [5, 6, 7, 8, 9, 14] (fun v5 v6 v7 v8 v9 v14 wr => ∃ k : Nat, v14 = .int .i64 k ∧ k ≤ 32 ∧ BRow wr 23 (w.heap.size + 1) (readN s.data.toList k) ∧ BRow wr 23 w.heap.size (zeros 32) ∧ Below w.heap.size w wr ∧ digAll (s.data.toList.take (2 * k)) = true) (fun _ _ _ _ _ v14 _ => 32 - (intOf v14).toNat)
    case atStart => exact ⟨0, rfl, Nat.zero_le _, HR2.out, HQ2.out, HB2.out, rfl⟩
    case round =>
      obtain ⟨k, rfl, hk, hr, hq, hb, hd⟩ := hrel
      rcases Nat.lt_or_ge k 32 with hlt | hge
      · have hlt' : (k : Int) < 32 := by omega
        have hls : s.size = 64 := HS64.out
        have hlk1 : 2 * k < s.data.toList.length := by rw [HSL.out]; omega
        have hlk2 : 2 * k + 1 < s.data.toList.length := by rw [HSL.out]; omega
        have hc1 := run_char s (2 * k) (by omega) (2 * (k : Int)) (by omega)
        have hc2 := run_char s (2 * k + 1) (by omega) (2 * (k : Int) + 1) (by omega)
        have hdt1 := digAll_take s.data.toList (2 * k) hlk1
        have hdt2 := digAll_take s.data.toList (2 * k + 1) hlk2
        rw [hd, Bool.true_and] at hdt1
        have hno1 := digAll_not s.data.toList (2 * k) hlk1
        have hno2 := digAll_not s.data.toList (2 * k + 1) hlk2
        have e1 : s.data.toList.getD (2 * k) 0 = s.data.toList[2 * k] := by rw [List.getD_eq_getElem?_getD, List.getElem?_eq_getElem hlk1]; rfl
        have e2 : s.data.toList.getD (2 * k + 1) 0 = s.data.toList[2 * k + 1] := by rw [List.getD_eq_getElem?_getD, List.getElem?_eq_getElem hlk2]; rfl
        have hub : unB s.data.toList k = UInt8.ofNat (digV (s.data.toList.getD (2 * k) 0).toNat * 16 + digV (s.data.toList.getD (2 * k + 1) 0).toNat) := rfl
        rw [← e1] at hdt1 hno1
        rw [← e2] at hdt2 hno2
        have hx1 := (s.data.toList.getD (2 * k) 0).toNat_lt
        have hx2 := (s.data.toList.getD (2 * k + 1) 0).toNat_lt
        generalize (s.data.toList.getD (2 * k) 0).toNat = x1 at *
        generalize (s.data.toList.getD (2 * k + 1) 0).toNat = x2 at *
        have HC1 := Lib.hid hc1
        have HC2 := Lib.hid hc2
        have HDT1 := Lib.hid hdt1
        have HDT2 := Lib.hid hdt2
        have HNO1 := Lib.hid hno1
        have HNO2 := Lib.hid hno2
        have HUB := Lib.hid hub
        have HR := Lib.hid hr
        have HQ := Lib.hid hq
        have HB := Lib.hid hb
        clear hc1 hc2 hdt1 hdt2 hno1 hno2 e1 e2 hub hr hq hb hd hls hlk1 hlk2
        go_wp2_with (refine wpList_index_of rfl 9 (.tmp 18) (.tmp 20) rfl (.int .u8 (x1 : Int)) HC1.out ?_)
        refine (digit_any x1 hx1 _).mono ?_
        rintro e w7 ⟨rfl, rfl⟩
        go_wp2_with (refine wpList_index_of rfl 9 (.tmp 26) (.tmp 29) rfl (.int .u8 (x2 : Int)) HC2.out ?_)
        refine (digit_any x2 hx2 _).mono ?_
        rintro e w7 ⟨rfl, rfl⟩
        rcases Bool.eq_false_or_eq_true (digB x1) with b1 | b1
        · rcases Bool.eq_false_or_eq_true (digB x2) with b2 | b2
          · have hp := digV_lt x1
            have hq := digV_lt x2
            have hor := shl4 (digV x1) (digV x2) hp hq
            have hub := HUB.out
            have hd2 : digAll (s.data.toList.take (2 * (k + 1))) = true := by
              rw [show 2 * (k + 1) = 2 * k + 1 + 1 by omega, HDT2.out, HDT1.out, b1, b2]
              rfl
            have HD2 := Lib.hid hd2
            rw [Int.natCast_mul, show ((16 : Nat) : Int) = 16 from rfl, ← hub] at hor
            have HOR := Lib.hid hor
            have ck := HR.out.cell k (by rw [readN_len _ _ hk]; exact hlt)
            have fk := HR.out.free k
            have hset := HR.out.set k (unB s.data.toList k)
            rw [readN_set _ _ hlt] at hset
            have hset2 : BRow (w7.setCell ⟨w.heap.size + 1, k, none⟩ (.int .u8 ((unB s.data.toList k).toNat : Int))) 23 w.heap.size (zeros 32) := (Below.heap_setCell _ _ _ _ (by show w.heap.size ≠ w.heap.size + 1; omega)).trans HQ.out
            have HSET := Lib.hid hset
            have HSET2 := Lib.hid hset2
            clear hub hd2 hset hset2
            simp only [b1, b2]
            clear b1 b2
            generalize digV x1 = p at *
            generalize digV x2 = q at *
            go_wp2
            go_roundw
            case rel =>
              exact ⟨k + 1, by go_num, hlt, HSET.out, HSET2.out, HB.out.setCell (by show w.heap.size ≤ w.heap.size + 1; omega) _, HD2.out⟩
            case measure => simp [intOf]; omega
          · have hfalse := HNO2.out b2
            have hrv : readV s.data.toList = (zeros 32, 14) := by unfold readV; rw [if_neg (fun hh => by rw [hfalse] at hh; exact Bool.false_ne_true hh.2)]
            have hl := lay_row (E := zeros 32) HQ.out rfl (Nat.le_refl _) HB.out
            rw [HC.out] at hl
            have HL := Lib.hid hl
            have HRV := Lib.hid hrv
            have HTH := Lib.hid (HQ.out.there C.size (by rw [A3.out]; decide))
            clear hl hrv hfalse
            simp only [b1, b2]
            go_upto_region 10 with fail
            go_cut [2, 3] (fun v2 v3 wz => v2 = .pointer (some ⟨w.heap.size, 0, none⟩) ∧ v3 = .int .i64 14 ∧ BRow wz 23 w.heap.size (zeros 32) ∧ Below w.heap.size w wz)
            case first =>
              go_wp2_with (first | (refine wpList_build_none rfl rfl ?_) | (refine wpList_store_mid rfl 23 (.tmp 2) (.tmp 40) rfl w.heap.size 0 C rfl (congrArg Value.agg HC.out) HTH.out A1.out A2.out ?_))
              go_meet
              exact ⟨rfl, rfl, HL.out.1, HL.out.2⟩
            case rest =>
              obtain ⟨rfl, rfl, h1, h2⟩ := hcut
              unfold BRow at h1
              rw [HC.out] at h1
              refine (‹∀ (a : Act) (w : World), Code.wp Tryd.prog Code.ret _ a w → _› : ∀ (a : Act) (w : World), Code.wp Tryd.prog Code.ret _ a w → _) _ _ ?_
              apply wp_ret
              repeat (first | refine then_ret ?_ | refine block_ret ?_)
              refine bodyPost_ret (v := .tuple #[.agg C, .int .i64 14]) (results_pair rfl _ _ w.heap.size 23 _ (0, 0) _ _ rfl rfl h1 Tryd.underlying23 rfl A1.out) rfl ⟨?_, h2⟩
              rw [HRV.out, ← HC.out]
        · have hfalse := HNO1.out b1
          have hrv : readV s.data.toList = (zeros 32, 14) := by unfold readV; rw [if_neg (fun hh => by rw [hfalse] at hh; exact Bool.false_ne_true hh.2)]
          have hl := lay_row (E := zeros 32) HQ.out rfl (Nat.le_refl _) HB.out
          rw [HC.out] at hl
          have HL := Lib.hid hl
          have HRV := Lib.hid hrv
          have HTH := Lib.hid (HQ.out.there C.size (by rw [A3.out]; decide))
          clear hl hrv hfalse
          simp only [b1]
          go_upto_region 10 with fail
          go_cut [2, 3] (fun v2 v3 wz => v2 = .pointer (some ⟨w.heap.size, 0, none⟩) ∧ v3 = .int .i64 14 ∧ BRow wz 23 w.heap.size (zeros 32) ∧ Below w.heap.size w wz)
          case first =>
            go_wp2_with (first | (refine wpList_build_none rfl rfl ?_) | (refine wpList_store_mid rfl 23 (.tmp 2) (.tmp 40) rfl w.heap.size 0 C rfl (congrArg Value.agg HC.out) HTH.out A1.out A2.out ?_))
            go_meet
            exact ⟨rfl, rfl, HL.out.1, HL.out.2⟩
          case rest =>
            obtain ⟨rfl, rfl, h1, h2⟩ := hcut
            unfold BRow at h1
            rw [HC.out] at h1
            refine (‹∀ (a : Act) (w : World), Code.wp Tryd.prog Code.ret _ a w → _› : ∀ (a : Act) (w : World), Code.wp Tryd.prog Code.ret _ a w → _) _ _ ?_
            apply wp_ret
            repeat (first | refine then_ret ?_ | refine block_ret ?_)
            refine bodyPost_ret (v := .tuple #[.agg C, .int .i64 14]) (results_pair rfl _ _ w.heap.size 23 _ (0, 0) _ _ rfl rfl h1 Tryd.underlying23 rfl A1.out) rfl ⟨?_, h2⟩
            rw [HRV.out, ← HC.out]
      · obtain rfl : k = 32 := by omega
        rw [readN_end] at hr
        have hls : s.size = 64 := HS64.out
        rw [List.take_of_length_le (by rw [HSL.out]; omega)] at hd
        have hrv : readV s.data.toList = (unN s.data.toList 32, 0) := by unfold readV; rw [if_pos ⟨by rw [HSL.out]; exact hls, hd⟩]
        obtain ⟨e1, e2, e3⟩ := arr32 (unN s.data.toList 32) (unN_len _ _)
        have hl := lay_row (E := unN s.data.toList 32) hq (by rw [unN_len]; rfl) (Nat.le_refl _) hb
        obtain ⟨E, hE⟩ : ∃ E, (Lib.byteCells (unN s.data.toList 32)).toArray = E := ⟨_, rfl⟩
        have hth := hq.there E.size (by rw [← hE, e3]; decide)
        unfold BRow at hr
        rw [hE] at e1 e2 e3 hr hl
        have E1 := Lib.hid e1
        have E2 := Lib.hid e2
        have HR := Lib.hid hr
        have HL := Lib.hid hl
        have HRV := Lib.hid hrv
        have HE := Lib.hid hE
        have HTH := Lib.hid hth
        have h8 : ¬ ((32 : Nat) : Int) < 32 := by decide
        clear hr hq hb hd hls hrv hl hE hth e1 e2 e3
        go_upto_region 13 with fail
        go_cut [2, 3] (fun v2 v3 wz => v2 = .pointer (some ⟨w.heap.size, 0, none⟩) ∧ v3 = .int .i64 0 ∧ BRow wz 23 w.heap.size (unN s.data.toList 32) ∧ Below w.heap.size w wz)
        case first =>
          go_wp2_with (first | (refine wpList_load_row rfl 23 (.tmp 4) rfl (w.heap.size + 1) rfl 23 E (0, 0) _ HR.out Tryd.underlying23 rfl E1.out ?_) | (refine wpList_store_mid rfl 23 (.tmp 2) (.tmp 48) rfl w.heap.size 0 E rfl rfl HTH.out E1.out E2.out ?_))
          go_meet
          exact ⟨rfl, rfl, HL.out.1, HL.out.2⟩
        case rest =>
          obtain ⟨rfl, rfl, h1, h2⟩ := hcut
          unfold BRow at h1
          rw [HE.out] at h1
          refine (‹∀ (a : Act) (w : World), Code.wp Tryd.prog Code.ret _ a w → _› : ∀ (a : Act) (w : World), Code.wp Tryd.prog Code.ret _ a w → _) _ _ ?_
          apply wp_ret
          refine bodyPost_ret (v := .tuple #[.agg E, .int .i64 0]) (results_pair rfl _ _ w.heap.size 23 _ (0, 0) _ _ rfl rfl h1 Tryd.underlying23 rfl E1.out) rfl ⟨?_, h2⟩
          rw [HRV.out, ← HE.out]
  · have hne' : ¬ (s.size : Int) = 64 := by omega
    have hrv : readV s.data.toList = (zeros 32, 14) := by unfold readV; rw [if_neg (by rw [HSL.out]; exact fun h => hne h.1)]
    have hl := lay_row (E := zeros 32) HQ2.out rfl (Nat.le_refl _) HB2.out
    rw [HC.out] at hl
    have hq2 := HR2.out
    unfold BRow at hq2
    rw [HC.out] at hq2
    have HQ3 := Lib.hid hq2
    have HL := Lib.hid hl
    have HRV := Lib.hid hrv
    have HTH := Lib.hid (HQ2.out.there C.size (by rw [A3.out]; decide))
    clear hl hq2 hrv
    go_upto_region 3 with fail
    go_cut [2, 3] (fun v2 v3 wz => v2 = .pointer (some ⟨w.heap.size, 0, none⟩) ∧ v3 = .int .i64 14 ∧ BRow wz 23 w.heap.size (zeros 32) ∧ Below w.heap.size w wz)
    case first =>
      go_wp2_with (first | (refine wpList_load_row rfl 23 (.tmp 4) rfl (w.heap.size + 1) rfl 23 C (0, 0) _ HQ3.out Tryd.underlying23 rfl A1.out ?_) | (refine wpList_store_mid rfl 23 (.tmp 2) (.tmp 13) rfl w.heap.size 0 C rfl rfl HTH.out A1.out A2.out ?_))
      go_meet
      exact ⟨rfl, rfl, HL.out.1, HL.out.2⟩
    case rest =>
      obtain ⟨rfl, rfl, h1, h2⟩ := hcut
      unfold BRow at h1
      rw [HC.out] at h1
      refine (‹∀ (a : Act) (w : World), Code.wp Tryd.prog Code.ret _ a w → _› : ∀ (a : Act) (w : World), Code.wp Tryd.prog Code.ret _ a w → _) _ _ ?_
      apply wp_ret
      refine then_ret ?_
      refine bodyPost_ret (v := .tuple #[.agg C, .int .i64 14]) (results_pair rfl _ _ w.heap.size 23 _ (0, 0) _ _ rfl rfl h1 Tryd.underlying23 rfl A1.out) rfl ⟨?_, h2⟩
      rw [HRV.out, ← HC.out]
end Go.Proofs.YtjopfhmloklhdaaDoor
