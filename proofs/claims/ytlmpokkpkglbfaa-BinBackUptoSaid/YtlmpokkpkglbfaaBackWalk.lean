/-
  The walk of the law BinBack.
-/
import Derived.Test.YtlmpokkpkglbfaaBinAwake
import Derived.Test.YtlmpokkpkglbfaaBackNum
import Derived.Deep.RegionHeld3
namespace Go.Proofs.Ytlmpokkpkglbfaa.binBack
open Go.ChangeShapes Go.WideShapes Go.ChangeAt Go.RowKit Go.Deep
set_option linter.unusedVariables false
set_option linter.unusedSimpArgs false

def Nums (w : World) (b off len : Nat) (Z : Nat → Nat) : Prop := ∀ i, i < len → w.cell? ⟨b, off + i, none⟩ = some (.int .u64 (Z i : Int)) ∧ Z i < 18446744073709551616
def Texts (w : World) (b off len : Nat) (S : Nat → ByteArray) : Prop := ∀ i, i < len → w.cell? ⟨b, off + i, none⟩ = some (.string (S i)) ∧ (S i).size ≤ 1048576
def bytes (S : Nat → ByteArray) (i : Nat) : List UInt8 := (S i).data.toList
theorem bytes_len (S : Nat → ByteArray) (i : Nat) : (bytes S i).length = (S i).size := by unfold bytes; rw [Array.length_toList]; rfl
theorem bytes_back (S : Nat → ByteArray) (i : Nat) : (⟨(bytes S i).toArray⟩ : ByteArray) = S i := by unfold bytes; simp
theorem laid_len (Z : Nat → Nat) (n : Nat) (S : Nat → ByteArray) (m : Nat) (hZ : ∀ i, i < n → Z i < 18446744073709551616) (hS : ∀ i, i < m → (S i).size ≤ 1048576) : ∀ k, (laidTo Z n (bytes S) m k).length ≤ k * 1048600
  | 0 => Nat.zero_le _
  | k + 1 => by
    have ih := laid_len Z n S m hZ hS k
    have h1 : (chunk Z n (bytes S) m k).length ≤ 1048600 := by
      unfold chunk
      rw [List.length_append]
      have a : (if k < n then Lib.uvarint (Z k) else []).length ≤ 10 := by
        split
        · exact uv_len (hZ k ‹_›)
        · exact Nat.zero_le _
      have b : (if k < m then Lib.uvarint (bytes S k).length ++ bytes S k else []).length ≤ 10 + 1048576 := by
        split
        · have := hS k ‹_›
          have h2 := uv_len (x := (bytes S k).length) (by rw [bytes_len]; omega)
          rw [List.length_append, bytes_len] at *
          omega
        · exact Nat.zero_le _
      omega
    show (laidTo Z n (bytes S) m k ++ chunk Z n (bytes S) m k).length ≤ _
    rw [List.length_append]
    omega

theorem next_both (Z : Nat → Nat) (n : Nat) (S : Nat → ByteArray) (m k : Nat) (h1 : k < n) (h2 : k < m) : laidTo Z n (bytes S) m (k + 1) = (laidTo Z n (bytes S) m k ++ Lib.uvarint (Z k)) ++ (Lib.uvarint (S k).size ++ (S k).data.toList) := by
  show laidTo Z n (bytes S) m k ++ chunk Z n (bytes S) m k = _
  unfold chunk
  rw [if_pos h1, if_pos h2, bytes_len, List.append_assoc]; rfl
theorem next_n (Z : Nat → Nat) (n : Nat) (S : Nat → ByteArray) (m k : Nat) (h1 : k < n) (h2 : ¬ k < m) : laidTo Z n (bytes S) m (k + 1) = laidTo Z n (bytes S) m k ++ Lib.uvarint (Z k) := by
  show laidTo Z n (bytes S) m k ++ chunk Z n (bytes S) m k = _
  unfold chunk
  rw [if_pos h1, if_neg h2, List.append_nil]
theorem next_m (Z : Nat → Nat) (n : Nat) (S : Nat → ByteArray) (m k : Nat) (h1 : ¬ k < n) (h2 : k < m) : laidTo Z n (bytes S) m (k + 1) = laidTo Z n (bytes S) m k ++ (Lib.uvarint (S k).size ++ (S k).data.toList) := by
  show laidTo Z n (bytes S) m k ++ chunk Z n (bytes S) m k = _
  unfold chunk
  rw [if_neg h1, if_pos h2, bytes_len, List.nil_append]; rfl

theorem read_n (Z : Nat → Nat) (n : Nat) (S : Nat → ByteArray) (m j k : Nat) (hj : j < k) (h1 : j < n) (h2 : ¬ j < m) (hz : Z j < 18446744073709551616) :
    rU (laidTo Z n (bytes S) m k) (laidTo Z n (bytes S) m j).length false = (Z j, (laidTo Z n (bytes S) m (j + 1)).length, false) := by
  obtain ⟨rest, h⟩ := laidTo_at Z n (bytes S) m j k hj
  rw [next_n Z n S m j h1 h2, h]
  unfold chunk
  rw [if_pos h1, if_neg h2, List.append_nil, rU_at _ _ hz, List.length_append]
theorem read_m (Z : Nat → Nat) (n : Nat) (S : Nat → ByteArray) (m j k : Nat) (hj : j < k) (h1 : ¬ j < n) (h2 : j < m) (hs : (S j).size ≤ 1048576) :
    rT (laidTo Z n (bytes S) m k) (laidTo Z n (bytes S) m j).length false (S j).size = (bytes S j, (laidTo Z n (bytes S) m (j + 1)).length, false) := by
  obtain ⟨rest, h⟩ := laidTo_at Z n (bytes S) m j k hj
  rw [next_m Z n S m j h1 h2, h]
  unfold chunk
  rw [if_neg h1, if_pos h2, List.nil_append, ← bytes_len, rT_at _ _ _ (by rw [bytes_len]; omega)]
  have e : (laidTo Z n (bytes S) m j).length + (Lib.uvarint (bytes S j).length ++ bytes S j).length = (laidTo Z n (bytes S) m j ++ (Lib.uvarint (bytes S j).length ++ (S j).data.toList)).length := by rw [List.length_append (bs := Lib.uvarint (bytes S j).length ++ (S j).data.toList)]; rfl
  rw [e]
theorem read_both (Z : Nat → Nat) (n : Nat) (S : Nat → ByteArray) (m j k : Nat) (hj : j < k) (h1 : j < n) (h2 : j < m) (hz : Z j < 18446744073709551616) (hs : (S j).size ≤ 1048576) :
    ∃ a1, rU (laidTo Z n (bytes S) m k) (laidTo Z n (bytes S) m j).length false = (Z j, a1, false) ∧ rT (laidTo Z n (bytes S) m k) a1 false (S j).size = (bytes S j, (laidTo Z n (bytes S) m (j + 1)).length, false) := by
  obtain ⟨rest, h⟩ := laidTo_at Z n (bytes S) m j k hj
  refine ⟨(laidTo Z n (bytes S) m j).length + (Lib.uvarint (Z j)).length, ?_, ?_⟩
  · rw [h]
    unfold chunk
    rw [if_pos h1, if_pos h2, List.append_assoc, rU_at _ _ hz]
  · rw [next_both Z n S m j h1 h2, h]
    unfold chunk
    rw [if_pos h1, if_pos h2, ← bytes_len, ← List.length_append, List.append_assoc (Lib.uvarint (Z j)), ← List.append_assoc (laidTo Z n (bytes S) m j), rT_at _ _ _ (by rw [bytes_len]; omega)]
    rw [show ∀ (b : List UInt8), ((laidTo Z n (bytes S) m j ++ Lib.uvarint (Z j)) ++ b).length = (laidTo Z n (bytes S) m j ++ Lib.uvarint (Z j)).length + b.length from fun b => List.length_append]; rfl
theorem undrew {R : Nat} {w w2 : World} (h : Only R w.drew w2) : Only R w w2 := ⟨⟨h.1.os, h.1.tape, h.1.output, h.1.size, h.1.block⟩, h.2.1, h.2.2⟩
theorem Rd.drew {w : World} {B R : Nat} {l : List UInt8} {at_ : Nat} {f : Bool} (h : Rd w B R l at_ f) : Rd w.drew B R l at_ f := h
theorem Text_str (w : World) (B R : Nat) (l : List UInt8) (at_ : Nat) (S : Nat → ByteArray) (j : Nat) (hs : (S j).size ≤ 1048576) (h : Rd w B R l at_ false) (a1 : Nat) (hT : rT l at_ false (S j).size = (bytes S j, a1, false)) :
    Calls Try.prog 11 #[.pointer (some ⟨R, 0, none⟩), .int .i64 (S j).size] w fun e w' => e = .returned (.string (S j)) ∧ Rd w' B R l a1 false ∧ Only R w w' := by
  have h2 := Text_at w B R l at_ false (S j).size (by omega) (by omega) h _ _ _ hT
  rw [bytes_back] at h2
  exact h2

set_option maxRecDepth 100000 in
set_option maxHeartbeats 2000000 in
theorem walk (p q : Option Addr) (n cn m cm b1 o1 b2 o2 : Nat) (Z : Nat → Nat) (S : Nat → ByteArray) (w : World) (hn : (n : Int) ≤ 300) (hm : (m : Int) ≤ 300) (hcn : n ≤ cn) (hcm : m ≤ cm)
    (hp : 0 < n → p = some ⟨b1, o1, none⟩ ∧ b1 < w.heap.size) (hq : 0 < m → q = some ⟨b2, o2, none⟩ ∧ b2 < w.heap.size) (hZ : Nums w b1 o1 n Z) (hS : Texts w b2 o2 m S) :
    Calls Try.prog 6 #[.slice p n cn, .slice q m cm] w fun e w' => e = .returned (.bool true) ∧ Below w.heap.size w w' := by
  have hll := laid_len Z n S m (fun i hi => (hZ i hi).2) (fun i hi => (hS i hi).2)
  have HL := Lib.hid hll
  have HP := Lib.hid hp
  have HQ := Lib.hid hq
  have HZ := Lib.hid hZ
  have HS := Lib.hid hS
  clear hll hp hq hZ hS
  go_enter Try.func6, Try.ntmps6
  go_wp2_with fail
  refine (awake w).mono ?_
  rintro e w0 ⟨rfl, hb⟩
  have HB := Lib.hid hb
  have hs0 := hb.size
  clear hb
  go_wp2_with fail
  go_loopw [5, 6] (fun v i wr => ∃ k : Nat, (k ≤ n ∨ k ≤ m) ∧ i = .int .i64 k ∧ Has wr v (laidTo Z n (bytes S) m k) ∧ Below w.heap.size w wr) (fun _ i _ => 300 - (intOf i).toNat)
  case atStart => exact ⟨0, by omega, rfl, has_nil _, HB.out⟩
  case round =>
    obtain ⟨k, hk, rfl, hv, hb⟩ := hrel
    have HV := Lib.hid hv
    have HB1 := Lib.hid hb
    have hs1 := hb.size
    have hl1 := HL.out k
    clear hv hb
    by_cases kn : k < n
    · obtain ⟨hpp, hpb⟩ := HP.out (by omega)
      subst hpp
      have hcz := (HB1.out.cell (p := ⟨b1, o1 + k, none⟩) hpb).trans (HZ.out k kn).1
      by_cases km : k < m
      · obtain ⟨hqq, hqb⟩ := HQ.out (by omega)
        subst hqq
        go_wp2_with fail
        refine (Uint_any (Z k) (HZ.out k kn).2 _ _ wr HV.out (by omega)).mono ?_
        rintro e w2 ⟨v2, rfl, ho, hb⟩
        have H2 := Lib.hid ho.has
        have HB2 := Lib.hid (HB1.out.trans (hb.mono hs1))
        have hs2 := HB2.out.size
        have hcs := (HB2.out.cell (p := ⟨b2, o2 + k, none⟩) hqb).trans (HS.out k km).1
        clear ho hb
        go_wp2_with fail
        refine (Text_any (S k) _ (laidTo Z n (bytes S) m k ++ Lib.uvarint (Z k)) w2 H2.out (by rw [List.length_append]; have := (HS.out k km).2; have := uv_len (HZ.out k kn).2; omega)).mono ?_
        rintro e w3 ⟨v3, rfl, ho, hb⟩
        have H3 := Lib.hid ho.has
        have HB3 := Lib.hid (HB2.out.trans (hb.mono hs2))
        clear ho hb
        go_wp2_with fail
        go_roundw
        case rel => exact ⟨k + 1, by omega, by go_num, by rw [next_both Z n S m k kn km]; exact H3.out, HB3.out⟩
        case measure => simp [intOf]; omega
      · go_wp2_with fail
        refine (Uint_any (Z k) (HZ.out k kn).2 _ _ wr HV.out (by omega)).mono ?_
        rintro e w2 ⟨v2, rfl, ho, hb⟩
        have H2 := Lib.hid ho.has
        have HB2 := Lib.hid (HB1.out.trans (hb.mono hs1))
        clear ho hb
        go_wp2_with fail
        go_roundw
        case rel => exact ⟨k + 1, by omega, by go_num, by rw [next_n Z n S m k kn km]; exact H2.out, HB2.out⟩
        case measure => simp [intOf]; omega
    · by_cases km : k < m
      · obtain ⟨hqq, hqb⟩ := HQ.out (by omega)
        subst hqq
        have hcs := (HB1.out.cell (p := ⟨b2, o2 + k, none⟩) hqb).trans (HS.out k km).1
        go_wp2_with fail
        refine (Text_any (S k) _ (laidTo Z n (bytes S) m k) wr HV.out (by have := (HS.out k km).2; omega)).mono ?_
        rintro e w3 ⟨v3, rfl, ho, hb⟩
        have H3 := Lib.hid ho.has
        have HB3 := Lib.hid (HB1.out.trans (hb.mono hs1))
        clear ho hb
        go_wp2_with fail
        go_roundw
        case rel => exact ⟨k + 1, by omega, by go_num, by rw [next_m Z n S m k kn km]; exact H3.out, HB3.out⟩
        case measure => simp [intOf]; omega
      · go_wp2_with fail
        refine (Read_any _ (laidTo Z n (bytes S) m k) wr HV.out (by omega)).mono ?_
        rintro e w2 ⟨R, rfl, hR, hb⟩
        have hBR := hR.base
        have HR := Lib.hid hR
        have HB2 := Lib.hid (HB1.out.trans (hb.mono hs1))
        clear hR hb
        go_wp2_with fail
        go_loopw [8] (fun i ws => ∃ j : Nat, j ≤ k ∧ i = .int .i64 j ∧ Rd ws wr.heap.size R (laidTo Z n (bytes S) m k) (laidTo Z n (bytes S) m j).length false ∧ Below w.heap.size w ws) (fun i _ => 300 - (intOf i).toNat)
        case atStart => exact ⟨0, Nat.zero_le _, rfl, HR.out, HB2.out⟩
        case round =>
          obtain ⟨j, hj, rfl, hR, hb⟩ := hrel
          have HR := Lib.hid hR
          have HB1 := Lib.hid hb
          clear hR hb
          by_cases jn : j < n
          · obtain ⟨hpp, hpb⟩ := HP.out (by omega)
            subst hpp
            have hcz := (HB1.out.cell (p := ⟨b1, o1 + j, none⟩) hpb).trans (HZ.out j jn).1
            by_cases jm : j < m
            · obtain ⟨hqq, hqb⟩ := HQ.out (by omega)
              subst hqq
              have hcs := (HB1.out.cell (p := ⟨b2, o2 + j, none⟩) hqb).trans (HS.out j jm).1
              obtain ⟨a1, hu, ht⟩ := read_both Z n S m j k (by omega) jn jm (HZ.out j jn).2 (HS.out j jm).2
              have HU := Lib.hid hu
              have HT := Lib.hid ht
              clear hu ht
              have hRb1 : b1 ≠ R := by omega
              have hRb2 : b2 ≠ R := by omega
              go_wp2_with fail
              go_region_held3 (fun w' => w'.cell? ⟨b1, o1 + j, none⟩ = some (.int .u64 (Z j : Int)) ∧ w'.cell? ⟨b2, o2 + j, none⟩ = some (.string (S j)))
                (first
                  | go_keep
                  | (exact ⟨hcz2, hcs2⟩)
                  | (exact ⟨hcz3, hcs3⟩))
                (first
                | (go_at_call 22; refine (Uint_at _ _ R _ _ false (Rd.drew HR.out) _ _ _ HU.out).mono ?_; rintro e w2 ⟨rfl, hR2, ho0⟩; have ho := undrew ho0; clear ho0; have HR2 := Lib.hid hR2; have HB2 := Lib.hid (below_only HB1.out ho (by omega)); have hcz2 := (ho.cell (p := ⟨b1, o1 + j, none⟩) hRb1).trans hcz; have hcs2 := (ho.cell (p := ⟨b2, o2 + j, none⟩) hRb2).trans hcs; clear hR2 ho)
                | (go_at_call 11; refine (Text_str _ _ R _ _ S j (HS.out j jm).2 HR2.out _ HT.out).mono ?_; rintro e w3 ⟨rfl, hR3, ho⟩; have HR3 := Lib.hid hR3; have HB3 := Lib.hid (below_only HB2.out ho (by omega)); have hcz3 := (ho.cell (p := ⟨b1, o1 + j, none⟩) hRb1).trans hcz2; have hcs3 := (ho.cell (p := ⟨b2, o2 + j, none⟩) hRb2).trans hcs2; clear hR3 ho))
              go_wp2
              go_roundw
              case rel => exact ⟨j + 1, by omega, by go_num, HR3.out, HB3.out⟩
              case measure => simp [intOf]; omega
            · have hd1 : decide (j < m) = false := by simp; omega
              have hd2 : decide ((j : Int) < (m : Int)) = false := by simp; omega
              have HU := Lib.hid (read_n Z n S m j k (by omega) jn jm (HZ.out j jn).2)
              have hRb1 : b1 ≠ R := by omega
              go_wp2_with fail
              refine wp_region_held_drew (S := fun w' => w'.cell? ⟨b1, o1 + j, none⟩ = some (.int .u64 (Z j : Int))) (by kernel_rfl) hcz (fun hHeld => ?_)
              refine wpAnyH_take (i := 0) (oi := _) (v := ?_) rfl (by kernel_rfl) (by kernel_rfl) (by kernel_rfl) (fun _ _ _ h => h) (Or.inl ⟨by rfl, ?hy⟩) (by assumption) ?rest
              case hy =>
                intro w9 hSw
                try dsimp only at hSw
                try simp only [List.getElem_toArray, List.getElem_cons_zero, List.getElem_cons_succ]
                go_simp
                try with_reducible rfl
              case rest =>
                try simp only [Act.put, List.setIfInBounds_toArray, List.set_cons_zero, List.set_cons_succ, List.getElem_toArray, List.getElem_cons_zero, List.getElem_cons_succ]
                refine wpAnyH_take (i := 1) (oi := _) (v := ?_) rfl (by kernel_rfl) (by kernel_rfl) (by kernel_rfl) (fun _ _ _ h => h) (Or.inl ⟨by rfl, ?hy⟩) (by assumption) ?rest
                case hy =>
                  intro w9 hSw
                  try dsimp only at hSw
                  try simp only [List.getElem_toArray, List.getElem_cons_zero, List.getElem_cons_succ]
                  go_simp
                  try with_reducible rfl
                case rest =>
                  try simp only [Act.put, List.setIfInBounds_toArray, List.set_cons_zero, List.set_cons_succ, List.getElem_toArray, List.getElem_cons_zero, List.getElem_cons_succ]
                  refine wpAnyH_take (i := 2) (oi := _) (v := ?_) rfl (by kernel_rfl) (by kernel_rfl) (by kernel_rfl) (fun _ _ _ h => h) (Or.inl ⟨by rfl, ?hy⟩) (by assumption) ?rest
                  case hy =>
                    intro w9 hSw
                    try dsimp only at hSw
                    try simp only [List.getElem_toArray, List.getElem_cons_zero, List.getElem_cons_succ]
                    go_simp
                    try with_reducible rfl
                  case rest =>
                    try simp only [Act.put, List.setIfInBounds_toArray, List.set_cons_zero, List.set_cons_succ, List.getElem_toArray, List.getElem_cons_zero, List.getElem_cons_succ]
                    refine wpAnyH_take (i := 3) (oi := _) (v := ?_) rfl (by kernel_rfl) (by kernel_rfl) (by kernel_rfl) (fun _ _ _ h => h) (Or.inl ⟨by rfl, ?hy⟩) (by assumption) ?rest
                    case hy =>
                      intro w9 hSw
                      try dsimp only at hSw
                      try simp only [List.getElem_toArray, List.getElem_cons_zero, List.getElem_cons_succ]
                      go_simp
                      try with_reducible rfl
                    case rest =>
                      try simp only [Act.put, List.setIfInBounds_toArray, List.set_cons_zero, List.set_cons_succ, List.getElem_toArray, List.getElem_cons_zero, List.getElem_cons_succ]
                      refine wpAnyH_take (i := 4) (oi := _) (v := ?_) rfl (by kernel_rfl) (by kernel_rfl) (by kernel_rfl) (fun _ _ _ h => h) (Or.inl ⟨by rfl, ?hy⟩) (by assumption) ?rest
                      case hy =>
                        intro w9 hSw
                        try dsimp only at hSw
                        try simp only [List.getElem_toArray, List.getElem_cons_zero, List.getElem_cons_succ]
                        go_simp
                        try with_reducible rfl
                      case rest =>
                        try simp only [Act.put, List.setIfInBounds_toArray, List.set_cons_zero, List.set_cons_succ, List.getElem_toArray, List.getElem_cons_zero, List.getElem_cons_succ]
                        refine wpAnyH_take (i := 5) (oi := _) (v := ?_) rfl (by kernel_rfl) (by kernel_rfl) (by kernel_rfl) (fun _ _ _ h => h) (Or.inl ⟨by rfl, ?hy⟩) (by assumption) ?rest
                        case hy =>
                          intro w9 hSw
                          try dsimp only at hSw
                          try simp only [List.getElem_toArray, List.getElem_cons_zero, List.getElem_cons_succ]
                          go_simp
                          try with_reducible rfl
                        case rest =>
                          try simp only [Act.put, List.setIfInBounds_toArray, List.set_cons_zero, List.set_cons_succ, List.getElem_toArray, List.getElem_cons_zero, List.getElem_cons_succ]
                          refine wpAnyH_take (i := 7) (oi := _) (v := ?_) rfl (by kernel_rfl) (by kernel_rfl) (by kernel_rfl) (fun _ _ _ h => h) (Or.inl ⟨by rfl, ?hy⟩) (by assumption) ?rest
                          case hy =>
                            intro w9 hSw
                            try dsimp only at hSw
                            try simp only [List.getElem_toArray, List.getElem_cons_zero, List.getElem_cons_succ]
                            go_simp
                            try with_reducible rfl
                          case rest =>
                            try simp only [Act.put, List.setIfInBounds_toArray, List.set_cons_zero, List.set_cons_succ, List.getElem_toArray, List.getElem_cons_zero, List.getElem_cons_succ]
                            refine wpAnyH_take (i := 8) (oi := _) (v := ?_) rfl (by kernel_rfl) (by kernel_rfl) (by kernel_rfl) (fun _ _ _ h => h) (Or.inl ⟨by rfl, ?hy⟩) (by assumption) ?rest
                            case hy =>
                              intro w9 hSw
                              try dsimp only at hSw
                              try simp only [List.getElem_toArray, List.getElem_cons_zero, List.getElem_cons_succ]
                              go_simp
                              try with_reducible rfl
                            case rest =>
                              try simp only [Act.put, List.setIfInBounds_toArray, List.set_cons_zero, List.set_cons_succ, List.getElem_toArray, List.getElem_cons_zero, List.getElem_cons_succ]
                              refine wpAnyH_take (i := 9) (oi := _) (v := ?_) rfl (by kernel_rfl) (by kernel_rfl) (by kernel_rfl) (fun _ _ _ h => h) (Or.inl ⟨by rfl, ?hy⟩) (by assumption) ?rest
                              case hy =>
                                intro w9 hSw
                                try dsimp only at hSw
                                try simp only [List.getElem_toArray, List.getElem_cons_zero, List.getElem_cons_succ]
                                go_simp
                                try with_reducible rfl
                              case rest =>
                                try simp only [Act.put, List.setIfInBounds_toArray, List.set_cons_zero, List.set_cons_succ, List.getElem_toArray, List.getElem_cons_zero, List.getElem_cons_succ]
                                refine wpAnyH_take (i := 10) (oi := _) (v := ?_) rfl (by kernel_rfl) (by kernel_rfl) (by kernel_rfl) (fun _ _ _ h => h) (Or.inl ⟨by rfl, ?hy⟩) (by assumption) ?rest
                                case hy =>
                                  intro w9 hSw
                                  try dsimp only at hSw
                                  try simp only [List.getElem_toArray, List.getElem_cons_zero, List.getElem_cons_succ]
                                  go_simp
                                  try with_reducible rfl
                                case rest =>
                                  try simp only [Act.put, List.setIfInBounds_toArray, List.set_cons_zero, List.set_cons_succ, List.getElem_toArray, List.getElem_cons_zero, List.getElem_cons_succ]
                                  refine wpAnyH_ready (rs := [6]) (by kernel_rfl) (by simp) (AllReadyH.cons (o := _) rfl (fun K hK => ?_) AllReadyH.nil)
                                  try simp only [List.getElem_toArray, List.getElem_cons_zero, List.getElem_cons_succ]
                                  go_simp
                                  refine (Uint_at _ _ R _ _ false (Rd.drew HR.out) _ _ _ HU.out).mono ?_
                                  rintro e w2 ⟨rfl, hR2, ho0⟩
                                  have ho := undrew ho0
                                  clear ho0
                                  have HR2 := Lib.hid hR2
                                  have HB2 := Lib.hid (below_only HB1.out ho (by omega))
                                  have hcz2 := (ho.cell (p := ⟨b1, o1 + j, none⟩) hRb1).trans hcz
                                  clear hR2 ho
                                  refine hK.out _ _ (hcz2) (fun hHeld => ?_)
                                  clear hK K
                                  try simp only [Act.put, List.setIfInBounds_toArray, List.set_cons_zero, List.set_cons_succ, List.getElem_toArray, List.getElem_cons_zero, List.getElem_cons_succ]
                                  refine wpAnyH_take (i := 11) (oi := _) (v := ?_) rfl (by kernel_rfl) (by kernel_rfl) (by kernel_rfl) (fun _ _ _ h => h) (Or.inl ⟨by rfl, ?hy⟩) (by assumption) ?rest
                                  case hy =>
                                    intro w9 hSw
                                    try dsimp only at hSw
                                    try simp only [List.getElem_toArray, List.getElem_cons_zero, List.getElem_cons_succ]
                                    go_simp
                                    try with_reducible rfl
                                  case rest =>
                                    try simp only [Act.put, List.setIfInBounds_toArray, List.set_cons_zero, List.set_cons_succ, List.getElem_toArray, List.getElem_cons_zero, List.getElem_cons_succ]
                                    refine wpAnyH_take (i := 12) (oi := _) (v := ?_) rfl (by kernel_rfl) (by kernel_rfl) (by kernel_rfl) (fun _ _ _ h => h) (Or.inl ⟨by rfl, ?hy⟩) (by assumption) ?rest
                                    case hy =>
                                      intro w9 hSw
                                      try dsimp only at hSw
                                      try simp only [List.getElem_toArray, List.getElem_cons_zero, List.getElem_cons_succ]
                                      go_simp
                                      try with_reducible rfl
                                    case rest =>
                                      try simp only [Act.put, List.setIfInBounds_toArray, List.set_cons_zero, List.set_cons_succ, List.getElem_toArray, List.getElem_cons_zero, List.getElem_cons_succ]
                                      refine wpAnyH_take (i := 13) (oi := _) (v := ?_) rfl (by kernel_rfl) (by kernel_rfl) (by kernel_rfl) (fun _ _ _ h => h) (Or.inl ⟨by rfl, ?hy⟩) (by assumption) ?rest
                                      case hy =>
                                        intro w9 hSw
                                        try dsimp only at hSw
                                        try simp only [List.getElem_toArray, List.getElem_cons_zero, List.getElem_cons_succ]
                                        go_simp
                                        try with_reducible rfl
                                      case rest =>
                                        try simp only [Act.put, List.setIfInBounds_toArray, List.set_cons_zero, List.set_cons_succ, List.getElem_toArray, List.getElem_cons_zero, List.getElem_cons_succ]
                                        refine wpAnyH_take (i := 14) (oi := _) (v := ?_) rfl (by kernel_rfl) (by kernel_rfl) (by kernel_rfl) (fun _ _ _ h => h) (Or.inl ⟨by rfl, ?hy⟩) (by assumption) ?rest
                                        case hy =>
                                          intro w9 hSw
                                          try dsimp only at hSw
                                          try simp only [List.getElem_toArray, List.getElem_cons_zero, List.getElem_cons_succ]
                                          go_simp
                                          try with_reducible rfl
                                        case rest =>
                                          try simp only [Act.put, List.setIfInBounds_toArray, List.set_cons_zero, List.set_cons_succ, List.getElem_toArray, List.getElem_cons_zero, List.getElem_cons_succ]
                                          refine wpAnyH_take (i := 15) (oi := _) (v := ?_) rfl (by kernel_rfl) (by kernel_rfl) (by kernel_rfl) (fun _ _ _ h => h) (Or.inl ⟨by rfl, ?hy⟩) (by assumption) ?rest
                                          case hy =>
                                            intro w9 hSw
                                            try dsimp only at hSw
                                            try simp only [List.getElem_toArray, List.getElem_cons_zero, List.getElem_cons_succ]
                                            go_simp
                                            try with_reducible rfl
                                          case rest =>
                                            try simp only [Act.put, List.setIfInBounds_toArray, List.set_cons_zero, List.set_cons_succ, List.getElem_toArray, List.getElem_cons_zero, List.getElem_cons_succ]
                                            refine wpAnyH_take (i := 16) (oi := _) (v := ?_) rfl (by kernel_rfl) (by kernel_rfl) (by kernel_rfl) (fun _ _ _ h => h) (Or.inl ⟨by rfl, ?hy⟩) (by assumption) ?rest
                                            case hy =>
                                              intro w9 hSw
                                              try dsimp only at hSw
                                              try simp only [List.getElem_toArray, List.getElem_cons_zero, List.getElem_cons_succ]
                                              go_simp
                                              try with_reducible rfl
                                            case rest =>
                                              try simp only [Act.put, List.setIfInBounds_toArray, List.set_cons_zero, List.set_cons_succ, List.getElem_toArray, List.getElem_cons_zero, List.getElem_cons_succ]
                                              refine wpAnyH_take (i := 17) (oi := _) (v := ?_) rfl (by kernel_rfl) (by kernel_rfl) (by kernel_rfl) (fun _ _ _ h => h) (Or.inl ⟨by rfl, ?hy⟩) (by assumption) ?rest
                                              case hy =>
                                                intro w9 hSw
                                                try dsimp only at hSw
                                                try simp only [List.getElem_toArray, List.getElem_cons_zero, List.getElem_cons_succ]
                                                go_simp
                                                try with_reducible rfl
                                              case rest =>
                                                try simp only [Act.put, List.setIfInBounds_toArray, List.set_cons_zero, List.set_cons_succ, List.getElem_toArray, List.getElem_cons_zero, List.getElem_cons_succ]
                                                refine wpAnyH_take (i := 18) (oi := _) (v := ?_) rfl (by kernel_rfl) (by kernel_rfl) (by kernel_rfl) (fun _ _ _ h => h) (Or.inl ⟨by rfl, ?hy⟩) (by assumption) ?rest
                                                case hy =>
                                                  intro w9 hSw
                                                  try dsimp only at hSw
                                                  try simp only [List.getElem_toArray, List.getElem_cons_zero, List.getElem_cons_succ]
                                                  go_simp
                                                  try with_reducible rfl
                                                case rest =>
                                                  try simp only [Act.put, List.setIfInBounds_toArray, List.set_cons_zero, List.set_cons_succ, List.getElem_toArray, List.getElem_cons_zero, List.getElem_cons_succ]
                                                  refine wpAnyH_take (i := 19) (oi := _) (v := undef) rfl (by kernel_rfl) (by kernel_rfl) (by kernel_rfl) (fun _ _ _ h => h) (Or.inr ⟨by rfl, rfl⟩) (by assumption) ?_
                                                  try simp only [Act.put, List.setIfInBounds_toArray, List.set_cons_zero, List.set_cons_succ, List.getElem_toArray, List.getElem_cons_zero, List.getElem_cons_succ]
                                                  refine wpAnyH_take (i := 20) (oi := _) (v := undef) rfl (by kernel_rfl) (by kernel_rfl) (by kernel_rfl) (fun _ _ _ h => h) (Or.inr ⟨by rfl, rfl⟩) (by assumption) ?_
                                                  try simp only [Act.put, List.setIfInBounds_toArray, List.set_cons_zero, List.set_cons_succ, List.getElem_toArray, List.getElem_cons_zero, List.getElem_cons_succ]
                                                  refine wpAnyH_take (i := 21) (oi := _) (v := undef) rfl (by kernel_rfl) (by kernel_rfl) (by kernel_rfl) (fun _ _ _ h => h) (Or.inr ⟨by rfl, rfl⟩) (by assumption) ?_
                                                  try simp only [Act.put, List.setIfInBounds_toArray, List.set_cons_zero, List.set_cons_succ, List.getElem_toArray, List.getElem_cons_zero, List.getElem_cons_succ]
                                                  refine wpAnyH_take (i := 22) (oi := _) (v := undef) rfl (by kernel_rfl) (by kernel_rfl) (by kernel_rfl) (fun _ _ _ h => h) (Or.inr ⟨by rfl, rfl⟩) (by assumption) ?_
                                                  try simp only [Act.put, List.setIfInBounds_toArray, List.set_cons_zero, List.set_cons_succ, List.getElem_toArray, List.getElem_cons_zero, List.getElem_cons_succ]
                                                  refine wpAnyH_take (i := 23) (oi := _) (v := undef) rfl (by kernel_rfl) (by kernel_rfl) (by kernel_rfl) (fun _ _ _ h => h) (Or.inr ⟨by rfl, rfl⟩) (by assumption) ?_
                                                  try simp only [Act.put, List.setIfInBounds_toArray, List.set_cons_zero, List.set_cons_succ, List.getElem_toArray, List.getElem_cons_zero, List.getElem_cons_succ]
                                                  refine wpAnyH_take (i := 24) (oi := _) (v := undef) rfl (by kernel_rfl) (by kernel_rfl) (by kernel_rfl) (fun _ _ _ h => h) (Or.inr ⟨by rfl, rfl⟩) (by assumption) ?_
                                                  try simp only [Act.put, List.setIfInBounds_toArray, List.set_cons_zero, List.set_cons_succ, List.getElem_toArray, List.getElem_cons_zero, List.getElem_cons_succ]
                                                  refine wpAnyH_take (i := 25) (oi := _) (v := undef) rfl (by kernel_rfl) (by kernel_rfl) (by kernel_rfl) (fun _ _ _ h => h) (Or.inr ⟨by rfl, rfl⟩) (by assumption) ?_
                                                  try simp only [Act.put, List.setIfInBounds_toArray, List.set_cons_zero, List.set_cons_succ, List.getElem_toArray, List.getElem_cons_zero, List.getElem_cons_succ]
                                                  refine wpAnyH_take (i := 26) (oi := _) (v := undef) rfl (by kernel_rfl) (by kernel_rfl) (by kernel_rfl) (fun _ _ _ h => h) (Or.inr ⟨by rfl, rfl⟩) (by assumption) ?_
                                                  try simp only [Act.put, List.setIfInBounds_toArray, List.set_cons_zero, List.set_cons_succ, List.getElem_toArray, List.getElem_cons_zero, List.getElem_cons_succ]
                                                  refine wpAnyH_take (i := 27) (oi := _) (v := undef) rfl (by kernel_rfl) (by kernel_rfl) (by kernel_rfl) (fun _ _ _ h => h) (Or.inr ⟨by rfl, rfl⟩) (by assumption) ?_
                                                  try simp only [Act.put, List.setIfInBounds_toArray, List.set_cons_zero, List.set_cons_succ, List.getElem_toArray, List.getElem_cons_zero, List.getElem_cons_succ]
                                                  refine wpAnyH_take (i := 28) (oi := _) (v := undef) rfl (by kernel_rfl) (by kernel_rfl) (by kernel_rfl) (fun _ _ _ h => h) (Or.inr ⟨by rfl, rfl⟩) (by assumption) ?_
                                                  try simp only [Act.put, List.setIfInBounds_toArray, List.set_cons_zero, List.set_cons_succ, List.getElem_toArray, List.getElem_cons_zero, List.getElem_cons_succ]
                                                  refine wpAnyH_take (i := 29) (oi := _) (v := undef) rfl (by kernel_rfl) (by kernel_rfl) (by kernel_rfl) (fun _ _ _ h => h) (Or.inr ⟨by rfl, rfl⟩) (by assumption) ?_
                                                  try simp only [Act.put, List.setIfInBounds_toArray, List.set_cons_zero, List.set_cons_succ, List.getElem_toArray, List.getElem_cons_zero, List.getElem_cons_succ]
                                                  refine wpAnyH_take (i := 30) (oi := _) (v := undef) rfl (by kernel_rfl) (by kernel_rfl) (by kernel_rfl) (fun _ _ _ h => h) (Or.inr ⟨by rfl, rfl⟩) (by assumption) ?_
                                                  try simp only [Act.put, List.setIfInBounds_toArray, List.set_cons_zero, List.set_cons_succ, List.getElem_toArray, List.getElem_cons_zero, List.getElem_cons_succ]
                                                  refine wpAnyH_take (i := 31) (oi := _) (v := ?_) rfl (by kernel_rfl) (by kernel_rfl) (by kernel_rfl) (fun _ _ _ h => h) (Or.inl ⟨by rfl, ?hy⟩) (by assumption) ?rest
                                                  case hy =>
                                                    intro w9 hSw
                                                    try dsimp only at hSw
                                                    try simp only [List.getElem_toArray, List.getElem_cons_zero, List.getElem_cons_succ]
                                                    go_simp
                                                    try with_reducible rfl
                                                  case rest =>
                                                    try simp only [Act.put, List.setIfInBounds_toArray, List.set_cons_zero, List.set_cons_succ, List.getElem_toArray, List.getElem_cons_zero, List.getElem_cons_succ]
                                                    refine wpAnyH_take (i := 32) (oi := _) (v := ?_) rfl (by kernel_rfl) (by kernel_rfl) (by kernel_rfl) (fun _ _ _ h => h) (Or.inl ⟨by rfl, ?hy⟩) (by assumption) ?rest
                                                    case hy =>
                                                      intro w9 hSw
                                                      try dsimp only at hSw
                                                      try simp only [List.getElem_toArray, List.getElem_cons_zero, List.getElem_cons_succ]
                                                      go_simp
                                                      try with_reducible rfl
                                                    case rest =>
                                                      try simp only [Act.put, List.setIfInBounds_toArray, List.set_cons_zero, List.set_cons_succ, List.getElem_toArray, List.getElem_cons_zero, List.getElem_cons_succ]
                                                      refine wpAnyH_done (by kernel_rfl) ?_ _
                                                      go_wp2
                                                      go_roundw
                                                      case rel => exact ⟨j + 1, by omega, by go_num, HR2.out, HB2.out⟩
                                                      case measure => simp [intOf]; omega
          · by_cases jm : j < m
            · obtain ⟨hqq, hqb⟩ := HQ.out (by omega)
              subst hqq
              have hcs := (HB1.out.cell (p := ⟨b2, o2 + j, none⟩) hqb).trans (HS.out j jm).1
              have hd1 : decide (j < n) = false := by simp; omega
              have hd2 : decide ((j : Int) < (n : Int)) = false := by simp; omega
              have HT := Lib.hid (read_m Z n S m j k (by omega) jn jm (HS.out j jm).2)
              have hRb2 : b2 ≠ R := by omega
              go_wp2_with fail
              refine wp_region_held_drew (S := fun w' => w'.cell? ⟨b2, o2 + j, none⟩ = some (.string (S j))) (by kernel_rfl) hcs (fun hHeld => ?_)
              refine wpAnyH_take (i := 0) (oi := _) (v := ?_) rfl (by kernel_rfl) (by kernel_rfl) (by kernel_rfl) (fun _ _ _ h => h) (Or.inl ⟨by rfl, ?hy⟩) (by assumption) ?rest
              case hy =>
                intro w9 hSw
                try dsimp only at hSw
                try simp only [List.getElem_toArray, List.getElem_cons_zero, List.getElem_cons_succ]
                go_simp
                try with_reducible rfl
              case rest =>
                try simp only [Act.put, List.setIfInBounds_toArray, List.set_cons_zero, List.set_cons_succ, List.getElem_toArray, List.getElem_cons_zero, List.getElem_cons_succ]
                refine wpAnyH_take (i := 1) (oi := _) (v := ?_) rfl (by kernel_rfl) (by kernel_rfl) (by kernel_rfl) (fun _ _ _ h => h) (Or.inl ⟨by rfl, ?hy⟩) (by assumption) ?rest
                case hy =>
                  intro w9 hSw
                  try dsimp only at hSw
                  try simp only [List.getElem_toArray, List.getElem_cons_zero, List.getElem_cons_succ]
                  go_simp
                  try with_reducible rfl
                case rest =>
                  try simp only [Act.put, List.setIfInBounds_toArray, List.set_cons_zero, List.set_cons_succ, List.getElem_toArray, List.getElem_cons_zero, List.getElem_cons_succ]
                  refine wpAnyH_take (i := 2) (oi := _) (v := ?_) rfl (by kernel_rfl) (by kernel_rfl) (by kernel_rfl) (fun _ _ _ h => h) (Or.inl ⟨by rfl, ?hy⟩) (by assumption) ?rest
                  case hy =>
                    intro w9 hSw
                    try dsimp only at hSw
                    try simp only [List.getElem_toArray, List.getElem_cons_zero, List.getElem_cons_succ]
                    go_simp
                    try with_reducible rfl
                  case rest =>
                    try simp only [Act.put, List.setIfInBounds_toArray, List.set_cons_zero, List.set_cons_succ, List.getElem_toArray, List.getElem_cons_zero, List.getElem_cons_succ]
                    refine wpAnyH_take (i := 3) (oi := _) (v := ?_) rfl (by kernel_rfl) (by kernel_rfl) (by kernel_rfl) (fun _ _ _ h => h) (Or.inl ⟨by rfl, ?hy⟩) (by assumption) ?rest
                    case hy =>
                      intro w9 hSw
                      try dsimp only at hSw
                      try simp only [List.getElem_toArray, List.getElem_cons_zero, List.getElem_cons_succ]
                      go_simp
                      try with_reducible rfl
                    case rest =>
                      try simp only [Act.put, List.setIfInBounds_toArray, List.set_cons_zero, List.set_cons_succ, List.getElem_toArray, List.getElem_cons_zero, List.getElem_cons_succ]
                      refine wpAnyH_take (i := 4) (oi := _) (v := ?_) rfl (by kernel_rfl) (by kernel_rfl) (by kernel_rfl) (fun _ _ _ h => h) (Or.inl ⟨by rfl, ?hy⟩) (by assumption) ?rest
                      case hy =>
                        intro w9 hSw
                        try dsimp only at hSw
                        try simp only [List.getElem_toArray, List.getElem_cons_zero, List.getElem_cons_succ]
                        go_simp
                        try with_reducible rfl
                      case rest =>
                        try simp only [Act.put, List.setIfInBounds_toArray, List.set_cons_zero, List.set_cons_succ, List.getElem_toArray, List.getElem_cons_zero, List.getElem_cons_succ]
                        refine wpAnyH_take (i := 5) (oi := _) (v := undef) rfl (by kernel_rfl) (by kernel_rfl) (by kernel_rfl) (fun _ _ _ h => h) (Or.inr ⟨by rfl, rfl⟩) (by assumption) ?_
                        try simp only [Act.put, List.setIfInBounds_toArray, List.set_cons_zero, List.set_cons_succ, List.getElem_toArray, List.getElem_cons_zero, List.getElem_cons_succ]
                        refine wpAnyH_take (i := 6) (oi := _) (v := undef) rfl (by kernel_rfl) (by kernel_rfl) (by kernel_rfl) (fun _ _ _ h => h) (Or.inr ⟨by rfl, rfl⟩) (by assumption) ?_
                        try simp only [Act.put, List.setIfInBounds_toArray, List.set_cons_zero, List.set_cons_succ, List.getElem_toArray, List.getElem_cons_zero, List.getElem_cons_succ]
                        refine wpAnyH_take (i := 7) (oi := _) (v := undef) rfl (by kernel_rfl) (by kernel_rfl) (by kernel_rfl) (fun _ _ _ h => h) (Or.inr ⟨by rfl, rfl⟩) (by assumption) ?_
                        try simp only [Act.put, List.setIfInBounds_toArray, List.set_cons_zero, List.set_cons_succ, List.getElem_toArray, List.getElem_cons_zero, List.getElem_cons_succ]
                        refine wpAnyH_take (i := 8) (oi := _) (v := undef) rfl (by kernel_rfl) (by kernel_rfl) (by kernel_rfl) (fun _ _ _ h => h) (Or.inr ⟨by rfl, rfl⟩) (by assumption) ?_
                        try simp only [Act.put, List.setIfInBounds_toArray, List.set_cons_zero, List.set_cons_succ, List.getElem_toArray, List.getElem_cons_zero, List.getElem_cons_succ]
                        refine wpAnyH_take (i := 9) (oi := _) (v := undef) rfl (by kernel_rfl) (by kernel_rfl) (by kernel_rfl) (fun _ _ _ h => h) (Or.inr ⟨by rfl, rfl⟩) (by assumption) ?_
                        try simp only [Act.put, List.setIfInBounds_toArray, List.set_cons_zero, List.set_cons_succ, List.getElem_toArray, List.getElem_cons_zero, List.getElem_cons_succ]
                        refine wpAnyH_take (i := 10) (oi := _) (v := undef) rfl (by kernel_rfl) (by kernel_rfl) (by kernel_rfl) (fun _ _ _ h => h) (Or.inr ⟨by rfl, rfl⟩) (by assumption) ?_
                        try simp only [Act.put, List.setIfInBounds_toArray, List.set_cons_zero, List.set_cons_succ, List.getElem_toArray, List.getElem_cons_zero, List.getElem_cons_succ]
                        refine wpAnyH_take (i := 11) (oi := _) (v := undef) rfl (by kernel_rfl) (by kernel_rfl) (by kernel_rfl) (fun _ _ _ h => h) (Or.inr ⟨by rfl, rfl⟩) (by assumption) ?_
                        try simp only [Act.put, List.setIfInBounds_toArray, List.set_cons_zero, List.set_cons_succ, List.getElem_toArray, List.getElem_cons_zero, List.getElem_cons_succ]
                        refine wpAnyH_take (i := 12) (oi := _) (v := ?_) rfl (by kernel_rfl) (by kernel_rfl) (by kernel_rfl) (fun _ _ _ h => h) (Or.inl ⟨by rfl, ?hy⟩) (by assumption) ?rest
                        case hy =>
                          intro w9 hSw
                          try dsimp only at hSw
                          try simp only [List.getElem_toArray, List.getElem_cons_zero, List.getElem_cons_succ]
                          go_simp
                          try with_reducible rfl
                        case rest =>
                          try simp only [Act.put, List.setIfInBounds_toArray, List.set_cons_zero, List.set_cons_succ, List.getElem_toArray, List.getElem_cons_zero, List.getElem_cons_succ]
                          refine wpAnyH_take (i := 13) (oi := _) (v := ?_) rfl (by kernel_rfl) (by kernel_rfl) (by kernel_rfl) (fun _ _ _ h => h) (Or.inl ⟨by rfl, ?hy⟩) (by assumption) ?rest
                          case hy =>
                            intro w9 hSw
                            try dsimp only at hSw
                            try simp only [List.getElem_toArray, List.getElem_cons_zero, List.getElem_cons_succ]
                            go_simp
                            try with_reducible rfl
                          case rest =>
                            try simp only [Act.put, List.setIfInBounds_toArray, List.set_cons_zero, List.set_cons_succ, List.getElem_toArray, List.getElem_cons_zero, List.getElem_cons_succ]
                            refine wpAnyH_take (i := 14) (oi := _) (v := ?_) rfl (by kernel_rfl) (by kernel_rfl) (by kernel_rfl) (fun _ _ _ h => h) (Or.inl ⟨by rfl, ?hy⟩) (by assumption) ?rest
                            case hy =>
                              intro w9 hSw
                              try dsimp only at hSw
                              try simp only [List.getElem_toArray, List.getElem_cons_zero, List.getElem_cons_succ]
                              go_simp
                              try with_reducible rfl
                            case rest =>
                              try simp only [Act.put, List.setIfInBounds_toArray, List.set_cons_zero, List.set_cons_succ, List.getElem_toArray, List.getElem_cons_zero, List.getElem_cons_succ]
                              refine wpAnyH_take (i := 15) (oi := _) (v := ?_) rfl (by kernel_rfl) (by kernel_rfl) (by kernel_rfl) (fun _ _ _ h => h) (Or.inl ⟨by rfl, ?hy⟩) (by assumption) ?rest
                              case hy =>
                                intro w9 hSw
                                try dsimp only at hSw
                                try simp only [List.getElem_toArray, List.getElem_cons_zero, List.getElem_cons_succ]
                                go_simp
                                try with_reducible rfl
                              case rest =>
                                try simp only [Act.put, List.setIfInBounds_toArray, List.set_cons_zero, List.set_cons_succ, List.getElem_toArray, List.getElem_cons_zero, List.getElem_cons_succ]
                                refine wpAnyH_take (i := 16) (oi := _) (v := ?_) rfl (by kernel_rfl) (by kernel_rfl) (by kernel_rfl) (fun _ _ _ h => h) (Or.inl ⟨by rfl, ?hy⟩) (by assumption) ?rest
                                case hy =>
                                  intro w9 hSw
                                  try dsimp only at hSw
                                  try simp only [List.getElem_toArray, List.getElem_cons_zero, List.getElem_cons_succ]
                                  go_simp
                                  try with_reducible rfl
                                case rest =>
                                  try simp only [Act.put, List.setIfInBounds_toArray, List.set_cons_zero, List.set_cons_succ, List.getElem_toArray, List.getElem_cons_zero, List.getElem_cons_succ]
                                  refine wpAnyH_take (i := 17) (oi := _) (v := ?_) rfl (by kernel_rfl) (by kernel_rfl) (by kernel_rfl) (fun _ _ _ h => h) (Or.inl ⟨by rfl, ?hy⟩) (by assumption) ?rest
                                  case hy =>
                                    intro w9 hSw
                                    try dsimp only at hSw
                                    try simp only [List.getElem_toArray, List.getElem_cons_zero, List.getElem_cons_succ]
                                    go_simp
                                    try with_reducible rfl
                                  case rest =>
                                    try simp only [Act.put, List.setIfInBounds_toArray, List.set_cons_zero, List.set_cons_succ, List.getElem_toArray, List.getElem_cons_zero, List.getElem_cons_succ]
                                    refine wpAnyH_take (i := 18) (oi := _) (v := ?_) rfl (by kernel_rfl) (by kernel_rfl) (by kernel_rfl) (fun _ _ _ h => h) (Or.inl ⟨by rfl, ?hy⟩) (by assumption) ?rest
                                    case hy =>
                                      intro w9 hSw
                                      try dsimp only at hSw
                                      try simp only [List.getElem_toArray, List.getElem_cons_zero, List.getElem_cons_succ]
                                      go_simp
                                      try with_reducible rfl
                                    case rest =>
                                      try simp only [Act.put, List.setIfInBounds_toArray, List.set_cons_zero, List.set_cons_succ, List.getElem_toArray, List.getElem_cons_zero, List.getElem_cons_succ]
                                      refine wpAnyH_take (i := 19) (oi := _) (v := ?_) rfl (by kernel_rfl) (by kernel_rfl) (by kernel_rfl) (fun _ _ _ h => h) (Or.inl ⟨by rfl, ?hy⟩) (by assumption) ?rest
                                      case hy =>
                                        intro w9 hSw
                                        try dsimp only at hSw
                                        try simp only [List.getElem_toArray, List.getElem_cons_zero, List.getElem_cons_succ]
                                        go_simp
                                        try with_reducible rfl
                                      case rest =>
                                        try simp only [Act.put, List.setIfInBounds_toArray, List.set_cons_zero, List.set_cons_succ, List.getElem_toArray, List.getElem_cons_zero, List.getElem_cons_succ]
                                        refine wpAnyH_take (i := 20) (oi := _) (v := ?_) rfl (by kernel_rfl) (by kernel_rfl) (by kernel_rfl) (fun _ _ _ h => h) (Or.inl ⟨by rfl, ?hy⟩) (by assumption) ?rest
                                        case hy =>
                                          intro w9 hSw
                                          try dsimp only at hSw
                                          try simp only [List.getElem_toArray, List.getElem_cons_zero, List.getElem_cons_succ]
                                          go_simp
                                          try with_reducible rfl
                                        case rest =>
                                          try simp only [Act.put, List.setIfInBounds_toArray, List.set_cons_zero, List.set_cons_succ, List.getElem_toArray, List.getElem_cons_zero, List.getElem_cons_succ]
                                          refine wpAnyH_take (i := 21) (oi := _) (v := ?_) rfl (by kernel_rfl) (by kernel_rfl) (by kernel_rfl) (fun _ _ _ h => h) (Or.inl ⟨by rfl, ?hy⟩) (by assumption) ?rest
                                          case hy =>
                                            intro w9 hSw
                                            try dsimp only at hSw
                                            try simp only [List.getElem_toArray, List.getElem_cons_zero, List.getElem_cons_succ]
                                            go_simp
                                            try with_reducible rfl
                                          case rest =>
                                            try simp only [Act.put, List.setIfInBounds_toArray, List.set_cons_zero, List.set_cons_succ, List.getElem_toArray, List.getElem_cons_zero, List.getElem_cons_succ]
                                            refine wpAnyH_take (i := 22) (oi := _) (v := ?_) rfl (by kernel_rfl) (by kernel_rfl) (by kernel_rfl) (fun _ _ _ h => h) (Or.inl ⟨by rfl, ?hy⟩) (by assumption) ?rest
                                            case hy =>
                                              intro w9 hSw
                                              try dsimp only at hSw
                                              try simp only [List.getElem_toArray, List.getElem_cons_zero, List.getElem_cons_succ]
                                              go_simp
                                              try with_reducible rfl
                                            case rest =>
                                              try simp only [Act.put, List.setIfInBounds_toArray, List.set_cons_zero, List.set_cons_succ, List.getElem_toArray, List.getElem_cons_zero, List.getElem_cons_succ]
                                              refine wpAnyH_take (i := 23) (oi := _) (v := ?_) rfl (by kernel_rfl) (by kernel_rfl) (by kernel_rfl) (fun _ _ _ h => h) (Or.inl ⟨by rfl, ?hy⟩) (by assumption) ?rest
                                              case hy =>
                                                intro w9 hSw
                                                try dsimp only at hSw
                                                try simp only [List.getElem_toArray, List.getElem_cons_zero, List.getElem_cons_succ]
                                                go_simp
                                                try with_reducible rfl
                                              case rest =>
                                                try simp only [Act.put, List.setIfInBounds_toArray, List.set_cons_zero, List.set_cons_succ, List.getElem_toArray, List.getElem_cons_zero, List.getElem_cons_succ]
                                                refine wpAnyH_take (i := 24) (oi := _) (v := ?_) rfl (by kernel_rfl) (by kernel_rfl) (by kernel_rfl) (fun _ _ _ h => h) (Or.inl ⟨by rfl, ?hy⟩) (by assumption) ?rest
                                                case hy =>
                                                  intro w9 hSw
                                                  try dsimp only at hSw
                                                  try simp only [List.getElem_toArray, List.getElem_cons_zero, List.getElem_cons_succ]
                                                  go_simp
                                                  try with_reducible rfl
                                                case rest =>
                                                  try simp only [Act.put, List.setIfInBounds_toArray, List.set_cons_zero, List.set_cons_succ, List.getElem_toArray, List.getElem_cons_zero, List.getElem_cons_succ]
                                                  refine wpAnyH_take (i := 26) (oi := _) (v := ?_) rfl (by kernel_rfl) (by kernel_rfl) (by kernel_rfl) (fun _ _ _ h => h) (Or.inl ⟨by rfl, ?hy⟩) (by assumption) ?rest
                                                  case hy =>
                                                    intro w9 hSw
                                                    try dsimp only at hSw
                                                    try simp only [List.getElem_toArray, List.getElem_cons_zero, List.getElem_cons_succ]
                                                    go_simp
                                                    try with_reducible rfl
                                                  case rest =>
                                                    try simp only [Act.put, List.setIfInBounds_toArray, List.set_cons_zero, List.set_cons_succ, List.getElem_toArray, List.getElem_cons_zero, List.getElem_cons_succ]
                                                    refine wpAnyH_take (i := 27) (oi := _) (v := ?_) rfl (by kernel_rfl) (by kernel_rfl) (by kernel_rfl) (fun _ _ _ h => h) (Or.inl ⟨by rfl, ?hy⟩) (by assumption) ?rest
                                                    case hy =>
                                                      intro w9 hSw
                                                      try dsimp only at hSw
                                                      try simp only [List.getElem_toArray, List.getElem_cons_zero, List.getElem_cons_succ]
                                                      go_simp
                                                      try with_reducible rfl
                                                    case rest =>
                                                      try simp only [Act.put, List.setIfInBounds_toArray, List.set_cons_zero, List.set_cons_succ, List.getElem_toArray, List.getElem_cons_zero, List.getElem_cons_succ]
                                                      refine wpAnyH_take (i := 28) (oi := _) (v := ?_) rfl (by kernel_rfl) (by kernel_rfl) (by kernel_rfl) (fun _ _ _ h => h) (Or.inl ⟨by rfl, ?hy⟩) (by assumption) ?rest
                                                      case hy =>
                                                        intro w9 hSw
                                                        try dsimp only at hSw
                                                        try simp only [List.getElem_toArray, List.getElem_cons_zero, List.getElem_cons_succ]
                                                        go_simp
                                                        try with_reducible rfl
                                                      case rest =>
                                                        try simp only [Act.put, List.setIfInBounds_toArray, List.set_cons_zero, List.set_cons_succ, List.getElem_toArray, List.getElem_cons_zero, List.getElem_cons_succ]
                                                        refine wpAnyH_take (i := 29) (oi := _) (v := ?_) rfl (by kernel_rfl) (by kernel_rfl) (by kernel_rfl) (fun _ _ _ h => h) (Or.inl ⟨by rfl, ?hy⟩) (by assumption) ?rest
                                                        case hy =>
                                                          intro w9 hSw
                                                          try dsimp only at hSw
                                                          try simp only [List.getElem_toArray, List.getElem_cons_zero, List.getElem_cons_succ]
                                                          go_simp
                                                          try with_reducible rfl
                                                        case rest =>
                                                          try simp only [Act.put, List.setIfInBounds_toArray, List.set_cons_zero, List.set_cons_succ, List.getElem_toArray, List.getElem_cons_zero, List.getElem_cons_succ]
                                                          refine wpAnyH_ready (rs := [25]) (by kernel_rfl) (by simp) (AllReadyH.cons (o := _) rfl (fun K hK => ?_) AllReadyH.nil)
                                                          try simp only [List.getElem_toArray, List.getElem_cons_zero, List.getElem_cons_succ]
                                                          go_simp
                                                          refine (Text_str _ _ R _ _ S j (HS.out j jm).2 (Rd.drew HR.out) _ HT.out).mono ?_
                                                          rintro e w3 ⟨rfl, hR3, ho0⟩
                                                          have ho := undrew ho0
                                                          clear ho0
                                                          have HR3 := Lib.hid hR3
                                                          have HB3 := Lib.hid (below_only HB1.out ho (by omega))
                                                          have hcs3 := (ho.cell (p := ⟨b2, o2 + j, none⟩) hRb2).trans hcs
                                                          clear hR3 ho
                                                          refine hK.out _ _ (hcs3) (fun hHeld => ?_)
                                                          clear hK K
                                                          try simp only [Act.put, List.setIfInBounds_toArray, List.set_cons_zero, List.set_cons_succ, List.getElem_toArray, List.getElem_cons_zero, List.getElem_cons_succ]
                                                          refine wpAnyH_take (i := 30) (oi := _) (v := ?_) rfl (by kernel_rfl) (by kernel_rfl) (by kernel_rfl) (fun _ _ _ h => h) (Or.inl ⟨by rfl, ?hy⟩) (by assumption) ?rest
                                                          case hy =>
                                                            intro w9 hSw
                                                            try dsimp only at hSw
                                                            try simp only [List.getElem_toArray, List.getElem_cons_zero, List.getElem_cons_succ]
                                                            go_simp
                                                            try with_reducible rfl
                                                          case rest =>
                                                            try simp only [Act.put, List.setIfInBounds_toArray, List.set_cons_zero, List.set_cons_succ, List.getElem_toArray, List.getElem_cons_zero, List.getElem_cons_succ]
                                                            refine wpAnyH_take (i := 31) (oi := _) (v := ?_) rfl (by kernel_rfl) (by kernel_rfl) (by kernel_rfl) (fun _ _ _ h => h) (Or.inl ⟨by rfl, ?hy⟩) (by assumption) ?rest
                                                            case hy =>
                                                              intro w9 hSw
                                                              try dsimp only at hSw
                                                              try simp only [List.getElem_toArray, List.getElem_cons_zero, List.getElem_cons_succ]
                                                              go_simp
                                                              try with_reducible rfl
                                                            case rest =>
                                                              try simp only [Act.put, List.setIfInBounds_toArray, List.set_cons_zero, List.set_cons_succ, List.getElem_toArray, List.getElem_cons_zero, List.getElem_cons_succ]
                                                              refine wpAnyH_take (i := 32) (oi := _) (v := ?_) rfl (by kernel_rfl) (by kernel_rfl) (by kernel_rfl) (fun _ _ _ h => h) (Or.inl ⟨by rfl, ?hy⟩) (by assumption) ?rest
                                                              case hy =>
                                                                intro w9 hSw
                                                                try dsimp only at hSw
                                                                try simp only [List.getElem_toArray, List.getElem_cons_zero, List.getElem_cons_succ]
                                                                go_simp
                                                                try with_reducible rfl
                                                              case rest =>
                                                                try simp only [Act.put, List.setIfInBounds_toArray, List.set_cons_zero, List.set_cons_succ, List.getElem_toArray, List.getElem_cons_zero, List.getElem_cons_succ]
                                                                refine wpAnyH_done (by kernel_rfl) ?_ _
                                                                go_wp2
                                                                go_roundw
                                                                case rel => exact ⟨j + 1, by omega, by go_num, HR3.out, HB3.out⟩
                                                                case measure => simp [intOf]; omega
            · obtain rfl : j = k := by omega
              go_wp2_with fail
              refine (End_at _ _ R _ _ false HR.out 0 (if_neg (by simp))).mono ?_
              rintro e w8 ⟨rfl, hR, ho⟩
              have HR := Lib.hid hR
              have HB := Lib.hid (below_only HB1.out ho (by omega))
              clear hR ho
              go_wp2_with fail
              refine (Left_at _ _ R _ _ false HR.out 0 (by simp)).mono ?_
              rintro e w9 ⟨rfl, hR, ho⟩
              have HB := Lib.hid (below_only HB.out ho (by omega))
              clear hR ho HR
              go_wp2
              go_ret
              exact ⟨rfl, HB.out⟩
end Go.Proofs.Ytlmpokkpkglbfaa.binBack
