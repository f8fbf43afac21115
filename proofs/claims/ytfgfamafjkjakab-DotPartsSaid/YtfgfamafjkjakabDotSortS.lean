/-
  Package slices, of numbers: Sort of a short row that does not fall.
-/
import Derived.Test.YtfgfamafjkjakabDotSort
namespace Go.Proofs.Ytfgfamafjkjakab
open Go.ChangeShapes Go.WideShapes Go.ChangeAt Go.RowKit Go.Deep
set_option linter.unusedVariables false
set_option linter.unusedSimpArgs false
theorem run_char2 (s : ByteArray) (k : Nat) (hk : k < s.size) (i : Int) (hi : i = (k : Int)) (W : World) : (Instr.index 9 (.string s) (.int .u8 i)).run Try.prog W = .ok (.int .u8 ((s.data.toList.getD k 0).toNat : Int)) W := by
  subst hi
  rw [run_index_string W 9 s .u8 (k : Int) Try.underlying9, dif_pos (by omega)]
  congr 3
  rw [List.getD_eq_getElem?_getD, List.getElem?_eq_getElem (show k < s.data.toList.length from hk)]
  rfl
set_option maxRecDepth 100000 in
set_option maxHeartbeats 8000000 in
theorem Len64_any (n : Nat) (w : World) (hn : n ≤ 12) : Calls Try.prog 54 #[.int .u64 (n : Int)] w fun e w' => (∃ r : Int, e = .returned (.int .i64 r)) ∧ w' = w := by
  have h0 : (0 : Int) ≤ (n : Int) ∧ (n : Int) < 256 := by omega
  have g1 : ¬ (4294967296 : Int) ≤ (n : Int) := by omega
  have g2 : ¬ (65536 : Int) ≤ (n : Int) := by omega
  have g3 : ¬ (256 : Int) ≤ (n : Int) := by omega
  have hn2 : n < 256 := by omega
  go_enter Try.func54, Try.ntmps54
  go_wp2_with (refine wpList_index_at rfl 9 _ _ rfl (.int .u8 _) (fun W => run_char2 _ n (Nat.lt_of_lt_of_eq hn2 (by kernel_rfl)) _ rfl W) ?_)
  go_ret
  exact ⟨⟨_, rfl⟩, rfl⟩
set_option maxRecDepth 100000 in
set_option maxHeartbeats 8000000 in
theorem Len_any (n : Nat) (w : World) (hn : n ≤ 12) : Calls Try.prog 39 #[.int .u64 (n : Int)] w fun e w' => (∃ r : Int, e = .returned (.int .i64 r)) ∧ w' = w := by
  go_enter Try.func39, Try.ntmps39
  go_wp2_with fail
  refine (Len64_any n w hn).mono ?_
  rintro e w' ⟨⟨r, rfl⟩, rfl⟩
  go_wp2
  go_ret
  exact ⟨⟨_, rfl⟩, rfl⟩
set_option maxRecDepth 100000 in
set_option maxHeartbeats 8000000 in
theorem Pdq_up (v : Value) (l : List Nat) (r : Int) (w : World) (hv : HasK w (encN .u64) v l) (hs : flatUp l) (hl : l.length ≤ 12) :
    Calls Try.prog 38 #[v, .int .i64 0, .int .i64 (l.length : Int), .int .i64 r] w fun e w' => e = .returned (.tuple #[]) ∧ Below w.heap.size w w' := by
  obtain ⟨p, cap, hve, h1, h2⟩ := hv.form
  have hI : (l.length : Int) ≤ 12 := by omega
  have HV := Lib.hid hv
  have HS := Lib.hid hs
  obtain ⟨n, hn⟩ : ∃ n, l.length = n := ⟨_, rfl⟩
  have HN := Lib.hid hn
  have HVE := Lib.hid hve
  rw [hn] at hI hl ⊢
  clear hv hs hn hve h1 h2
  go_enter Try.func38, Try.ntmps38
  go_wp2_with fail
  go_loopw [1, 2] (fun v1 v2 wr => v1 = .int .i64 0 ∧ v2 = .int .i64 (n : Int) ∧ wr = w) (fun _ _ _ => 0)
  case atStart => exact ⟨rfl, rfl, rfl⟩
  case round =>
    obtain ⟨rfl, rfl, rfl⟩ := hrel
    have hI2 : (n : Int) ≤ 12 := hI
    go_wp2_with fail
    have hq := Insertion_up v l wr HV.out HS.out (by rw [HN.out]; omega)
    rw [HN.out] at hq
    refine hq.mono ?_
    rintro e w' ⟨rfl, hb⟩
    have HB := Lib.hid hb
    clear hb hq
    go_wp2
    first | go_end0 | (refine bodyPost_ret (results_none rfl _ _ _) rfl ?_) | (refine bodyPost_end (results_none rfl _ _ _) rfl ?_)
    exact ⟨rfl, HB.out⟩
set_option maxRecDepth 100000 in
set_option maxHeartbeats 8000000 in
theorem Sort_up (v : Value) (l : List Nat) (w : World) (hv : HasK w (encN .u64) v l) (hs : flatUp l) (hl : l.length ≤ 12) :
    Calls Try.prog 27 #[v] w fun e w' => e = .returned (.tuple #[]) ∧ Below w.heap.size w w' := by
  obtain ⟨p, cap, rfl, h1, h2⟩ := hv.form
  have hI : (0 : Int) ≤ (l.length : Int) ∧ (l.length : Int) ≤ 12 := by omega
  have HV := Lib.hid hv
  have HS := Lib.hid hs
  have HL := Lib.hid hl
  obtain ⟨n, hn⟩ : ∃ n, l.length = n := ⟨_, rfl⟩
  have HN := Lib.hid hn
  rw [hn] at hI h1 hl HV ⊢
  clear hv hs hn h2
  go_enter Try.func27, Try.ntmps27
  go_wp2_with fail
  refine (Len_any n w hl).mono ?_
  rintro e w1 ⟨⟨r, rfl⟩, rfl⟩
  go_wp2_with fail
  have hq := Pdq_up _ l r w1 HV.out HS.out HL.out
  rw [HN.out] at hq
  refine hq.mono ?_
  rintro e w' ⟨rfl, hb⟩
  have HB := Lib.hid hb
  clear hb hq
  go_wp2
  first | go_end0 | (refine bodyPost_end (results_none rfl _ _ _) rfl ?_) | (refine bodyPost_ret (results_none rfl _ _ _) rfl ?_)
  exact ⟨rfl, HB.out⟩
end Go.Proofs.Ytfgfamafjkjakab
