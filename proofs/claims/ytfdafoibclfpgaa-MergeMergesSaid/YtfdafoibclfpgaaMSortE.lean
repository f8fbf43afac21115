/-
  Package slices, of numbers: Sort, of a row of the call's own, of any length.
-/
import Derived.Test.YtfdafoibclfpgaaSortD
import Derived.Sort.LotA
namespace Go.Proofs.Ytfdafoibclfpgaa
open Go.ChangeShapes Go.WideShapes Go.ChangeAt Go.RowKit Go.Deep
set_option linter.unusedVariables false
set_option linter.unusedSimpArgs false
/-- The numbers, ascending. -/
def sortN (l : List Nat) : List Nat := l.mergeSort (fun x y => !ltB y x)
theorem sortN_len (l : List Nat) : (sortN l).length = l.length := List.length_mergeSort l
theorem sortN_nil : sortN [] = [] := by simp [sortN]
theorem sorted_is {d D : Array Nat} (hp : Sort.PermIn 0 d.size d D) (hs : Sort.SortedIn ltB 0 d.size D) : D.toList = sortN d.toList :=
  Sort.sorted_unique_holds swo_ltB (fun x y h1 h2 => by unfold ltB at h1 h2; rw [decide_eq_false_iff_not] at h1 h2; omega) d D hp hs
theorem flat_map : ∀ l : List Nat, flatK (encN .u64) l = l.map (fun x : Nat => Value.int .u64 (x : Int))
  | [] => rfl
  | _ :: r => congrArg (List.cons _) (flat_map r)
theorem arr_take {w : World} {g : Nat} {D : Array Nat} {cur : Array Value} {T : TypeId} (hA : Arr w g D) (hc : w.heap[g]? = some (.cells cur T (0, 0))) : cur.toList.take D.size = flatK (encN .u64) D.toList := by
  rw [flat_map]
  apply List.ext_getElem?
  intro i
  by_cases hi : i < D.size
  · rw [List.getElem?_take_of_lt hi, Array.getElem?_toList]
    have h : cur[i]? = some (.int .u64 ((D[i]! : Nat) : Int)) := by have h := hA.cell i hi; simpa [World.cell?, hc] using h
    rw [h, List.getElem?_map, Array.getElem?_toList, Array.getElem?_eq_getElem hi]
    rw [getElem!_pos D i hi]
    rfl
  · rw [List.getElem?_eq_none (by rw [List.length_take]; omega), List.getElem?_eq_none (by rw [List.length_map, Array.length_toList]; omega)]
def Sorted_ (g n : Nat) (d : Array Nat) (w : World) (e : Ending) (w' : World) : Prop := e = .returned (.tuple #[]) ∧ ∃ D : Array Nat, Arr w' g D ∧ D.toList = sortN d.toList ∧ D.size = n ∧ Kq g w w'
theorem sorted_end {g n : Nat} {d D : Array Nat} {w w' : World} (h1 : Arr w' g D) (h2 : D.toList = sortN d.toList) (h3 : D.size = n) (h4 : Kq g w w') : Sorted_ g n d w (.returned (.tuple #[])) w' := ⟨rfl, D, h1, h2, h3, h4⟩
set_option maxRecDepth 100000 in
set_option maxHeartbeats 32000000 in
theorem Sort_gen (g n cap : Nat) (d : Array Nat) (w : World) (hA : Arr w g d) (hn : d.size = n) (hnc : n ≤ cap) (hcap : (cap : Int) ≤ 9223372036854775807) (hn16 : n < 65536) :
    Calls Try.prog 22 #[.slice (some ⟨g, 0, none⟩) n cap] w fun e w' => Sorted_ g n d w e w' := by
  have HA := Lib.hid hA
  have HN := Lib.hid hn
  have hnI : (n : Int) ≤ 65536 := by omega
  clear hA hn
  go_enter Try.func22, Try.ntmps22
  go_wp2_with fail
  refine (Len_gen n w hn16).mono ?_
  rintro e w1 ⟨⟨r, rfl, h⟩, rfl⟩
  have hr := h.2.2
  clear h
  go_wp2_with fail
  refine (Pdq_any g n cap hnc hcap hn16 (n + 1) 0 n r d w1 (by omega) (Nat.zero_le _) (Nat.le_refl _) HA.out HN.out (by omega) (.inl rfl)).mono ?_
  rintro e w2 ⟨rfl, D, r1, r2, r3, r4, r5⟩
  have hd := sorted_is (d := d) (D := D) (by rw [HN.out]; exact r2) (by rw [HN.out]; exact r3)
  have HF := Lib.hid (sorted_end r1 hd r4 r5)
  clear r1 r2 r3 r4 r5 hd
  go_wp2
  first | go_end0 | (refine bodyPost_end (results_none rfl _ _ _) rfl ?_) | (refine bodyPost_ret (results_none rfl _ _ _) rfl ?_)
  exact HF.out
theorem own_parts {w : World} {B : Nat} {g n c : Nat} {l : List Nat} (h : OwnK w B 27 (encN .u64) (.slice (some ⟨g, 0, none⟩) n c) l) (h0 : 0 < l.length) : ∃ cur : Array Value, n = l.length ∧ B ≤ g ∧ g < w.heap.size ∧ w.heap[g]? = some (.cells cur 27 (0, 0)) ∧ n ≤ c ∧ c ≤ maxLen ∧ cur.size = c ∧ cur.toList.take n = flatK (encN .u64) l := by
  rcases h.2 with ⟨hv, _⟩ | ⟨g', cap, cur, hv, h2, h3, h4, h5, h6, h7⟩
  · cases hv
  · simp only [Value.slice.injEq, Option.some.injEq, Addr.mk.injEq, and_true] at hv
    obtain ⟨rfl, rfl, rfl⟩ := hv
    refine ⟨cur, rfl, h2, lt_of_block h3, h3, h4, h5, by rw [h6]; exact Nat.mul_one _, ?_⟩
    have := h7
    rw [show l.length * (encN .u64).k = l.length from Nat.mul_one _] at this
    exact this
theorem own_of {w : World} {B : Nat} {g n c : Nat} {l : List Nat} {cur : Array Value} (hn : n = l.length) (hB : B ≤ g) (hh : w.heap[g]? = some (.cells cur 27 (0, 0))) (hnc : n ≤ c) (hc : c ≤ maxLen) (hs : cur.size = c) (ht : cur.toList.take n = flatK (encN .u64) l) : OwnK w B 27 (encN .u64) (.slice (some ⟨g, 0, none⟩) n c) l := by
  subst hn
  refine ⟨flatK_len _ _, .inr ⟨g, c, cur, rfl, hB, hh, hnc, hc, by rw [hs]; exact (Nat.mul_one _).symm, ?_⟩⟩
  rw [show l.length * (encN .u64).k = l.length from Nat.mul_one _]
  exact ht
theorem Sort_own (v : Value) (l : List Nat) (w : World) (B : Nat) (hB : B ≤ w.heap.size) (hv : OwnK w B 27 (encN .u64) v l) (hl : l.length < 65536) (h0 : 0 < l.length) :
    Calls Try.prog 22 #[v] w fun e w' => e = .returned (.tuple #[]) ∧ OwnK w' B 27 (encN .u64) v (sortN l) ∧ Below B w w' := by
  obtain ⟨g, c, rfl, hg, hgl, h1, h2, hc, hf⟩ := hv.form h0
  obtain ⟨cur, -, -, -, hcur, -, -, hsz, htk⟩ := own_parts (n := l.length) hv h0
  have hA : Arr w g l.toArray := ⟨fun i hi => by
    have hi' : i < l.length := by simpa using hi
    have h := hc i hi' 0 (.int .u64 ((l[i] : Nat) : Int)) rfl
    rw [show i * (encN .u64).k + 0 = i from Nat.mul_one i] at h
    rw [h, getElem!_pos l.toArray i hi]
    rfl, hf, hgl⟩
  refine (Sort_gen g l.length c l.toArray w hA (by simp) h1 (by unfold maxLen at h2; omega) hl).mono ?_
  rintro e w' ⟨rfl, D, hA', hD, hDs, hK⟩
  obtain ⟨cur', hcur', hsz'⟩ := hK.shape cur _ hcur
  rw [List.toList_toArray] at hD
  refine ⟨rfl, own_of (sortN_len l).symm hg hcur' h1 h2 (hsz'.trans hsz) ?_, hK.below hg hB⟩
  rw [← hDs, arr_take hA' hcur', hD]
end Go.Proofs.Ytfdafoibclfpgaa
