/-
  The document's own reading of numbers and texts out of bytes (rolodexref3): what Small and String answer.
-/
import Derived.Test.YtlmpokkpkglbfaaGet
namespace Go.Proofs.Ytlmpokkpkglbfaa
open Go.ChangeShapes Go.WideShapes Go.ChangeAt Go.RowKit Go.Deep
set_option linter.unusedVariables false

theorem HasA.string {w : World} {v : Value} {l : List UInt8} (h : HasA w v l) (n : Nat) : (convert 25 9 v).run Try.prog (w.drewN n) = .ok (.string ⟨l.toArray⟩) (w.drewN n) := by
  obtain ⟨p, cap, b, o, rfl, h1, h2, h3, hc⟩ := h
  by_cases h0 : 0 < l.length
  · obtain ⟨rfl, _⟩ := h3 h0
    exact run_convert_bytes_back (P := Try.prog) (w.drewN n) 25 9 5 ⟨b, o, none⟩ cap l Try.underlying25 Try.underlying5 Try.underlying9 (fun j hj => by rw [add_plain]; exact hc j hj)
  · obtain rfl : l = [] := List.eq_nil_of_length_eq_zero (by omega)
    cases p with
    | none => exact run_convert_bytes_nil (P := Try.prog) (w.drewN n) 25 5 Try.underlying25 Try.underlying5 0 cap 9 Try.underlying9
    | some a => exact run_convert_bytes_back (P := Try.prog) (w.drewN n) 25 9 5 a cap [] Try.underlying25 Try.underlying5 Try.underlying9 (fun j hj => absurd hj (Nat.not_lt_zero _))
theorem size_one (W : World) : (sizeOf (Try.prog.elem 25)).run Try.prog W = .ok 1 W := by kernel_rfl
/-- v[d:] and v[:d], wherever v points. -/
theorem HasA.from {w : World} {v : Value} {l : List UInt8} (h : HasA w v l) (d : Nat) (lo : Int) (hlo : lo = d) (hd : d ≤ l.length) :
    ∃ p' n' c', (∀ W, (Instr.slice 25 v (some (.int .i64 lo)) none none).run Try.prog W = .ok (.slice p' n' c') W) ∧ n' = l.length - d ∧ ∀ W0, HasA W0 v l → HasA W0 (.slice p' n' c') (l.drop d) := by
  obtain ⟨p, cap, b, o, rfl, h1, h2, h3, hc⟩ := h
  subst hlo
  have hr : ∀ W, (Instr.slice 25 (.slice p l.length cap) (some (.int .i64 (d : Int))) none none).run Try.prog W = .ok (sliced p d l.length cap 1) W := fun W => by
    rw [run_slice_l (P := Try.prog) (w := W) (t := 25) (a := p) (len := l.length) (cap := cap) Try.underlying25 .i64 (d : Int) (by omega) (by omega), size_one]
    simp [Result.andThen]
  refine ⟨_, _, _, fun W => hr W, rfl, fun W0 h0 => ?_⟩
  by_cases hl : 0 < l.length
  · obtain ⟨rfl, hb⟩ := h3 hl
    refine hasA_sub h0 d _ _ _ rfl (by omega) (by omega) (fun hn => ?_)
    rw [if_neg (by omega)]
    simp only [Option.map_some, Nat.mul_one, add_plain]
  · obtain rfl : l = [] := List.eq_nil_of_length_eq_zero (by omega)
    obtain rfl : d = 0 := by simpa using hd
    exact ⟨_, _, 0, 0, rfl, Nat.zero_le _, by omega, fun h => absurd h (Nat.lt_irrefl _), fun j hj => absurd hj (Nat.not_lt_zero _)⟩
theorem HasA.upto {w : World} {v : Value} {l : List UInt8} (h : HasA w v l) (d : Nat) (hd : d ≤ l.length) :
    ∃ p' n' c', (∀ W, (Instr.slice 25 v none (some (.int .i64 (d : Int))) none).run Try.prog W = .ok (.slice p' n' c') W) ∧ HasA w (.slice p' n' c') (l.take d) := by
  obtain ⟨p, cap, b, o, rfl, h1, h2, h3, hc⟩ := h
  have hr : ∀ W, (Instr.slice 25 (.slice p l.length cap) none (some (.int .i64 (d : Int))) none).run Try.prog W = .ok (sliced p 0 d cap 1) W := fun W => by
    rw [run_slice_h (P := Try.prog) (w := W) (t := 25) (a := p) (len := l.length) (cap := cap) Try.underlying25 .i64 (d : Int) (by omega) (by omega), size_one]
    simp [Result.andThen]
  refine ⟨_, _, _, fun W => hr W, ⟨(if cap = 0 then p else p.map (·.add (0 * 1))), cap, b, o, ?_, by rw [List.length_take]; omega, h2, fun h => ?_, fun j hj => ?_⟩⟩
  · rw [List.length_take, Nat.min_eq_left hd]; rfl
  · rw [List.length_take] at h
    obtain ⟨rfl, hb⟩ := h3 (by omega)
    refine ⟨?_, hb⟩
    rw [if_neg (by omega)]
    simp [Addr.add]
  · rw [List.length_take] at hj
    rw [List.getElem_take]
    exact hc j (by omega)

def Fine (l : List UInt8) (most : Int) : Prop := (num l).2 ≠ 0 ∧ 0 ≤ most ∧ ((num l).1 : Int) ≤ most
/-- What Small answers. -/
def Sml (w : World) (x : Value) (l : List UInt8) (most : Int) (e : Ending) (w' : World) : Prop :=
  ∃ (V : Int) (p : Option Addr) (a c : Nat) (f : Bool) (n : Nat), e = .returned (.tuple #[.int .i64 V, .slice p a c, .bool f]) ∧ w' = w.drewN n ∧
    ((f = true ∧ Fine l most ∧ V = ((num l).1 : Int) ∧ ∀ W0, HasA W0 x l → HasA W0 (.slice p a c) (l.drop (num l).2)) ∨ (f = false ∧ ¬ Fine l most))
theorem sml_no {w : World} {x : Value} {l : List UInt8} {most : Int} {V : Int} {p : Option Addr} {a c n : Nat} (h : ¬ Fine l most) : Sml w x l most (.returned (.tuple #[.int .i64 V, .slice p a c, .bool false])) (w.drewN n) :=
  ⟨V, p, a, c, false, n, rfl, rfl, .inr ⟨rfl, h⟩⟩
theorem sml_yes {w : World} {x : Value} {l : List UInt8} {most : Int} {V : Int} {p : Option Addr} {a c n : Nat} (h : Fine l most) (hV : V = ((num l).1 : Int)) (hN : ∀ W0, HasA W0 x l → HasA W0 (.slice p a c) (l.drop (num l).2)) : Sml w x l most (.returned (.tuple #[.int .i64 V, .slice p a c, .bool true])) (w.drewN n) :=
  ⟨V, p, a, c, true, n, rfl, rfl, .inl ⟨rfl, h, hV, hN⟩⟩
theorem Get_has (w : World) (v : Value) (l : List UInt8) (h : HasA w v l) : Calls Try.prog 21 #[v] w (Got w v l) := by
  obtain ⟨p, cap, b, o, rfl, h1, h2, h3, hc⟩ := h
  exact Get_any p b o cap l w h1 h2 h3 hc

set_option maxRecDepth 100000 in
theorem Small_has (w : World) (v : Value) (l : List UInt8) (h : HasA w v l) (most : Int) (m1 : -9223372036854775808 ≤ most) (m2 : most ≤ 9223372036854775807) : Calls Try.prog 23 #[v, .int .i64 most] w (Sml w v l most) := by
  have HH := Lib.hid h
  obtain ⟨p0, cap0, b0, o0, rfl, k1, k2, k3, kc⟩ := h
  clear k1 k2 k3 kc
  go_enter Try.func23, Try.ntmps23
  go_wp2_with fail
  refine (Get_has w _ l HH.out).mono ?_
  rintro e w' ⟨V, N, f, n, rfl, rfl, ⟨p, a, c, rfl⟩, hh⟩
  rcases hh with ⟨rfl, h0, hV, hN⟩ | ⟨rfl, h0⟩
  · have hl := num_lt l
    have hV0 : 0 ≤ V := by omega
    have HN := Lib.hid hN
    have HV := Lib.hid hV
    clear hN
    by_cases mn : most < 0
    · have HF : Hid (¬ Fine l most) := Lib.hid (fun h => by have := h.2.1; omega)
      clear hV h0 hl
      go_wp2
      go_ret3
      exact sml_no HF.out
    · have HM := Lib.hid (IntWalk.u64_in most (by omega))
      by_cases mv : most < V
      · have HF : Hid (¬ Fine l most) := Lib.hid (fun h => by have := h.2.2; omega)
        clear hV h0 hl
        go_wp2
        go_ret3
        exact sml_no HF.out
      · have HF : Hid (Fine l most) := Lib.hid ⟨h0, by omega, by omega⟩
        have hv2 : V ≤ 9223372036854775807 := by omega
        clear hV h0 hl
        go_wp2
        go_ret3
        exact sml_yes HF.out HV.out HN.out
  · have HF : Hid (¬ Fine l most) := Lib.hid (fun h => h.1 h0)
    clear h0
    go_wp2
    go_ret3
    exact sml_no HF.out

def FineS (l : List UInt8) (most : Int) : Prop := Fine l most ∧ (num l).2 + (num l).1 ≤ l.length
/-- What String answers. -/
def Str (w : World) (x : Value) (l : List UInt8) (most : Int) (e : Ending) (w' : World) : Prop :=
  ∃ (t : ByteArray) (p : Option Addr) (a c : Nat) (f : Bool) (n : Nat), e = .returned (.tuple #[.string t, .slice p a c, .bool f]) ∧ w' = w.drewN n ∧
    ((f = true ∧ FineS l most ∧ t = ⟨((l.drop (num l).2).take (num l).1).toArray⟩ ∧ ∀ W0, HasA W0 x l → HasA W0 (.slice p a c) (l.drop ((num l).2 + (num l).1))) ∨ (f = false ∧ ¬ FineS l most))
theorem str_no {w : World} {x : Value} {l : List UInt8} {most : Int} {t : ByteArray} {p : Option Addr} {a c n : Nat} (h : ¬ FineS l most) : Str w x l most (.returned (.tuple #[.string t, .slice p a c, .bool false])) (w.drewN n) :=
  ⟨t, p, a, c, false, n, rfl, rfl, .inr ⟨rfl, h⟩⟩
theorem str_yes {w : World} {x : Value} {l : List UInt8} {most : Int} {t : ByteArray} {p : Option Addr} {a c n : Nat} (h : FineS l most) (ht : t = ⟨((l.drop (num l).2).take (num l).1).toArray⟩) (hN : ∀ W0, HasA W0 x l → HasA W0 (.slice p a c) (l.drop ((num l).2 + (num l).1))) : Str w x l most (.returned (.tuple #[.string t, .slice p a c, .bool true])) (w.drewN n) :=
  ⟨t, p, a, c, true, n, rfl, rfl, .inl ⟨rfl, h, ht, hN⟩⟩
set_option maxRecDepth 100000 in
theorem String_has (w : World) (v : Value) (l : List UInt8) (h : HasA w v l) (most : Int) (m1 : -9223372036854775808 ≤ most) (m2 : most ≤ 9223372036854775807) : Calls Try.prog 24 #[v, .int .i64 most] w (Str w v l most) := by
  have HH := Lib.hid h
  obtain ⟨p0, cap0, b0, o0, rfl, k1, k2, k3, kc⟩ := h
  clear k1 k2 k3 kc
  go_enter Try.func24, Try.ntmps24
  go_wp2_with fail
  refine (Small_has w _ l HH.out most m1 m2).mono ?_
  rintro e w' ⟨V, p, a, c, f, n, rfl, rfl, hh⟩
  rcases hh with ⟨rfl, h0, hV, hN⟩ | ⟨rfl, h0⟩
  · have hnl := num_len l
    have hN0 := hN w HH.out
    have ha : a = l.length - (num l).2 := by
      obtain ⟨p', cap', b', o', he, _⟩ := hN0
      simp only [Value.slice.injEq] at he
      rw [he.2.1, List.length_drop]
    by_cases mv : (a : Int) < V
    · have HF : Hid (¬ FineS l most) := Lib.hid (fun h => by have := h.2; omega)
      clear hV h0 hN hN0 ha hnl
      go_wp2
      go_ret3
      exact str_no HF.out
    · have HF : Hid (FineS l most) := Lib.hid ⟨h0, by omega⟩
      have hdl : (l.drop (num l).2).length = l.length - (num l).2 := List.length_drop
      obtain ⟨p1, n1, c1, hs1, hh1⟩ := hN0.upto (num l).1 (by omega)
      obtain ⟨p2, n2, c2, hs2, -, hh2⟩ := hN0.from (num l).1 (num l).1 rfl (by omega)
      have hh2 : ∀ W0, HasA W0 _ l → HasA W0 (.slice p2 n2 c2) (l.drop ((num l).2 + (num l).1)) := fun W0 h => by have := hh2 W0 (hN W0 h); rwa [List.drop_drop] at this
      have HN2 := Lib.hid hh2
      have hkc := fun q => hh1.string q
      have hkc0 : (convert 25 9 (.slice p1 n1 c1)).run Try.prog w = .ok (.string ⟨((l.drop (num l).2).take (num l).1).toArray⟩) w := hkc 0
      generalize hX : ((l.drop (num l).2).take (num l).1) = X at hkc hkc0
      have HX := Lib.hid hX
      rw [← hV] at hs1 hs2
      clear hV h0 hN hN0 ha hnl hh1 hh2 hdl hX
      go_wp2
      go_quiet (fail)
      go_wp2
      go_ret3
      first
        | exact str_yes HF.out (by rw [HX.out]) HN2.out
        | (rw [World.drewN_drewN]; exact str_yes HF.out (by rw [HX.out]) HN2.out)
  · have HF : Hid (¬ FineS l most) := Lib.hid (fun h => h0 h.1)
    clear h0
    go_wp2
    go_ret3
    exact str_no HF.out
end Go.Proofs.Ytlmpokkpkglbfaa
