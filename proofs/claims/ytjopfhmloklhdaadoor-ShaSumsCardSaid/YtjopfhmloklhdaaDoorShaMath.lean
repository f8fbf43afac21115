/-
  SHA-256 as plain mathematics on natural numbers below 2^32 (FIPS 180-4). No function of the project is named here.
-/
import Derived.Test.YtjopfhmloklhdaaDoorRows
namespace Go.Proofs.YtjopfhmloklhdaaDoor
set_option linter.unusedVariables false

def M32 : Nat := 4294967296
/-- Turned right by r bits. -/
def rotr (x r : Nat) : Nat := x % 2 ^ r * 2 ^ (32 - r) + x / 2 ^ r
theorem rotr_lt (x r : Nat) (hx : x < 4294967296) (hr : r ≤ 32) : rotr x r < 4294967296 := by
  unfold rotr
  have h1 : x / 2 ^ r < 2 ^ (32 - r) := by
    rw [Nat.div_lt_iff_lt_mul (Nat.two_pow_pos r), ← Nat.pow_add, Nat.sub_add_cancel hr]
    exact hx
  have h2 : x % 2 ^ r + 1 ≤ 2 ^ r := Nat.mod_lt _ (Nat.two_pow_pos r)
  have h3 : (x % 2 ^ r + 1) * 2 ^ (32 - r) ≤ 2 ^ r * 2 ^ (32 - r) := Nat.mul_le_mul_right _ h2
  rw [← Nat.pow_add, Nat.add_sub_cancel' hr, Nat.add_mul, Nat.one_mul] at h3
  have h4 : (2 : Nat) ^ 32 = 4294967296 := by decide
  omega
theorem rotr_or (x r : Nat) (hx : x < 4294967296) (hr : r ≤ 32) : (x * 2 ^ (32 - r)) % 4294967296 ||| x / 2 ^ r = rotr x r := by
  unfold rotr
  have h1 : x / 2 ^ r < 2 ^ (32 - r) := by
    rw [Nat.div_lt_iff_lt_mul (Nat.two_pow_pos r), ← Nat.pow_add, Nat.sub_add_cancel hr]
    exact hx
  have h5 : (4294967296 : Nat) = 2 ^ r * 2 ^ (32 - r) := by rw [← Nat.pow_add, Nat.add_sub_cancel' hr]
  have h6 : (x * 2 ^ (32 - r)) % 4294967296 = x % 2 ^ r * 2 ^ (32 - r) := by
    rw [h5, Nat.mul_mod_mul_right]
  rw [h6, Nat.mul_comm (x % 2 ^ r), ← Nat.two_pow_add_eq_or_of_lt h1]
def sig0 (x : Nat) : Nat := rotr x 7 ^^^ rotr x 18 ^^^ x / 8
def sig1 (x : Nat) : Nat := rotr x 17 ^^^ rotr x 19 ^^^ x / 1024
def Sig0 (x : Nat) : Nat := rotr x 2 ^^^ rotr x 13 ^^^ rotr x 22
def Sig1 (x : Nat) : Nat := rotr x 6 ^^^ rotr x 11 ^^^ rotr x 25
theorem xor_lt {a b : Nat} (ha : a < 4294967296) (hb : b < 4294967296) : a ^^^ b < 4294967296 := Nat.xor_lt_two_pow (n := 32) ha hb
theorem sig0_lt (x : Nat) (h : x < 4294967296) : sig0 x < 4294967296 := xor_lt (xor_lt (rotr_lt x 7 h (by omega)) (rotr_lt x 18 h (by omega))) (by omega)
theorem sig1_lt (x : Nat) (h : x < 4294967296) : sig1 x < 4294967296 := xor_lt (xor_lt (rotr_lt x 17 h (by omega)) (rotr_lt x 19 h (by omega))) (by omega)
theorem Sig0_lt (x : Nat) (h : x < 4294967296) : Sig0 x < 4294967296 := xor_lt (xor_lt (rotr_lt x 2 h (by omega)) (rotr_lt x 13 h (by omega))) (rotr_lt x 22 h (by omega))
theorem Sig1_lt (x : Nat) (h : x < 4294967296) : Sig1 x < 4294967296 := xor_lt (xor_lt (rotr_lt x 6 h (by omega)) (rotr_lt x 11 h (by omega))) (rotr_lt x 25 h (by omega))
/-- The i-th word of a block of 64 bytes. -/
def word (B : List UInt8) (i : Nat) : Nat := (B.getD (4 * i) 0).toNat * 16777216 + (B.getD (4 * i + 1) 0).toNat * 65536 + (B.getD (4 * i + 2) 0).toNat * 256 + (B.getD (4 * i + 3) 0).toNat
theorem word_lt (B : List UInt8) (i : Nat) : word B i < 4294967296 := by
  unfold word
  have h1 := (B.getD (4 * i) 0).toNat_lt
  have h2 := (B.getD (4 * i + 1) 0).toNat_lt
  have h3 := (B.getD (4 * i + 2) 0).toNat_lt
  have h4 := (B.getD (4 * i + 3) 0).toNat_lt
  omega
/-- One word more. -/
def more (l : List Nat) : List Nat := l ++ [(l.getD (l.length - 16) 0 + sig0 (l.getD (l.length - 15) 0) + l.getD (l.length - 7) 0 + sig1 (l.getD (l.length - 2) 0)) % 4294967296]
/-- The first n words of the schedule (n from 16 on; ahead of that those of the block). -/
def sched (B : List UInt8) : Nat → List Nat
  | 0 => []
  | n + 1 => if n < 16 then sched B n ++ [word B n] else more (sched B n)
theorem sched_len (B : List UInt8) : ∀ n, (sched B n).length = n
  | 0 => rfl
  | n + 1 => by
    unfold sched more
    have := sched_len B n
    split <;> simp [this]
theorem sched_lt (B : List UInt8) : ∀ n, ∀ x ∈ sched B n, x < 4294967296
  | 0, x, h => nomatch h
  | n + 1, x, h => by
    unfold sched more at h
    split at h
    · rcases List.mem_append.1 h with h | h
      · exact sched_lt B n x h
      · rw [List.mem_singleton] at h; subst h; exact word_lt B n
    · rcases List.mem_append.1 h with h | h
      · exact sched_lt B n x h
      · rw [List.mem_singleton] at h; subst h; exact Nat.mod_lt _ (by omega)
theorem sched_get_lt (B : List UInt8) (n i : Nat) : (sched B n).getD i 0 < 4294967296 := by
  rw [List.getD_eq_getElem?_getD]
  rcases Nat.lt_or_ge i (sched B n).length with h | h
  · rw [List.getElem?_eq_getElem h]; exact sched_lt B n _ (List.getElem_mem h)
  · rw [List.getElem?_eq_none h]; decide
/-- The eight words at work. -/
structure Wk where
  a : Nat
  b : Nat
  c : Nat
  d : Nat
  e : Nat
  f : Nat
  g : Nat
  h : Nat
structure Wk.Lt (s : Wk) : Prop where
  a : s.a < 4294967296
  b : s.b < 4294967296
  c : s.c < 4294967296
  d : s.d < 4294967296
  e : s.e < 4294967296
  f : s.f < 4294967296
  g : s.g < 4294967296
  h : s.h < 4294967296
def tOne (s : Wk) (k w : Nat) : Nat := (s.h + Sig1 s.e + ((s.e &&& s.f) ^^^ ((4294967295 - s.e) &&& s.g)) + k + w) % 4294967296
def tTwo (s : Wk) : Nat := (Sig0 s.a + ((s.a &&& s.b) ^^^ (s.a &&& s.c) ^^^ (s.b &&& s.c))) % 4294967296
def turn1 (s : Wk) (k w : Nat) : Wk := ⟨(tOne s k w + tTwo s) % 4294967296, s.a, s.b, s.c, (s.d + tOne s k w) % 4294967296, s.e, s.f, s.g⟩
def turns (K W : List Nat) (s : Wk) : Nat → Wk
  | 0 => s
  | n + 1 => turn1 (turns K W s n) (K.getD n 0) (W.getD n 0)
theorem turn1_lt {s : Wk} (h : s.Lt) (k w : Nat) : (turn1 s k w).Lt := ⟨Nat.mod_lt _ (by omega), h.a, h.b, h.c, Nat.mod_lt _ (by omega), h.e, h.f, h.g⟩
theorem turns_lt (K W : List Nat) {s : Wk} (h : s.Lt) : ∀ n, (turns K W s n).Lt
  | 0 => h
  | n + 1 => turn1_lt (turns_lt K W h n) _ _
def Wk.list (s : Wk) : List Nat := [s.a, s.b, s.c, s.d, s.e, s.f, s.g, s.h]
def Wk.of (l : List Nat) : Wk := ⟨l.getD 0 0, l.getD 1 0, l.getD 2 0, l.getD 3 0, l.getD 4 0, l.getD 5 0, l.getD 6 0, l.getD 7 0⟩
/-- A block mixed into a state. -/
def addW (s u : Wk) : Wk := ⟨(s.a + u.a) % 4294967296, (s.b + u.b) % 4294967296, (s.c + u.c) % 4294967296, (s.d + u.d) % 4294967296, (s.e + u.e) % 4294967296, (s.f + u.f) % 4294967296, (s.g + u.g) % 4294967296, (s.h + u.h) % 4294967296⟩
theorem addW_lt (s u : Wk) : (addW s u).Lt := ⟨Nat.mod_lt _ (by omega), Nat.mod_lt _ (by omega), Nat.mod_lt _ (by omega), Nat.mod_lt _ (by omega), Nat.mod_lt _ (by omega), Nat.mod_lt _ (by omega), Nat.mod_lt _ (by omega), Nat.mod_lt _ (by omega)⟩
def mixW (K : List Nat) (s : Wk) (B : List UInt8) : Wk := addW s (turns K (sched B 64) s 64)
theorem mixW_lt (K : List Nat) (s : Wk) (B : List UInt8) : (mixW K s B).Lt := addW_lt _ _
/-- The same, on lists. -/
def mixOn (K : List Nat) (st : List Nat) (B : List UInt8) : List Nat := ((Wk.of st).list.zip (turns K (sched B 64) (Wk.of st) 64).list).map fun p => (p.1 + p.2) % 4294967296
theorem mixOn_len (K st : List Nat) (B : List UInt8) : (mixOn K st B).length = 8 := by simp [mixOn, Wk.list]
end Go.Proofs.YtjopfhmloklhdaaDoor
