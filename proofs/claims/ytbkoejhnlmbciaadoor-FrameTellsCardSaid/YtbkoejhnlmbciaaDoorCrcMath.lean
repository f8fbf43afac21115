/-
  Check sums, plain mathematics: a step is linear and loses nothing; four steps by a table; a change within four bytes is told. No program is named here.
-/
import Derived.Says
namespace Go.Proofs.YtbkoejhnlmbciaaDoor
set_option linter.unusedVariables false

/-- One step of the register. -/
def cL (c : Nat) : Nat := if c % 2 = 1 then (c / 2) ^^^ 2197175160 else c / 2
theorem half_xor (a b : Nat) : (a ^^^ b) / 2 = (a / 2) ^^^ (b / 2) := by
  have h := Nat.shiftRight_xor_distrib (a := a) (b := b) (i := 1)
  simpa [Nat.shiftRight_eq_div_pow] using h
theorem par_xor (a b : Nat) : (a ^^^ b) % 2 = (a % 2 + b % 2) % 2 := by
  have h : ((a ^^^ b) % 2 ^ 1) = (a % 2 ^ 1) ^^^ (b % 2 ^ 1) := Nat.xor_mod_two_pow
  rw [Nat.pow_one] at h
  rw [h]
  rcases Nat.mod_two_eq_zero_or_one a with h1 | h1 <;> rcases Nat.mod_two_eq_zero_or_one b with h2 | h2 <;> rw [h1, h2] <;> rfl
theorem cL_xor (a b : Nat) : cL (a ^^^ b) = cL a ^^^ cL b := by
  have hp := par_xor a b
  unfold cL
  rw [half_xor]
  rcases Nat.mod_two_eq_zero_or_one a with h1 | h1 <;> rcases Nat.mod_two_eq_zero_or_one b with h2 | h2 <;> rw [h1, h2] at hp <;> simp only [hp, h1, h2] <;> simp
  · rw [Nat.xor_assoc]
  · rw [Nat.xor_assoc, Nat.xor_comm (b / 2), ← Nat.xor_assoc]
  · rw [Nat.xor_assoc, Nat.xor_comm 2197175160 (b / 2 ^^^ 2197175160), Nat.xor_assoc (b / 2), Nat.xor_self, Nat.xor_zero]
theorem cL_even (y : Nat) : cL (2 * y) = y := by
  unfold cL; rw [if_neg (by omega)]; omega
theorem xz {a b : Nat} (h : a ^^^ b = 0) : a = b := by
  have h2 : (a ^^^ b) ^^^ b = b := by rw [h, Nat.zero_xor]
  rw [Nat.xor_assoc, Nat.xor_self, Nat.xor_zero] at h2
  exact h2
theorem cL_lt {c : Nat} (h : c < 4294967296) : cL c < 4294967296 := by
  unfold cL
  split
  · exact Nat.xor_lt_two_pow (n := 32) (by omega) (by omega)
  · omega
theorem cL_zero {c : Nat} (h : c < 4294967296) (h0 : cL c = 0) : c = 0 := by
  unfold cL at h0
  split at h0
  · have h1 : c / 2 = 2197175160 := xz h0
    omega
  · omega
/-- So many steps. -/
def cLs : Nat → Nat → Nat
  | 0, c => c
  | n + 1, c => cLs n (cL c)
theorem cLs_xor : ∀ (n a b : Nat), cLs n (a ^^^ b) = cLs n a ^^^ cLs n b
  | 0, _, _ => rfl
  | n + 1, a, b => by unfold cLs; rw [cL_xor, cLs_xor n]
theorem cLs_lt : ∀ (n : Nat) {c : Nat}, c < 4294967296 → cLs n c < 4294967296
  | 0, _, h => h
  | n + 1, _, h => by unfold cLs; exact cLs_lt n (cL_lt h)
theorem cLs_zero : ∀ (n : Nat) {c : Nat}, c < 4294967296 → cLs n c = 0 → c = 0
  | 0, _, _, h => h
  | n + 1, _, h, h0 => by unfold cLs at h0; exact cL_zero h (cLs_zero n (cL_lt h) h0)
theorem cLs_add : ∀ (n m c : Nat), cLs m (cLs n c) = cLs (n + m) c
  | 0, m, c => by rw [Nat.zero_add]; rfl
  | n + 1, m, c => by rw [Nat.add_right_comm]; exact cLs_add n m (cL c)
theorem cLs_pow : ∀ (n y : Nat), cLs n (2 ^ n * y) = y
  | 0, y => by unfold cLs; omega
  | n + 1, y => by unfold cLs; rw [show 2 ^ (n + 1) * y = 2 * (2 ^ n * y) by rw [Nat.pow_succ]; rw [Nat.mul_comm (2 ^ n) 2, Nat.mul_assoc], cL_even, cLs_pow n]
theorem cLs_nil : ∀ n, cLs n 0 = 0
  | 0 => rfl
  | n + 1 => by unfold cLs; exact cLs_nil n
/-- A step with a bit. -/
def cBit (c b : Nat) : Nat := if (c ^^^ b) % 2 = 1 then (c / 2) ^^^ 2197175160 else c / 2
theorem cBit_L (c b : Nat) (h : b ≤ 1) : cBit c b = cL (c ^^^ b) := by
  unfold cBit cL
  rw [half_xor, show b / 2 = 0 by omega, Nat.xor_zero]
/-- The byte's first bits. -/
theorem low_split (x k : Nat) : x % 2 ^ (k + 1) = (x % 2 ^ k) ^^^ (2 ^ k * (x / 2 ^ k % 2)) := by
  rw [Nat.mod_pow_succ]
  have h := Nat.two_pow_add_eq_or_of_lt (i := k) (b := x % 2 ^ k) (Nat.mod_lt _ (Nat.two_pow_pos k)) (x / 2 ^ k % 2)
  rw [Nat.add_comm, h]
  apply Nat.eq_of_testBit_eq
  intro i
  rw [Nat.testBit_or, Nat.testBit_xor]
  by_cases hi : i < k
  · have e : (2 ^ k * (x / 2 ^ k % 2)).testBit i = false := by rw [Nat.testBit_two_pow_mul]; simp; omega
    rw [e]; simp
  · have e : (x % 2 ^ k).testBit i = false := by rw [Nat.testBit_mod_two_pow]; simp; omega
    rw [e]; simp
/-- The register behind k bits of a byte. -/
def cBits (c x : Nat) : Nat → Nat
  | 0 => c
  | k + 1 => cBit (cBits c x k) (x / 2 ^ k % 2)
theorem cBits_L (c x : Nat) : ∀ k, cBits c x k = cLs k (c ^^^ (x % 2 ^ k))
  | 0 => by simp [cBits, cLs, Nat.mod_one]
  | k + 1 => by
    unfold cBits
    rw [cBit_L _ _ (by omega), cBits_L c x k, low_split, ← Nat.xor_assoc, ← cLs_add k 1]
    show cL _ = cLs 1 (cLs k _)
    rw [cLs_xor k (c ^^^ x % 2 ^ k), cLs_pow]
    rfl
/-- The register behind a byte. -/
def cByte (c x : Nat) : Nat := cLs 8 (c ^^^ x)
theorem cBits_byte (c x : Nat) (h : x < 256) : cBits c x 8 = cByte c x := by
  rw [cBits_L, Nat.mod_eq_of_lt (show x < 2 ^ 8 from h)]; rfl
theorem cByte_lt {c x : Nat} (h : c < 4294967296) (hx : x < 256) : cByte c x < 4294967296 := cLs_lt 8 (Nat.xor_lt_two_pow (n := 32) (by omega) (by omega))
/-- The table. -/
def cTab : List Nat := [0, 274646895, 549293790, 820201905, 1098587580, 1361435347, 1640403810, 1905808397, 2197175160, 2460548119, 2722870694, 2987750089, 3280807620, 3553878443, 3811616794, 4084100981]
theorem tab_ok : ∀ i, i < 16 → cTab.getD i 0 = cLs 4 i := by decide
theorem cNib (c : Nat) : (c / 16) ^^^ cTab.getD (c % 16) 0 = cLs 4 c := by
  rw [tab_ok _ (Nat.mod_lt _ (by omega))]
  have h := Nat.two_pow_add_eq_or_of_lt (i := 4) (b := c % 16) (Nat.mod_lt _ (by omega)) (c / 16)
  have hc : c = (2 ^ 4 * (c / 16)) ^^^ (c % 16) := by
    have e : c = 2 ^ 4 * (c / 16) + c % 16 := by omega
    conv => lhs; rw [e, h]
    apply Nat.eq_of_testBit_eq
    intro i
    rw [Nat.testBit_or, Nat.testBit_xor]
    by_cases hi : i < 4
    · have e : (2 ^ 4 * (c / 16)).testBit i = false := by rw [Nat.testBit_two_pow_mul]; simp; omega
      rw [e]; simp
    · have e : (c % 16).testBit i = false := by rw [show (16 : Nat) = 2 ^ 4 from rfl, Nat.testBit_mod_two_pow]; simp; omega
      rw [e]; simp
  conv => rhs; rw [hc, cLs_xor, cLs_pow]
/-- The register behind bytes. -/
def cRun : Nat → List UInt8 → Nat
  | c, [] => c
  | c, x :: r => cRun (cByte c x.toNat) r
theorem cRun_append : ∀ (c : Nat) (a b : List UInt8), cRun c (a ++ b) = cRun (cRun c a) b
  | _, [], _ => rfl
  | c, x :: r, b => cRun_append (cByte c x.toNat) r b
theorem cRun_lt : ∀ (l : List UInt8) {c : Nat}, c < 4294967296 → cRun c l < 4294967296
  | [], _, h => h
  | x :: r, c, h => cRun_lt r (cByte_lt h x.toNat_lt)
theorem cRun_snoc (c : Nat) (l : List UInt8) (k : Nat) (h : k < l.length) : cRun c (l.take (k + 1)) = cByte (cRun c (l.take k)) l[k].toNat := by
  rw [List.take_succ_eq_append_getElem h, cRun_append]; rfl
/-- Going on with a sum; a sum. -/
def crcMore (s : Nat) (l : List UInt8) : Nat := 4294967295 - cRun (4294967295 - s) l
def crcSum (l : List UInt8) : Nat := crcMore 0 l
theorem crcMore_lt (s : Nat) (l : List UInt8) : crcMore s l < 4294967296 := by unfold crcMore; omega
theorem crcMore_more (s : Nat) (a b : List UInt8) (hs : s < 4294967296) : crcMore (crcMore s a) b = crcMore s (a ++ b) := by
  unfold crcMore
  rw [cRun_append]
  have h := cRun_lt a (c := 4294967295 - s) (by omega)
  rw [show 4294967295 - (4294967295 - cRun (4294967295 - s) a) = cRun (4294967295 - s) a by omega]

/-! A change. -/
theorem cRun_diff : ∀ (l : List UInt8) {c d : Nat}, c < 4294967296 → d < 4294967296 → c ≠ d → cRun c l ≠ cRun d l
  | [], _, _, _, _, h => h
  | x :: r, c, d, hc, hd, h => by
    refine cRun_diff r (cByte_lt hc x.toNat_lt) (cByte_lt hd x.toNat_lt) fun e => h ?_
    have e2 : cLs 8 (c ^^^ d) = 0 := by
      have e3 : (c ^^^ x.toNat) ^^^ (d ^^^ x.toNat) = c ^^^ d := by
        rw [Nat.xor_comm d, Nat.xor_assoc, ← Nat.xor_assoc x.toNat, Nat.xor_self, Nat.zero_xor]
      rw [← e3, cLs_xor]
      exact (by rw [show c ^^^ x.toNat = c ^^^ x.toNat from rfl]; unfold cByte at e; rw [e, Nat.xor_self])
    exact xz (cLs_zero 8 (Nat.xor_lt_two_pow (n := 32) (by omega) (by omega)) e2)
theorem two_xor (k y x : Nat) (h : x < 2 ^ k) : 2 ^ k * y + x = (2 ^ k * y) ^^^ x := by
  rw [Nat.two_pow_add_eq_or_of_lt h]
  apply Nat.eq_of_testBit_eq
  intro i
  rw [Nat.testBit_or, Nat.testBit_xor]
  by_cases hi : i < k
  · have e : (2 ^ k * y).testBit i = false := by rw [Nat.testBit_two_pow_mul]; simp; omega
    rw [e]; simp
  · have e : x.testBit i = false := Nat.testBit_lt_two_pow (Nat.lt_of_lt_of_le h (Nat.pow_le_pow_right (by omega) (by omega)))
    rw [e]; simp
theorem cStep (c D : Nat) : cLs 8 (c ^^^ D) = (c / 256) ^^^ cLs 8 (D ^^^ (c % 256)) := by
  have h : c = (2 ^ 8 * (c / 256)) ^^^ (c % 256) := by rw [← two_xor 8 _ _ (Nat.mod_lt _ (by omega))]; omega
  conv => lhs; rw [h, Nat.xor_assoc, cLs_xor, cLs_pow, Nat.xor_comm (c % 256)]
theorem cByte_diff (c d x y : Nat) : cByte c x ^^^ cByte d y = cLs 8 ((c ^^^ d) ^^^ (x ^^^ y)) := by
  unfold cByte
  rw [← cLs_xor]
  congr 1
  rw [Nat.xor_assoc c x, Nat.xor_assoc c d, ← Nat.xor_assoc x d, Nat.xor_comm x d, Nat.xor_assoc d x]
theorem four_steps (L : Nat → Nat) (c c1 c2 c3 d0 d1 d2 d3 : Nat) (s0 : L c = c1 ^^^ L (0 ^^^ d0)) (s1 : ∀ D, L (c1 ^^^ D) = c2 ^^^ L (D ^^^ d1)) (s2 : ∀ D, L (c2 ^^^ D) = c3 ^^^ L (D ^^^ d2)) (s3 : ∀ D, L (c3 ^^^ D) = 0 ^^^ L (D ^^^ d3)) :
    L (L (L (L c))) = L (L (L (L (0 ^^^ d0) ^^^ d1) ^^^ d2) ^^^ d3) := by rw [s0, s1, s2, s3, Nat.zero_xor]
theorem four_diff (f : Nat → Nat → Nat) (L : Nat → Nat) (hf : ∀ c d x y, f c x ^^^ f d y = L ((c ^^^ d) ^^^ (x ^^^ y))) (c x0 x1 x2 x3 y0 y1 y2 y3 d0 d1 d2 d3 : Nat) (e0 : x0 ^^^ y0 = d0) (e1 : x1 ^^^ y1 = d1) (e2 : x2 ^^^ y2 = d2) (e3 : x3 ^^^ y3 = d3) :
    f (f (f (f c x0) x1) x2) x3 ^^^ f (f (f (f c y0) y1) y2) y3 = L (L (L (L (0 ^^^ d0) ^^^ d1) ^^^ d2) ^^^ d3) := by
  rw [hf, hf, hf, hf, e0, e1, e2, e3, Nat.xor_self]
theorem cStep' (c c' D : Nat) (h : c / 256 = c') : cLs 8 (c ^^^ D) = c' ^^^ cLs 8 (D ^^^ (c % 256)) := by rw [← h]; exact cStep c D
/-- A change within four bytes, one behind the other, leaves another register. -/
theorem cRun_burst (c ch : Nat) (hc : c < 4294967296) (h : ch < 4294967296) (h0 : ch ≠ 0) (x0 x1 x2 x3 y0 y1 y2 y3 : UInt8)
    (e0 : x0.toNat ^^^ y0.toNat = ch % 256) (e1 : x1.toNat ^^^ y1.toNat = ch / 256 % 256) (e2 : x2.toNat ^^^ y2.toNat = ch / 65536 % 256) (e3 : x3.toNat ^^^ y3.toNat = ch / 16777216 % 256) (r : List UInt8) :
    cRun c ([x0, x1, x2, x3] ++ r) ≠ cRun c ([y0, y1, y2, y3] ++ r) := by
  have q1 := four_diff cByte (cLs 8) cByte_diff c _ _ _ _ _ _ _ _ _ _ _ _ e0 e1 e2 e3
  have q2 := four_steps (cLs 8) ch (ch / 256) (ch / 65536) (ch / 16777216) _ _ _ _ ((congrArg (cLs 8) (Nat.xor_zero ch).symm).trans (cStep' ch (ch / 256) 0 rfl)) (fun D => cStep' (ch / 256) (ch / 65536) D (by omega)) (fun D => cStep' (ch / 65536) (ch / 16777216) D (by omega)) (fun D => cStep' (ch / 16777216) 0 D (by omega))
  have q := q2.trans q1.symm
  clear q1 q2
  have r1 : cRun c [x0, x1, x2, x3] = cByte (cByte (cByte (cByte c x0.toNat) x1.toNat) x2.toNat) x3.toNat := rfl
  have r2 : cRun c [y0, y1, y2, y3] = cByte (cByte (cByte (cByte c y0.toNat) y1.toNat) y2.toNat) y3.toNat := rfl
  rw [← r1, ← r2] at q
  clear r1 r2
  have hx := cRun_lt [x0, x1, x2, x3] hc
  have hy := cRun_lt [y0, y1, y2, y3] hc
  rw [cRun_append, cRun_append]
  refine cRun_diff r hx hy fun e => h0 ?_
  rw [e, Nat.xor_self] at q
  exact cLs_zero 8 h (cLs_zero 8 (cLs_lt 8 h) (cLs_zero 8 (cLs_lt 8 (cLs_lt 8 h)) (cLs_zero 8 (cLs_lt 8 (cLs_lt 8 (cLs_lt 8 h))) q)))
end Go.Proofs.YtbkoejhnlmbciaaDoor
