/-
  Frames, plain mathematics: a number's four bytes, a frame, what stands first, a scan; frames one behind the other, cut anywhere, changed. No program is named here.
-/
import Derived.Test.YtbkoejhnlmbciaaDoorCrcMath
namespace Go.Proofs.YtbkoejhnlmbciaaDoor
set_option linter.unusedVariables false

/-- A number's four bytes. -/
def le4 (n : Nat) : List UInt8 := [UInt8.ofNat n, UInt8.ofNat (n / 256), UInt8.ofNat (n / 65536), UInt8.ofNat (n / 16777216)]
theorem le4_len (n : Nat) : (le4 n).length = 4 := rfl
/-- The number that four bytes are. -/
def n4 (l : List UInt8) : Nat := (l.getD 0 0).toNat + 256 * (l.getD 1 0).toNat + 65536 * (l.getD 2 0).toNat + 16777216 * (l.getD 3 0).toNat
theorem n4_lt (l : List UInt8) : n4 l < 4294967296 := by
  unfold n4
  have h0 := (l.getD 0 0).toNat_lt
  have h1 := (l.getD 1 0).toNat_lt
  have h2 := (l.getD 2 0).toNat_lt
  have h3 := (l.getD 3 0).toNat_lt
  omega
theorem n4_le4 (n : Nat) (h : n < 4294967296) (r : List UInt8) : n4 (le4 n ++ r) = n := by
  simp only [n4, le4, List.cons_append, List.nil_append, List.getD_cons_zero, List.getD_cons_succ, UInt8.toNat_ofNat']
  omega
theorem four_of {l : List UInt8} (h : 4 ≤ l.length) : ∃ a b c d r, l = a :: b :: c :: d :: r := by
  match l, h with
  | a :: b :: c :: d :: r, _ => exact ⟨a, b, c, d, r, rfl⟩
theorem le4_n4 {l : List UInt8} (h : 4 ≤ l.length) : le4 (n4 l) = l.take 4 := by
  obtain ⟨a, b, c, d, r, rfl⟩ := four_of h
  have h0 := a.toNat_lt
  have h1 := b.toNat_lt
  have h2 := c.toNat_lt
  have h3 := d.toNat_lt
  simp only [n4, le4, List.getD_cons_zero, List.getD_cons_succ, List.take_succ_cons, List.take_zero, List.cons.injEq, and_true]
  refine ⟨?_, ?_, ?_, ?_⟩ <;> (apply UInt8.toNat_inj.1; rw [UInt8.toNat_ofNat']; omega)
theorem n4_inj {a b : List UInt8} (ha : 4 ≤ a.length) (hb : 4 ≤ b.length) (h : n4 a = n4 b) : a.take 4 = b.take 4 := by rw [← le4_n4 ha, ← le4_n4 hb, h]
theorem le4_inj {a b : Nat} (ha : a < 4294967296) (hb : b < 4294967296) (h : le4 a = le4 b) : a = b := by
  have h1 := n4_le4 a ha []
  have h2 := n4_le4 b hb []
  rw [← h1, ← h2, h]
theorem n4_take (l : List UInt8) (k : Nat) (h : 4 ≤ k) : n4 (l.take k) = n4 l := by
  unfold n4
  simp only [List.getD_eq_getElem?_getD]
  rw [List.getElem?_take_of_lt (by omega), List.getElem?_take_of_lt (by omega), List.getElem?_take_of_lt (by omega), List.getElem?_take_of_lt (by omega)]
theorem n4_app (a b : List UInt8) (h : 4 ≤ a.length) : n4 (a ++ b) = n4 a := by
  unfold n4
  simp only [List.getD_eq_getElem?_getD]
  rw [List.getElem?_append_left (by omega), List.getElem?_append_left (by omega), List.getElem?_append_left (by omega), List.getElem?_append_left (by omega)]

/-- The sum that a frame bears. -/
def fSum (p : List UInt8) : Nat := crcMore (crcSum (le4 p.length)) p
theorem fSum_lt (p : List UInt8) : fSum p < 4294967296 := crcMore_lt _ _
theorem fSum_ref (p : List UInt8) : crcSum (le4 p.length ++ p) = fSum p := (crcMore_more 0 (le4 p.length) p (by omega)).symm
/-- A frame. -/
def frameOf (p : List UInt8) : List UInt8 := le4 p.length ++ (le4 (fSum p) ++ p)
theorem frameOf_len (p : List UInt8) : (frameOf p).length = 8 + p.length := by unfold frameOf; simp [le4_len]; omega

/-- What stands first: 0 a frame, 1 torn, 2 spoilt. -/
def fHow (b : List UInt8) : Nat :=
  if b.length < 8 then 1 else if 65536 < n4 b then 2 else if b.length < 8 + n4 b then 1
  else if crcMore (crcSum (b.take 4)) ((b.drop 8).take (n4 b)) = n4 (b.drop 4) then 0 else 2
def fPay (b : List UInt8) : List UInt8 := (b.drop 8).take (n4 b)
theorem fHow_le (b : List UInt8) : fHow b ≤ 2 := by unfold fHow; split <;> (try split) <;> (try split) <;> (try split) <;> omega
theorem fPay_len {b : List UInt8} (h : 8 + n4 b ≤ b.length) : (fPay b).length = n4 b := by unfold fPay; simp; omega
theorem fHow_zero {b : List UInt8} (h : fHow b = 0) : 8 ≤ b.length ∧ n4 b ≤ 65536 ∧ 8 + n4 b ≤ b.length ∧ crcMore (crcSum (b.take 4)) (fPay b) = n4 (b.drop 4) := by
  unfold fHow at h
  split at h
  · omega
  · split at h
    · omega
    · split at h
      · omega
      · split at h
        · exact ⟨by omega, by omega, by omega, by assumption⟩
        · omega
theorem fHow_frame (p r : List UInt8) (hp : p.length ≤ 65536) : fHow (frameOf p ++ r) = 0 ∧ n4 (frameOf p ++ r) = p.length ∧ fPay (frameOf p ++ r) = p ∧ (frameOf p ++ r).drop (8 + p.length) = r := by
  have hn : n4 (frameOf p ++ r) = p.length := by unfold frameOf; rw [List.append_assoc]; exact n4_le4 _ (by omega) _
  have hl := frameOf_len p
  have h8 : (frameOf p ++ r).drop 8 = p ++ r := by unfold frameOf; simp [le4]
  have h4 : (frameOf p ++ r).drop 4 = le4 (fSum p) ++ (p ++ r) := by unfold frameOf; simp [le4]
  have ht : (frameOf p ++ r).take 4 = le4 p.length := by unfold frameOf; simp [le4]
  have hpay : fPay (frameOf p ++ r) = p := by unfold fPay; rw [hn, h8]; simp
  refine ⟨?_, hn, hpay, ?_⟩
  · unfold fHow
    rw [if_neg (by simp; omega), if_neg (by omega), if_neg (by rw [hn]; simp; omega), ← fPay, hpay, ht, h4, n4_le4 _ (fSum_lt p)]
    exact if_pos rfl
  · rw [← List.drop_drop, h8]; simp
/-- The document's way to look at the sum. -/
theorem fHow_ref {b : List UInt8} (h1 : 8 ≤ b.length) (h2 : n4 b ≤ 65536) (h3 : 8 + n4 b ≤ b.length) : (frameOf (fPay b) = b.take (8 + n4 b) ↔ fHow b = 0) := by
  have hl := fPay_len h3
  have e4 : le4 (n4 b) = b.take 4 := le4_n4 (by omega)
  have e8 : b.take (8 + n4 b) = b.take 4 ++ ((b.drop 4).take 4 ++ fPay b) := by
    unfold fPay
    rw [show 8 + n4 b = 4 + (4 + n4 b) by omega, List.take_add, List.take_add, List.drop_drop]
  have hz : fHow b = 0 ↔ fSum (fPay b) = n4 (b.drop 4) := by
    unfold fHow fSum
    rw [if_neg (by omega), if_neg (by omega), if_neg (by omega), ← fPay, hl, e4]
    split
    · simp [*]
    · simp [*]
  rw [hz, e8]
  unfold frameOf
  rw [hl, e4, List.append_cancel_left_eq, List.append_cancel_right_eq, ← le4_n4 (l := b.drop 4) (by simp; omega)]
  constructor
  · intro h; exact le4_inj (fSum_lt _) (n4_lt _) h
  · intro h; rw [h]

/-- A scan. -/
def fScan (b : List UInt8) : List (List UInt8) × Nat × Nat :=
  if h0 : b.length = 0 then ([], 0, 0)
  else if h : fHow b = 0 then (fPay b :: (fScan (b.drop (8 + n4 b))).1, 8 + n4 b + (fScan (b.drop (8 + n4 b))).2.1, (fScan (b.drop (8 + n4 b))).2.2)
  else ([], 0, fHow b)
termination_by b.length
decreasing_by all_goals (simp; omega)
theorem fScan_nil {b : List UInt8} (h : b.length = 0) : fScan b = ([], 0, 0) := by rw [fScan, dif_pos h]
theorem fScan_step {b : List UInt8} (h0 : 0 < b.length) (h : fHow b = 0) : fScan b = (fPay b :: (fScan (b.drop (8 + n4 b))).1, 8 + n4 b + (fScan (b.drop (8 + n4 b))).2.1, (fScan (b.drop (8 + n4 b))).2.2) := by
  rw [fScan, dif_neg (by omega), dif_pos h]
theorem fScan_end {b : List UInt8} (h0 : 0 < b.length) (h : fHow b ≠ 0) : fScan b = ([], 0, fHow b) := by
  rw [fScan, dif_neg (by omega), dif_neg h]
theorem fScan_frame (p r : List UInt8) (hp : p.length ≤ 65536) : fScan (frameOf p ++ r) = (p :: (fScan r).1, 8 + p.length + (fScan r).2.1, (fScan r).2.2) := by
  obtain ⟨h1, h2, h3, h4⟩ := fHow_frame p r hp
  have hl := frameOf_len p
  rw [fScan_step (by simp; omega) h1, h2, h3, h4]
/-- Frames one behind the other. -/
def frames : List (List UInt8) → List UInt8
  | [] => []
  | p :: r => frameOf p ++ frames r
theorem frames_append : ∀ (a b : List (List UInt8)), frames (a ++ b) = frames a ++ frames b
  | [], _ => rfl
  | p :: r, b => by simp only [List.cons_append, frames, frames_append r b, List.append_assoc]
theorem frames_snoc (l : List (List UInt8)) (k : Nat) (h : k < l.length) : frames (l.take (k + 1)) = frames (l.take k) ++ frameOf l[k] := by
  rw [List.take_succ_eq_append_getElem h, frames_append]
  simp [frames]
theorem fScan_frames : ∀ (l : List (List UInt8)) (b : List UInt8), (∀ p ∈ l, p.length ≤ 65536) → fScan (frames l ++ b) = (l ++ (fScan b).1, (frames l).length + (fScan b).2.1, (fScan b).2.2)
  | [], b, _ => by simp [frames]
  | p :: r, b, h => by
    have ih := fScan_frames r b (fun q hq => h q (List.mem_cons_of_mem _ hq))
    rw [frames, List.append_assoc, fScan_frame p _ (h p List.mem_cons_self), ih]
    simp [frameOf_len]
    omega
theorem fScan_clean (l : List (List UInt8)) (h : ∀ p ∈ l, p.length ≤ 65536) : fScan (frames l) = (l, (frames l).length, 0) := by
  have := fScan_frames l [] h
  rw [List.append_nil, fScan_nil (b := []) rfl] at this
  simpa using this
/-- A frame's beginning. -/
theorem fHow_torn (p : List UInt8) (c : Nat) (hp : p.length ≤ 65536) (hc : c < 8 + p.length) (r : List UInt8) : fHow ((frameOf p ++ r).take c) = 1 := by
  have hl := frameOf_len p
  have hlen : ((frameOf p ++ r).take c).length = c := by simp; omega
  unfold fHow
  rw [hlen]
  split
  · rfl
  · have hn : n4 ((frameOf p ++ r).take c) = p.length := by rw [n4_take _ _ (by omega)]; exact (fHow_frame p r hp).2.1
    rw [hn, if_neg (by omega), if_pos (by omega)]
theorem fScan_cut (l : List (List UInt8)) (h : ∀ p ∈ l, p.length ≤ 65536) (k cut : Nat) (hk : k ≤ l.length) (h1 : (frames (l.take k)).length ≤ cut) (h2 : k = l.length → cut = (frames l).length) (h3 : ∀ hk' : k < l.length, cut < (frames (l.take k)).length + (8 + l[k].length)) :
    fScan ((frames l).take cut) = (l.take k, (frames (l.take k)).length, if cut = (frames (l.take k)).length then 0 else 1) := by
  have hsplit : frames l = frames (l.take k) ++ frames (l.drop k) := by rw [← frames_append, List.take_append_drop]
  have e : (frames l).take cut = frames (l.take k) ++ (frames (l.drop k)).take (cut - (frames (l.take k)).length) := by
    rw [hsplit, List.take_append, List.take_of_length_le h1]
  rw [e, fScan_frames _ _ (fun p hp => h p (List.mem_of_mem_take hp))]
  by_cases hz : cut = (frames (l.take k)).length
  · rw [if_pos hz, hz, Nat.sub_self, List.take_zero, fScan_nil (b := []) rfl]; simp
  · have hkl : k < l.length := by
      rcases Nat.lt_or_ge k l.length with h' | h'
      · exact h'
      · exfalso
        have e1 := h2 (by omega)
        rw [List.take_of_length_le h'] at hz
        exact hz e1
    have hlt := h3 hkl
    have hd : frames (l.drop k) = frameOf l[k] ++ frames (l.drop (k + 1)) := by rw [List.drop_eq_getElem_cons hkl, frames]
    have hp := h l[k] (List.getElem_mem hkl)
    have hl := frameOf_len l[k]
    rw [hd]
    have ht := fHow_torn l[k] (cut - (frames (l.take k)).length) hp (by omega) (frames (l.drop (k + 1)))
    rw [fScan_end (by simp; omega) (by rw [ht]; omega), ht, if_neg hz]
    simp
/-- A change within four bytes of a payload is told. -/
theorem fHow_changed (p q r : List UInt8) (hp : p.length ≤ 65536) (hq : q.length = p.length) (hne : crcMore (crcSum (le4 p.length)) q ≠ fSum p) : fHow (le4 p.length ++ (le4 (fSum p) ++ q) ++ r) = 2 := by
  have hn : n4 (le4 p.length ++ (le4 (fSum p) ++ q) ++ r) = p.length := by rw [List.append_assoc]; exact n4_le4 _ (by omega) _
  have h8 : (le4 p.length ++ (le4 (fSum p) ++ q) ++ r).drop 8 = q ++ r := by simp [le4]
  have h4 : (le4 p.length ++ (le4 (fSum p) ++ q) ++ r).drop 4 = le4 (fSum p) ++ (q ++ r) := by simp [le4]
  have ht : (le4 p.length ++ (le4 (fSum p) ++ q) ++ r).take 4 = le4 p.length := by simp [le4]
  have hlen : (le4 p.length ++ (le4 (fSum p) ++ q) ++ r).length = 8 + p.length + r.length := by simp [le4_len]; omega
  have hpay : ((le4 p.length ++ (le4 (fSum p) ++ q) ++ r).drop 8).take p.length = q := by rw [h8, ← hq]; simp
  unfold fHow
  rw [if_neg (by omega), if_neg (by omega), if_neg (by omega), hn, hpay, ht, h4, n4_le4 _ (fSum_lt p)]
  exact if_neg hne
theorem burst_told (s ch : Nat) (hs : s < 4294967296) (h : ch < 4294967296) (h0 : ch ≠ 0) (u r : List UInt8) (x0 x1 x2 x3 y0 y1 y2 y3 : UInt8)
    (e0 : x0.toNat ^^^ y0.toNat = ch % 256) (e1 : x1.toNat ^^^ y1.toNat = ch / 256 % 256) (e2 : x2.toNat ^^^ y2.toNat = ch / 65536 % 256) (e3 : x3.toNat ^^^ y3.toNat = ch / 16777216 % 256) :
    crcMore s (u ++ ([y0, y1, y2, y3] ++ r)) ≠ crcMore s (u ++ ([x0, x1, x2, x3] ++ r)) := by
  intro he
  unfold crcMore at he
  rw [cRun_append _ u, cRun_append _ u] at he
  have hc := cRun_lt u (c := 4294967295 - s) (by omega)
  have h1 := cRun_lt ([x0, x1, x2, x3] ++ r) hc
  have h2 := cRun_lt ([y0, y1, y2, y3] ++ r) hc
  exact cRun_burst _ ch hc h h0 x0 x1 x2 x3 y0 y1 y2 y3 e0 e1 e2 e3 r (by omega)
end Go.Proofs.YtbkoejhnlmbciaaDoor
