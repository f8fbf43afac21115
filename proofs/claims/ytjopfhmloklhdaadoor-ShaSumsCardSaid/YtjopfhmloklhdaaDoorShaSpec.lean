/-
  SHA-256 of bytes as plain mathematics: padding, block by block, digest; held against two examples of the standard. No function of the project is named here.
-/
import Derived.Test.YtjopfhmloklhdaaDoorShaMath
namespace Go.Proofs.YtjopfhmloklhdaaDoor
set_option linter.unusedVariables false

def shaStart : Wk := ⟨1779033703, 3144134277, 1013904242, 2773480762, 1359893119, 2600822924, 528734635, 1541459225⟩
def shaK : List Nat := [1116352408, 1899447441, 3049323471, 3921009573, 961987163, 1508970993, 2453635748, 2870763221, 3624381080, 310598401, 607225278, 1426881987, 1925078388, 2162078206, 2614888103, 3248222580, 3835390401, 4022224774, 264347078, 604807628, 770255983, 1249150122, 1555081692, 1996064986, 2554220882, 2821834349, 2952996808, 3210313671, 3336571891, 3584528711, 113926993, 338241895, 666307205, 773529912, 1294757372, 1396182291, 1695183700, 1986661051, 2177026350, 2456956037, 2730485921, 2820302411, 3259730800, 3345764771, 3516065817, 3600352804, 4094571909, 275423344, 430227734, 506948616, 659060556, 883997877, 958139571, 1322822218, 1537002063, 1747873779, 1955562222, 2024104815, 2227730452, 2361852424, 2428436474, 2756734187, 3204031479, 3329325298]
theorem shaStart_lt : shaStart.Lt := ⟨by decide, by decide, by decide, by decide, by decide, by decide, by decide, by decide⟩
theorem shaK_lt (i : Nat) : shaK.getD i 0 < 4294967296 := by
  have h : ∀ x ∈ shaK, x < 4294967296 := by decide
  rw [List.getD_eq_getElem?_getD]
  rcases Nat.lt_or_ge i shaK.length with hi | hi
  · rw [List.getElem?_eq_getElem hi]; exact h _ (List.getElem_mem hi)
  · rw [List.getElem?_eq_none hi]; decide
/-- The whole blocks of bytes mixed in, one behind the other. -/
def mixMany (s : Wk) : Nat → List UInt8 → Wk
  | 0, _ => s
  | n + 1, l => mixMany (mixW shaK s (l.take 64)) n (l.drop 64)
/-- A number as eight bytes, the greatest first. -/
def be8 (n : Nat) : List UInt8 := [UInt8.ofNat (n / 72057594037927936), UInt8.ofNat (n / 281474976710656), UInt8.ofNat (n / 1099511627776), UInt8.ofNat (n / 4294967296), UInt8.ofNat (n / 16777216), UInt8.ofNat (n / 65536), UInt8.ofNat (n / 256), UInt8.ofNat n]
def be4 (n : Nat) : List UInt8 := [UInt8.ofNat (n / 16777216), UInt8.ofNat (n / 65536), UInt8.ofNat (n / 256), UInt8.ofNat n]
/-- What is behind the bytes: one bit, then none, then how many bits there are. -/
def padBy (n : Nat) : List UInt8 := 128 :: (List.replicate ((119 - n % 64) % 64) 0 ++ be8 (n * 8 % 18446744073709551616))
def wordsOut (s : Wk) : List UInt8 := s.list.flatMap be4
def shaOf (l : List UInt8) : List UInt8 := wordsOut (mixMany shaStart ((l.length + 8) / 64 + 1) (l ++ padBy l.length))
theorem padBy_len (n : Nat) : (n + (padBy n).length) = ((n + 8) / 64 + 1) * 64 := by
  simp only [padBy, be8, List.length_cons, List.length_append, List.length_replicate, List.length_nil]
  omega
theorem mixMany_lt {s : Wk} (h : s.Lt) : ∀ (n : Nat) (l : List UInt8), (mixMany s n l).Lt
  | 0, _ => h
  | n + 1, l => mixMany_lt (mixW_lt _ _ _) n _
theorem mixMany_add (s : Wk) : ∀ (n m : Nat) (l : List UInt8), mixMany s (n + m) l = mixMany (mixMany s n l) m (l.drop (64 * n))
  | 0, m, l => by simp [mixMany]
  | n + 1, m, l => by
    rw [show n + 1 + m = (n + m) + 1 by omega]
    simp only [mixMany]
    rw [mixMany_add _ n m (l.drop 64), List.drop_drop, show 64 + 64 * n = 64 * (n + 1) by omega]
set_option maxRecDepth 100000 in
theorem sha_abc : shaOf [97, 98, 99] = [186, 120, 22, 191, 143, 1, 207, 234, 65, 65, 64, 222, 93, 174, 34, 35, 176, 3, 97, 163, 150, 23, 122, 156, 180, 16, 255, 97, 242, 0, 21, 173] := by kernel_rfl
set_option maxRecDepth 100000 in
theorem sha_none : shaOf [] = [227, 176, 196, 66, 152, 252, 28, 20, 154, 251, 244, 200, 153, 111, 185, 36, 39, 174, 65, 228, 100, 155, 147, 76, 164, 149, 153, 27, 120, 82, 184, 85] := by kernel_rfl
end Go.Proofs.YtjopfhmloklhdaaDoor
