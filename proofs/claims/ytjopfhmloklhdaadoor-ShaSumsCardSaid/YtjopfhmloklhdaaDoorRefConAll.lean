/-
  The document's own words are those of SHA-256 (rolodexref2.Consts).
-/
import Derived.Test.YtjopfhmloklhdaaDoorRefOne
import Derived.Test.YtjopfhmloklhdaaDoorRefConA
import Derived.Test.YtjopfhmloklhdaaDoorRefConB
import Derived.Test.YtjopfhmloklhdaaDoorRefConC
import Derived.Test.YtjopfhmloklhdaaDoorRefConD
namespace Go.Proofs.YtjopfhmloklhdaaDoor.Ref
open Go.ChangeShapes Go.WideShapes Go.ChangeAt Go.RowKit Go.Deep
theorem starts_eq : rootsOf false 8 = shaStart.list := squaresA
theorem words_eq : rootsOf true 64 = shaK := by
  unfold rootsOf
  have h : primes64.take 64 = (primes64.drop 0).take 16 ++ ((primes64.drop 16).take 16 ++ ((primes64.drop 32).take 16 ++ (primes64.drop 48).take 16)) := by decide
  rw [h, List.map_append, List.map_append, List.map_append, cubesA, cubesB, cubesC, cubesD]
  decide
theorem Consts_any (w : World) : Calls Tryd.prog 28 #[] w fun e w' => ∃ v1 v2, e = .returned (.tuple #[v1, v2]) ∧ OwnN w' w.heap.size 46 .u32 v1 shaStart.list ∧ OwnN w' w.heap.size 46 .u32 v2 shaK ∧ Below w.heap.size w w' := by
  have h := Consts_any' w
  rw [starts_eq, words_eq] at h
  exact h
end Go.Proofs.YtjopfhmloklhdaaDoor.Ref
