/-
  The sixty-four words of SHA-256 are the roots that the document reckons: part C.
-/
import Derived.Test.YtjopfhmloklhdaaDoorRefOne
namespace Go.Proofs.YtjopfhmloklhdaaDoor.Ref
set_option maxRecDepth 100000 in
theorem cubesC : ((primes64.drop 32).take 16).map (fun p => rootW p true 37 % 4294967296) = (shaK.drop 32).take 16 := by decide +kernel
end Go.Proofs.YtjopfhmloklhdaaDoor.Ref
