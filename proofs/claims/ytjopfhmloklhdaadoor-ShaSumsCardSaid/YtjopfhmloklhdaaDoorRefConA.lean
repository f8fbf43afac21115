/-
  The sixty-four words of SHA-256 are the roots that the document reckons: part A.
-/
import Derived.Test.YtjopfhmloklhdaaDoorRefOne
namespace Go.Proofs.YtjopfhmloklhdaaDoor.Ref
set_option maxRecDepth 100000 in
theorem cubesA : ((primes64.drop 0).take 16).map (fun p => rootW p true 37 % 4294967296) = (shaK.drop 0).take 16 := by decide +kernel
set_option maxRecDepth 100000 in
theorem squaresA : (primes64.take 8).map (fun p => rootW p false 37 % 4294967296) = shaStart.list := by decide +kernel
end Go.Proofs.YtjopfhmloklhdaaDoor.Ref
