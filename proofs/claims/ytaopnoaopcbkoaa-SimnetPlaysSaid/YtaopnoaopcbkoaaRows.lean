/-
  No cell of these rows narrows 'for every input' (looked for: loops, veiled, ifaces, maps, wideKeys, modest, calm, conditions, laid).
  DERIVED. THE GIVEN ROWS OF THIS SEAT. 5 by the template 'for every input the law returns true; each argument reads behind the call as it read before'; 0 by the template 'total and deterministic' (their statements: YtaopnoaopcbkoaaTotals.lean).
  GIVEN WITH THE SEED: the statements are not yours to turn. If you find one false, say at which input.
  Laid BY PROGRAM, IN A SANDBOX (cutbox-rows.mjs): the forced cells as the released guide's own fill.sh prints them over the translation c01a5c1152e47e7a… (all of the seat's roots in one cut). By AI agents, Wed Nov 11 2026. No macro, syntax, notation, axiom, sorry.
-/
import Derived.Test.YtaopnoaopcbkoaaChecked
import GoSem.Claim
import GoSem.ClaimJoined
import GoSem.ClaimMapViews
import Derived.JoinedTies
import Derived.KernelRfl
namespace Go.Proofs.Ytaopnoaopcbkoaa
/- THE CELL 'sum', in the pinned program and in every row, IS THE sha256 OF THE DUMP (.gsa) THAT YtaopnoaopcbkoaaProg.lean LOADS. Nothing in Lean hashes anything: it is a label: what it is worth is what the hold of that sum in a sandbox is worth. -/
noncomputable def Try.pinned : Pinned := { name := "ytaopnoaopcbkoaa", sum := "c01a5c1152e47e7a69be6a6d9d7cacd67dbbe149ea269c1ae218b7092c39d9e6", checked := Try.checked }
namespace Rows
def none {H : Type} : Left H := { results := [], args := [] }

/-- 'rolodexlaw6.SimnetKnown': WHATEVER THE INPUT: true; the input reads as it did. -/
def simnetKnownSpec : ChangeSpec := { name := "simnetKnown", fn := fun _ => fun
  | [] => { results := [.lit (.bool true)], args := [] }
  | _ => none }
def simnetKnownRow : OpenClaim := { program := "ytaopnoaopcbkoaa", sum := "c01a5c1152e47e7a69be6a6d9d7cacd67dbbe149ea269c1ae218b7092c39d9e6", func := "rolodex/rolodexlaw6.SimnetKnown", spec := "simnetKnown", unfollowed := true, recurses := true, apart := false }
def SimnetKnownSaid : Prop := simnetKnownRow.holds Try.pinned (OpenSpec.ofChange simnetKnownSpec)

/-- ITS FALSE NEIGHBOUR: 'it returns false'. Refute it at one input. -/
def simnetKnownWrong : ChangeSpec := { name := "simnetKnown", fn := fun _ => fun
  | [] => { results := [.lit (.bool false)], args := [] }
  | _ => none }
def SimnetKnownWrongFalsely : Prop := simnetKnownRow.holds Try.pinned (OpenSpec.ofChange simnetKnownWrong)

/-- 'rolodexlaw6.SimnetPlays': WHATEVER THE INPUT: true; the input reads as it did. -/
def simnetPlaysSpec : ChangeSpec := { name := "simnetPlays", fn := fun _ => fun
  | [d] => { results := [.lit (.bool true)], args := [d] }
  | _ => none }
def simnetPlaysRow : OpenClaim := { program := "ytaopnoaopcbkoaa", sum := "c01a5c1152e47e7a69be6a6d9d7cacd67dbbe149ea269c1ae218b7092c39d9e6", func := "rolodex/rolodexlaw6.SimnetPlays", spec := "simnetPlays", unfollowed := true, recurses := true, apart := false }
def SimnetPlaysSaid : Prop := simnetPlaysRow.holds Try.pinned (OpenSpec.ofChange simnetPlaysSpec)

/-- ITS FALSE NEIGHBOUR: 'it returns false'. Refute it at one input. -/
def simnetPlaysWrong : ChangeSpec := { name := "simnetPlays", fn := fun _ => fun
  | [d] => { results := [.lit (.bool false)], args := [d] }
  | _ => none }
def SimnetPlaysWrongFalsely : Prop := simnetPlaysRow.holds Try.pinned (OpenSpec.ofChange simnetPlaysWrong)

/-- 'rolodexlaw6.SimnetOnce': WHATEVER THE INPUT: true; the input reads as it did. -/
def simnetOnceSpec : ChangeSpec := { name := "simnetOnce", fn := fun _ => fun
  | [d1, d2] => { results := [.lit (.bool true)], args := [d1, d2] }
  | _ => none }
def simnetOnceRow : OpenClaim := { program := "ytaopnoaopcbkoaa", sum := "c01a5c1152e47e7a69be6a6d9d7cacd67dbbe149ea269c1ae218b7092c39d9e6", func := "rolodex/rolodexlaw6.SimnetOnce", spec := "simnetOnce", unfollowed := true, recurses := true, apart := false }
def SimnetOnceSaid : Prop := simnetOnceRow.holds Try.pinned (OpenSpec.ofChange simnetOnceSpec)

/-- ITS FALSE NEIGHBOUR: 'it returns false'. Refute it at one input. -/
def simnetOnceWrong : ChangeSpec := { name := "simnetOnce", fn := fun _ => fun
  | [d1, d2] => { results := [.lit (.bool false)], args := [d1, d2] }
  | _ => none }
def SimnetOnceWrongFalsely : Prop := simnetOnceRow.holds Try.pinned (OpenSpec.ofChange simnetOnceWrong)

/-- 'rolodexlaw6.SimnetFed': WHATEVER THE INPUT: true; the input reads as it did. -/
def simnetFedSpec : ChangeSpec := { name := "simnetFed", fn := fun _ => fun
  | [d1, d2, d3] => { results := [.lit (.bool true)], args := [d1, d2, d3] }
  | _ => none }
def simnetFedRow : OpenClaim := { program := "ytaopnoaopcbkoaa", sum := "c01a5c1152e47e7a69be6a6d9d7cacd67dbbe149ea269c1ae218b7092c39d9e6", func := "rolodex/rolodexlaw6.SimnetFed", spec := "simnetFed", unfollowed := true, recurses := true, apart := false }
def SimnetFedSaid : Prop := simnetFedRow.holds Try.pinned (OpenSpec.ofChange simnetFedSpec)

/-- ITS FALSE NEIGHBOUR: 'it returns false'. Refute it at one input. -/
def simnetFedWrong : ChangeSpec := { name := "simnetFed", fn := fun _ => fun
  | [d1, d2, d3] => { results := [.lit (.bool false)], args := [d1, d2, d3] }
  | _ => none }
def SimnetFedWrongFalsely : Prop := simnetFedRow.holds Try.pinned (OpenSpec.ofChange simnetFedWrong)

/-- 'rolodexlaw6.SimnetClock': WHATEVER THE INPUT: true; the input reads as it did. -/
def simnetClockSpec : ChangeSpec := { name := "simnetClock", fn := fun _ => fun
  | [d] => { results := [.lit (.bool true)], args := [d] }
  | _ => none }
def simnetClockRow : OpenClaim := { program := "ytaopnoaopcbkoaa", sum := "c01a5c1152e47e7a69be6a6d9d7cacd67dbbe149ea269c1ae218b7092c39d9e6", func := "rolodex/rolodexlaw6.SimnetClock", spec := "simnetClock", unfollowed := true, recurses := true, apart := false }
def SimnetClockSaid : Prop := simnetClockRow.holds Try.pinned (OpenSpec.ofChange simnetClockSpec)

/-- ITS FALSE NEIGHBOUR: 'it returns false'. Refute it at one input. -/
def simnetClockWrong : ChangeSpec := { name := "simnetClock", fn := fun _ => fun
  | [d] => { results := [.lit (.bool false)], args := [d] }
  | _ => none }
def SimnetClockWrongFalsely : Prop := simnetClockRow.holds Try.pinned (OpenSpec.ofChange simnetClockWrong)

/- THE SECOND FORM. 'bulk': how many values and letters a reading holds, each counted each time it is reached (what is shared counts as often as it is met; a slice's spare places count too). A statement '..UptoSaid' is the law's where the arguments, and the package variables that the reading takes, are together of bulk at most 1048576: NARROWER than '..Said'. Prove '..Said' where nothing that the law and all that it calls make is longer than what came in: it says more and counts as full. Else prove '..UptoSaid'. A law counts once. -/
mutual
def uptoBulk {H : Type} : DataW H → Nat
  | .lit (.string bytes) => bytes.length + 1
  | .lit _ => 1
  | .nil => 1
  | .ptr d => uptoBulk d + 1
  | .slice elems spare => uptoBulkAll elems + uptoBulkAll spare + 1
  | .agg parts => uptoBulkAll parts + 1
  | .iface _ d => uptoBulk d + 1
  | .map entries => uptoBulkEntries entries + 1
  | .held _ => 1
def uptoBulkAll {H : Type} : List (DataW H) → Nat
  | [] => 0
  | d :: r => uptoBulk d + uptoBulkAll r
def uptoBulkEntries {H : Type} : List (Lit × DataW H) → Nat
  | [] => 0
  | x :: r => uptoBulkEntry x + uptoBulkEntries r
def uptoBulkEntry {H : Type} : Lit × DataW H → Nat
  | (.string bytes, d) => bytes.length + uptoBulk d + 1
  | (_, d) => uptoBulk d + 1
 end
def uptoSmall : (H : Type) → List (DataW H) → Bool := fun _ ds => decide (uptoBulkAll ds ≤ 1048576)
def OpenSpec.upto (s : _root_.Go.ChangeSpec) : _root_.Go.OpenSpec := { _root_.Go.OpenSpec.ofChange s with cond := some uptoSmall }

/-- 'rolodexlaw6.SimnetKnown', WHERE WHAT IT READS IS OF BULK AT MOST 1048576: true; the input reads as it did. -/
def simnetKnownUptoRow : OpenClaim := { program := "ytaopnoaopcbkoaa", sum := "c01a5c1152e47e7a69be6a6d9d7cacd67dbbe149ea269c1ae218b7092c39d9e6", func := "rolodex/rolodexlaw6.SimnetKnown", spec := "simnetKnown", unfollowed := true, recurses := true, apart := false, narrowed := true }
def SimnetKnownUptoSaid : Prop := simnetKnownUptoRow.holds Try.pinned (OpenSpec.upto simnetKnownSpec)

/-- 'rolodexlaw6.SimnetPlays', WHERE WHAT IT READS IS OF BULK AT MOST 1048576: true; the input reads as it did. -/
def simnetPlaysUptoRow : OpenClaim := { program := "ytaopnoaopcbkoaa", sum := "c01a5c1152e47e7a69be6a6d9d7cacd67dbbe149ea269c1ae218b7092c39d9e6", func := "rolodex/rolodexlaw6.SimnetPlays", spec := "simnetPlays", unfollowed := true, recurses := true, apart := false, narrowed := true }
def SimnetPlaysUptoSaid : Prop := simnetPlaysUptoRow.holds Try.pinned (OpenSpec.upto simnetPlaysSpec)

/-- 'rolodexlaw6.SimnetOnce', WHERE WHAT IT READS IS OF BULK AT MOST 1048576: true; the input reads as it did. -/
def simnetOnceUptoRow : OpenClaim := { program := "ytaopnoaopcbkoaa", sum := "c01a5c1152e47e7a69be6a6d9d7cacd67dbbe149ea269c1ae218b7092c39d9e6", func := "rolodex/rolodexlaw6.SimnetOnce", spec := "simnetOnce", unfollowed := true, recurses := true, apart := false, narrowed := true }
def SimnetOnceUptoSaid : Prop := simnetOnceUptoRow.holds Try.pinned (OpenSpec.upto simnetOnceSpec)

/-- 'rolodexlaw6.SimnetFed', WHERE WHAT IT READS IS OF BULK AT MOST 1048576: true; the input reads as it did. -/
def simnetFedUptoRow : OpenClaim := { program := "ytaopnoaopcbkoaa", sum := "c01a5c1152e47e7a69be6a6d9d7cacd67dbbe149ea269c1ae218b7092c39d9e6", func := "rolodex/rolodexlaw6.SimnetFed", spec := "simnetFed", unfollowed := true, recurses := true, apart := false, narrowed := true }
def SimnetFedUptoSaid : Prop := simnetFedUptoRow.holds Try.pinned (OpenSpec.upto simnetFedSpec)

/-- 'rolodexlaw6.SimnetClock', WHERE WHAT IT READS IS OF BULK AT MOST 1048576: true; the input reads as it did. -/
def simnetClockUptoRow : OpenClaim := { program := "ytaopnoaopcbkoaa", sum := "c01a5c1152e47e7a69be6a6d9d7cacd67dbbe149ea269c1ae218b7092c39d9e6", func := "rolodex/rolodexlaw6.SimnetClock", spec := "simnetClock", unfollowed := true, recurses := true, apart := false, narrowed := true }
def SimnetClockUptoSaid : Prop := simnetClockUptoRow.holds Try.pinned (OpenSpec.upto simnetClockSpec)

end Rows
end Go.Proofs.Ytaopnoaopcbkoaa
