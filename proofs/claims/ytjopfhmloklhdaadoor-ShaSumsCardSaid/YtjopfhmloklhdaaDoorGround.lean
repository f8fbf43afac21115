/-
  The two tables that the package sha lays, as the rows' conditions give them.
-/
import Derived.Test.YtjopfhmloklhdaaDoorCards
import Derived.Test.YtjopfhmloklhdaaDoorTie
import Derived.Test.YtjopfhmloklhdaaDoorSum14
import Derived.WalkKit
import Derived.ProofKit
import Derived.OpenShut
import Derived.Deep.DeepHandedRow
import Derived.Lib.LaidTab
namespace Go.Proofs.YtjopfhmloklhdaaDoor
open Go.ChangeShapes Go.WideShapes Go.ChangeAt Go.RowKit Go.Deep
set_option linter.unusedVariables false
set_option linter.unusedSimpArgs false

def startZ : List Int := shaStart.list.map fun n : Nat => (n : Int)
def roundZ : List Int := shaK.map fun n : Nat => (n : Int)
theorem gStart : Tryd.prog.globalNamed "rolodex/sha.start" = some 0 := by kernel_rfl
theorem gRounds : Tryd.prog.globalNamed "rolodex/sha.rounds" = some 1 := by kernel_rfl
theorem tStart : (Tryd.prog.globals[0]?).map (·.type) = some 47 := by kernel_rfl
theorem tRounds : (Tryd.prog.globals[1]?).map (·.type) = some 73 := by kernel_rfl
theorem cells8 : Tryd.prog.cellsOf 47 = 8 := by kernel_rfl
theorem cells64 : Tryd.prog.cellsOf 73 = 64 := by kernel_rfl
theorem cells32u : Tryd.prog.cellsOf 46 = 1 := by kernel_rfl
theorem tab_second {P : Program} {W : World} {n1 : String} {d1 : DataW Unit} {name : String} {k : IntKind} {zs : List Int} {rest : List (String × DataW Unit)} {g : Nat} {t e : TypeId} {n : Nat}
    (hg : P.globalNamed name = some g) (hty : (P.globals[g]?).map (·.type) = some t) (ht : P.underlying t = some (.array n e)) (he : P.underlying e = some (.int k)) (hce : P.cellsOf e = 1) (hct : P.cellsOf t = n)
    (h : laidMet P ((n1, d1) :: (name, Lib.tabData k zs) :: rest) W) : Lib.TabIs P W name k zs := by
  obtain ⟨ps, ⟨g1, t1, cs1, fuel1, p1, q1, _, _, _, _, ⟨g', t', cs, fuel, p, q, hg', ht', hvar, hd, _, _⟩, _⟩, _⟩ := h
  obtain rfl := Option.some.inj (hg.symm.trans hg')
  obtain rfl := Option.some.inj (hty.symm.trans ht')
  unfold Lib.TabIs
  rw [hvar, ← Lib.cells_of_tab ht he hce hct hd]
theorem grnd_of {W : World} (h : laidMetH Tryd.prog [("rolodex/sha.start", Rows.laid_rolodex_sha_start), ("rolodex/sha.rounds", Rows.laid_rolodex_sha_rounds)] W) : Grnd W := by
  have h0 : laidMet Tryd.prog [("rolodex/sha.start", Lib.tabData .u32 startZ), ("rolodex/sha.rounds", Lib.tabData .u32 roundZ)] W := h
  have h1 : Lib.TabIs Tryd.prog W "rolodex/sha.start" .u32 startZ := Lib.tabIs_of_head gStart tStart Tryd.underlying47 Tryd.underlying46 cells32u cells8 h0
  have h2 : Lib.TabIs Tryd.prog W "rolodex/sha.rounds" .u32 roundZ := tab_second gRounds tRounds Tryd.underlying73 Tryd.underlying46 cells32u cells64 h0
  have c1 := fun i hi => h1.cell gStart i hi
  have c2 := fun i hi => h2.cell gRounds i hi
  have lt_of : ∀ {a : Addr} {v : Value}, W.cell? a = some v → a.block < W.heap.size := fun {a v} hc => by
    rcases Nat.lt_or_ge a.block W.heap.size with h' | h'
    · exact h'
    · simp [World.cell?, Array.getElem?_eq_none h'] at hc
  refine ⟨fun j v hj => ?_, fun i hi => ?_, lt_of (c1 0 (by decide)), lt_of (c2 0 (by decide))⟩
  · have hjl : j < 8 := by have := (List.getElem?_eq_some_iff.1 hj).1; rw [words_len] at this; exact this
    rw [Nat.zero_add, c1 j hjl, ← hj]
    unfold words startZ
    rw [List.getElem?_map, List.getElem?_eq_getElem (by exact hjl : j < shaStart.list.length), List.getD_eq_getElem?_getD, List.getElem?_map, List.getElem?_eq_getElem (by exact hjl : j < shaStart.list.length)]
    rfl
  · rw [c2 i hi]
    unfold roundZ
    rw [List.getD_eq_getElem?_getD, List.getElem?_map, List.getElem?_eq_getElem (by exact hi : i < shaK.length), List.getD_eq_getElem?_getD, List.getElem?_eq_getElem (by exact hi : i < shaK.length)]
    rfl
/-- A row of numbers put in the place of a variable's cells. -/
def laidIn (l : List Nat) : Obj → Obj
  | .cells _ t frozen => .cells (words l).toArray t frozen
  | o => o
/-- The settled world with the tables laid: the witness. -/
noncomputable def laidWorld (os : Os) : World :=
  { World.holding Tryd.prog os ⟨#[], #[], []⟩ with heap := ((World.holding Tryd.prog os ⟨#[], #[], []⟩).heap.modify 0 (laidIn shaStart.list)).modify 1 (laidIn shaK) }
end Go.Proofs.YtjopfhmloklhdaaDoor
