import Derived.Test.YtecfelacdapdgaaGreatPrnEventFaultLaw1
import Derived.Deep.RegionHeld3
import Derived.Deep.DrawnRows
import Derived.Test.YtecfelacdapdgaaGreatPrnEventFaultLaw2
import Derived.Test.YtecfelacdapdgaaGreatPrnEventFaultLaw4
import Derived.RangeFuncNested
import Derived.RangeFuncBound
import Derived.RangeFuncCalls
import Derived.RangeFuncLeaves
import Derived.Shelf.Abstract
import Derived.Test.YtecfelacdapdgaaGreatPrnEventFaultLaw7
import Derived.Test.YtecfelacdapdgaaGreatPrnEventFaultLaw6
import Derived.WalkKit
import Derived.OwnWalkIn
import Derived.TacticsInMore
import Derived.LoopNIn
import Derived.LoopIn
import Derived.Maps.OwnIn
import Derived.Maps.AppendAt

/-
  Slices of Balance: the law's own copy, comparison, count, marks. (Written by program after my texts on legs.)
-/
namespace Go.Proofs.YtecfelacdapdgaaGreat
open Go.RowKit
set_option linter.unusedSectionVars false
attribute [local go_sem ↓] Go.wp_at_zero Go.wp_at_succ

structure Bal where
  ac : Int
  ast : Int
  am : Int
variable [DecidableEq Bal] [Inhabited Bal]

end Go.Proofs.YtecfelacdapdgaaGreat

/-
  Ledger. (Written by program: nest.py.)
-/
namespace Go.Proofs.YtecfelacdapdgaaGreat
open Go.RowKit
set_option linter.unusedSectionVars false
variable [DecidableEq Bal] [Inhabited Bal]
attribute [local go_sem ↓] Go.wp_at_zero Go.wp_at_succ

structure Ledg where
  shards : List (List Bal)
variable [DecidableEq Ledg] [Inhabited Ledg]

end Go.Proofs.YtecfelacdapdgaaGreat

/-
  Chapter 2 in plain mathematics: faults of balances and ledgers, what is had, totals, what can be settled.
-/
namespace Go.Proofs.YtecfelacdapdgaaGreat
open Go.RowKit
set_option linter.unusedSectionVars false
variable [DecidableEq Bal] [Inhabited Bal] [DecidableEq Ledg] [Inhabited Ledg] [DecidableEq Leg] [Inhabited Leg]

def keyOk (ac ast : Int) : Bool := inB ac 0 5 && inB ast 0 2
theorem inBi {n lo hi : Int} : inB n lo hi = true ↔ lo ≤ n ∧ n ≤ hi := by simp [inB]
theorem keyOk_iff {a s : Int} : keyOk a s = true ↔ (0 ≤ a ∧ a ≤ 5) ∧ (0 ≤ s ∧ s ≤ 2) := by simp [keyOk, inBi]
end Go.Proofs.YtecfelacdapdgaaGreat

/-
  slices.Collect over an iterator of keys whose order is its own. (Out of Clt's text.)
-/
namespace Go.Proofs.YtecfelacdapdgaaGreat
open Go.RowKit Go.Shelf
set_option linter.unusedVariables false
set_option linter.unusedSimpArgs false
attribute [local go_sem] Oper.semAt_some

abbrev K3 := Int × Int × Int
end Go.Proofs.YtecfelacdapdgaaGreat

