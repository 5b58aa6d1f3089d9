import Derived.Test.YtncmdeijimgchaaPrnPickValueLaw1
import Derived.Deep.RegionHeld3
import Derived.Deep.DrawnRows
import Derived.BigQuiet
import Derived.Deep.QuietTactic

/-
  Slot. (Written by program: nest.py.)
-/
namespace Go.Proofs.Ytncmdeijimgchaa
open Go.RowKit
set_option linter.unusedSectionVars false
variable [DecidableEq Vot] [Inhabited Vot]
attribute [local go_sem ↓] Go.wp_at_zero Go.wp_at_succ

set_option linter.unusedSimpArgs false

structure Slt where
  con : Int
  sh : Int
  pr : Int
  lb : Int
  lv : Int
  cast : List Vot
variable [DecidableEq Slt] [Inhabited Slt]

end Go.Proofs.Ytncmdeijimgchaa

/-
  Slices of Balance: the law's own copy, comparison, count, marks. (Written by program after my texts on legs.)
-/
namespace Go.Proofs.Ytncmdeijimgchaa
open Go.RowKit
set_option linter.unusedSectionVars false
attribute [local go_sem ↓] Go.wp_at_zero Go.wp_at_succ

structure Bal where
  ac : Int
  ast : Int
  am : Int
variable [DecidableEq Bal] [Inhabited Bal]

end Go.Proofs.Ytncmdeijimgchaa

/-
  Ledger. (Written by program: nest.py.)
-/
namespace Go.Proofs.Ytncmdeijimgchaa
open Go.RowKit
set_option linter.unusedSectionVars false
variable [DecidableEq Bal] [Inhabited Bal]
attribute [local go_sem ↓] Go.wp_at_zero Go.wp_at_succ

structure Ledg where
  shards : List (List Bal)
variable [DecidableEq Ledg] [Inhabited Ledg]

end Go.Proofs.Ytncmdeijimgchaa

/-
  A leg as a value: the law's own copy and comparison of one leg.
-/
namespace Go.Proofs.Ytncmdeijimgchaa
open Go.RowKit
set_option linter.unusedSectionVars false

structure Leg where
  sh : Int
  ac : Int
  ast : Int
  am : Int
variable [DecidableEq Leg] [Inhabited Leg]

end Go.Proofs.Ytncmdeijimgchaa

