import Derived.Test.YtjemciikdijokaaPrnIdForLaw1
import Derived.Deep.RegionHeld3
import Derived.Deep.DrawnRows

/-
  Contract. (Written by program: nest.py.)
-/
namespace Go.Proofs.Ytjemciikdijokaa
open Go.RowKit
set_option linter.unusedSectionVars false
variable [DecidableEq Leg] [Inhabited Leg]
attribute [local go_sem ↓] Go.wp_at_zero Go.wp_at_succ

structure Cont where
  id : Int
  legs : List Leg
variable [DecidableEq Cont] [Inhabited Cont]

end Go.Proofs.Ytjemciikdijokaa

/-
  Slices of Balance: the law's own copy, comparison, count, marks. (Written by program after my texts on legs.)
-/
namespace Go.Proofs.Ytjemciikdijokaa
open Go.RowKit
set_option linter.unusedSectionVars false
attribute [local go_sem ↓] Go.wp_at_zero Go.wp_at_succ

structure Bal where
  ac : Int
  ast : Int
  am : Int
variable [DecidableEq Bal] [Inhabited Bal]

end Go.Proofs.Ytjemciikdijokaa

/-
  Slices of Mark: the law's own copy, comparison, count, marks. (Written by program after my texts on legs.)
-/
namespace Go.Proofs.Ytjemciikdijokaa
open Go.RowKit
set_option linter.unusedSectionVars false
attribute [local go_sem ↓] Go.wp_at_zero Go.wp_at_succ

structure Mrk where
  con : Int
  val : Int
variable [DecidableEq Mrk] [Inhabited Mrk]

end Go.Proofs.Ytjemciikdijokaa

/-
  Shard. (Written by program: nest.py.)
-/
namespace Go.Proofs.Ytjemciikdijokaa
open Go.RowKit
set_option linter.unusedSectionVars false
variable [DecidableEq Bal] [Inhabited Bal] [DecidableEq Mrk] [Inhabited Mrk] [DecidableEq Leg] [Inhabited Leg] [DecidableEq Cont] [Inhabited Cont]
attribute [local go_sem ↓] Go.wp_at_zero Go.wp_at_succ

set_option linter.unusedSimpArgs false

structure Shd where
  idx : Int
  bals : List Bal
  votes : List Mrk
  held : List Cont
  done : List Mrk
  appl : List Int
variable [DecidableEq Shd] [Inhabited Shd]

end Go.Proofs.Ytjemciikdijokaa

