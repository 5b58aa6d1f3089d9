import Derived.Test.YtjemciikdijokaaPrnSessionsFaultLaw3
import Derived.Test.YtjemciikdijokaaPrnSessionsFaultLaw1
import Derived.Deep.RegionHeld3
import Derived.Deep.DrawnRows
import Derived.Test.YtjemciikdijokaaPrnSessionsFaultLaw2

/-
  Slot. (Written by program: nest.py.)
-/
namespace Go.Proofs.Ytjemciikdijokaa
open Go.RowKit
set_option linter.unusedSectionVars false
variable [DecidableEq Vot] [Inhabited Vot]
attribute [local go_sem ↓] Go.wp_at_zero Go.wp_at_succ

set_option linter.unusedSimpArgs false

structure Slt where
  con : Int
  sh : Int
  pr : Int
  lb : Int
  lv : Int
  cast : List Vot
variable [DecidableEq Slt] [Inhabited Slt]

end Go.Proofs.Ytjemciikdijokaa

/-
  Acceptor. (Written by program: nest.py.)
-/
namespace Go.Proofs.Ytjemciikdijokaa
open Go.RowKit
set_option linter.unusedSectionVars false
variable [DecidableEq Vot] [Inhabited Vot] [DecidableEq Slt] [Inhabited Slt]
attribute [local go_sem ↓] Go.wp_at_zero Go.wp_at_succ

structure Acc where
  slots : List Slt
variable [DecidableEq Acc] [Inhabited Acc]

end Go.Proofs.Ytjemciikdijokaa

/-
  Try. (Written by program: nest.py.)
-/
namespace Go.Proofs.Ytjemciikdijokaa
open Go.RowKit
set_option linter.unusedSectionVars false
variable [DecidableEq Leg] [Inhabited Leg] [DecidableEq Vot] [Inhabited Vot]
attribute [local go_sem ↓] Go.wp_at_zero Go.wp_at_succ

set_option linter.unusedSimpArgs false

structure Trr where
  con : Int
  sh : Int
  bal : Int
  val : Int
  frm : List Int
  olds : List Vot
variable [DecidableEq Trr] [Inhabited Trr]

end Go.Proofs.Ytjemciikdijokaa

/-
  Slices of Heard: the law's own copy, comparison, count, marks. (Written by program after my texts on legs.)
-/
namespace Go.Proofs.Ytjemciikdijokaa
open Go.RowKit
set_option linter.unusedSectionVars false
attribute [local go_sem ↓] Go.wp_at_zero Go.wp_at_succ

structure Hrd where
  con : Int
  sh : Int
  bal : Int
  val : Int
  frm : Int
variable [DecidableEq Hrd] [Inhabited Hrd]

end Go.Proofs.Ytjemciikdijokaa

