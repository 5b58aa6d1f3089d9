import Derived.Test.YtjemciikdijokaaPrnSessionsFaultLaw4
import Derived.Test.YtjemciikdijokaaPrnSessionsFaultLaw1
import Derived.Deep.RegionHeld3
import Derived.Deep.DrawnRows
import Derived.Test.YtjemciikdijokaaPrnSessionsFaultLaw3
import Derived.Test.YtjemciikdijokaaPrnSessionsFaultLaw2

/-
  Leader. (Written by program: nest.py.)
-/
namespace Go.Proofs.Ytjemciikdijokaa
open Go.RowKit
set_option linter.unusedSectionVars false
variable [DecidableEq Leg] [Inhabited Leg] [DecidableEq Vot] [Inhabited Vot] [DecidableEq Trr] [Inhabited Trr] [DecidableEq Hrd] [Inhabited Hrd]
attribute [local go_sem ↓] Go.wp_at_zero Go.wp_at_succ

set_option linter.unusedSimpArgs false

structure Ldr where
  count : Int
  tries : List Trr
  known : List Hrd
variable [DecidableEq Ldr] [Inhabited Ldr]

end Go.Proofs.Ytjemciikdijokaa

/-
  Slices of Message: the law's own copy, comparison, count, marks. (Written by program after my texts on legs.)
-/
set_option linter.unusedSimpArgs false
namespace Go.Proofs.Ytjemciikdijokaa
open Go.RowKit
set_option linter.unusedSectionVars false
variable [DecidableEq Vot] [Inhabited Vot]
attribute [local go_sem ↓] Go.wp_at_zero Go.wp_at_succ

structure Msg where
  kind : Int
  to : Int
  frm : Int
  con : Int
  sh : Int
  bal : Int
  val : Int
  ob : Int
  ov : Int
variable [DecidableEq Msg] [Inhabited Msg]

end Go.Proofs.Ytjemciikdijokaa

/-
  Cluster. (Written by program: nest.py.)
-/
namespace Go.Proofs.Ytjemciikdijokaa
open Go.RowKit
set_option linter.unusedSectionVars false
variable [DecidableEq Leg] [Inhabited Leg] [DecidableEq Cont] [Inhabited Cont] [DecidableEq Bal] [Inhabited Bal] [DecidableEq Mrk] [Inhabited Mrk] [DecidableEq Shd] [Inhabited Shd] [DecidableEq Vot] [Inhabited Vot] [DecidableEq Slt] [Inhabited Slt] [DecidableEq Acc] [Inhabited Acc] [DecidableEq Trr] [Inhabited Trr] [DecidableEq Hrd] [Inhabited Hrd] [DecidableEq Ldr] [Inhabited Ldr] [DecidableEq Msg] [Inhabited Msg]
attribute [local go_sem ↓] Go.wp_at_zero Go.wp_at_succ

set_option linter.unusedSimpArgs false

structure Clu where
  cons : List Cont
  shards : List Shd
  accs : List Acc
  ldrs : List Ldr
  msgs : List Msg
variable [DecidableEq Clu] [Inhabited Clu]

end Go.Proofs.Ytjemciikdijokaa

/-
  SessionsResult. (Written by program: nest.py.)
-/
namespace Go.Proofs.Ytjemciikdijokaa
open Go.RowKit
set_option linter.unusedSectionVars false
variable [DecidableEq Leg] [Inhabited Leg] [DecidableEq Ses] [Inhabited Ses] [DecidableEq Cont] [Inhabited Cont] [DecidableEq Bal] [Inhabited Bal] [DecidableEq Mrk] [Inhabited Mrk] [DecidableEq Shd] [Inhabited Shd] [DecidableEq Vot] [Inhabited Vot] [DecidableEq Slt] [Inhabited Slt] [DecidableEq Acc] [Inhabited Acc] [DecidableEq Trr] [Inhabited Trr] [DecidableEq Hrd] [Inhabited Hrd] [DecidableEq Ldr] [Inhabited Ldr] [DecidableEq Msg] [Inhabited Msg] [DecidableEq Clu] [Inhabited Clu]
attribute [local go_sem ↓] Go.wp_at_zero Go.wp_at_succ

set_option linter.unusedSimpArgs false

structure SesR where
  code : Int
  id : Int
  sess : List Ses
  clu : Clu
variable [DecidableEq SesR] [Inhabited SesR]

end Go.Proofs.Ytjemciikdijokaa

