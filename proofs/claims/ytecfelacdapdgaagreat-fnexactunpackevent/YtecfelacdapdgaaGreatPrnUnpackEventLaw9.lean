import Derived.Test.YtecfelacdapdgaaGreatPrnUnpackEventLaw4
import Derived.Test.YtecfelacdapdgaaGreatPrnUnpackEventLaw2
import Derived.Deep.RegionHeld3
import Derived.Deep.DrawnRows
import Derived.Lib.ConvBytes
import Derived.Test.YtecfelacdapdgaaGreatPrnUnpackEventLaw5
import Derived.Test.YtecfelacdapdgaaGreatPrnUnpackEventLaw6
import Derived.Test.YtecfelacdapdgaaGreatPrnUnpackEventLaw7

/-
  Log. (Written by program: nest.py.)
-/
namespace Go.Proofs.YtecfelacdapdgaaGreat
open Go.RowKit
set_option linter.unusedSectionVars false
attribute [local go_sem ↓] Go.wp_at_zero Go.wp_at_succ

set_option linter.unusedSimpArgs false

structure Logg where
  synced : List Byte
  loose : List Byte
variable [DecidableEq Logg] [Inhabited Logg]

end Go.Proofs.YtecfelacdapdgaaGreat

/-
  LogResult. (Written by program: nest.py.)
-/
namespace Go.Proofs.YtecfelacdapdgaaGreat
open Go.RowKit
set_option linter.unusedSectionVars false
variable [DecidableEq Logg] [Inhabited Logg]
attribute [local go_sem ↓] Go.wp_at_zero Go.wp_at_succ

set_option linter.unusedSimpArgs false

structure LoggR where
  code : Int
  log : Logg
variable [DecidableEq LoggR] [Inhabited LoggR]

end Go.Proofs.YtecfelacdapdgaaGreat

/-
  Records told out of bytes: the mathematics, and the program's frameSize.
-/
namespace Go.Proofs.YtecfelacdapdgaaGreat
open Go.RowKit
set_option linter.unusedSectionVars false
variable [DecidableEq BytesR] [Inhabited BytesR]
attribute [local go_sem ↓] Go.wp_at_zero Go.wp_at_succ

def fC (xs : List Byte) : Nat := (xs.getD 2 0).val * 256 + (xs.getD 3 0).val
end Go.Proofs.YtecfelacdapdgaaGreat

/-
  RecordsResult. (Written by program: nest.py.)
-/
namespace Go.Proofs.YtecfelacdapdgaaGreat
open Go.RowKit
set_option linter.unusedSectionVars false
attribute [local go_sem ↓] Go.wp_at_zero Go.wp_at_succ

structure RecsR where
  code : Int
  used : Int
  records : List (List Byte)
variable [DecidableEq RecsR] [Inhabited RecsR]

end Go.Proofs.YtecfelacdapdgaaGreat

