import Derived.Test.YtgjpafalompecaaPrnSettlesLaw17
import Derived.Test.YtgjpafalompecaaPrnSettlesLaw1
import Derived.Deep.RegionHeld3
import Derived.Deep.DrawnRows

/-
  LogResult. (Written by program: nest.py.)
-/
namespace Go.Proofs.Ytgjpafalompecaa
open Go.RowKit
set_option linter.unusedSectionVars false
variable [DecidableEq Logg] [Inhabited Logg]
attribute [local go_sem ↓] Go.wp_at_zero Go.wp_at_succ

set_option linter.unusedSimpArgs false

structure LoggR where
  code : Int
  log : Logg
variable [DecidableEq LoggR] [Inhabited LoggR]

end Go.Proofs.Ytgjpafalompecaa

/-
  BytesResult. (Written by program: nest.py.)
-/
namespace Go.Proofs.Ytgjpafalompecaa
open Go.RowKit
set_option linter.unusedSectionVars false
attribute [local go_sem ↓] Go.wp_at_zero Go.wp_at_succ

structure BytesR where
  code : Int
  bytes : List Byte
variable [DecidableEq BytesR] [Inhabited BytesR]

end Go.Proofs.Ytgjpafalompecaa

/-
  A piece of a row of bytes.
-/
namespace Go.Proofs.Ytgjpafalompecaa
open Go.RowKit

theorem addP (b o i : Nat) : (Addr.mk b o none).add i = ⟨b, o + i, none⟩ := by
  by_cases h : i = 0
  · subst h; simp [Addr.add]
  · simp [Addr.add, h]
end Go.Proofs.Ytgjpafalompecaa

/-
  RecordsResult. (Written by program: nest.py.)
-/
namespace Go.Proofs.Ytgjpafalompecaa
open Go.RowKit
set_option linter.unusedSectionVars false
attribute [local go_sem ↓] Go.wp_at_zero Go.wp_at_succ

structure RecsR where
  code : Int
  used : Int
  records : List (List Byte)
variable [DecidableEq RecsR] [Inhabited RecsR]

end Go.Proofs.Ytgjpafalompecaa

