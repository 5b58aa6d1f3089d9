import Derived.Test.YteppnppknfldbaaPrnAgreesLaw14
import Derived.Test.YteppnppknfldbaaPrnAgreesLaw1

/-
  Rows of uint8: the uniform forms. (Written by program: nest.py.)
-/
namespace Go.Proofs.Yteppnppknfldbaa
open Go.RowKit
attribute [local go_sem ↓] Go.wp_at_zero Go.wp_at_succ

def bytesR : Rep (List Byte) := fRep 5 1 bytesC BytesV BytesV_below BytesV_of_owns
theorem bytes_form {w : World} {v : Value} {xs : List Byte} (h : bytesR.V w v xs) : ∃ a c, v = .slice a xs.length c := by
  obtain ⟨a, c, rfl, _⟩ := h
  exact ⟨_, _, rfl⟩
end Go.Proofs.Yteppnppknfldbaa

/-
  Log. (Written by program: nest.py.)
-/
namespace Go.Proofs.Yteppnppknfldbaa
open Go.RowKit
set_option linter.unusedSectionVars false
attribute [local go_sem ↓] Go.wp_at_zero Go.wp_at_succ

set_option linter.unusedSimpArgs false

structure Logg where
  synced : List Byte
  loose : List Byte
variable [DecidableEq Logg] [Inhabited Logg]

end Go.Proofs.Yteppnppknfldbaa

/-
  LogResult. (Written by program: nest.py.)
-/
namespace Go.Proofs.Yteppnppknfldbaa
open Go.RowKit
set_option linter.unusedSectionVars false
variable [DecidableEq Logg] [Inhabited Logg]
attribute [local go_sem ↓] Go.wp_at_zero Go.wp_at_succ

set_option linter.unusedSimpArgs false

structure LoggR where
  code : Int
  log : Logg
variable [DecidableEq LoggR] [Inhabited LoggR]

end Go.Proofs.Yteppnppknfldbaa

/-
  BytesResult. (Written by program: nest.py.)
-/
namespace Go.Proofs.Yteppnppknfldbaa
open Go.RowKit
set_option linter.unusedSectionVars false
attribute [local go_sem ↓] Go.wp_at_zero Go.wp_at_succ

structure BytesR where
  code : Int
  bytes : List Byte
variable [DecidableEq BytesR] [Inhabited BytesR]

end Go.Proofs.Yteppnppknfldbaa

