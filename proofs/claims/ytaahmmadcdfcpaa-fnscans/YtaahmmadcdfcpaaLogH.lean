/-
  One more record in a log, on both sides.
-/
import Derived.Test.YtaahmmadcdfcpaaLogG
namespace Go.Proofs.Ytaahmmadcdfcpaa
open Go.RowKit
set_option linter.unusedSectionVars false
variable [DecidableEq Logg] [Inhabited Logg] [DecidableEq LoggR] [Inhabited LoggR] [DecidableEq BytesR] [Inhabited BytesR] [DecidableEq RecsR] [Inhabited RecsR] [DecidableEq Leg] [Inhabited Leg]
set_option linter.unusedSimpArgs false
attribute [local go_sem ↓] Go.wp_at_zero Go.wp_at_succ

def appD (d : Logg) (xs : List Byte) : LoggR := if logF d = 0 then (if 1 ≤ xs.length ∧ xs.length ≤ 500 then (if logF ⟨d.synced, d.loose ++ frameB xs⟩ = 0 then ⟨0, ⟨d.synced, d.loose ++ frameB xs⟩⟩ else codeD 2) else codeD 2) else codeD 2
theorem appD_le (d : Logg) (xs : List Byte) : wtLoggR (appD d xs) ≤ 6000 := by
  unfold appD
  split
  · split
    · split
      · rename_i h
        rcases logF_cases ⟨d.synced, d.loose ++ frameB xs⟩ with ⟨_, hl⟩ | h2
        · simp only [wtLoggR, wtLogg, wtBytes]
          exact hl
        · omega
      · exact codeD_le 2
    · exact codeD_le 2
  · exact codeD_le 2

end Go.Proofs.Ytaahmmadcdfcpaa
