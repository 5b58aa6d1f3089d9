/-
  A leg as a value: the law's own copy and comparison of one leg.
-/
import Derived.Test.YtaahmmadcdfcpaaKit
import Derived.BigQuiet
import Derived.Deep.QuietTactic
namespace Go.Proofs.Ytaahmmadcdfcpaa
open Go.RowKit
set_option linter.unusedSectionVars false

/-- A leg. -/
structure Leg where
  sh : Int
  ac : Int
  ast : Int
  am : Int

variable [DecidableEq Leg] [Inhabited Leg]

def legV (l : Leg) : Value := .agg #[.int .i64 l.sh, .int .i64 l.ac, .int .i64 l.ast, .int .i64 l.am]

end Go.Proofs.Ytaahmmadcdfcpaa
