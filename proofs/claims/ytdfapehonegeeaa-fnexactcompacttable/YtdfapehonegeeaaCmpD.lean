/-
  CompactTable: what is answered.
-/
import Derived.Test.YtdfapehonegeeaaMrgD
import Derived.Test.YtdfapehonegeeaaCmpM
namespace Go.Proofs.Ytdfapehonegeeaa
open Go.RowKit
set_option linter.unusedSectionVars false
variable [DecidableEq Rw] [Inhabited Rw] [DecidableEq TabR] [Inhabited TabR]
set_option linter.unusedVariables false

def compD (xs : List Rw) (v : Int) : TabR := if tabF xs = 0 then ⟨0, compL xs v⟩ else ⟨tabF xs, []⟩
theorem compD_le (xs : List Rw) (v : Int) : wtTabR (compD xs v) ≤ 24200 := by
  unfold compD
  split
  · rename_i h
    show wtRows (compL xs v) ≤ _
    have h1 := wt_small (ys := compL xs v) (fun x hx => tab_small h x ((compL_sub xs v).subset hx))
    have h2 := (compL_sub xs v).length_le
    have h3 := (tabF_all h).1
    omega
  · show wtRows [] ≤ _; rw [wt_nil]; omega

end Go.Proofs.Ytdfapehonegeeaa
