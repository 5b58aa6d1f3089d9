/-
  slices.SortFunc over keys of a book: both contracts, at this program.
-/
import Derived.Test.YteebglgbeijolaaSrf
import Derived.Test.YteebglgbeijolaaLaySort
import Derived.Shelf.SlSortCmp.NoneTotal
namespace Go.Proofs.Yteebglgbeijolaa
open Go.RowKit Go.Sort Go.Shelf
set_option linter.unusedSectionVars false
variable [DecidableEq Rw] [Inhabited Rw] [DecidableEq Bal] [Inhabited Bal] [DecidableEq Ledg] [Inhabited Ledg] [DecidableEq Leg] [Inhabited Leg] [DecidableEq Cont] [Inhabited Cont]
set_option linter.unusedVariables false

theorem sortsK : SortsK where
  some_ := fun xs g cap base W ho hb hn => sortK_any Try.sortK_ren Try.sortK rfl rfl xs g cap base W ho hb hn
  none_ := fun W => AnyF.slices_SortFunc_none Try.sortK none 0 (.func (.func 136) #[] #[]) W

end Go.Proofs.Yteebglgbeijolaa
