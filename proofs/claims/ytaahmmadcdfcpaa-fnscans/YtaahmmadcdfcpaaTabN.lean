/-
  Marks of rows and of texts.
-/
import Derived.Test.YtaahmmadcdfcpaaTabA
import Derived.Test.YtaahmmadcdfcpaaMrkT
import Derived.Laws.BytesArg
namespace Go.Proofs.Ytaahmmadcdfcpaa
open Go.RowKit
set_option linter.unusedSectionVars false
variable [DecidableEq Rw] [Inhabited Rw]
set_option linter.unusedVariables false
set_option linter.unusedSimpArgs false
attribute [local go_sem ↓] Go.wp_at_zero Go.wp_at_succ

def rwMark (k : Int) (i : Nat) : Rw := ⟨markT (k + 4 * i), k + 4 * i + 1, markT (k + 4 * i + 1 + 1), (k + 4 * i + 1 + 1 + 1) % 3 == 0⟩
def rwMarks (k : Int) (n : Nat) : List Rw := (List.range n).map (rwMark k)
theorem length_rwMarks (k : Int) (n : Nat) : (rwMarks k n).length = n := by simp [rwMarks]
theorem getD_rwMarks (k : Int) (n i : Nat) (h : i < n) : (rwMarks k n).getD i default = rwMark k i := by simp [rwMarks, List.getD, h]
theorem rwMarks_fit {k : Int} {n : Nat} (h0 : 0 ≤ k) (h : k + 4 * n ≤ 1073741824) : Fit (rwMarks k n) := by
  intro i hi
  rw [length_rwMarks] at hi
  rw [getD_rwMarks k n i hi]
  have h1 := markT_size (k + 4 * i)
  have h2 := markT_size (k + 4 * i + 1 + 1)
  unfold rwMark maxLen
  dsimp only
  omega

theorem heldKeep {w w' : World} {b o : Nat} {x : Rw} (hb : Below w.heap.size w w') (h : rowCells w b o x) : Below w.heap.size w w' ∧ w'.cell? ⟨b, o, none⟩ = some (.string x.key) ∧ w'.cell? ⟨b, o + 1, none⟩ = some (.int .i64 x.ver) ∧ w'.cell? ⟨b, o + 2, none⟩ = some (.string x.val) ∧ w'.cell? ⟨b, o + 3, none⟩ = some (.bool x.gone) := ⟨hb, rowCells_below hb h⟩

def cntRows (xs : List Rw) : Nat := 4 * xs.length
def mkRows (k : Int) (xs : List Rw) : List Rw := rwMarks k xs.length
theorem rows_cnt (d : List Rw) : cntRows d ≤ 4 * wtRows d := by unfold cntRows wtRows; omega

end Go.Proofs.Ytaahmmadcdfcpaa
