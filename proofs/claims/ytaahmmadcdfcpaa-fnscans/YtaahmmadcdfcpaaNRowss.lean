/-
  Rows of []Row. (Written by program: nest.py.)
-/
import Derived.Test.YtaahmmadcdfcpaaTabN
import Derived.Test.YtaahmmadcdfcpaaSep
import Derived.Deep.RegionHeld3
import Derived.Deep.DrawnRows
namespace Go.Proofs.Ytaahmmadcdfcpaa
open Go.RowKit
set_option linter.unusedSectionVars false
variable [DecidableEq Rw] [Inhabited Rw]
attribute [local go_sem ↓] Go.wp_at_zero Go.wp_at_succ

def rowssR : Rep (List (List Rw)) := nRep rowsR 24 1 one
def wtRowss (xs : List (List Rw)) : Nat := wtL wtRows xs
def cntRowss (xs : List (List Rw)) : Nat := cntL cntRows xs
def mkRowss (k : Int) (xs : List (List Rw)) : List (List Rw) := mkL mkRows cntRows k xs
theorem rowss_form {w : World} {v : Value} {xs : List (List Rw)} (h : rowssR.V w v xs) : ∃ a c, v = .slice a xs.length c := by
  obtain ⟨a, c, rfl, _⟩ := h
  exact ⟨_, _, rfl⟩
theorem rowss_cnt (d : List (List Rw)) : cntRowss d ≤ 4 * wtRowss d := cntL_le (fun x => by have := rows_cnt x; omega) d
theorem infoRowss : (Try.prog.info? 24).map (fun i => (i.zero, i.size, i.bytes)) = some (some (.slice none 0 0), 1, 24) := by kernel_rfl

theorem keepRowss {w w' : World} {a0 a1 : Addr} {x0 x1 : Value} (hb : Below w.heap.size w w') (g0 : w.cell? a0 = some x0) (g1 : w.cell? a1 = some x1) : Below w.heap.size w w' ∧ w'.cell? a0 = some x0 ∧ w'.cell? a1 = some x1 :=
  ⟨hb, cell_keep hb g0, cell_keep hb g1⟩

end Go.Proofs.Ytaahmmadcdfcpaa
