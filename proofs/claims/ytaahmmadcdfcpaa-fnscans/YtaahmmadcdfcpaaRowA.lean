/-
  A row of a table: the law's own copy, comparison, count; RowFault on both sides.
-/
import Derived.Test.YtaahmmadcdfcpaaKit
import Derived.Test.YtaahmmadcdfcpaaRowB0
import Derived.Deep.RegionHeld3
import Derived.Deep.DrawnRows
import Derived.BigQuiet
namespace Go.Proofs.Ytaahmmadcdfcpaa
open Go.RowKit
set_option linter.unusedSectionVars false
attribute [local go_sem ↓] Go.wp_at_zero Go.wp_at_succ
set_option linter.unusedSimpArgs false

structure Rw where
  key : ByteArray
  ver : Int
  val : ByteArray
  gone : Bool

variable [DecidableEq Rw] [Inhabited Rw]

def rowV (x : Rw) : Value := .agg #[.string x.key, .int .i64 x.ver, .string x.val, .bool x.gone]

def inR (a lo hi : Int) : Bool := decide (lo ≤ a ∧ a ≤ hi)

theorem l1InR_any (a lo hi : Int) (w : World) :
    Calls Try.prog 80 #[.int .i64 a, .int .i64 lo, .int .i64 hi] w fun e w' => e = .returned (.bool (inR a lo hi)) ∧ w' = w := by
  go_enter Try.func80, Try.ntmps80
  go_wp2
  all_goals
    go_ret
    exact ⟨by unfold inR; simp_all <;> omega, rfl⟩

theorem withinR_any (a lo hi : Int) (w : World) :
    Calls Try.prog 44 #[.int .i64 a, .int .i64 lo, .int .i64 hi] w fun e w' => e = .returned (.bool (inR a lo hi)) ∧ w' = w := by
  go_enter Try.func44, Try.ntmps44
  go_wp2
  all_goals
    go_ret
    exact ⟨by unfold inR; simp_all <;> omega, rfl⟩

def rowFault (x : Rw) : Int :=
  if x.key.size < 1 ∨ 20 < x.key.size ∨ (x.gone = true ∧ 0 < x.val.size) then 1 else if 100 < x.val.size then 2 else if inR x.ver 1 1000000 then 0 else 3

set_option maxHeartbeats 400000 in
theorem specRowFault_any (x : Rw) (w : World) :
    Calls Try.prog 73 #[rowV x] w fun e w' => e = .returned (.int .i64 (rowFault x)) ∧ Below w.heap.size w w' := by
  obtain ⟨a, b, c, d⟩ := x
  unfold rowV
  cases d <;> cases hin : inR b 1 1000000
  all_goals
    go_enter Try.func73, Try.ntmps73
    go_wp2_with (go_at_call 80; refine (l1InR_any _ _ _ _).mono ?_; rintro e w' ⟨rfl, rfl⟩; rw [hin])
    all_goals
      go_ret
      refine ⟨?_, balloc (Below.refl _ _) _⟩
      refine congrArg (fun z => Ending.returned (Value.int .i64 z)) ?_
      try simp only [tl_nil, tl_empty, Bool.not_eq_true', Bool.not_eq_false', decide_eq_true_eq, decide_eq_false_iff_not] at *
      unfold rowFault
      simp only [hin, true_and, false_and, or_false, Bool.false_eq_true, if_true, if_false]
      repeat (first | rfl | (exfalso; omega) | rw [if_pos (by omega)] | rw [if_neg (by omega)])

set_option maxHeartbeats 400000 in
theorem implRowFault_any (x : Rw) (w : World) :
    Calls Try.prog 68 #[rowV x] w fun e w' => e = .returned (.int .i64 (rowFault x)) ∧ Below w.heap.size w w' := by
  obtain ⟨a, b, c, d⟩ := x
  unfold rowV
  cases d <;> cases hin : inR b 1 1000000
  all_goals
    go_enter Try.func68, Try.ntmps68
    go_wp2_with (go_at_call 44; refine (withinR_any _ _ _ _).mono ?_; rintro e w' ⟨rfl, rfl⟩; rw [hin])
    all_goals
      go_ret
      refine ⟨?_, balloc (Below.refl _ _) _⟩
      refine congrArg (fun z => Ending.returned (Value.int .i64 z)) ?_
      try simp only [tl_nil, tl_empty, Bool.not_eq_true', Bool.not_eq_false', decide_eq_true_eq, decide_eq_false_iff_not] at *
      unfold rowFault
      simp only [hin, true_and, false_and, or_false, Bool.false_eq_true, if_true, if_false]
      repeat (first | rfl | (exfalso; omega) | rw [if_pos (by omega)] | rw [if_neg (by omega)])

/-- how many letters a row has -/
def wtRw (x : Rw) : Nat := x.key.size + x.val.size

end Go.Proofs.Ytaahmmadcdfcpaa
