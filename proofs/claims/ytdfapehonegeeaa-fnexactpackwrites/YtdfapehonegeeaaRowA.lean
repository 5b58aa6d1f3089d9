/-
  A row of a table: the law's own copy, comparison, count; RowFault on both sides.
-/
import Derived.Test.YtdfapehonegeeaaKit
import Derived.Test.YtdfapehonegeeaaRowB0
import Derived.Deep.RegionHeld3
import Derived.Deep.DrawnRows
import Derived.BigQuiet
namespace Go.Proofs.Ytdfapehonegeeaa
open Go.RowKit
set_option linter.unusedSectionVars false
attribute [local go_sem ↓] Go.wp_at_zero Go.wp_at_succ
set_option linter.unusedSimpArgs false

structure Rw where
  key : ByteArray
  ver : Int
  val : ByteArray
  gone : Bool

variable [DecidableEq Rw] [Inhabited Rw]

def rowV (x : Rw) : Value := .agg #[.string x.key, .int .i64 x.ver, .string x.val, .bool x.gone]

set_option maxHeartbeats 400000 in
theorem toRow_any (x : Rw) (w : World) :
    Calls Try.prog 69 #[rowV x] w fun e w' => e = .returned (rowV x) ∧ Below w.heap.size w w' := by
  obtain ⟨a, b, c, d⟩ := x
  unfold rowV
  go_enter Try.func69, Try.ntmps69
  go_wp2
  exact bodyPost_ret (v := .agg #[.string a, .int .i64 b, .string c, .bool d]) (by simp [results, Try.results69, go_sem]) rfl ⟨rfl, balloc (balloc (balloc (Below.refl _ _) _) _) _⟩

set_option maxHeartbeats 400000 in
theorem eqRow_any (x y : Rw) (w : World) :
    Calls Try.prog 70 #[rowV x, rowV y] w fun e w' => e = .returned (.bool (decide (x = y))) ∧ Below w.heap.size w w' := by
  obtain ⟨a, b, c, d⟩ := x
  obtain ⟨a', b', c', d'⟩ := y
  unfold rowV
  go_enter Try.func70, Try.ntmps70
  go_wp2
  all_goals
    go_ret
    exact ⟨by simp_all [tl_inj], balloc (balloc (Below.refl _ _) _) _⟩

def inR (a lo hi : Int) : Bool := decide (lo ≤ a ∧ a ≤ hi)

theorem l1InR_any (a lo hi : Int) (w : World) :
    Calls Try.prog 80 #[.int .i64 a, .int .i64 lo, .int .i64 hi] w fun e w' => e = .returned (.bool (inR a lo hi)) ∧ w' = w := by
  go_enter Try.func80, Try.ntmps80
  go_wp2
  all_goals
    go_ret
    exact ⟨by unfold inR; simp_all <;> omega, rfl⟩

theorem withinR_any (a lo hi : Int) (w : World) :
    Calls Try.prog 101 #[.int .i64 a, .int .i64 lo, .int .i64 hi] w fun e w' => e = .returned (.bool (inR a lo hi)) ∧ w' = w := by
  go_enter Try.func101, Try.ntmps101
  go_wp2
  all_goals
    go_ret
    exact ⟨by unfold inR; simp_all <;> omega, rfl⟩

def rowFault (x : Rw) : Int :=
  if x.key.size < 1 ∨ 20 < x.key.size ∨ (x.gone = true ∧ 0 < x.val.size) then 1 else if 100 < x.val.size then 2 else if inR x.ver 1 1000000 then 0 else 3

set_option maxHeartbeats 400000 in
theorem specRowFault_any (x : Rw) (w : World) :
    Calls Try.prog 73 #[rowV x] w fun e w' => e = .returned (.int .i64 (rowFault x)) ∧ Below w.heap.size w w' := by
  obtain ⟨a, b, c, d⟩ := x
  unfold rowV
  cases d <;> cases hin : inR b 1 1000000
  all_goals
    go_enter Try.func73, Try.ntmps73
    go_wp2_with (go_at_call 80; refine (l1InR_any _ _ _ _).mono ?_; rintro e w' ⟨rfl, rfl⟩; rw [hin])
    all_goals
      go_ret
      refine ⟨?_, balloc (Below.refl _ _) _⟩
      refine congrArg (fun z => Ending.returned (Value.int .i64 z)) ?_
      try simp only [tl_nil, tl_empty, Bool.not_eq_true', Bool.not_eq_false', decide_eq_true_eq, decide_eq_false_iff_not] at *
      unfold rowFault
      simp only [hin, true_and, false_and, or_false, Bool.false_eq_true, if_true, if_false]
      repeat (first | rfl | (exfalso; omega) | rw [if_pos (by omega)] | rw [if_neg (by omega)])

set_option maxHeartbeats 400000 in
theorem implRowFault_any (x : Rw) (w : World) :
    Calls Try.prog 61 #[rowV x] w fun e w' => e = .returned (.int .i64 (rowFault x)) ∧ Below w.heap.size w w' := by
  obtain ⟨a, b, c, d⟩ := x
  unfold rowV
  cases d <;> cases hin : inR b 1 1000000
  all_goals
    go_enter Try.func61, Try.ntmps61
    go_wp2_with (go_at_call 101; refine (withinR_any _ _ _ _).mono ?_; rintro e w' ⟨rfl, rfl⟩; rw [hin])
    all_goals
      go_ret
      refine ⟨?_, balloc (Below.refl _ _) _⟩
      refine congrArg (fun z => Ending.returned (Value.int .i64 z)) ?_
      try simp only [tl_nil, tl_empty, Bool.not_eq_true', Bool.not_eq_false', decide_eq_true_eq, decide_eq_false_iff_not] at *
      unfold rowFault
      simp only [hin, true_and, false_and, or_false, Bool.false_eq_true, if_true, if_false]
      repeat (first | rfl | (exfalso; omega) | rw [if_pos (by omega)] | rw [if_neg (by omega)])

/-- how many letters a row has -/
def wtRw (x : Rw) : Nat := x.key.size + x.val.size

set_option maxHeartbeats 400000 in
theorem szRow_any (x : Rw) (left : Int) (w : World) (hk : x.key.size ≤ maxLen) (hv : x.val.size ≤ maxLen) (h0 : 0 ≤ left) (h1 : left ≤ 1048576) :
    Calls Try.prog 68 #[rowV x, .int .i64 left] w fun e w' => e = .returned (.int .i64 (szLen left (wtRw x : Nat))) ∧ Below w.heap.size w w' := by
  obtain ⟨a, b, c, d⟩ := x
  unfold rowV
  unfold maxLen at hk hv
  dsimp only [wtRw] at *
  have e1 : wrap64 (left - a.size) = left - a.size := by unfold wrap64; omega
  by_cases h : left - (a.size : Int) < 0
  · go_enter Try.func68, Try.ntmps68
    go_wp2
    go_ret
    exact ⟨by rw [szLen, if_pos (by omega)]; rfl, balloc (Below.refl _ _) _⟩
  · have e2 : wrap64 (left - a.size - c.size) = left - a.size - c.size := by unfold wrap64; omega
    by_cases h2 : left - (a.size : Int) - (c.size : Int) < 0
    · go_enter Try.func68, Try.ntmps68
      go_wp2
      go_ret
      exact ⟨by rw [szLen, if_pos (by omega)]; rfl, balloc (Below.refl _ _) _⟩
    · go_enter Try.func68, Try.ntmps68
      go_wp2
      go_ret
      refine ⟨?_, balloc (Below.refl _ _) _⟩
      rw [szLen, if_neg (by omega)]
      refine congrArg (fun z => Ending.returned (Value.int .i64 z)) ?_
      omega

end Go.Proofs.Ytdfapehonegeeaa
