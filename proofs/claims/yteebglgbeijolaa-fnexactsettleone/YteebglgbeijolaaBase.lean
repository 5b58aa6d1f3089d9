/-
  A leg as a value: the law's own copy and comparison of one leg.
-/
import Derived.Test.YteebglgbeijolaaKit
import Derived.BigQuiet
import Derived.Deep.QuietTactic
namespace Go.Proofs.Yteebglgbeijolaa
open Go.RowKit
set_option linter.unusedSectionVars false

/-- A leg. -/
structure Leg where
  sh : Int
  ac : Int
  ast : Int
  am : Int

variable [DecidableEq Leg] [Inhabited Leg]

def legV (l : Leg) : Value := .agg #[.int .i64 l.sh, .int .i64 l.ac, .int .i64 l.ast, .int .i64 l.am]

set_option maxHeartbeats 400000 in
theorem toLeg_any (l : Leg) (w : World) :
    Calls Try.prog 129 #[legV l] w fun e w' => e = .returned (legV l) ∧ Below w.heap.size w w' := by
  obtain ⟨a, b, c, d⟩ := l
  unfold legV
  go_enter Try.func129, Try.ntmps129
  go_wp2
  exact bodyPost_ret (v := .agg #[.int .i64 a, .int .i64 b, .int .i64 c, .int .i64 d]) (by simp [results, Try.results129, go_sem]) rfl ⟨rfl, (by repeat (first | exact Below.refl _ _ | (refine Below.drew ?_) | (refine Below.alloc ?_ (by first | (simp; done) | (simp; omega)) _)))⟩

set_option maxHeartbeats 400000 in
theorem eqLeg_any (x y : Leg) (w : World) :
    Calls Try.prog 138 #[legV x, legV y] w fun e w' => e = .returned (.bool (decide (x = y))) ∧ Below w.heap.size w w' := by
  obtain ⟨a, b, c, d⟩ := x
  obtain ⟨a', b', c', d'⟩ := y
  unfold legV
  go_enter Try.func138, Try.ntmps138
  go_wp2
  all_goals
    go_ret
    exact ⟨by simp_all, (by repeat (first | exact Below.refl _ _ | (refine Below.drew ?_) | (refine Below.alloc ?_ (by first | (simp; done) | (simp; omega)) _)))⟩

end Go.Proofs.Yteebglgbeijolaa
