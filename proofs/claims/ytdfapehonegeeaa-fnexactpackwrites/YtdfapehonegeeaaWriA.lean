/-
  One Write: the law's own copy, comparison, count. (Written by program: strow.py.)
-/
import Derived.Test.YtdfapehonegeeaaRowB0
namespace Go.Proofs.Ytdfapehonegeeaa
open Go.RowKit
set_option linter.unusedSectionVars false
attribute [local go_sem ↓] Go.wp_at_zero Go.wp_at_succ
set_option linter.unusedSimpArgs false

structure Wri where
  key : ByteArray
  val : ByteArray
  gone : Bool

variable [DecidableEq Wri] [Inhabited Wri]

def wriV (x : Wri) : Value := .agg #[.string x.key, .string x.val, .bool x.gone]

set_option maxHeartbeats 400000 in
theorem toWrite_any (x : Wri) (w : World) :
    Calls Try.prog 75 #[wriV x] w fun e w' => e = .returned (wriV x) ∧ Below w.heap.size w w' := by
  obtain ⟨x0, x1, x2⟩ := x
  unfold wriV
  go_enter Try.func75, Try.ntmps75
  go_wp2
  exact bodyPost_ret (v := .agg #[.string x0, .string x1, .bool x2]) (by simp [results, Try.results75, go_sem]) rfl ⟨rfl, by (repeat (first | exact Below.refl _ _ | assumption | refine Below.drew ?_ | refine balloc ?_ _ | refine bstep ?_ (by assumption)))⟩

set_option maxHeartbeats 400000 in
theorem eqWrite_any (x y : Wri) (w : World) :
    Calls Try.prog 79 #[wriV x, wriV y] w fun e w' => e = .returned (.bool (decide (x = y))) ∧ Below w.heap.size w w' := by
  obtain ⟨x0, x1, x2⟩ := x
  obtain ⟨y0, y1, y2⟩ := y
  unfold wriV
  go_enter Try.func79, Try.ntmps79
  go_wp2
  all_goals
    go_ret
    exact ⟨by simp_all [tl_inj], by (repeat (first | exact Below.refl _ _ | assumption | refine Below.drew ?_ | refine balloc ?_ _ | refine bstep ?_ (by assumption)))⟩

/-- how many letters one has -/
def wtWri (x : Wri) : Nat := x.key.size + x.val.size

set_option maxHeartbeats 400000 in
theorem szWrite_any (x : Wri) (left : Int) (w : World) (hl0 : x.key.size ≤ maxLen) (hl1 : x.val.size ≤ maxLen) (h0 : 0 ≤ left) (h1 : left ≤ 1048576) :
    Calls Try.prog 72 #[wriV x, .int .i64 left] w fun e w' => e = .returned (.int .i64 (szLen left (wtWri x : Nat))) ∧ Below w.heap.size w w' := by
  obtain ⟨x0, x1, x2⟩ := x
  unfold wriV
  unfold maxLen at hl0 hl1
  dsimp only [wtWri] at *
  have e0 : wrap64 (left - x0.size) = left - x0.size := by unfold wrap64; omega
  by_cases c0 : left - x0.size < 0
  · go_enter Try.func72, Try.ntmps72
    go_wp2
    go_ret
    exact ⟨by rw [szLen, if_pos (by omega)]; rfl, by (repeat (first | exact Below.refl _ _ | assumption | refine Below.drew ?_ | refine balloc ?_ _ | refine bstep ?_ (by assumption)))⟩
  · skip
    have e1 : wrap64 (left - x0.size - x1.size) = left - x0.size - x1.size := by unfold wrap64; omega
    by_cases c1 : left - x0.size - x1.size < 0
    · go_enter Try.func72, Try.ntmps72
      go_wp2
      go_ret
      exact ⟨by rw [szLen, if_pos (by omega)]; rfl, by (repeat (first | exact Below.refl _ _ | assumption | refine Below.drew ?_ | refine balloc ?_ _ | refine bstep ?_ (by assumption)))⟩
    · go_enter Try.func72, Try.ntmps72
      go_wp2
      go_ret
      refine ⟨?_, by (repeat (first | exact Below.refl _ _ | assumption | refine Below.drew ?_ | refine balloc ?_ _ | refine bstep ?_ (by assumption)))⟩
      rw [szLen, if_neg (by omega)]
      refine congrArg (fun z => Ending.returned (Value.int .i64 z)) ?_
      omega

end Go.Proofs.Ytdfapehonegeeaa
