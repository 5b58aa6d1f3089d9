import Derived.Test.YtgibggjmliddlaaPrnQuorumOfLaw3
import Derived.Test.YtgibggjmliddlaaSumOf
import Derived.Test.YtgibggjmliddlaaPrnQuorumOfLaw1
import Derived.Deep.RegionHeld3
import Derived.Deep.DrawnRows

/-
  Proved: laws.FnExactQuorumOf answers true at every argument, and its arguments read behind the call as they read before. No condition. (The walk.)
-/
namespace Go.Proofs.Ytgibggjmliddlaa.quorumOfLaw
open Go.RowKit
set_option linter.unusedSectionVars false
variable [DecidableEq Vot] [Inhabited Vot] [DecidableEq Slt] [Inhabited Slt] [DecidableEq SltR] [Inhabited SltR] [DecidableEq Bal] [Inhabited Bal] [DecidableEq Ledg] [Inhabited Ledg] [DecidableEq Leg] [Inhabited Leg]
attribute [local go_sem ↓] Go.wp_at_zero Go.wp_at_succ

set_option maxHeartbeats 1000000 in
theorem walk (k0 : Int) (w : World) :
    Calls Try.prog 10 #[.int .i64 k0] w fun e w' => e = .returned (.bool true) ∧ Below w.heap.size w w' := by
  have implQ := implQuorum_any k0
  go_enter Try.func10, Try.ntmps10
  go_wp2_with fail
  refine (specQuorum_any k0 _).mono ?_
  rintro e w1 ⟨rfl, hb1⟩
  have hB1 : Below w.heap.size w w1 := by (repeat (first | exact Below.refl _ _ | assumption | refine Below.drew ?_ | refine balloc ?_ _ | refine bset ?_ (by simp; omega) _ | refine bset ?_ (by simp) _ | refine bstep ?_ (by assumption)))
  clear hb1
  generalize quoC k0 = a at *
  generalize quoR k0 = b at *
  go_wp2_with fail
  refine (implQ _).mono ?_
  rintro e w2 ⟨rfl, hb2⟩
  have hB2 : Below w.heap.size w w2 := by (repeat (first | exact Below.refl _ _ | assumption | refine Below.drew ?_ | refine balloc ?_ _ | refine bset ?_ (by simp; omega) _ | refine bset ?_ (by simp) _ | refine bstep ?_ (by assumption)))
  have q0 : w2.cell? ⟨w1.heap.size, 0, none⟩ = some (.int .i64 a) := cell_keep hb2 (by simp [go_sem])
  have q1 : w2.cell? ⟨w1.heap.size, 1, none⟩ = some (.int .i64 b) := cell_keep hb2 (by simp [go_sem])
  have z := World.block_lt_of_cell? _ _ q0
  dsimp only at z
  clear hb2 hB1
  go_wp2_with fail
  refine (eqIntResult_any _ _ _ _ _).mono ?_
  rintro e w3 ⟨rfl, hb3⟩
  have hB3 : Below w.heap.size w w3 := by (repeat (first | exact Below.refl _ _ | assumption | refine Below.drew ?_ | refine balloc ?_ _ | refine bset ?_ (by simp; omega) _ | refine bset ?_ (by simp) _ | refine bstep ?_ (by assumption)))
  go_wp2
  go_ret
  exact ⟨rfl, hB3⟩
end Go.Proofs.Ytgibggjmliddlaa.quorumOfLaw

