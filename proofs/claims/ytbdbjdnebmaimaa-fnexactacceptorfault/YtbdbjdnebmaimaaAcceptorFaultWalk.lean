import Derived.Test.YtbdbjdnebmaimaaPrnAcceptorFaultLaw7
import Derived.Test.YtbdbjdnebmaimaaPrnAcceptorFaultLaw6
import Derived.Deep.RegionHeld3
import Derived.Deep.DrawnRows

/-
  Proved: laws.FnExactAcceptorFault answers true at every argument, and its arguments read behind the call as they read before. No condition. (The walk.)
-/
namespace Go.Proofs.Ytbdbjdnebmaimaa.acceptorFaultLaw
open Go.RowKit
set_option linter.unusedSectionVars false
variable [DecidableEq Vot] [Inhabited Vot] [DecidableEq Slt] [Inhabited Slt] [DecidableEq SltR] [Inhabited SltR] [DecidableEq Bal] [Inhabited Bal] [DecidableEq Ledg] [Inhabited Ledg] [DecidableEq Leg] [Inhabited Leg] [DecidableEq Acc] [Inhabited Acc] [DecidableEq AccR] [Inhabited AccR] [DecidableEq AccsR] [Inhabited AccsR] [DecidableEq SltsR] [Inhabited SltsR]
attribute [local go_sem ↓] Go.wp_at_zero Go.wp_at_succ

set_option maxHeartbeats 2000000 in
theorem walk (x0 : Value) (d0 : Acc) (w : World) (hx0 : accR.V w x0 d0) :
    Calls Try.prog 8 #[x0] w fun e w' => e = .returned (.bool true) ∧ Below w.heap.size w w' := by
  have hX0 := hx0
  obtain ⟨ux00, rfl, hux00⟩ := hx0
  obtain ⟨ax00, cx00, rfl⟩ := slts_form hux00
  go_enter Try.func8, Try.ntmps8
  go_wp2_with fail
  refine (szAcceptor_u _ d0 1048576 _ (accR.below hX0 (by (repeat (first | exact Below.refl _ _ | assumption | refine Below.drew ?_ | refine balloc ?_ _ | refine bset ?_ (by simp; omega) _ | refine bset ?_ (by simp) _ | refine bstep ?_ (by assumption))))) (by omega) (by omega)).mono ?_
  rintro e w1 ⟨rfl, hb1⟩
  have hB1 : Below w.heap.size w w1 := by (repeat (first | exact Below.refl _ _ | assumption | refine Below.drew ?_ | refine balloc ?_ _ | refine bset ?_ (by simp; omega) _ | refine bset ?_ (by simp) _ | refine bstep ?_ (by assumption)))
  have b0_0 : w1.cell? ⟨w.heap.size, 0, none⟩ = some (.slice ax00 d0.slots.length cx00) := cell_keep hb1 (by simp [go_sem])
  clear hb1
  by_cases hsz : 1048576 < wtAcc d0
  · rw [show szLen 1048576 ((wtAcc d0 : Nat) : Int) = -1 by unfold szLen; rw [if_pos (by omega)]]
    go_wp2
    go_ret
    exact ⟨rfl, by (repeat (first | exact Below.refl _ _ | assumption | refine Below.drew ?_ | refine balloc ?_ _ | refine bset ?_ (by simp; omega) _ | refine bset ?_ (by simp) _ | refine bstep ?_ (by assumption)))⟩
  have e1 : szLen 1048576 ((wtAcc d0 : Nat) : Int) = 1048576 - ((wtAcc d0 : Nat) : Int) := by unfold szLen; rw [if_neg (by omega)]
  have e2 : ¬ (1048576 : Int) - ((wtAcc d0 : Nat) : Int) < 0 := by omega
  rw [e1]
  clear e1
  go_wp2_with fail
  refine (toAcceptor_u _ d0 _ (accR.below hX0 (by (repeat (first | exact Below.refl _ _ | assumption | refine Below.drew ?_ | refine balloc ?_ _ | refine bset ?_ (by simp; omega) _ | refine bset ?_ (by simp) _ | refine bstep ?_ (by assumption))))) (by omega)).mono ?_
  rintro e w2 ⟨vS0, FS0, rfl, oS0, hb2⟩
  have hB2 : Below w.heap.size w w2 := by (repeat (first | exact Below.refl _ _ | assumption | refine Below.drew ?_ | refine balloc ?_ _ | refine bset ?_ (by simp; omega) _ | refine bset ?_ (by simp) _ | refine bstep ?_ (by assumption)))
  have foS0 := accR.ofO oS0
  obtain ⟨us00, rfl, hus00⟩ := foS0
  obtain ⟨as00, cs00, rfl⟩ := slts_form hus00
  replace b0_0 := cell_keep hb2 (cell_keep (by (repeat (first | exact Below.refl _ _ | assumption | refine Below.drew ?_ | refine balloc ?_ _ | refine bset ?_ (by simp; omega) _ | refine bset ?_ (by simp) _ | refine bstep ?_ (by assumption)))) b0_0)
  clear hb2 hB1
  go_wp2_with fail
  refine (specAccF_any _ d0 _ (accR.below (accR.ofO oS0) (by (repeat (first | exact Below.refl _ _ | assumption | refine Below.drew ?_ | refine balloc ?_ _ | refine bset ?_ (by simp; omega) _ | refine bset ?_ (by simp) _ | refine bstep ?_ (by assumption)))))).mono ?_
  rintro e w3 ⟨rfl, hb3⟩
  have hB3 : Below w.heap.size w w3 := by (repeat (first | exact Below.refl _ _ | assumption | refine Below.drew ?_ | refine balloc ?_ _ | refine bset ?_ (by simp; omega) _ | refine bset ?_ (by simp) _ | refine bstep ?_ (by assumption)))
  replace b0_0 := cell_keep hb3 (cell_keep (by (repeat (first | exact Below.refl _ _ | assumption | refine Below.drew ?_ | refine balloc ?_ _ | refine bset ?_ (by simp; omega) _ | refine bset ?_ (by simp) _ | refine bstep ?_ (by assumption)))) b0_0)
  clear hb3 hB2 oS0
  have z0 := World.block_lt_of_cell? _ _ b0_0
  dsimp only at z0
  go_wp2_with fail
  refine (toAcceptor_u _ d0 _ (accR.below hX0 (by (repeat (first | exact Below.refl _ _ | assumption | refine Below.drew ?_ | refine balloc ?_ _ | refine bset ?_ (by simp; omega) _ | refine bset ?_ (by simp) _ | refine bstep ?_ (by assumption))))) (by omega)).mono ?_
  rintro e w4 ⟨vC0, FC0, rfl, oC0, hb4⟩
  have hB4 : Below w.heap.size w w4 := by (repeat (first | exact Below.refl _ _ | assumption | refine Below.drew ?_ | refine balloc ?_ _ | refine bset ?_ (by simp; omega) _ | refine bset ?_ (by simp) _ | refine bstep ?_ (by assumption)))
  have VC0 := accR.ofO oC0
  have fC0 := VC0
  obtain ⟨uy00, rfl, huy00⟩ := fC0
  obtain ⟨ay00, cy00, rfl⟩ := slts_form huy00
  replace b0_0 := cell_keep hb4 (cell_keep (by (repeat (first | exact Below.refl _ _ | assumption | refine Below.drew ?_ | refine balloc ?_ _ | refine bset ?_ (by simp; omega) _ | refine bset ?_ (by simp) _ | refine bstep ?_ (by assumption)))) b0_0)
  clear hb4 hB3 oC0
  clear z0
  have z0 := World.block_lt_of_cell? _ _ b0_0
  dsimp only at z0
  go_wp2_with fail
  refine (implAccF_any _ d0 _ (accR.below VC0 (by (repeat (first | exact Below.refl _ _ | assumption | refine Below.drew ?_ | refine balloc ?_ _ | refine bset ?_ (by simp; omega) _ | refine bset ?_ (by simp) _ | refine bstep ?_ (by assumption)))))).mono ?_
  rintro e w5 ⟨rfl, hb5⟩
  have hB5 : Below w.heap.size w w5 := by (repeat (first | exact Below.refl _ _ | assumption | refine Below.drew ?_ | refine balloc ?_ _ | refine bset ?_ (by simp; omega) _ | refine bset ?_ (by simp) _ | refine bstep ?_ (by assumption)))
  replace b0_0 := cell_keep hb5 (cell_keep (by (repeat (first | exact Below.refl _ _ | assumption | refine Below.drew ?_ | refine balloc ?_ _ | refine bset ?_ (by simp; omega) _ | refine bset ?_ (by simp) _ | refine bstep ?_ (by assumption)))) b0_0)
  have y0_0 : w5.cell? ⟨w4.heap.size, 0, none⟩ = some (.slice ay00 d0.slots.length cy00) := cell_keep hb5 (by simp [go_sem])
  replace VC0 := accR.below (accR.below VC0 (by (repeat (first | exact Below.refl _ _ | assumption | refine Below.drew ?_ | refine balloc ?_ _ | refine bset ?_ (by simp; omega) _ | refine bset ?_ (by simp) _ | refine bstep ?_ (by assumption))))) hb5
  clear hb5 hB4
  clear z0
  have z0 := World.block_lt_of_cell? _ _ b0_0
  dsimp only at z0
  have z1 := World.block_lt_of_cell? _ _ y0_0
  dsimp only at z1
  go_wp2
  go_region_held3 (fun w' => Below w5.heap.size w5 w' ∧ w'.cell? ⟨w.heap.size, 0, none⟩ = some (.slice ax00 d0.slots.length cx00) ∧ w'.cell? ⟨w4.heap.size, 0, none⟩ = some (.slice ay00 d0.slots.length cy00))
    ((refine keepN2 ?_ b0_0 y0_0; repeat (first | exact Below.refl _ _ | assumption | refine Below.drew ?_ | refine balloc ?_ _ | refine bstep ?_ (by assumption))))
    (first | (go_at_call 42; refine (toAcceptor_u _ d0 _ (accR.below hX0 (by (repeat (first | exact Below.refl _ _ | assumption | refine Below.drew ?_ | refine balloc ?_ _ | refine bset ?_ (by simp; omega) _ | refine bset ?_ (by simp) _ | refine bstep ?_ (by assumption))))) (by omega)).mono ?_; rintro e wD0 ⟨vD0, FD0, rfl, oD0, hbD0⟩; have fD0 := accR.ofO oD0; obtain ⟨uz00, rfl, huz00⟩ := fD0; obtain ⟨az00, cz00, rfl⟩ := slts_form huz00) | (go_at_call 44; refine (eqAcceptor_u _ _ d0 d0 _ (accR.below VC0 (by (repeat (first | exact Below.refl _ _ | assumption | refine Below.drew ?_ | refine balloc ?_ _ | refine bset ?_ (by simp; omega) _ | refine bset ?_ (by simp) _ | refine bstep ?_ (by assumption))))) (accR.below (accR.ofO oD0) (by (repeat (first | exact Below.refl _ _ | assumption | refine Below.drew ?_ | refine balloc ?_ _ | refine bset ?_ (by simp; omega) _ | refine bset ?_ (by simp) _ | refine bstep ?_ (by assumption)))))).mono ?_; rintro e wE0 ⟨rfl, hbE0⟩))
  rename_i hH
  have hBE0 : Below w.heap.size w wE0 := bstep hB5 hH.1
  go_wp2
  go_ret
  exact ⟨rfl, hBE0⟩
end Go.Proofs.Ytbdbjdnebmaimaa.acceptorFaultLaw

