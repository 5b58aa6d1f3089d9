import Derived.Test.YtgibggjmliddlaaPrnSlotFaultLaw5
import Derived.Test.YtgibggjmliddlaaPrnSlotFaultLaw4
import Derived.Deep.RegionHeld3
import Derived.Deep.DrawnRows

/-
  Proved: laws.FnExactSlotFault answers true at every argument, and its arguments read behind the call as they read before. No condition. (The walk.)
-/
namespace Go.Proofs.Ytgibggjmliddlaa.slotFaultLaw
open Go.RowKit
set_option linter.unusedSectionVars false
variable [DecidableEq Vot] [Inhabited Vot] [DecidableEq Slt] [Inhabited Slt] [DecidableEq Bal] [Inhabited Bal] [DecidableEq Ledg] [Inhabited Ledg] [DecidableEq Leg] [Inhabited Leg]
attribute [local go_sem ↓] Go.wp_at_zero Go.wp_at_succ

set_option maxHeartbeats 2000000 in
theorem walk (x0 : Value) (d0 : Slt) (w : World) (hx0 : sltR.V w x0 d0) :
    Calls Try.prog 5 #[x0] w fun e w' => e = .returned (.bool true) ∧ Below w.heap.size w w' := by
  have hX0 := hx0
  obtain ⟨ux05, rfl, hux05⟩ := hx0
  obtain ⟨ax05, cx05, rfl⟩ := vots_form hux05
  go_enter Try.func5, Try.ntmps5
  go_wp2_with fail
  refine (szSlot_u _ d0 1048576 _ (sltR.below hX0 (by (repeat (first | exact Below.refl _ _ | assumption | refine Below.drew ?_ | refine balloc ?_ _ | refine bset ?_ (by simp; omega) _ | refine bset ?_ (by simp) _ | refine bstep ?_ (by assumption))))) (by omega) (by omega)).mono ?_
  rintro e w1 ⟨rfl, hb1⟩
  have hB1 : Below w.heap.size w w1 := by (repeat (first | exact Below.refl _ _ | assumption | refine Below.drew ?_ | refine balloc ?_ _ | refine bset ?_ (by simp; omega) _ | refine bset ?_ (by simp) _ | refine bstep ?_ (by assumption)))
  have b0_0 : w1.cell? ⟨w.heap.size, 0, none⟩ = some (.int .i64 d0.con) := cell_keep hb1 (by simp [go_sem])
  have b0_1 : w1.cell? ⟨w.heap.size, 1, none⟩ = some (.int .i64 d0.sh) := cell_keep hb1 (by simp [go_sem])
  have b0_2 : w1.cell? ⟨w.heap.size, 2, none⟩ = some (.int .i64 d0.pr) := cell_keep hb1 (by simp [go_sem])
  have b0_3 : w1.cell? ⟨w.heap.size, 3, none⟩ = some (.int .i64 d0.lb) := cell_keep hb1 (by simp [go_sem])
  have b0_4 : w1.cell? ⟨w.heap.size, 4, none⟩ = some (.int .i64 d0.lv) := cell_keep hb1 (by simp [go_sem])
  have b0_5 : w1.cell? ⟨w.heap.size, 5, none⟩ = some (.slice ax05 d0.cast.length cx05) := cell_keep hb1 (by simp [go_sem])
  clear hb1
  by_cases hsz : 1048576 < wtSlt d0
  · rw [show szLen 1048576 ((wtSlt d0 : Nat) : Int) = -1 by unfold szLen; rw [if_pos (by omega)]]
    go_wp2
    go_ret
    exact ⟨rfl, by (repeat (first | exact Below.refl _ _ | assumption | refine Below.drew ?_ | refine balloc ?_ _ | refine bset ?_ (by simp; omega) _ | refine bset ?_ (by simp) _ | refine bstep ?_ (by assumption)))⟩
  have e1 : szLen 1048576 ((wtSlt d0 : Nat) : Int) = 1048576 - ((wtSlt d0 : Nat) : Int) := by unfold szLen; rw [if_neg (by omega)]
  have e2 : ¬ (1048576 : Int) - ((wtSlt d0 : Nat) : Int) < 0 := by omega
  rw [e1]
  clear e1
  go_wp2_with fail
  refine (toSlot_u _ d0 _ (sltR.below hX0 (by (repeat (first | exact Below.refl _ _ | assumption | refine Below.drew ?_ | refine balloc ?_ _ | refine bset ?_ (by simp; omega) _ | refine bset ?_ (by simp) _ | refine bstep ?_ (by assumption))))) (by omega)).mono ?_
  rintro e w2 ⟨vS0, FS0, rfl, oS0, hb2⟩
  have hB2 : Below w.heap.size w w2 := by (repeat (first | exact Below.refl _ _ | assumption | refine Below.drew ?_ | refine balloc ?_ _ | refine bset ?_ (by simp; omega) _ | refine bset ?_ (by simp) _ | refine bstep ?_ (by assumption)))
  have foS0 := sltR.ofO oS0
  obtain ⟨us05, rfl, hus05⟩ := foS0
  obtain ⟨as05, cs05, rfl⟩ := vots_form hus05
  replace b0_0 := cell_keep hb2 (cell_keep (by (repeat (first | exact Below.refl _ _ | assumption | refine Below.drew ?_ | refine balloc ?_ _ | refine bset ?_ (by simp; omega) _ | refine bset ?_ (by simp) _ | refine bstep ?_ (by assumption)))) b0_0)
  replace b0_1 := cell_keep hb2 (cell_keep (by (repeat (first | exact Below.refl _ _ | assumption | refine Below.drew ?_ | refine balloc ?_ _ | refine bset ?_ (by simp; omega) _ | refine bset ?_ (by simp) _ | refine bstep ?_ (by assumption)))) b0_1)
  replace b0_2 := cell_keep hb2 (cell_keep (by (repeat (first | exact Below.refl _ _ | assumption | refine Below.drew ?_ | refine balloc ?_ _ | refine bset ?_ (by simp; omega) _ | refine bset ?_ (by simp) _ | refine bstep ?_ (by assumption)))) b0_2)
  replace b0_3 := cell_keep hb2 (cell_keep (by (repeat (first | exact Below.refl _ _ | assumption | refine Below.drew ?_ | refine balloc ?_ _ | refine bset ?_ (by simp; omega) _ | refine bset ?_ (by simp) _ | refine bstep ?_ (by assumption)))) b0_3)
  replace b0_4 := cell_keep hb2 (cell_keep (by (repeat (first | exact Below.refl _ _ | assumption | refine Below.drew ?_ | refine balloc ?_ _ | refine bset ?_ (by simp; omega) _ | refine bset ?_ (by simp) _ | refine bstep ?_ (by assumption)))) b0_4)
  replace b0_5 := cell_keep hb2 (cell_keep (by (repeat (first | exact Below.refl _ _ | assumption | refine Below.drew ?_ | refine balloc ?_ _ | refine bset ?_ (by simp; omega) _ | refine bset ?_ (by simp) _ | refine bstep ?_ (by assumption)))) b0_5)
  clear hb2 hB1
  go_wp2_with fail
  refine (specSlotF_any _ d0 _ (sltR.below (sltR.ofO oS0) (by (repeat (first | exact Below.refl _ _ | assumption | refine Below.drew ?_ | refine balloc ?_ _ | refine bset ?_ (by simp; omega) _ | refine bset ?_ (by simp) _ | refine bstep ?_ (by assumption)))))).mono ?_
  rintro e w3 ⟨rfl, hb3⟩
  have hB3 : Below w.heap.size w w3 := by (repeat (first | exact Below.refl _ _ | assumption | refine Below.drew ?_ | refine balloc ?_ _ | refine bset ?_ (by simp; omega) _ | refine bset ?_ (by simp) _ | refine bstep ?_ (by assumption)))
  replace b0_0 := cell_keep hb3 (cell_keep (by (repeat (first | exact Below.refl _ _ | assumption | refine Below.drew ?_ | refine balloc ?_ _ | refine bset ?_ (by simp; omega) _ | refine bset ?_ (by simp) _ | refine bstep ?_ (by assumption)))) b0_0)
  replace b0_1 := cell_keep hb3 (cell_keep (by (repeat (first | exact Below.refl _ _ | assumption | refine Below.drew ?_ | refine balloc ?_ _ | refine bset ?_ (by simp; omega) _ | refine bset ?_ (by simp) _ | refine bstep ?_ (by assumption)))) b0_1)
  replace b0_2 := cell_keep hb3 (cell_keep (by (repeat (first | exact Below.refl _ _ | assumption | refine Below.drew ?_ | refine balloc ?_ _ | refine bset ?_ (by simp; omega) _ | refine bset ?_ (by simp) _ | refine bstep ?_ (by assumption)))) b0_2)
  replace b0_3 := cell_keep hb3 (cell_keep (by (repeat (first | exact Below.refl _ _ | assumption | refine Below.drew ?_ | refine balloc ?_ _ | refine bset ?_ (by simp; omega) _ | refine bset ?_ (by simp) _ | refine bstep ?_ (by assumption)))) b0_3)
  replace b0_4 := cell_keep hb3 (cell_keep (by (repeat (first | exact Below.refl _ _ | assumption | refine Below.drew ?_ | refine balloc ?_ _ | refine bset ?_ (by simp; omega) _ | refine bset ?_ (by simp) _ | refine bstep ?_ (by assumption)))) b0_4)
  replace b0_5 := cell_keep hb3 (cell_keep (by (repeat (first | exact Below.refl _ _ | assumption | refine Below.drew ?_ | refine balloc ?_ _ | refine bset ?_ (by simp; omega) _ | refine bset ?_ (by simp) _ | refine bstep ?_ (by assumption)))) b0_5)
  clear hb3 hB2 oS0
  have z0 := World.block_lt_of_cell? _ _ b0_0
  dsimp only at z0
  go_wp2_with fail
  refine (toSlot_u _ d0 _ (sltR.below hX0 (by (repeat (first | exact Below.refl _ _ | assumption | refine Below.drew ?_ | refine balloc ?_ _ | refine bset ?_ (by simp; omega) _ | refine bset ?_ (by simp) _ | refine bstep ?_ (by assumption))))) (by omega)).mono ?_
  rintro e w4 ⟨vC0, FC0, rfl, oC0, hb4⟩
  have hB4 : Below w.heap.size w w4 := by (repeat (first | exact Below.refl _ _ | assumption | refine Below.drew ?_ | refine balloc ?_ _ | refine bset ?_ (by simp; omega) _ | refine bset ?_ (by simp) _ | refine bstep ?_ (by assumption)))
  have VC0 := sltR.ofO oC0
  have fC0 := VC0
  obtain ⟨uy05, rfl, huy05⟩ := fC0
  obtain ⟨ay05, cy05, rfl⟩ := vots_form huy05
  replace b0_0 := cell_keep hb4 (cell_keep (by (repeat (first | exact Below.refl _ _ | assumption | refine Below.drew ?_ | refine balloc ?_ _ | refine bset ?_ (by simp; omega) _ | refine bset ?_ (by simp) _ | refine bstep ?_ (by assumption)))) b0_0)
  replace b0_1 := cell_keep hb4 (cell_keep (by (repeat (first | exact Below.refl _ _ | assumption | refine Below.drew ?_ | refine balloc ?_ _ | refine bset ?_ (by simp; omega) _ | refine bset ?_ (by simp) _ | refine bstep ?_ (by assumption)))) b0_1)
  replace b0_2 := cell_keep hb4 (cell_keep (by (repeat (first | exact Below.refl _ _ | assumption | refine Below.drew ?_ | refine balloc ?_ _ | refine bset ?_ (by simp; omega) _ | refine bset ?_ (by simp) _ | refine bstep ?_ (by assumption)))) b0_2)
  replace b0_3 := cell_keep hb4 (cell_keep (by (repeat (first | exact Below.refl _ _ | assumption | refine Below.drew ?_ | refine balloc ?_ _ | refine bset ?_ (by simp; omega) _ | refine bset ?_ (by simp) _ | refine bstep ?_ (by assumption)))) b0_3)
  replace b0_4 := cell_keep hb4 (cell_keep (by (repeat (first | exact Below.refl _ _ | assumption | refine Below.drew ?_ | refine balloc ?_ _ | refine bset ?_ (by simp; omega) _ | refine bset ?_ (by simp) _ | refine bstep ?_ (by assumption)))) b0_4)
  replace b0_5 := cell_keep hb4 (cell_keep (by (repeat (first | exact Below.refl _ _ | assumption | refine Below.drew ?_ | refine balloc ?_ _ | refine bset ?_ (by simp; omega) _ | refine bset ?_ (by simp) _ | refine bstep ?_ (by assumption)))) b0_5)
  clear hb4 hB3 oC0
  clear z0
  have z0 := World.block_lt_of_cell? _ _ b0_0
  dsimp only at z0
  go_wp2_with fail
  refine (implSlotF_any _ d0 _ (sltR.below VC0 (by (repeat (first | exact Below.refl _ _ | assumption | refine Below.drew ?_ | refine balloc ?_ _ | refine bset ?_ (by simp; omega) _ | refine bset ?_ (by simp) _ | refine bstep ?_ (by assumption)))))).mono ?_
  rintro e w5 ⟨rfl, hb5⟩
  have hB5 : Below w.heap.size w w5 := by (repeat (first | exact Below.refl _ _ | assumption | refine Below.drew ?_ | refine balloc ?_ _ | refine bset ?_ (by simp; omega) _ | refine bset ?_ (by simp) _ | refine bstep ?_ (by assumption)))
  replace b0_0 := cell_keep hb5 (cell_keep (by (repeat (first | exact Below.refl _ _ | assumption | refine Below.drew ?_ | refine balloc ?_ _ | refine bset ?_ (by simp; omega) _ | refine bset ?_ (by simp) _ | refine bstep ?_ (by assumption)))) b0_0)
  replace b0_1 := cell_keep hb5 (cell_keep (by (repeat (first | exact Below.refl _ _ | assumption | refine Below.drew ?_ | refine balloc ?_ _ | refine bset ?_ (by simp; omega) _ | refine bset ?_ (by simp) _ | refine bstep ?_ (by assumption)))) b0_1)
  replace b0_2 := cell_keep hb5 (cell_keep (by (repeat (first | exact Below.refl _ _ | assumption | refine Below.drew ?_ | refine balloc ?_ _ | refine bset ?_ (by simp; omega) _ | refine bset ?_ (by simp) _ | refine bstep ?_ (by assumption)))) b0_2)
  replace b0_3 := cell_keep hb5 (cell_keep (by (repeat (first | exact Below.refl _ _ | assumption | refine Below.drew ?_ | refine balloc ?_ _ | refine bset ?_ (by simp; omega) _ | refine bset ?_ (by simp) _ | refine bstep ?_ (by assumption)))) b0_3)
  replace b0_4 := cell_keep hb5 (cell_keep (by (repeat (first | exact Below.refl _ _ | assumption | refine Below.drew ?_ | refine balloc ?_ _ | refine bset ?_ (by simp; omega) _ | refine bset ?_ (by simp) _ | refine bstep ?_ (by assumption)))) b0_4)
  replace b0_5 := cell_keep hb5 (cell_keep (by (repeat (first | exact Below.refl _ _ | assumption | refine Below.drew ?_ | refine balloc ?_ _ | refine bset ?_ (by simp; omega) _ | refine bset ?_ (by simp) _ | refine bstep ?_ (by assumption)))) b0_5)
  have y0_0 : w5.cell? ⟨w4.heap.size, 0, none⟩ = some (.int .i64 d0.con) := cell_keep hb5 (by simp [go_sem])
  have y0_1 : w5.cell? ⟨w4.heap.size, 1, none⟩ = some (.int .i64 d0.sh) := cell_keep hb5 (by simp [go_sem])
  have y0_2 : w5.cell? ⟨w4.heap.size, 2, none⟩ = some (.int .i64 d0.pr) := cell_keep hb5 (by simp [go_sem])
  have y0_3 : w5.cell? ⟨w4.heap.size, 3, none⟩ = some (.int .i64 d0.lb) := cell_keep hb5 (by simp [go_sem])
  have y0_4 : w5.cell? ⟨w4.heap.size, 4, none⟩ = some (.int .i64 d0.lv) := cell_keep hb5 (by simp [go_sem])
  have y0_5 : w5.cell? ⟨w4.heap.size, 5, none⟩ = some (.slice ay05 d0.cast.length cy05) := cell_keep hb5 (by simp [go_sem])
  replace VC0 := sltR.below (sltR.below VC0 (by (repeat (first | exact Below.refl _ _ | assumption | refine Below.drew ?_ | refine balloc ?_ _ | refine bset ?_ (by simp; omega) _ | refine bset ?_ (by simp) _ | refine bstep ?_ (by assumption))))) hb5
  clear hb5 hB4
  clear z0
  have z0 := World.block_lt_of_cell? _ _ b0_0
  dsimp only at z0
  have z6 := World.block_lt_of_cell? _ _ y0_0
  dsimp only at z6
  go_wp2
  go_region_held3 (fun w' => Below w5.heap.size w5 w' ∧ w'.cell? ⟨w.heap.size, 0, none⟩ = some (.int .i64 d0.con) ∧ w'.cell? ⟨w.heap.size, 1, none⟩ = some (.int .i64 d0.sh) ∧ w'.cell? ⟨w.heap.size, 2, none⟩ = some (.int .i64 d0.pr) ∧ w'.cell? ⟨w.heap.size, 3, none⟩ = some (.int .i64 d0.lb) ∧ w'.cell? ⟨w.heap.size, 4, none⟩ = some (.int .i64 d0.lv) ∧ w'.cell? ⟨w.heap.size, 5, none⟩ = some (.slice ax05 d0.cast.length cx05) ∧ w'.cell? ⟨w4.heap.size, 0, none⟩ = some (.int .i64 d0.con) ∧ w'.cell? ⟨w4.heap.size, 1, none⟩ = some (.int .i64 d0.sh) ∧ w'.cell? ⟨w4.heap.size, 2, none⟩ = some (.int .i64 d0.pr) ∧ w'.cell? ⟨w4.heap.size, 3, none⟩ = some (.int .i64 d0.lb) ∧ w'.cell? ⟨w4.heap.size, 4, none⟩ = some (.int .i64 d0.lv) ∧ w'.cell? ⟨w4.heap.size, 5, none⟩ = some (.slice ay05 d0.cast.length cy05))
    ((refine keepN12 ?_ b0_0 b0_1 b0_2 b0_3 b0_4 b0_5 y0_0 y0_1 y0_2 y0_3 y0_4 y0_5; repeat (first | exact Below.refl _ _ | assumption | refine Below.drew ?_ | refine balloc ?_ _ | refine bstep ?_ (by assumption))))
    (first | (go_at_call 26; refine (toSlot_u _ d0 _ (sltR.below hX0 (by (repeat (first | exact Below.refl _ _ | assumption | refine Below.drew ?_ | refine balloc ?_ _ | refine bset ?_ (by simp; omega) _ | refine bset ?_ (by simp) _ | refine bstep ?_ (by assumption))))) (by omega)).mono ?_; rintro e wD0 ⟨vD0, FD0, rfl, oD0, hbD0⟩; have fD0 := sltR.ofO oD0; obtain ⟨uz05, rfl, huz05⟩ := fD0; obtain ⟨az05, cz05, rfl⟩ := vots_form huz05) | (go_at_call 27; refine (eqSlot_u _ _ d0 d0 _ (sltR.below VC0 (by (repeat (first | exact Below.refl _ _ | assumption | refine Below.drew ?_ | refine balloc ?_ _ | refine bset ?_ (by simp; omega) _ | refine bset ?_ (by simp) _ | refine bstep ?_ (by assumption))))) (sltR.below (sltR.ofO oD0) (by (repeat (first | exact Below.refl _ _ | assumption | refine Below.drew ?_ | refine balloc ?_ _ | refine bset ?_ (by simp; omega) _ | refine bset ?_ (by simp) _ | refine bstep ?_ (by assumption)))))).mono ?_; rintro e wE0 ⟨rfl, hbE0⟩))
  rename_i hH
  have hBE0 : Below w.heap.size w wE0 := bstep hB5 hH.1
  go_wp2
  go_ret
  exact ⟨rfl, hBE0⟩
end Go.Proofs.Ytgibggjmliddlaa.slotFaultLaw

