import Derived.Test.YtecfelacdapdgaaGreatPrnEventFaultLaw11
import Derived.Test.YtecfelacdapdgaaGreatPrnEventFaultLaw5
import Derived.Deep.RegionHeld3
import Derived.Deep.DrawnRows

/-
  Proved: laws.FnExactEventFault answers true at every argument, and its arguments read behind the call as they read before. No condition. (The walk.)
-/
namespace Go.Proofs.YtecfelacdapdgaaGreat.eventFaultLaw
open Go.RowKit
set_option linter.unusedSectionVars false
variable [DecidableEq Leg] [Inhabited Leg] [DecidableEq Cont] [Inhabited Cont] [DecidableEq Evt] [Inhabited Evt] [DecidableEq EvtR] [Inhabited EvtR] [DecidableEq BytesR] [Inhabited BytesR] [DecidableEq ContR] [Inhabited ContR] [DecidableEq Logg] [Inhabited Logg] [DecidableEq LoggR] [Inhabited LoggR] [DecidableEq RecsR] [Inhabited RecsR] [DecidableEq Rw] [Inhabited Rw] [DecidableEq Bal] [Inhabited Bal] [DecidableEq Ledg] [Inhabited Ledg] [DecidableEq LedgR] [Inhabited LedgR] [DecidableEq OutcR] [Inhabited OutcR] [DecidableEq Mrk] [Inhabited Mrk] [DecidableEq Shd] [Inhabited Shd] [DecidableEq ShdR] [Inhabited ShdR]
attribute [local go_sem ↓] Go.wp_at_zero Go.wp_at_succ

set_option maxHeartbeats 2000000 in
theorem walk (x0 : Value) (d0 : Evt) (w : World) (hx0 : evtR.V w x0 d0) :
    Calls Tryz.prog 3 #[x0] w fun e w' => e = .returned (.bool true) ∧ Below w.heap.size w w' := by
  have hX0 := hx0
  obtain ⟨ax02, cx02, rfl⟩ := evt_formA hx0
  go_enter Tryz.func3, Tryz.ntmps3
  go_wp2_with fail
  refine (szEvent_u _ d0 1048576 _ (evtR.below hX0 (by (repeat (first | exact Below.refl _ _ | assumption | refine Below.drew ?_ | refine balloc ?_ _ | refine bset ?_ (by simp; omega) _ | refine bset ?_ (by simp) _ | refine bstep ?_ (by assumption))))) (by omega) (by omega)).mono ?_
  rintro e w1 ⟨rfl, hb1⟩
  have hB1 : Below w.heap.size w w1 := by (repeat (first | exact Below.refl _ _ | assumption | refine Below.drew ?_ | refine balloc ?_ _ | refine bset ?_ (by simp; omega) _ | refine bset ?_ (by simp) _ | refine bstep ?_ (by assumption)))
  have b0_0 : w1.cell? ⟨w.heap.size, 0, none⟩ = some (.bool d0.vote) := cell_keep hb1 (by simp [go_sem])
  have b0_1 : w1.cell? ⟨w.heap.size, 1, none⟩ = some (.int .i64 d0.con.id) := cell_keep hb1 (by simp [go_sem])
  have b0_2 : w1.cell? ⟨w.heap.size, 2, none⟩ = some (.slice ax02 d0.con.legs.length cx02) := cell_keep hb1 (by simp [go_sem])
  have b0_3 : w1.cell? ⟨w.heap.size, 3, none⟩ = some (.int .i64 d0.out) := cell_keep hb1 (by simp [go_sem])
  clear hb1
  by_cases hsz : 1048576 < wtEvt d0
  · rw [show szLen 1048576 ((wtEvt d0 : Nat) : Int) = -1 by unfold szLen; rw [if_pos (by omega)]]
    go_wp2
    go_ret
    exact ⟨rfl, by (repeat (first | exact Below.refl _ _ | assumption | refine Below.drew ?_ | refine balloc ?_ _ | refine bset ?_ (by simp; omega) _ | refine bset ?_ (by simp) _ | refine bstep ?_ (by assumption)))⟩
  have e1 : szLen 1048576 ((wtEvt d0 : Nat) : Int) = 1048576 - ((wtEvt d0 : Nat) : Int) := by unfold szLen; rw [if_neg (by omega)]
  have e2 : ¬ (1048576 : Int) - ((wtEvt d0 : Nat) : Int) < 0 := by omega
  rw [e1]
  clear e1
  go_wp2_with fail
  refine (toEvent_u _ d0 _ (evtR.below hX0 (by (repeat (first | exact Below.refl _ _ | assumption | refine Below.drew ?_ | refine balloc ?_ _ | refine bset ?_ (by simp; omega) _ | refine bset ?_ (by simp) _ | refine bstep ?_ (by assumption))))) (by omega)).mono ?_
  rintro e w2 ⟨vS0, FS0, rfl, oS0, hb2⟩
  have hB2 : Below w.heap.size w w2 := by (repeat (first | exact Below.refl _ _ | assumption | refine Below.drew ?_ | refine balloc ?_ _ | refine bset ?_ (by simp; omega) _ | refine bset ?_ (by simp) _ | refine bstep ?_ (by assumption)))
  have foS0 := evtR.ofO oS0
  obtain ⟨as02, cs02, rfl⟩ := evt_formA foS0
  replace b0_0 := cell_keep hb2 (cell_keep (by (repeat (first | exact Below.refl _ _ | assumption | refine Below.drew ?_ | refine balloc ?_ _ | refine bset ?_ (by simp; omega) _ | refine bset ?_ (by simp) _ | refine bstep ?_ (by assumption)))) b0_0)
  replace b0_1 := cell_keep hb2 (cell_keep (by (repeat (first | exact Below.refl _ _ | assumption | refine Below.drew ?_ | refine balloc ?_ _ | refine bset ?_ (by simp; omega) _ | refine bset ?_ (by simp) _ | refine bstep ?_ (by assumption)))) b0_1)
  replace b0_2 := cell_keep hb2 (cell_keep (by (repeat (first | exact Below.refl _ _ | assumption | refine Below.drew ?_ | refine balloc ?_ _ | refine bset ?_ (by simp; omega) _ | refine bset ?_ (by simp) _ | refine bstep ?_ (by assumption)))) b0_2)
  replace b0_3 := cell_keep hb2 (cell_keep (by (repeat (first | exact Below.refl _ _ | assumption | refine Below.drew ?_ | refine balloc ?_ _ | refine bset ?_ (by simp; omega) _ | refine bset ?_ (by simp) _ | refine bstep ?_ (by assumption)))) b0_3)
  clear hb2 hB1
  go_wp2_with fail
  refine (specEvF_any _ d0 _ (evtR.below (evtR.ofO oS0) (by (repeat (first | exact Below.refl _ _ | assumption | refine Below.drew ?_ | refine balloc ?_ _ | refine bset ?_ (by simp; omega) _ | refine bset ?_ (by simp) _ | refine bstep ?_ (by assumption)))))).mono ?_
  rintro e w3 ⟨rfl, hb3⟩
  have hB3 : Below w.heap.size w w3 := by (repeat (first | exact Below.refl _ _ | assumption | refine Below.drew ?_ | refine balloc ?_ _ | refine bset ?_ (by simp; omega) _ | refine bset ?_ (by simp) _ | refine bstep ?_ (by assumption)))
  replace b0_0 := cell_keep hb3 (cell_keep (by (repeat (first | exact Below.refl _ _ | assumption | refine Below.drew ?_ | refine balloc ?_ _ | refine bset ?_ (by simp; omega) _ | refine bset ?_ (by simp) _ | refine bstep ?_ (by assumption)))) b0_0)
  replace b0_1 := cell_keep hb3 (cell_keep (by (repeat (first | exact Below.refl _ _ | assumption | refine Below.drew ?_ | refine balloc ?_ _ | refine bset ?_ (by simp; omega) _ | refine bset ?_ (by simp) _ | refine bstep ?_ (by assumption)))) b0_1)
  replace b0_2 := cell_keep hb3 (cell_keep (by (repeat (first | exact Below.refl _ _ | assumption | refine Below.drew ?_ | refine balloc ?_ _ | refine bset ?_ (by simp; omega) _ | refine bset ?_ (by simp) _ | refine bstep ?_ (by assumption)))) b0_2)
  replace b0_3 := cell_keep hb3 (cell_keep (by (repeat (first | exact Below.refl _ _ | assumption | refine Below.drew ?_ | refine balloc ?_ _ | refine bset ?_ (by simp; omega) _ | refine bset ?_ (by simp) _ | refine bstep ?_ (by assumption)))) b0_3)
  clear hb3 hB2 oS0
  have z0 := World.block_lt_of_cell? _ _ b0_0
  dsimp only at z0
  go_wp2_with fail
  refine (toEvent_u _ d0 _ (evtR.below hX0 (by (repeat (first | exact Below.refl _ _ | assumption | refine Below.drew ?_ | refine balloc ?_ _ | refine bset ?_ (by simp; omega) _ | refine bset ?_ (by simp) _ | refine bstep ?_ (by assumption))))) (by omega)).mono ?_
  rintro e w4 ⟨vC0, FC0, rfl, oC0, hb4⟩
  have hB4 : Below w.heap.size w w4 := by (repeat (first | exact Below.refl _ _ | assumption | refine Below.drew ?_ | refine balloc ?_ _ | refine bset ?_ (by simp; omega) _ | refine bset ?_ (by simp) _ | refine bstep ?_ (by assumption)))
  have VC0 := evtR.ofO oC0
  have fC0 := VC0
  obtain ⟨ay02, cy02, rfl⟩ := evt_formA fC0
  replace b0_0 := cell_keep hb4 (cell_keep (by (repeat (first | exact Below.refl _ _ | assumption | refine Below.drew ?_ | refine balloc ?_ _ | refine bset ?_ (by simp; omega) _ | refine bset ?_ (by simp) _ | refine bstep ?_ (by assumption)))) b0_0)
  replace b0_1 := cell_keep hb4 (cell_keep (by (repeat (first | exact Below.refl _ _ | assumption | refine Below.drew ?_ | refine balloc ?_ _ | refine bset ?_ (by simp; omega) _ | refine bset ?_ (by simp) _ | refine bstep ?_ (by assumption)))) b0_1)
  replace b0_2 := cell_keep hb4 (cell_keep (by (repeat (first | exact Below.refl _ _ | assumption | refine Below.drew ?_ | refine balloc ?_ _ | refine bset ?_ (by simp; omega) _ | refine bset ?_ (by simp) _ | refine bstep ?_ (by assumption)))) b0_2)
  replace b0_3 := cell_keep hb4 (cell_keep (by (repeat (first | exact Below.refl _ _ | assumption | refine Below.drew ?_ | refine balloc ?_ _ | refine bset ?_ (by simp; omega) _ | refine bset ?_ (by simp) _ | refine bstep ?_ (by assumption)))) b0_3)
  clear hb4 hB3 oC0
  clear z0
  have z0 := World.block_lt_of_cell? _ _ b0_0
  dsimp only at z0
  go_wp2_with fail
  refine (implEvF_any _ d0 _ (evtR.below VC0 (by (repeat (first | exact Below.refl _ _ | assumption | refine Below.drew ?_ | refine balloc ?_ _ | refine bset ?_ (by simp; omega) _ | refine bset ?_ (by simp) _ | refine bstep ?_ (by assumption)))))).mono ?_
  rintro e w5 ⟨rfl, hb5⟩
  have hB5 : Below w.heap.size w w5 := by (repeat (first | exact Below.refl _ _ | assumption | refine Below.drew ?_ | refine balloc ?_ _ | refine bset ?_ (by simp; omega) _ | refine bset ?_ (by simp) _ | refine bstep ?_ (by assumption)))
  replace b0_0 := cell_keep hb5 (cell_keep (by (repeat (first | exact Below.refl _ _ | assumption | refine Below.drew ?_ | refine balloc ?_ _ | refine bset ?_ (by simp; omega) _ | refine bset ?_ (by simp) _ | refine bstep ?_ (by assumption)))) b0_0)
  replace b0_1 := cell_keep hb5 (cell_keep (by (repeat (first | exact Below.refl _ _ | assumption | refine Below.drew ?_ | refine balloc ?_ _ | refine bset ?_ (by simp; omega) _ | refine bset ?_ (by simp) _ | refine bstep ?_ (by assumption)))) b0_1)
  replace b0_2 := cell_keep hb5 (cell_keep (by (repeat (first | exact Below.refl _ _ | assumption | refine Below.drew ?_ | refine balloc ?_ _ | refine bset ?_ (by simp; omega) _ | refine bset ?_ (by simp) _ | refine bstep ?_ (by assumption)))) b0_2)
  replace b0_3 := cell_keep hb5 (cell_keep (by (repeat (first | exact Below.refl _ _ | assumption | refine Below.drew ?_ | refine balloc ?_ _ | refine bset ?_ (by simp; omega) _ | refine bset ?_ (by simp) _ | refine bstep ?_ (by assumption)))) b0_3)
  have y0_0 : w5.cell? ⟨w4.heap.size, 0, none⟩ = some (.bool d0.vote) := cell_keep hb5 (by simp [go_sem])
  have y0_1 : w5.cell? ⟨w4.heap.size, 1, none⟩ = some (.int .i64 d0.con.id) := cell_keep hb5 (by simp [go_sem])
  have y0_2 : w5.cell? ⟨w4.heap.size, 2, none⟩ = some (.slice ay02 d0.con.legs.length cy02) := cell_keep hb5 (by simp [go_sem])
  have y0_3 : w5.cell? ⟨w4.heap.size, 3, none⟩ = some (.int .i64 d0.out) := cell_keep hb5 (by simp [go_sem])
  replace VC0 := evtR.below (evtR.below VC0 (by (repeat (first | exact Below.refl _ _ | assumption | refine Below.drew ?_ | refine balloc ?_ _ | refine bset ?_ (by simp; omega) _ | refine bset ?_ (by simp) _ | refine bstep ?_ (by assumption))))) hb5
  clear hb5 hB4
  clear z0
  have z0 := World.block_lt_of_cell? _ _ b0_0
  dsimp only at z0
  have z4 := World.block_lt_of_cell? _ _ y0_0
  dsimp only at z4
  go_wp2
  go_region_held3 (fun w' => Below w5.heap.size w5 w' ∧ w'.cell? ⟨w.heap.size, 0, none⟩ = some (.bool d0.vote) ∧ w'.cell? ⟨w.heap.size, 1, none⟩ = some (.int .i64 d0.con.id) ∧ w'.cell? ⟨w.heap.size, 2, none⟩ = some (.slice ax02 d0.con.legs.length cx02) ∧ w'.cell? ⟨w.heap.size, 3, none⟩ = some (.int .i64 d0.out) ∧ w'.cell? ⟨w4.heap.size, 0, none⟩ = some (.bool d0.vote) ∧ w'.cell? ⟨w4.heap.size, 1, none⟩ = some (.int .i64 d0.con.id) ∧ w'.cell? ⟨w4.heap.size, 2, none⟩ = some (.slice ay02 d0.con.legs.length cy02) ∧ w'.cell? ⟨w4.heap.size, 3, none⟩ = some (.int .i64 d0.out))
    ((refine keepN8 ?_ b0_0 b0_1 b0_2 b0_3 y0_0 y0_1 y0_2 y0_3; repeat (first | exact Below.refl _ _ | assumption | refine Below.drew ?_ | refine balloc ?_ _ | refine bstep ?_ (by assumption))))
    (first | (go_at_call 9; refine (toEvent_u _ d0 _ (evtR.below hX0 (by (repeat (first | exact Below.refl _ _ | assumption | refine Below.drew ?_ | refine balloc ?_ _ | refine bset ?_ (by simp; omega) _ | refine bset ?_ (by simp) _ | refine bstep ?_ (by assumption))))) (by omega)).mono ?_; rintro e wD0 ⟨vD0, FD0, rfl, oD0, hbD0⟩; have fD0 := evtR.ofO oD0; obtain ⟨az02, cz02, rfl⟩ := evt_formA fD0) | (go_at_call 11; refine (eqEvent_u _ _ d0 d0 _ (evtR.below VC0 (by (repeat (first | exact Below.refl _ _ | assumption | refine Below.drew ?_ | refine balloc ?_ _ | refine bset ?_ (by simp; omega) _ | refine bset ?_ (by simp) _ | refine bstep ?_ (by assumption))))) (evtR.below (evtR.ofO oD0) (by (repeat (first | exact Below.refl _ _ | assumption | refine Below.drew ?_ | refine balloc ?_ _ | refine bset ?_ (by simp; omega) _ | refine bset ?_ (by simp) _ | refine bstep ?_ (by assumption)))))).mono ?_; rintro e wE0 ⟨rfl, hbE0⟩))
  rename_i hH
  have hBE0 : Below w.heap.size w wE0 := bstep hB5 hH.1
  go_wp2
  go_ret
  exact ⟨rfl, hBE0⟩
end Go.Proofs.YtecfelacdapdgaaGreat.eventFaultLaw

