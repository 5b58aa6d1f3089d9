/-
  Proved: laws.FnExactLogFault answers true at every argument, and its arguments read behind the call as they read before. No condition. (The walk.)
-/
import Derived.Test.YtlhikbjohlcdmaaLogA
import Derived.Test.YtlhikbjohlcdmaaKeeps
import Derived.Deep.RegionHeld3
import Derived.Deep.DrawnRows
namespace Go.Proofs.Ytlhikbjohlcdmaa.logFaultLaw
open Go.RowKit
set_option linter.unusedSectionVars false
variable [DecidableEq Logg] [Inhabited Logg] [DecidableEq LoggR] [Inhabited LoggR] [DecidableEq BytesR] [Inhabited BytesR] [DecidableEq RecsR] [Inhabited RecsR] [DecidableEq Leg] [Inhabited Leg]
attribute [local go_sem ↓] Go.wp_at_zero Go.wp_at_succ

set_option maxHeartbeats 2000000 in
theorem walk (x0 : Value) (d0 : Logg) (w : World) (hx0 : loggR.V w x0 d0) :
    Calls Try.prog 3 #[x0] w fun e w' => e = .returned (.bool true) ∧ Below w.heap.size w w' := by
  have hX0 := hx0
  obtain ⟨ux00, ux01, rfl, hux00, hux01⟩ := hx0
  obtain ⟨ax00, cx00, rfl⟩ := bytes_form hux00
  obtain ⟨ax01, cx01, rfl⟩ := bytes_form hux01
  go_enter Try.func3, Try.ntmps3
  go_wp2_with fail
  refine (szLog_u _ d0 1048576 _ (loggR.below hX0 (by (repeat (first | exact Below.refl _ _ | assumption | refine Below.drew ?_ | refine balloc ?_ _ | refine bset ?_ (by simp; omega) _ | refine bset ?_ (by simp) _ | refine bstep ?_ (by assumption))))) (by omega) (by omega)).mono ?_
  rintro e w1 ⟨rfl, hb1⟩
  have hB1 : Below w.heap.size w w1 := by (repeat (first | exact Below.refl _ _ | assumption | refine Below.drew ?_ | refine balloc ?_ _ | refine bset ?_ (by simp; omega) _ | refine bset ?_ (by simp) _ | refine bstep ?_ (by assumption)))
  have b0_0 : w1.cell? ⟨w.heap.size, 0, none⟩ = some (.slice ax00 d0.synced.length cx00) := cell_keep hb1 (by simp [go_sem])
  have b0_1 : w1.cell? ⟨w.heap.size, 1, none⟩ = some (.slice ax01 d0.loose.length cx01) := cell_keep hb1 (by simp [go_sem])
  clear hb1
  by_cases hsz : 1048576 < wtLogg d0
  · rw [show szLen 1048576 ((wtLogg d0 : Nat) : Int) = -1 by unfold szLen; rw [if_pos (by omega)]]
    go_wp2
    go_ret
    exact ⟨rfl, by (repeat (first | exact Below.refl _ _ | assumption | refine Below.drew ?_ | refine balloc ?_ _ | refine bset ?_ (by simp; omega) _ | refine bset ?_ (by simp) _ | refine bstep ?_ (by assumption)))⟩
  have e1 : szLen 1048576 ((wtLogg d0 : Nat) : Int) = 1048576 - ((wtLogg d0 : Nat) : Int) := by unfold szLen; rw [if_neg (by omega)]
  have e2 : ¬ (1048576 : Int) - ((wtLogg d0 : Nat) : Int) < 0 := by omega
  rw [e1]
  clear e1
  go_wp2_with fail
  refine (toLog_u _ d0 _ (loggR.below hX0 (by (repeat (first | exact Below.refl _ _ | assumption | refine Below.drew ?_ | refine balloc ?_ _ | refine bset ?_ (by simp; omega) _ | refine bset ?_ (by simp) _ | refine bstep ?_ (by assumption))))) (by omega)).mono ?_
  rintro e w2 ⟨vS0, FS0, rfl, oS0, hb2⟩
  have hB2 : Below w.heap.size w w2 := by (repeat (first | exact Below.refl _ _ | assumption | refine Below.drew ?_ | refine balloc ?_ _ | refine bset ?_ (by simp; omega) _ | refine bset ?_ (by simp) _ | refine bstep ?_ (by assumption)))
  have foS0 := loggR.ofO oS0
  obtain ⟨us00, us01, rfl, hus00, hus01⟩ := foS0
  obtain ⟨as00, cs00, rfl⟩ := bytes_form hus00
  obtain ⟨as01, cs01, rfl⟩ := bytes_form hus01
  replace b0_0 := cell_keep hb2 (cell_keep (by (repeat (first | exact Below.refl _ _ | assumption | refine Below.drew ?_ | refine balloc ?_ _ | refine bset ?_ (by simp; omega) _ | refine bset ?_ (by simp) _ | refine bstep ?_ (by assumption)))) b0_0)
  replace b0_1 := cell_keep hb2 (cell_keep (by (repeat (first | exact Below.refl _ _ | assumption | refine Below.drew ?_ | refine balloc ?_ _ | refine bset ?_ (by simp; omega) _ | refine bset ?_ (by simp) _ | refine bstep ?_ (by assumption)))) b0_1)
  clear hb2 hB1
  go_wp2_with fail
  refine (specLogF_any _ d0 _ (loggR.below (loggR.ofO oS0) (by (repeat (first | exact Below.refl _ _ | assumption | refine Below.drew ?_ | refine balloc ?_ _ | refine bset ?_ (by simp; omega) _ | refine bset ?_ (by simp) _ | refine bstep ?_ (by assumption))))) (by omega)).mono ?_
  rintro e w3 ⟨rfl, hb3⟩
  have hB3 : Below w.heap.size w w3 := by (repeat (first | exact Below.refl _ _ | assumption | refine Below.drew ?_ | refine balloc ?_ _ | refine bset ?_ (by simp; omega) _ | refine bset ?_ (by simp) _ | refine bstep ?_ (by assumption)))
  replace b0_0 := cell_keep hb3 (cell_keep (by (repeat (first | exact Below.refl _ _ | assumption | refine Below.drew ?_ | refine balloc ?_ _ | refine bset ?_ (by simp; omega) _ | refine bset ?_ (by simp) _ | refine bstep ?_ (by assumption)))) b0_0)
  replace b0_1 := cell_keep hb3 (cell_keep (by (repeat (first | exact Below.refl _ _ | assumption | refine Below.drew ?_ | refine balloc ?_ _ | refine bset ?_ (by simp; omega) _ | refine bset ?_ (by simp) _ | refine bstep ?_ (by assumption)))) b0_1)
  clear hb3 hB2 oS0
  have z0 := World.block_lt_of_cell? _ _ b0_0
  dsimp only at z0
  go_wp2_with fail
  refine (toLog_u _ d0 _ (loggR.below hX0 (by (repeat (first | exact Below.refl _ _ | assumption | refine Below.drew ?_ | refine balloc ?_ _ | refine bset ?_ (by simp; omega) _ | refine bset ?_ (by simp) _ | refine bstep ?_ (by assumption))))) (by omega)).mono ?_
  rintro e w4 ⟨vC0, FC0, rfl, oC0, hb4⟩
  have hB4 : Below w.heap.size w w4 := by (repeat (first | exact Below.refl _ _ | assumption | refine Below.drew ?_ | refine balloc ?_ _ | refine bset ?_ (by simp; omega) _ | refine bset ?_ (by simp) _ | refine bstep ?_ (by assumption)))
  have VC0 := loggR.ofO oC0
  have fC0 := VC0
  obtain ⟨uy00, uy01, rfl, huy00, huy01⟩ := fC0
  obtain ⟨ay00, cy00, rfl⟩ := bytes_form huy00
  obtain ⟨ay01, cy01, rfl⟩ := bytes_form huy01
  replace b0_0 := cell_keep hb4 (cell_keep (by (repeat (first | exact Below.refl _ _ | assumption | refine Below.drew ?_ | refine balloc ?_ _ | refine bset ?_ (by simp; omega) _ | refine bset ?_ (by simp) _ | refine bstep ?_ (by assumption)))) b0_0)
  replace b0_1 := cell_keep hb4 (cell_keep (by (repeat (first | exact Below.refl _ _ | assumption | refine Below.drew ?_ | refine balloc ?_ _ | refine bset ?_ (by simp; omega) _ | refine bset ?_ (by simp) _ | refine bstep ?_ (by assumption)))) b0_1)
  clear hb4 hB3 oC0
  clear z0
  have z0 := World.block_lt_of_cell? _ _ b0_0
  dsimp only at z0
  go_wp2_with fail
  refine (implLogF_any _ d0 _ (loggR.below VC0 (by (repeat (first | exact Below.refl _ _ | assumption | refine Below.drew ?_ | refine balloc ?_ _ | refine bset ?_ (by simp; omega) _ | refine bset ?_ (by simp) _ | refine bstep ?_ (by assumption))))) (by omega)).mono ?_
  rintro e w5 ⟨rfl, hb5⟩
  have hB5 : Below w.heap.size w w5 := by (repeat (first | exact Below.refl _ _ | assumption | refine Below.drew ?_ | refine balloc ?_ _ | refine bset ?_ (by simp; omega) _ | refine bset ?_ (by simp) _ | refine bstep ?_ (by assumption)))
  replace b0_0 := cell_keep hb5 (cell_keep (by (repeat (first | exact Below.refl _ _ | assumption | refine Below.drew ?_ | refine balloc ?_ _ | refine bset ?_ (by simp; omega) _ | refine bset ?_ (by simp) _ | refine bstep ?_ (by assumption)))) b0_0)
  replace b0_1 := cell_keep hb5 (cell_keep (by (repeat (first | exact Below.refl _ _ | assumption | refine Below.drew ?_ | refine balloc ?_ _ | refine bset ?_ (by simp; omega) _ | refine bset ?_ (by simp) _ | refine bstep ?_ (by assumption)))) b0_1)
  have y0_0 : w5.cell? ⟨w4.heap.size, 0, none⟩ = some (.slice ay00 d0.synced.length cy00) := cell_keep hb5 (by simp [go_sem])
  have y0_1 : w5.cell? ⟨w4.heap.size, 1, none⟩ = some (.slice ay01 d0.loose.length cy01) := cell_keep hb5 (by simp [go_sem])
  replace VC0 := loggR.below (loggR.below VC0 (by (repeat (first | exact Below.refl _ _ | assumption | refine Below.drew ?_ | refine balloc ?_ _ | refine bset ?_ (by simp; omega) _ | refine bset ?_ (by simp) _ | refine bstep ?_ (by assumption))))) hb5
  clear hb5 hB4
  clear z0
  have z0 := World.block_lt_of_cell? _ _ b0_0
  dsimp only at z0
  have z2 := World.block_lt_of_cell? _ _ y0_0
  dsimp only at z2
  go_wp2
  go_region_held3 (fun w' => Below w5.heap.size w5 w' ∧ w'.cell? ⟨w.heap.size, 0, none⟩ = some (.slice ax00 d0.synced.length cx00) ∧ w'.cell? ⟨w.heap.size, 1, none⟩ = some (.slice ax01 d0.loose.length cx01) ∧ w'.cell? ⟨w4.heap.size, 0, none⟩ = some (.slice ay00 d0.synced.length cy00) ∧ w'.cell? ⟨w4.heap.size, 1, none⟩ = some (.slice ay01 d0.loose.length cy01))
    ((refine keepN4 ?_ b0_0 b0_1 y0_0 y0_1; repeat (first | exact Below.refl _ _ | assumption | refine Below.drew ?_ | refine balloc ?_ _ | refine bstep ?_ (by assumption))))
    (first | (go_at_call 11; refine (toLog_u _ d0 _ (loggR.below hX0 (by (repeat (first | exact Below.refl _ _ | assumption | refine Below.drew ?_ | refine balloc ?_ _ | refine bset ?_ (by simp; omega) _ | refine bset ?_ (by simp) _ | refine bstep ?_ (by assumption))))) (by omega)).mono ?_; rintro e wD0 ⟨vD0, FD0, rfl, oD0, hbD0⟩; have fD0 := loggR.ofO oD0; obtain ⟨uz00, uz01, rfl, huz00, huz01⟩ := fD0; obtain ⟨az00, cz00, rfl⟩ := bytes_form huz00; obtain ⟨az01, cz01, rfl⟩ := bytes_form huz01) | (go_at_call 13; refine (eqLog_u _ _ d0 d0 _ (loggR.below VC0 (by (repeat (first | exact Below.refl _ _ | assumption | refine Below.drew ?_ | refine balloc ?_ _ | refine bset ?_ (by simp; omega) _ | refine bset ?_ (by simp) _ | refine bstep ?_ (by assumption))))) (loggR.below (loggR.ofO oD0) (by (repeat (first | exact Below.refl _ _ | assumption | refine Below.drew ?_ | refine balloc ?_ _ | refine bset ?_ (by simp; omega) _ | refine bset ?_ (by simp) _ | refine bstep ?_ (by assumption)))))).mono ?_; rintro e wE0 ⟨rfl, hbE0⟩))
  rename_i hH
  have hBE0 : Below w.heap.size w wE0 := bstep hB5 hH.1
  go_wp2
  go_ret
  exact ⟨rfl, hBE0⟩

end Go.Proofs.Ytlhikbjohlcdmaa.logFaultLaw
