/-
  Proved: laws.FnExactCanSettle answers true at every argument, and its arguments read behind the call as they read before. No condition. (The walk.)
-/
import Derived.Test.YtemcigjagaamiaaCan2
import Derived.Test.YtemcigjagaamiaaKeeps
import Derived.Deep.RegionHeld3
import Derived.Deep.DrawnRows
namespace Go.Proofs.Ytemcigjagaamiaa.canSettleLaw
open Go.RowKit
set_option linter.unusedSectionVars false
variable [DecidableEq Bal] [Inhabited Bal] [DecidableEq Ledg] [Inhabited Ledg] [DecidableEq Leg] [Inhabited Leg] [DecidableEq Cont] [Inhabited Cont]
attribute [local go_sem ↓] Go.wp_at_zero Go.wp_at_succ

set_option maxHeartbeats 2000000 in
theorem walk (x0 : Value) (d0 : Ledg) (x1 : Value) (d1 : Cont) (w : World) (hx0 : ledgR.V w x0 d0) (hx1 : contR.V w x1 d1) :
    Calls Try.prog 7 #[x0, x1] w fun e w' => e = .returned (.bool true) ∧ Below w.heap.size w w' := by
  have hX0 := hx0
  obtain ⟨ux00, rfl, hux00⟩ := hx0
  obtain ⟨ax00, cx00, rfl⟩ := balss_form hux00
  have hX1 := hx1
  obtain ⟨ux11, rfl, hux11⟩ := hx1
  obtain ⟨ax11, cx11, rfl⟩ := legs_form hux11
  go_enter Try.func7, Try.ntmps7
  go_wp2_with fail
  refine (szLedger_u _ d0 1048576 _ (ledgR.below hX0 (by (repeat (first | exact Below.refl _ _ | assumption | refine Below.drew ?_ | refine balloc ?_ _ | refine bset ?_ (by simp; omega) _ | refine bset ?_ (by simp) _ | refine bstep ?_ (by assumption))))) (by omega) (by omega)).mono ?_
  rintro e w1 ⟨rfl, hb1⟩
  have hB1 : Below w.heap.size w w1 := by (repeat (first | exact Below.refl _ _ | assumption | refine Below.drew ?_ | refine balloc ?_ _ | refine bset ?_ (by simp; omega) _ | refine bset ?_ (by simp) _ | refine bstep ?_ (by assumption)))
  have b0_0 : w1.cell? ⟨w.heap.size, 0, none⟩ = some (.slice ax00 d0.shards.length cx00) := cell_keep hb1 (by simp [go_sem])
  have b1_0 : w1.cell? ⟨w.heap.size + 1, 0, none⟩ = some (.int .i64 d1.id) := cell_keep hb1 (by simp [go_sem])
  have b1_1 : w1.cell? ⟨w.heap.size + 1, 1, none⟩ = some (.slice ax11 d1.legs.length cx11) := cell_keep hb1 (by simp [go_sem])
  clear hb1
  by_cases hs0 : szLen 1048576 ((wtLedg d0 : Nat) : Int) < 0
  · go_wp2
    go_ret
    exact ⟨rfl, by (repeat (first | exact Below.refl _ _ | assumption | refine Below.drew ?_ | refine balloc ?_ _ | refine bset ?_ (by simp; omega) _ | refine bset ?_ (by simp) _ | refine bstep ?_ (by assumption)))⟩
  go_wp2_with fail
  refine (szContract_u _ d1 (szLen 1048576 (wtLedg d0 : Nat)) _ (contR.below hX1 (by (repeat (first | exact Below.refl _ _ | assumption | refine Below.drew ?_ | refine balloc ?_ _ | refine bset ?_ (by simp; omega) _ | refine bset ?_ (by simp) _ | refine bstep ?_ (by assumption))))) (by omega) (by have := szLen_le (left := 1048576) (n := wtLedg d0) (by omega); omega)).mono ?_
  rintro e w2 ⟨rfl, hb2⟩
  have hB2 : Below w.heap.size w w2 := by (repeat (first | exact Below.refl _ _ | assumption | refine Below.drew ?_ | refine balloc ?_ _ | refine bset ?_ (by simp; omega) _ | refine bset ?_ (by simp) _ | refine bstep ?_ (by assumption)))
  replace b0_0 := cell_keep hb2 (cell_keep (by (repeat (first | exact Below.refl _ _ | assumption | refine Below.drew ?_ | refine balloc ?_ _ | refine bset ?_ (by simp; omega) _ | refine bset ?_ (by simp) _ | refine bstep ?_ (by assumption)))) b0_0)
  replace b1_0 := cell_keep hb2 (cell_keep (by (repeat (first | exact Below.refl _ _ | assumption | refine Below.drew ?_ | refine balloc ?_ _ | refine bset ?_ (by simp; omega) _ | refine bset ?_ (by simp) _ | refine bstep ?_ (by assumption)))) b1_0)
  replace b1_1 := cell_keep hb2 (cell_keep (by (repeat (first | exact Below.refl _ _ | assumption | refine Below.drew ?_ | refine balloc ?_ _ | refine bset ?_ (by simp; omega) _ | refine bset ?_ (by simp) _ | refine bstep ?_ (by assumption)))) b1_1)
  rw [szLen_add (n := wtLedg d0) (by omega)]
  clear hb2 hB1
  by_cases hsz : 1048576 < wtLedg d0 + wtCont d1
  · rw [show szLen 1048576 ((wtLedg d0 + wtCont d1 : Nat) : Int) = -1 by unfold szLen; rw [if_pos (by omega)]]
    go_wp2
    go_ret
    exact ⟨rfl, by (repeat (first | exact Below.refl _ _ | assumption | refine Below.drew ?_ | refine balloc ?_ _ | refine bset ?_ (by simp; omega) _ | refine bset ?_ (by simp) _ | refine bstep ?_ (by assumption)))⟩
  have e1 : szLen 1048576 ((wtLedg d0 + wtCont d1 : Nat) : Int) = 1048576 - ((wtLedg d0 + wtCont d1 : Nat) : Int) := by unfold szLen; rw [if_neg (by omega)]
  have e2 : ¬ (1048576 : Int) - ((wtLedg d0 + wtCont d1 : Nat) : Int) < 0 := by omega
  rw [e1]
  clear e1
  go_wp2_with fail
  go_region_held3 (fun w' => Below w2.heap.size w2 w' ∧ w'.cell? ⟨w.heap.size, 0, none⟩ = some (.slice ax00 d0.shards.length cx00) ∧ w'.cell? ⟨w.heap.size + 1, 0, none⟩ = some (.int .i64 d1.id) ∧ w'.cell? ⟨w.heap.size + 1, 1, none⟩ = some (.slice ax11 d1.legs.length cx11))
    ((refine keepN3 ?_ b0_0 b1_0 b1_1; repeat (first | exact Below.refl _ _ | assumption | refine Below.drew ?_ | refine balloc ?_ _ | refine bstep ?_ (by assumption))))
    (first | (go_at_call_of 16 (ax00); refine (toLedger_u _ d0 _ (ledgR.below hX0 (by (repeat (first | exact Below.refl _ _ | assumption | refine Below.drew ?_ | refine balloc ?_ _ | refine bset ?_ (by simp; omega) _ | refine bset ?_ (by simp) _ | refine bstep ?_ (by assumption))))) (by omega)).mono ?_; rintro e wS0 ⟨vS0, FS0, rfl, oS0, hbS0⟩; have foS0 := ledgR.ofO oS0; obtain ⟨us00, rfl, hus00⟩ := foS0; obtain ⟨as00, cs00, rfl⟩ := balss_form hus00) | (go_at_call_of 26 (ax11); refine (toContract_u _ d1 _ (contR.below hX1 (by (repeat (first | exact Below.refl _ _ | assumption | refine Below.drew ?_ | refine balloc ?_ _ | refine bset ?_ (by simp; omega) _ | refine bset ?_ (by simp) _ | refine bstep ?_ (by assumption))))) (by omega)).mono ?_; rintro e wS1 ⟨vS1, FS1, rfl, oS1, hbS1⟩; have foS1 := contR.ofO oS1; obtain ⟨us11, rfl, hus11⟩ := foS1; obtain ⟨as11, cs11, rfl⟩ := legs_form hus11) | (go_at_call 25; refine (specCan_any _ _ d0 d1 _ (ledgR.below (ledgR.ofO oS0) (by (repeat (first | exact Below.refl _ _ | assumption | refine Below.drew ?_ | refine balloc ?_ _ | refine bset ?_ (by simp; omega) _ | refine bset ?_ (by simp) _ | refine bstep ?_ (by assumption))))) (contR.below (contR.ofO oS1) (by (repeat (first | exact Below.refl _ _ | assumption | refine Below.drew ?_ | refine balloc ?_ _ | refine bset ?_ (by simp; omega) _ | refine bset ?_ (by simp) _ | refine bstep ?_ (by assumption)))))).mono ?_; rintro e wT ⟨rfl, hbT⟩))
  all_goals
    rename_i hH
    have hBT : Below w.heap.size w wT := bstep (by assumption) hH.1
    obtain ⟨_, rb0_0, rb1_0, rb1_1⟩ := hH
    replace b0_0 := rb0_0
    replace b1_0 := rb1_0
    replace b1_1 := rb1_1
    clear rb0_0 rb1_0 rb1_1 hB2 oS0 hbS0 oS1 hbS1 hbT
    have z0 := World.block_lt_of_cell? _ _ b0_0
    dsimp only at z0
    have z1 := World.block_lt_of_cell? _ _ b1_0
    dsimp only at z1
    go_wp2_with fail
    refine (toLedger_u _ d0 _ (ledgR.below hX0 (by (repeat (first | exact Below.refl _ _ | assumption | refine Below.drew ?_ | refine balloc ?_ _ | refine bset ?_ (by simp; omega) _ | refine bset ?_ (by simp) _ | refine bstep ?_ (by assumption))))) (by omega)).mono ?_
    rintro e w3 ⟨vC0, FC0, rfl, oC0, hb3⟩
    have hB3 : Below w.heap.size w w3 := by (repeat (first | exact Below.refl _ _ | assumption | refine Below.drew ?_ | refine balloc ?_ _ | refine bset ?_ (by simp; omega) _ | refine bset ?_ (by simp) _ | refine bstep ?_ (by assumption)))
    have VC0 := ledgR.ofO oC0
    have fC0 := VC0
    obtain ⟨uy00, rfl, huy00⟩ := fC0
    obtain ⟨ay00, cy00, rfl⟩ := balss_form huy00
    replace b0_0 := cell_keep hb3 (cell_keep (by (repeat (first | exact Below.refl _ _ | assumption | refine Below.drew ?_ | refine balloc ?_ _ | refine bset ?_ (by simp; omega) _ | refine bset ?_ (by simp) _ | refine bstep ?_ (by assumption)))) b0_0)
    replace b1_0 := cell_keep hb3 (cell_keep (by (repeat (first | exact Below.refl _ _ | assumption | refine Below.drew ?_ | refine balloc ?_ _ | refine bset ?_ (by simp; omega) _ | refine bset ?_ (by simp) _ | refine bstep ?_ (by assumption)))) b1_0)
    replace b1_1 := cell_keep hb3 (cell_keep (by (repeat (first | exact Below.refl _ _ | assumption | refine Below.drew ?_ | refine balloc ?_ _ | refine bset ?_ (by simp; omega) _ | refine bset ?_ (by simp) _ | refine bstep ?_ (by assumption)))) b1_1)
    clear hb3 hBT oC0
    clear z0 z1
    have z0 := World.block_lt_of_cell? _ _ b0_0
    dsimp only at z0
    have z1 := World.block_lt_of_cell? _ _ b1_0
    dsimp only at z1
    go_wp2_with fail
    refine (toContract_u _ d1 _ (contR.below hX1 (by (repeat (first | exact Below.refl _ _ | assumption | refine Below.drew ?_ | refine balloc ?_ _ | refine bset ?_ (by simp; omega) _ | refine bset ?_ (by simp) _ | refine bstep ?_ (by assumption))))) (by omega)).mono ?_
    rintro e w4 ⟨vC1, FC1, rfl, oC1, hb4⟩
    have hB4 : Below w.heap.size w w4 := by (repeat (first | exact Below.refl _ _ | assumption | refine Below.drew ?_ | refine balloc ?_ _ | refine bset ?_ (by simp; omega) _ | refine bset ?_ (by simp) _ | refine bstep ?_ (by assumption)))
    have VC1 := contR.ofO oC1
    have fC1 := VC1
    obtain ⟨uy11, rfl, huy11⟩ := fC1
    obtain ⟨ay11, cy11, rfl⟩ := legs_form huy11
    replace b0_0 := cell_keep hb4 (cell_keep (by (repeat (first | exact Below.refl _ _ | assumption | refine Below.drew ?_ | refine balloc ?_ _ | refine bset ?_ (by simp; omega) _ | refine bset ?_ (by simp) _ | refine bstep ?_ (by assumption)))) b0_0)
    replace b1_0 := cell_keep hb4 (cell_keep (by (repeat (first | exact Below.refl _ _ | assumption | refine Below.drew ?_ | refine balloc ?_ _ | refine bset ?_ (by simp; omega) _ | refine bset ?_ (by simp) _ | refine bstep ?_ (by assumption)))) b1_0)
    replace b1_1 := cell_keep hb4 (cell_keep (by (repeat (first | exact Below.refl _ _ | assumption | refine Below.drew ?_ | refine balloc ?_ _ | refine bset ?_ (by simp; omega) _ | refine bset ?_ (by simp) _ | refine bstep ?_ (by assumption)))) b1_1)
    have y0_0 : w4.cell? ⟨w3.heap.size, 0, none⟩ = some (.slice ay00 d0.shards.length cy00) := cell_keep hb4 (by simp [go_sem])
    replace VC0 := ledgR.below (ledgR.below VC0 (by (repeat (first | exact Below.refl _ _ | assumption | refine Below.drew ?_ | refine balloc ?_ _ | refine bset ?_ (by simp; omega) _ | refine bset ?_ (by simp) _ | refine bstep ?_ (by assumption))))) hb4
    clear hb4 hB3 oC1
    clear z0 z1
    have z0 := World.block_lt_of_cell? _ _ b0_0
    dsimp only at z0
    have z1 := World.block_lt_of_cell? _ _ b1_0
    dsimp only at z1
    have z3 := World.block_lt_of_cell? _ _ y0_0
    dsimp only at z3
    go_wp2_with fail
    refine (implCan_any _ _ d0 d1 _ (ledgR.below VC0 (by (repeat (first | exact Below.refl _ _ | assumption | refine Below.drew ?_ | refine balloc ?_ _ | refine bset ?_ (by simp; omega) _ | refine bset ?_ (by simp) _ | refine bstep ?_ (by assumption))))) (contR.below VC1 (by (repeat (first | exact Below.refl _ _ | assumption | refine Below.drew ?_ | refine balloc ?_ _ | refine bset ?_ (by simp; omega) _ | refine bset ?_ (by simp) _ | refine bstep ?_ (by assumption)))))).mono ?_
    rintro e w5 ⟨rfl, hb5⟩
    have hB5 : Below w.heap.size w w5 := by (repeat (first | exact Below.refl _ _ | assumption | refine Below.drew ?_ | refine balloc ?_ _ | refine bset ?_ (by simp; omega) _ | refine bset ?_ (by simp) _ | refine bstep ?_ (by assumption)))
    replace b0_0 := cell_keep hb5 (cell_keep (by (repeat (first | exact Below.refl _ _ | assumption | refine Below.drew ?_ | refine balloc ?_ _ | refine bset ?_ (by simp; omega) _ | refine bset ?_ (by simp) _ | refine bstep ?_ (by assumption)))) b0_0)
    replace b1_0 := cell_keep hb5 (cell_keep (by (repeat (first | exact Below.refl _ _ | assumption | refine Below.drew ?_ | refine balloc ?_ _ | refine bset ?_ (by simp; omega) _ | refine bset ?_ (by simp) _ | refine bstep ?_ (by assumption)))) b1_0)
    replace b1_1 := cell_keep hb5 (cell_keep (by (repeat (first | exact Below.refl _ _ | assumption | refine Below.drew ?_ | refine balloc ?_ _ | refine bset ?_ (by simp; omega) _ | refine bset ?_ (by simp) _ | refine bstep ?_ (by assumption)))) b1_1)
    replace y0_0 := cell_keep hb5 (cell_keep (by (repeat (first | exact Below.refl _ _ | assumption | refine Below.drew ?_ | refine balloc ?_ _ | refine bset ?_ (by simp; omega) _ | refine bset ?_ (by simp) _ | refine bstep ?_ (by assumption)))) y0_0)
    have y1_0 : w5.cell? ⟨w4.heap.size, 0, none⟩ = some (.int .i64 d1.id) := cell_keep hb5 (by simp [go_sem])
    have y1_1 : w5.cell? ⟨w4.heap.size, 1, none⟩ = some (.slice ay11 d1.legs.length cy11) := cell_keep hb5 (by simp [go_sem])
    replace VC0 := ledgR.below (ledgR.below VC0 (by (repeat (first | exact Below.refl _ _ | assumption | refine Below.drew ?_ | refine balloc ?_ _ | refine bset ?_ (by simp; omega) _ | refine bset ?_ (by simp) _ | refine bstep ?_ (by assumption))))) hb5
    replace VC1 := contR.below (contR.below VC1 (by (repeat (first | exact Below.refl _ _ | assumption | refine Below.drew ?_ | refine balloc ?_ _ | refine bset ?_ (by simp; omega) _ | refine bset ?_ (by simp) _ | refine bstep ?_ (by assumption))))) hb5
    clear hb5 hB4
    clear z0 z1 z3
    have z0 := World.block_lt_of_cell? _ _ b0_0
    dsimp only at z0
    have z1 := World.block_lt_of_cell? _ _ b1_0
    dsimp only at z1
    have z3 := World.block_lt_of_cell? _ _ y0_0
    dsimp only at z3
    have z4 := World.block_lt_of_cell? _ _ y1_0
    dsimp only at z4
    go_wp2
    go_region_held3 (fun w' => Below w5.heap.size w5 w' ∧ w'.cell? ⟨w.heap.size, 0, none⟩ = some (.slice ax00 d0.shards.length cx00) ∧ w'.cell? ⟨w.heap.size + 1, 0, none⟩ = some (.int .i64 d1.id) ∧ w'.cell? ⟨w.heap.size + 1, 1, none⟩ = some (.slice ax11 d1.legs.length cx11) ∧ w'.cell? ⟨w3.heap.size, 0, none⟩ = some (.slice ay00 d0.shards.length cy00) ∧ w'.cell? ⟨w4.heap.size, 0, none⟩ = some (.int .i64 d1.id) ∧ w'.cell? ⟨w4.heap.size, 1, none⟩ = some (.slice ay11 d1.legs.length cy11))
      ((refine keepN6 ?_ b0_0 b1_0 b1_1 y0_0 y1_0 y1_1; repeat (first | exact Below.refl _ _ | assumption | refine Below.drew ?_ | refine balloc ?_ _ | refine bstep ?_ (by assumption))))
      (first | (go_at_call 16; refine (toLedger_u _ d0 _ (ledgR.below hX0 (by (repeat (first | exact Below.refl _ _ | assumption | refine Below.drew ?_ | refine balloc ?_ _ | refine bset ?_ (by simp; omega) _ | refine bset ?_ (by simp) _ | refine bstep ?_ (by assumption))))) (by omega)).mono ?_; rintro e wD0 ⟨vD0, FD0, rfl, oD0, hbD0⟩; have fD0 := ledgR.ofO oD0; obtain ⟨uz00, rfl, huz00⟩ := fD0; obtain ⟨az00, cz00, rfl⟩ := balss_form huz00) | (go_at_call 18; refine (eqLedger_u _ _ d0 d0 _ (ledgR.below VC0 (by (repeat (first | exact Below.refl _ _ | assumption | refine Below.drew ?_ | refine balloc ?_ _ | refine bset ?_ (by simp; omega) _ | refine bset ?_ (by simp) _ | refine bstep ?_ (by assumption))))) (ledgR.below (ledgR.ofO oD0) (by (repeat (first | exact Below.refl _ _ | assumption | refine Below.drew ?_ | refine balloc ?_ _ | refine bset ?_ (by simp; omega) _ | refine bset ?_ (by simp) _ | refine bstep ?_ (by assumption)))))).mono ?_; rintro e wE0 ⟨rfl, hbE0⟩))
    rename_i hH
    have hBE0 : Below w.heap.size w wE0 := bstep hB5 hH.1
    replace VC1 := contR.below VC1 hH.1
    obtain ⟨_, rb0_0, rb1_0, rb1_1, ry0_0, ry1_0, ry1_1⟩ := hH
    replace b0_0 := rb0_0
    replace b1_0 := rb1_0
    replace b1_1 := rb1_1
    replace y0_0 := ry0_0
    replace y1_0 := ry1_0
    replace y1_1 := ry1_1
    clear rb0_0 rb1_0 rb1_1 ry0_0 ry1_0 ry1_1 hB5 oD0 hbD0 hbE0
    clear z0 z1 z3 z4
    have z0 := World.block_lt_of_cell? _ _ b0_0
    dsimp only at z0
    have z1 := World.block_lt_of_cell? _ _ b1_0
    dsimp only at z1
    have z3 := World.block_lt_of_cell? _ _ y0_0
    dsimp only at z3
    have z4 := World.block_lt_of_cell? _ _ y1_0
    dsimp only at z4
    go_wp2
    go_region_held3 (fun w' => Below wE0.heap.size wE0 w' ∧ w'.cell? ⟨w.heap.size, 0, none⟩ = some (.slice ax00 d0.shards.length cx00) ∧ w'.cell? ⟨w.heap.size + 1, 0, none⟩ = some (.int .i64 d1.id) ∧ w'.cell? ⟨w.heap.size + 1, 1, none⟩ = some (.slice ax11 d1.legs.length cx11) ∧ w'.cell? ⟨w3.heap.size, 0, none⟩ = some (.slice ay00 d0.shards.length cy00) ∧ w'.cell? ⟨w4.heap.size, 0, none⟩ = some (.int .i64 d1.id) ∧ w'.cell? ⟨w4.heap.size, 1, none⟩ = some (.slice ay11 d1.legs.length cy11))
      ((refine keepN6 ?_ b0_0 b1_0 b1_1 y0_0 y1_0 y1_1; repeat (first | exact Below.refl _ _ | assumption | refine Below.drew ?_ | refine balloc ?_ _ | refine bstep ?_ (by assumption))))
      (first | (go_at_call 26; refine (toContract_u _ d1 _ (contR.below hX1 (by (repeat (first | exact Below.refl _ _ | assumption | refine Below.drew ?_ | refine balloc ?_ _ | refine bset ?_ (by simp; omega) _ | refine bset ?_ (by simp) _ | refine bstep ?_ (by assumption))))) (by omega)).mono ?_; rintro e wD1 ⟨vD1, FD1, rfl, oD1, hbD1⟩; have fD1 := contR.ofO oD1; obtain ⟨uz11, rfl, huz11⟩ := fD1; obtain ⟨az11, cz11, rfl⟩ := legs_form huz11) | (go_at_call 28; refine (eqContract_u _ _ d1 d1 _ (contR.below VC1 (by (repeat (first | exact Below.refl _ _ | assumption | refine Below.drew ?_ | refine balloc ?_ _ | refine bset ?_ (by simp; omega) _ | refine bset ?_ (by simp) _ | refine bstep ?_ (by assumption))))) (contR.below (contR.ofO oD1) (by (repeat (first | exact Below.refl _ _ | assumption | refine Below.drew ?_ | refine balloc ?_ _ | refine bset ?_ (by simp; omega) _ | refine bset ?_ (by simp) _ | refine bstep ?_ (by assumption)))))).mono ?_; rintro e wE1 ⟨rfl, hbE1⟩))
    rename_i hH
    have hBE1 : Below w.heap.size w wE1 := bstep hBE0 hH.1
    go_wp2
    go_ret
    exact ⟨rfl, hBE1⟩

end Go.Proofs.Ytemcigjagaamiaa.canSettleLaw
