import Derived.Test.YtncmdeijimgchaaPrnAcceptAtLaw14
import Derived.Test.YtncmdeijimgchaaPrnAcceptAtLaw15
import Derived.Test.YtncmdeijimgchaaPrnAcceptAtLaw16
import Derived.Test.YtncmdeijimgchaaPrnAcceptAtLaw10
import Derived.Deep.RegionHeld3
import Derived.Deep.DrawnRows

/-
  Proved: laws.FnExactAcceptAt answers true at every argument, and its arguments read behind the call as they read before. No condition. (The walk.)
-/
namespace Go.Proofs.Ytncmdeijimgchaa.acceptAtLaw
open Go.RowKit
set_option linter.unusedSectionVars false
variable [DecidableEq Vot] [Inhabited Vot] [DecidableEq Slt] [Inhabited Slt] [DecidableEq Bal] [Inhabited Bal] [DecidableEq Ledg] [Inhabited Ledg] [DecidableEq Leg] [Inhabited Leg] [DecidableEq Acc] [Inhabited Acc] [DecidableEq SltR] [Inhabited SltR] [DecidableEq AccR] [Inhabited AccR] [DecidableEq AccsR] [Inhabited AccsR] [DecidableEq SltsR] [Inhabited SltsR]
attribute [local go_sem ↓] Go.wp_at_zero Go.wp_at_succ

set_option maxHeartbeats 4000000 in
theorem walk (x0 : Value) (d0 : Acc) (k1 : Int) (k2 : Int) (k3 : Int) (k4 : Int) (w : World) (hx0 : accR.V w x0 d0) :
    Calls Try.prog 6 #[x0, .int .i64 k1, .int .i64 k2, .int .i64 k3, .int .i64 k4] w fun e w' => e = .returned (.bool true) ∧ Below w.heap.size w w' := by
  have hX0 := hx0
  obtain ⟨ax1, cx1, rfl⟩ := acc_form hx0
  go_enter Try.func6, Try.ntmps6
  go_wp2_with fail
  refine (szAcceptor_u _ d0 1048576 _ (accR.below hX0 (by (repeat (first | exact Below.refl _ _ | assumption | refine Below.drew ?_ | refine balloc ?_ _ | refine bset ?_ (by simp; omega) _ | refine bset ?_ (by simp) _ | refine bstep ?_ (by assumption))))) (by omega) (by omega)).mono ?_
  rintro e w1 ⟨rfl, hb1⟩
  have hB1 : Below w.heap.size w w1 := by (repeat (first | exact Below.refl _ _ | assumption | refine Below.drew ?_ | refine balloc ?_ _ | refine bset ?_ (by simp; omega) _ | refine bset ?_ (by simp) _ | refine bstep ?_ (by assumption)))
  have s1 := hb1.size
  try simp only [World.size_alloc] at s1
  have b_0 : w1.cell? ⟨w.heap.size, 0, none⟩ = some (.slice ax1 d0.slots.length cx1) := cell_keep hb1 (by simp [go_sem])
  clear hb1
  by_cases hsz : 1048576 < wtAcc d0
  · rw [show szLen 1048576 ((wtAcc d0 : Nat) : Int) = -1 by unfold szLen; rw [if_pos (by omega)]]
    go_wp2
    go_ret
    exact ⟨rfl, by (repeat (first | exact Below.refl _ _ | assumption | refine Below.drew ?_ | refine balloc ?_ _ | refine bset ?_ (by simp; omega) _ | refine bset ?_ (by simp) _ | refine bstep ?_ (by assumption)))⟩
  have e1 : szLen 1048576 ((wtAcc d0 : Nat) : Int) = 1048576 - ((wtAcc d0 : Nat) : Int) := by unfold szLen; rw [if_neg (by omega)]
  have e2 : ¬ (1048576 : Int) - ((wtAcc d0 : Nat) : Int) < 0 := by omega
  rw [e1]
  clear e1
  have hcA := acc_cnt d0
  have hwR : wtAccR (accAtD d0.slots k1 k2 k3 k4) ≤ 1048576 := by have := accAt_wt d0.slots k1 k2 k3 k4; omega
  have hcR : (1 : Int) + cntAccR (accAtD d0.slots k1 k2 k3 k4) ≤ 1073741824 := by have := accAt_wt d0.slots k1 k2 k3 k4; have := accR_cnt (accAtD d0.slots k1 k2 k3 k4); omega
  have hk1 : ¬ (1 : Int) + cntAcc d0 < 0 := by omega
  have hk2 : ¬ (1 : Int) + cntAccR (accAtD d0.slots k1 k2 k3 k4) < 0 := by omega
  have hkA : (1 : Int) + cntAcc d0 ≤ 1073741824 := by omega
  go_wp2_with fail
  refine (toAcceptor_u _ d0 _ (accR.below hX0 (by (repeat (first | exact Below.refl _ _ | assumption | refine Below.drew ?_ | refine balloc ?_ _ | refine bset ?_ (by simp; omega) _ | refine bset ?_ (by simp) _ | refine bstep ?_ (by assumption))))) (by omega)).mono ?_
  rintro e w2 ⟨vS, FS, rfl, oS, hb2⟩
  have hB2 : Below w.heap.size w w2 := by (repeat (first | exact Below.refl _ _ | assumption | refine Below.drew ?_ | refine balloc ?_ _ | refine bset ?_ (by simp; omega) _ | refine bset ?_ (by simp) _ | refine bstep ?_ (by assumption)))
  have s2 := hb2.size
  try simp only [World.size_alloc] at s2
  replace b_0 := cell_keep hb2 (cell_keep (by (repeat (first | exact Below.refl _ _ | assumption | refine Below.drew ?_ | refine balloc ?_ _ | refine bset ?_ (by simp; omega) _ | refine bset ?_ (by simp) _ | refine bstep ?_ (by assumption)))) b_0)
  clear hB1
  clear hb2
  have fS := accR.ofO oS
  obtain ⟨asv1, csv1, rfl⟩ := acc_form fS
  have z0 := World.block_lt_of_cell? _ _ b_0
  dsimp only at z0
  go_wp2_with fail
  refine (specAccAt_u _ d0 k1 k2 k3 k4 _ (accR.below (accR.ofO oS) (by (repeat (first | exact Below.refl _ _ | assumption | refine Below.drew ?_ | refine balloc ?_ _ | refine bset ?_ (by simp; omega) _ | refine bset ?_ (by simp) _ | refine bstep ?_ (by assumption)))))).mono ?_
  rintro e w3 ⟨vW, FW, rfl, oW, hb3⟩
  have hB3 : Below w.heap.size w w3 := by (repeat (first | exact Below.refl _ _ | assumption | refine Below.drew ?_ | refine balloc ?_ _ | refine bset ?_ (by simp; omega) _ | refine bset ?_ (by simp) _ | refine bstep ?_ (by assumption)))
  have s3 := hb3.size
  try simp only [World.size_alloc] at s3
  replace b_0 := cell_keep hb3 (cell_keep (by (repeat (first | exact Below.refl _ _ | assumption | refine Below.drew ?_ | refine balloc ?_ _ | refine bset ?_ (by simp; omega) _ | refine bset ?_ (by simp) _ | refine bstep ?_ (by assumption)))) b_0)
  clear hB2
  have roW : ∀ b, FW b → w2.heap.size ≤ b ∧ b < w3.heap.size := fun b hb => by
    have := accRR.rng oW b hb
    try simp only [World.size_alloc] at this
    omega
  clear hb3
  have fW := accRR.ofO oW
  obtain ⟨aw1_1, cw1_1, rfl⟩ := accR_form fW
  clear oS
  clear z0
  have z0 := World.block_lt_of_cell? _ _ b_0
  dsimp only at z0
  go_wp2_with fail
  refine (toAcceptor_u _ d0 _ (accR.below hX0 (by (repeat (first | exact Below.refl _ _ | assumption | refine Below.drew ?_ | refine balloc ?_ _ | refine bset ?_ (by simp; omega) _ | refine bset ?_ (by simp) _ | refine bstep ?_ (by assumption))))) (by omega)).mono ?_
  rintro e w4 ⟨vC, FC, rfl, oC, hb4⟩
  have hB4 : Below w.heap.size w w4 := by (repeat (first | exact Below.refl _ _ | assumption | refine Below.drew ?_ | refine balloc ?_ _ | refine bset ?_ (by simp; omega) _ | refine bset ?_ (by simp) _ | refine bstep ?_ (by assumption)))
  have s4 := hb4.size
  try simp only [World.size_alloc] at s4
  replace b_0 := cell_keep hb4 (cell_keep (by (repeat (first | exact Below.refl _ _ | assumption | refine Below.drew ?_ | refine balloc ?_ _ | refine bset ?_ (by simp; omega) _ | refine bset ?_ (by simp) _ | refine bstep ?_ (by assumption)))) b_0)
  have q_0 : w4.cell? ⟨w3.heap.size, 0, none⟩ = some (.int .i64 (accAtD d0.slots k1 k2 k3 k4).code) := cell_keep hb4 (by simp [go_sem])
  have q_1 : w4.cell? ⟨w3.heap.size, 1, none⟩ = some (.int .i64 (accAtD d0.slots k1 k2 k3 k4).ob) := cell_keep hb4 (by simp [go_sem])
  have q_2 : w4.cell? ⟨w3.heap.size, 2, none⟩ = some (.int .i64 (accAtD d0.slots k1 k2 k3 k4).ov) := cell_keep hb4 (by simp [go_sem])
  have q_3 : w4.cell? ⟨w3.heap.size, 3, none⟩ = some (.slice aw1_1 (accAtD d0.slots k1 k2 k3 k4).acc.slots.length cw1_1) := cell_keep hb4 (by simp [go_sem])
  replace oW := accRR.keep2 oW (by (repeat (first | exact Below.refl _ _ | assumption | refine Below.drew ?_ | refine balloc ?_ _ | refine bset ?_ (by simp; omega) _ | refine bset ?_ (by simp) _ | refine bstep ?_ (by assumption)))) hb4
  clear hB3
  have roC : ∀ b, FC b → w3.heap.size + 1 ≤ b ∧ b < w4.heap.size := fun b hb => by
    have := accR.rng oC b hb
    try simp only [World.size_alloc] at this
    omega
  clear hb4
  have fC := accR.ofO oC
  obtain ⟨ay1, cy1, rfl⟩ := acc_form fC
  clear z0
  have z0 := World.block_lt_of_cell? _ _ b_0
  dsimp only at z0
  have z1 := World.block_lt_of_cell? _ _ q_0
  dsimp only at z1
  go_wp2_with fail
  refine (implAccAt_u _ d0 k1 k2 k3 k4 _ (accR.below (accR.ofO oC) (by (repeat (first | exact Below.refl _ _ | assumption | refine Below.drew ?_ | refine balloc ?_ _ | refine bset ?_ (by simp; omega) _ | refine bset ?_ (by simp) _ | refine bstep ?_ (by assumption)))))).mono ?_
  rintro e w5 ⟨vG, FG, rfl, oG, hb5⟩
  have hB5 : Below w.heap.size w w5 := by (repeat (first | exact Below.refl _ _ | assumption | refine Below.drew ?_ | refine balloc ?_ _ | refine bset ?_ (by simp; omega) _ | refine bset ?_ (by simp) _ | refine bstep ?_ (by assumption)))
  have s5 := hb5.size
  try simp only [World.size_alloc] at s5
  replace b_0 := cell_keep hb5 (cell_keep (by (repeat (first | exact Below.refl _ _ | assumption | refine Below.drew ?_ | refine balloc ?_ _ | refine bset ?_ (by simp; omega) _ | refine bset ?_ (by simp) _ | refine bstep ?_ (by assumption)))) b_0)
  replace q_0 := cell_keep hb5 (cell_keep (by (repeat (first | exact Below.refl _ _ | assumption | refine Below.drew ?_ | refine balloc ?_ _ | refine bset ?_ (by simp; omega) _ | refine bset ?_ (by simp) _ | refine bstep ?_ (by assumption)))) q_0)
  replace q_1 := cell_keep hb5 (cell_keep (by (repeat (first | exact Below.refl _ _ | assumption | refine Below.drew ?_ | refine balloc ?_ _ | refine bset ?_ (by simp; omega) _ | refine bset ?_ (by simp) _ | refine bstep ?_ (by assumption)))) q_1)
  replace q_2 := cell_keep hb5 (cell_keep (by (repeat (first | exact Below.refl _ _ | assumption | refine Below.drew ?_ | refine balloc ?_ _ | refine bset ?_ (by simp; omega) _ | refine bset ?_ (by simp) _ | refine bstep ?_ (by assumption)))) q_2)
  replace q_3 := cell_keep hb5 (cell_keep (by (repeat (first | exact Below.refl _ _ | assumption | refine Below.drew ?_ | refine balloc ?_ _ | refine bset ?_ (by simp; omega) _ | refine bset ?_ (by simp) _ | refine bstep ?_ (by assumption)))) q_3)
  have y_0 : w5.cell? ⟨w4.heap.size, 0, none⟩ = some (.slice ay1 d0.slots.length cy1) := cell_keep hb5 (by simp [go_sem])
  replace oW := accRR.keep2 oW (by (repeat (first | exact Below.refl _ _ | assumption | refine Below.drew ?_ | refine balloc ?_ _ | refine bset ?_ (by simp; omega) _ | refine bset ?_ (by simp) _ | refine bstep ?_ (by assumption)))) hb5
  replace oC := accR.keep2 oC (by (repeat (first | exact Below.refl _ _ | assumption | refine Below.drew ?_ | refine balloc ?_ _ | refine bset ?_ (by simp; omega) _ | refine bset ?_ (by simp) _ | refine bstep ?_ (by assumption)))) hb5
  clear hB4
  have roG : ∀ b, FG b → w4.heap.size + 1 ≤ b ∧ b < w5.heap.size := fun b hb => by
    have := accRR.rng oG b hb
    try simp only [World.size_alloc] at this
    omega
  clear hb5
  have fG := accRR.ofO oG
  obtain ⟨ag1_1, cg1_1, rfl⟩ := accR_form fG
  clear z0 z1
  have z0 := World.block_lt_of_cell? _ _ b_0
  dsimp only at z0
  have z1 := World.block_lt_of_cell? _ _ q_0
  dsimp only at z1
  have z5 := World.block_lt_of_cell? _ _ y_0
  dsimp only at z5
  go_wp2_with fail
  refine (eqAcceptorResult_u _ _ (accAtD d0.slots k1 k2 k3 k4) (accAtD d0.slots k1 k2 k3 k4) _ (accRR.below (accRR.ofO oG) (by (repeat (first | exact Below.refl _ _ | assumption | refine Below.drew ?_ | refine balloc ?_ _ | refine bset ?_ (by simp; omega) _ | refine bset ?_ (by simp) _ | refine bstep ?_ (by assumption))))) (accRR.below (accRR.ofO oW) (by (repeat (first | exact Below.refl _ _ | assumption | refine Below.drew ?_ | refine balloc ?_ _ | refine bset ?_ (by simp; omega) _ | refine bset ?_ (by simp) _ | refine bstep ?_ (by assumption)))))).mono ?_
  rintro e w6 ⟨rfl, hb6⟩
  have hB6 : Below w.heap.size w w6 := by (repeat (first | exact Below.refl _ _ | assumption | refine Below.drew ?_ | refine balloc ?_ _ | refine bset ?_ (by simp; omega) _ | refine bset ?_ (by simp) _ | refine bstep ?_ (by assumption)))
  have s6 := hb6.size
  try simp only [World.size_alloc] at s6
  replace b_0 := cell_keep hb6 (cell_keep (by (repeat (first | exact Below.refl _ _ | assumption | refine Below.drew ?_ | refine balloc ?_ _ | refine bset ?_ (by simp; omega) _ | refine bset ?_ (by simp) _ | refine bstep ?_ (by assumption)))) b_0)
  replace q_0 := cell_keep hb6 (cell_keep (by (repeat (first | exact Below.refl _ _ | assumption | refine Below.drew ?_ | refine balloc ?_ _ | refine bset ?_ (by simp; omega) _ | refine bset ?_ (by simp) _ | refine bstep ?_ (by assumption)))) q_0)
  replace q_1 := cell_keep hb6 (cell_keep (by (repeat (first | exact Below.refl _ _ | assumption | refine Below.drew ?_ | refine balloc ?_ _ | refine bset ?_ (by simp; omega) _ | refine bset ?_ (by simp) _ | refine bstep ?_ (by assumption)))) q_1)
  replace q_2 := cell_keep hb6 (cell_keep (by (repeat (first | exact Below.refl _ _ | assumption | refine Below.drew ?_ | refine balloc ?_ _ | refine bset ?_ (by simp; omega) _ | refine bset ?_ (by simp) _ | refine bstep ?_ (by assumption)))) q_2)
  replace q_3 := cell_keep hb6 (cell_keep (by (repeat (first | exact Below.refl _ _ | assumption | refine Below.drew ?_ | refine balloc ?_ _ | refine bset ?_ (by simp; omega) _ | refine bset ?_ (by simp) _ | refine bstep ?_ (by assumption)))) q_3)
  replace y_0 := cell_keep hb6 (cell_keep (by (repeat (first | exact Below.refl _ _ | assumption | refine Below.drew ?_ | refine balloc ?_ _ | refine bset ?_ (by simp; omega) _ | refine bset ?_ (by simp) _ | refine bstep ?_ (by assumption)))) y_0)
  have g_0 : w6.cell? ⟨w5.heap.size, 0, none⟩ = some (.int .i64 (accAtD d0.slots k1 k2 k3 k4).code) := cell_keep hb6 (by simp [go_sem])
  have g_1 : w6.cell? ⟨w5.heap.size, 1, none⟩ = some (.int .i64 (accAtD d0.slots k1 k2 k3 k4).ob) := cell_keep hb6 (by simp [go_sem])
  have g_2 : w6.cell? ⟨w5.heap.size, 2, none⟩ = some (.int .i64 (accAtD d0.slots k1 k2 k3 k4).ov) := cell_keep hb6 (by simp [go_sem])
  have g_3 : w6.cell? ⟨w5.heap.size, 3, none⟩ = some (.slice ag1_1 (accAtD d0.slots k1 k2 k3 k4).acc.slots.length cg1_1) := cell_keep hb6 (by simp [go_sem])
  replace oW := accRR.keep2 oW (by (repeat (first | exact Below.refl _ _ | assumption | refine Below.drew ?_ | refine balloc ?_ _ | refine bset ?_ (by simp; omega) _ | refine bset ?_ (by simp) _ | refine bstep ?_ (by assumption)))) hb6
  replace oC := accR.keep2 oC (by (repeat (first | exact Below.refl _ _ | assumption | refine Below.drew ?_ | refine balloc ?_ _ | refine bset ?_ (by simp; omega) _ | refine bset ?_ (by simp) _ | refine bstep ?_ (by assumption)))) hb6
  replace oG := accRR.keep2 oG (by (repeat (first | exact Below.refl _ _ | assumption | refine Below.drew ?_ | refine balloc ?_ _ | refine bset ?_ (by simp; omega) _ | refine bset ?_ (by simp) _ | refine bstep ?_ (by assumption)))) hb6
  clear hB5
  clear hb6
  clear z0 z1 z5
  have z0 := World.block_lt_of_cell? _ _ b_0
  dsimp only at z0
  have z1 := World.block_lt_of_cell? _ _ q_0
  dsimp only at z1
  have z5 := World.block_lt_of_cell? _ _ y_0
  dsimp only at z5
  have z6 := World.block_lt_of_cell? _ _ g_0
  dsimp only at z6
  go_wp2
  have VC : accR.V w6 _ d0 := accR.ofO oC
  go_region_held3 (fun w' => Below w6.heap.size w6 w' ∧ w'.cell? ⟨w.heap.size, 0, none⟩ = some (.slice ax1 d0.slots.length cx1) ∧ w'.cell? ⟨w3.heap.size, 0, none⟩ = some (.int .i64 (accAtD d0.slots k1 k2 k3 k4).code) ∧ w'.cell? ⟨w3.heap.size, 1, none⟩ = some (.int .i64 (accAtD d0.slots k1 k2 k3 k4).ob) ∧ w'.cell? ⟨w3.heap.size, 2, none⟩ = some (.int .i64 (accAtD d0.slots k1 k2 k3 k4).ov) ∧ w'.cell? ⟨w3.heap.size, 3, none⟩ = some (.slice aw1_1 (accAtD d0.slots k1 k2 k3 k4).acc.slots.length cw1_1) ∧ w'.cell? ⟨w4.heap.size, 0, none⟩ = some (.slice ay1 d0.slots.length cy1) ∧ w'.cell? ⟨w5.heap.size, 0, none⟩ = some (.int .i64 (accAtD d0.slots k1 k2 k3 k4).code) ∧ w'.cell? ⟨w5.heap.size, 1, none⟩ = some (.int .i64 (accAtD d0.slots k1 k2 k3 k4).ob) ∧ w'.cell? ⟨w5.heap.size, 2, none⟩ = some (.int .i64 (accAtD d0.slots k1 k2 k3 k4).ov) ∧ w'.cell? ⟨w5.heap.size, 3, none⟩ = some (.slice ag1_1 (accAtD d0.slots k1 k2 k3 k4).acc.slots.length cg1_1))
    ((refine keepN10 ?_ b_0 q_0 q_1 q_2 q_3 y_0 g_0 g_1 g_2 g_3; repeat (first | exact Below.refl _ _ | assumption | refine Below.drew ?_ | refine balloc ?_ _ | refine bstep ?_ (by assumption))))
    (first | (go_at_call 23; refine (toAcceptor_u _ d0 _ (accR.below hX0 (by (repeat (first | exact Below.refl _ _ | assumption | refine Below.drew ?_ | refine balloc ?_ _ | refine bset ?_ (by simp; omega) _ | refine bset ?_ (by simp) _ | refine bstep ?_ (by assumption))))) (by omega)).mono ?_; rintro e wD ⟨vE, FE, rfl, oE, hbD⟩; have fE := accR.ofO oE; obtain ⟨ae1, ce1, rfl⟩ := acc_form fE) | (go_at_call 26; refine (eqAcceptor_u _ _ d0 d0 _ (accR.below VC (by (repeat (first | exact Below.refl _ _ | assumption | refine Below.drew ?_ | refine balloc ?_ _ | refine bset ?_ (by simp; omega) _ | refine bset ?_ (by simp) _ | refine bstep ?_ (by assumption))))) (accR.below (accR.ofO oE) (by (repeat (first | exact Below.refl _ _ | assumption | refine Below.drew ?_ | refine balloc ?_ _ | refine bset ?_ (by simp; omega) _ | refine bset ?_ (by simp) _ | refine bstep ?_ (by assumption)))))).mono ?_; rintro e wE ⟨rfl, hbE⟩))
  rename_i hH
  have hBE : Below w.heap.size w wE := bstep hB6 hH.1
  have sE := hH.1.size
  replace oW := accRR.keep oW hH.1
  replace oC := accR.keep oC hH.1
  replace oG := accRR.keep oG hH.1
  obtain ⟨_, rb_0, rq_0, rq_1, rq_2, rq_3, ry_0, rg_0, rg_1, rg_2, rg_3⟩ := hH
  replace b_0 := rb_0
  replace q_0 := rq_0
  replace q_1 := rq_1
  replace q_2 := rq_2
  replace q_3 := rq_3
  replace y_0 := ry_0
  replace g_0 := rg_0
  replace g_1 := rg_1
  replace g_2 := rg_2
  replace g_3 := rg_3
  clear rb_0 rq_0 rq_1 rq_2 rq_3 ry_0 rg_0 rg_1 rg_2 rg_3 hB6 oE hbD hbE VC
  clear z0 z1 z5 z6
  have z0 := World.block_lt_of_cell? _ _ b_0
  dsimp only at z0
  have z1 := World.block_lt_of_cell? _ _ q_0
  dsimp only at z1
  have z5 := World.block_lt_of_cell? _ _ y_0
  dsimp only at z5
  have z6 := World.block_lt_of_cell? _ _ g_0
  dsimp only at z6
  go_wp2_with fail
  refine (markAcceptor_u _ d0 _ FC 1 _ oC (by omega) hkA (by omega)).mono ?_
  rintro e w7 ⟨rfl, oCm, m7⟩
  have hB7 : Below w.heap.size w w7 := m7.below hBE hBE.size (fun b hb => by have := roC b hb; omega)
  have s7 := m7.size
  replace b_0 := m7.cell b_0 (fun hf => by have := roC _ hf; dsimp only at this; omega)
  replace q_0 := m7.cell q_0 (fun hf => by have := roC _ hf; dsimp only at this; omega)
  replace q_1 := m7.cell q_1 (fun hf => by have := roC _ hf; dsimp only at this; omega)
  replace q_2 := m7.cell q_2 (fun hf => by have := roC _ hf; dsimp only at this; omega)
  replace q_3 := m7.cell q_3 (fun hf => by have := roC _ hf; dsimp only at this; omega)
  replace y_0 := m7.cell y_0 (fun hf => by have := roC _ hf; dsimp only at this; omega)
  replace g_0 := m7.cell g_0 (fun hf => by have := roC _ hf; dsimp only at this; omega)
  replace g_1 := m7.cell g_1 (fun hf => by have := roC _ hf; dsimp only at this; omega)
  replace g_2 := m7.cell g_2 (fun hf => by have := roC _ hf; dsimp only at this; omega)
  replace g_3 := m7.cell g_3 (fun hf => by have := roC _ hf; dsimp only at this; omega)
  replace oW := accRR.mod oW m7 (fun b p q => by have := roW b p; have := roC b q; omega)
  replace oG := accRR.mod oG m7 (fun b p q => by have := roG b p; have := roC b q; omega)
  clear hBE oC m7
  clear z0 z1 z5 z6
  have z0 := World.block_lt_of_cell? _ _ b_0
  dsimp only at z0
  have z1 := World.block_lt_of_cell? _ _ q_0
  dsimp only at z1
  have z5 := World.block_lt_of_cell? _ _ y_0
  dsimp only at z5
  have z6 := World.block_lt_of_cell? _ _ g_0
  dsimp only at z6
  go_wp2_with fail
  refine (eqAcceptorResult_u _ _ (accAtD d0.slots k1 k2 k3 k4) (accAtD d0.slots k1 k2 k3 k4) _ (accRR.below (accRR.ofO oG) (by (repeat (first | exact Below.refl _ _ | assumption | refine Below.drew ?_ | refine balloc ?_ _ | refine bset ?_ (by simp; omega) _ | refine bset ?_ (by simp) _ | refine bstep ?_ (by assumption))))) (accRR.below (accRR.ofO oW) (by (repeat (first | exact Below.refl _ _ | assumption | refine Below.drew ?_ | refine balloc ?_ _ | refine bset ?_ (by simp; omega) _ | refine bset ?_ (by simp) _ | refine bstep ?_ (by assumption)))))).mono ?_
  rintro e w8 ⟨rfl, hb8⟩
  have hB8 : Below w.heap.size w w8 := by (repeat (first | exact Below.refl _ _ | assumption | refine Below.drew ?_ | refine balloc ?_ _ | refine bset ?_ (by simp; omega) _ | refine bset ?_ (by simp) _ | refine bstep ?_ (by assumption)))
  have s8 := hb8.size
  try simp only [World.size_alloc] at s8
  replace b_0 := cell_keep hb8 (cell_keep (by (repeat (first | exact Below.refl _ _ | assumption | refine Below.drew ?_ | refine balloc ?_ _ | refine bset ?_ (by simp; omega) _ | refine bset ?_ (by simp) _ | refine bstep ?_ (by assumption)))) b_0)
  replace q_0 := cell_keep hb8 (cell_keep (by (repeat (first | exact Below.refl _ _ | assumption | refine Below.drew ?_ | refine balloc ?_ _ | refine bset ?_ (by simp; omega) _ | refine bset ?_ (by simp) _ | refine bstep ?_ (by assumption)))) q_0)
  replace q_1 := cell_keep hb8 (cell_keep (by (repeat (first | exact Below.refl _ _ | assumption | refine Below.drew ?_ | refine balloc ?_ _ | refine bset ?_ (by simp; omega) _ | refine bset ?_ (by simp) _ | refine bstep ?_ (by assumption)))) q_1)
  replace q_2 := cell_keep hb8 (cell_keep (by (repeat (first | exact Below.refl _ _ | assumption | refine Below.drew ?_ | refine balloc ?_ _ | refine bset ?_ (by simp; omega) _ | refine bset ?_ (by simp) _ | refine bstep ?_ (by assumption)))) q_2)
  replace q_3 := cell_keep hb8 (cell_keep (by (repeat (first | exact Below.refl _ _ | assumption | refine Below.drew ?_ | refine balloc ?_ _ | refine bset ?_ (by simp; omega) _ | refine bset ?_ (by simp) _ | refine bstep ?_ (by assumption)))) q_3)
  replace y_0 := cell_keep hb8 (cell_keep (by (repeat (first | exact Below.refl _ _ | assumption | refine Below.drew ?_ | refine balloc ?_ _ | refine bset ?_ (by simp; omega) _ | refine bset ?_ (by simp) _ | refine bstep ?_ (by assumption)))) y_0)
  replace g_0 := cell_keep hb8 (cell_keep (by (repeat (first | exact Below.refl _ _ | assumption | refine Below.drew ?_ | refine balloc ?_ _ | refine bset ?_ (by simp; omega) _ | refine bset ?_ (by simp) _ | refine bstep ?_ (by assumption)))) g_0)
  replace g_1 := cell_keep hb8 (cell_keep (by (repeat (first | exact Below.refl _ _ | assumption | refine Below.drew ?_ | refine balloc ?_ _ | refine bset ?_ (by simp; omega) _ | refine bset ?_ (by simp) _ | refine bstep ?_ (by assumption)))) g_1)
  replace g_2 := cell_keep hb8 (cell_keep (by (repeat (first | exact Below.refl _ _ | assumption | refine Below.drew ?_ | refine balloc ?_ _ | refine bset ?_ (by simp; omega) _ | refine bset ?_ (by simp) _ | refine bstep ?_ (by assumption)))) g_2)
  replace g_3 := cell_keep hb8 (cell_keep (by (repeat (first | exact Below.refl _ _ | assumption | refine Below.drew ?_ | refine balloc ?_ _ | refine bset ?_ (by simp; omega) _ | refine bset ?_ (by simp) _ | refine bstep ?_ (by assumption)))) g_3)
  replace oW := accRR.keep2 oW (by (repeat (first | exact Below.refl _ _ | assumption | refine Below.drew ?_ | refine balloc ?_ _ | refine bset ?_ (by simp; omega) _ | refine bset ?_ (by simp) _ | refine bstep ?_ (by assumption)))) hb8
  replace oG := accRR.keep2 oG (by (repeat (first | exact Below.refl _ _ | assumption | refine Below.drew ?_ | refine balloc ?_ _ | refine bset ?_ (by simp; omega) _ | refine bset ?_ (by simp) _ | refine bstep ?_ (by assumption)))) hb8
  replace oCm := accR.keep2 oCm (by (repeat (first | exact Below.refl _ _ | assumption | refine Below.drew ?_ | refine balloc ?_ _ | refine bset ?_ (by simp; omega) _ | refine bset ?_ (by simp) _ | refine bstep ?_ (by assumption)))) hb8
  clear hB7
  clear hb8
  clear z0 z1 z5 z6
  have z0 := World.block_lt_of_cell? _ _ b_0
  dsimp only at z0
  have z1 := World.block_lt_of_cell? _ _ q_0
  dsimp only at z1
  have z5 := World.block_lt_of_cell? _ _ y_0
  dsimp only at z5
  have z6 := World.block_lt_of_cell? _ _ g_0
  dsimp only at z6
  go_wp2_with fail
  refine (markAcceptorResult_u _ (accAtD d0.slots k1 k2 k3 k4) _ FG 1 _ oG hwR hcR (by omega)).mono ?_
  rintro e w9 ⟨rfl, oGm, m9⟩
  have hB9 : Below w.heap.size w w9 := m9.below hB8 hB8.size (fun b hb => by have := roG b hb; omega)
  have s9 := m9.size
  replace b_0 := m9.cell b_0 (fun hf => by have := roG _ hf; dsimp only at this; omega)
  replace q_0 := m9.cell q_0 (fun hf => by have := roG _ hf; dsimp only at this; omega)
  replace q_1 := m9.cell q_1 (fun hf => by have := roG _ hf; dsimp only at this; omega)
  replace q_2 := m9.cell q_2 (fun hf => by have := roG _ hf; dsimp only at this; omega)
  replace q_3 := m9.cell q_3 (fun hf => by have := roG _ hf; dsimp only at this; omega)
  replace y_0 := m9.cell y_0 (fun hf => by have := roG _ hf; dsimp only at this; omega)
  replace g_0 := m9.cell g_0 (fun hf => by have := roG _ hf; dsimp only at this; omega)
  replace g_1 := m9.cell g_1 (fun hf => by have := roG _ hf; dsimp only at this; omega)
  replace g_2 := m9.cell g_2 (fun hf => by have := roG _ hf; dsimp only at this; omega)
  replace g_3 := m9.cell g_3 (fun hf => by have := roG _ hf; dsimp only at this; omega)
  replace oW := accRR.mod oW m9 (fun b p q => by have := roW b p; have := roG b q; omega)
  replace oCm := accR.mod oCm m9 (fun b p q => by have := roC b p; have := roG b q; omega)
  clear hB8 oG m9
  clear z0 z1 z5 z6
  have z0 := World.block_lt_of_cell? _ _ b_0
  dsimp only at z0
  have z1 := World.block_lt_of_cell? _ _ q_0
  dsimp only at z1
  have z5 := World.block_lt_of_cell? _ _ y_0
  dsimp only at z5
  have z6 := World.block_lt_of_cell? _ _ g_0
  dsimp only at z6
  go_wp2_with fail
  refine (heldAcceptorResult_u _ (accAtD d0.slots k1 k2 k3 k4) 1 _ (accRR.below (accRR.ofO oGm) (by (repeat (first | exact Below.refl _ _ | assumption | refine Below.drew ?_ | refine balloc ?_ _ | refine bset ?_ (by simp; omega) _ | refine bset ?_ (by simp) _ | refine bstep ?_ (by assumption))))) hwR hcR (by omega)).mono ?_
  rintro e w10 ⟨rfl, hb10⟩
  have hB10 : Below w.heap.size w w10 := by (repeat (first | exact Below.refl _ _ | assumption | refine Below.drew ?_ | refine balloc ?_ _ | refine bset ?_ (by simp; omega) _ | refine bset ?_ (by simp) _ | refine bstep ?_ (by assumption)))
  have s10 := hb10.size
  try simp only [World.size_alloc] at s10
  replace b_0 := cell_keep hb10 (cell_keep (by (repeat (first | exact Below.refl _ _ | assumption | refine Below.drew ?_ | refine balloc ?_ _ | refine bset ?_ (by simp; omega) _ | refine bset ?_ (by simp) _ | refine bstep ?_ (by assumption)))) b_0)
  replace q_0 := cell_keep hb10 (cell_keep (by (repeat (first | exact Below.refl _ _ | assumption | refine Below.drew ?_ | refine balloc ?_ _ | refine bset ?_ (by simp; omega) _ | refine bset ?_ (by simp) _ | refine bstep ?_ (by assumption)))) q_0)
  replace q_1 := cell_keep hb10 (cell_keep (by (repeat (first | exact Below.refl _ _ | assumption | refine Below.drew ?_ | refine balloc ?_ _ | refine bset ?_ (by simp; omega) _ | refine bset ?_ (by simp) _ | refine bstep ?_ (by assumption)))) q_1)
  replace q_2 := cell_keep hb10 (cell_keep (by (repeat (first | exact Below.refl _ _ | assumption | refine Below.drew ?_ | refine balloc ?_ _ | refine bset ?_ (by simp; omega) _ | refine bset ?_ (by simp) _ | refine bstep ?_ (by assumption)))) q_2)
  replace q_3 := cell_keep hb10 (cell_keep (by (repeat (first | exact Below.refl _ _ | assumption | refine Below.drew ?_ | refine balloc ?_ _ | refine bset ?_ (by simp; omega) _ | refine bset ?_ (by simp) _ | refine bstep ?_ (by assumption)))) q_3)
  replace y_0 := cell_keep hb10 (cell_keep (by (repeat (first | exact Below.refl _ _ | assumption | refine Below.drew ?_ | refine balloc ?_ _ | refine bset ?_ (by simp; omega) _ | refine bset ?_ (by simp) _ | refine bstep ?_ (by assumption)))) y_0)
  replace g_0 := cell_keep hb10 (cell_keep (by (repeat (first | exact Below.refl _ _ | assumption | refine Below.drew ?_ | refine balloc ?_ _ | refine bset ?_ (by simp; omega) _ | refine bset ?_ (by simp) _ | refine bstep ?_ (by assumption)))) g_0)
  replace g_1 := cell_keep hb10 (cell_keep (by (repeat (first | exact Below.refl _ _ | assumption | refine Below.drew ?_ | refine balloc ?_ _ | refine bset ?_ (by simp; omega) _ | refine bset ?_ (by simp) _ | refine bstep ?_ (by assumption)))) g_1)
  replace g_2 := cell_keep hb10 (cell_keep (by (repeat (first | exact Below.refl _ _ | assumption | refine Below.drew ?_ | refine balloc ?_ _ | refine bset ?_ (by simp; omega) _ | refine bset ?_ (by simp) _ | refine bstep ?_ (by assumption)))) g_2)
  replace g_3 := cell_keep hb10 (cell_keep (by (repeat (first | exact Below.refl _ _ | assumption | refine Below.drew ?_ | refine balloc ?_ _ | refine bset ?_ (by simp; omega) _ | refine bset ?_ (by simp) _ | refine bstep ?_ (by assumption)))) g_3)
  replace oW := accRR.keep2 oW (by (repeat (first | exact Below.refl _ _ | assumption | refine Below.drew ?_ | refine balloc ?_ _ | refine bset ?_ (by simp; omega) _ | refine bset ?_ (by simp) _ | refine bstep ?_ (by assumption)))) hb10
  replace oCm := accR.keep2 oCm (by (repeat (first | exact Below.refl _ _ | assumption | refine Below.drew ?_ | refine balloc ?_ _ | refine bset ?_ (by simp; omega) _ | refine bset ?_ (by simp) _ | refine bstep ?_ (by assumption)))) hb10
  replace oGm := accRR.keep2 oGm (by (repeat (first | exact Below.refl _ _ | assumption | refine Below.drew ?_ | refine balloc ?_ _ | refine bset ?_ (by simp; omega) _ | refine bset ?_ (by simp) _ | refine bstep ?_ (by assumption)))) hb10
  clear hB9
  clear hb10
  clear z0 z1 z5 z6
  have z0 := World.block_lt_of_cell? _ _ b_0
  dsimp only at z0
  have z1 := World.block_lt_of_cell? _ _ q_0
  dsimp only at z1
  have z5 := World.block_lt_of_cell? _ _ y_0
  dsimp only at z5
  have z6 := World.block_lt_of_cell? _ _ g_0
  dsimp only at z6
  go_wp2_with fail
  refine (toAcceptor_u _ d0 _ (accR.below hX0 (by (repeat (first | exact Below.refl _ _ | assumption | refine Below.drew ?_ | refine balloc ?_ _ | refine bset ?_ (by simp; omega) _ | refine bset ?_ (by simp) _ | refine bstep ?_ (by assumption))))) (by omega)).mono ?_
  rintro e w11 ⟨vH, FH, rfl, oH, hb11⟩
  have hB11 : Below w.heap.size w w11 := by (repeat (first | exact Below.refl _ _ | assumption | refine Below.drew ?_ | refine balloc ?_ _ | refine bset ?_ (by simp; omega) _ | refine bset ?_ (by simp) _ | refine bstep ?_ (by assumption)))
  have s11 := hb11.size
  try simp only [World.size_alloc] at s11
  replace b_0 := cell_keep hb11 (cell_keep (by (repeat (first | exact Below.refl _ _ | assumption | refine Below.drew ?_ | refine balloc ?_ _ | refine bset ?_ (by simp; omega) _ | refine bset ?_ (by simp) _ | refine bstep ?_ (by assumption)))) b_0)
  replace q_0 := cell_keep hb11 (cell_keep (by (repeat (first | exact Below.refl _ _ | assumption | refine Below.drew ?_ | refine balloc ?_ _ | refine bset ?_ (by simp; omega) _ | refine bset ?_ (by simp) _ | refine bstep ?_ (by assumption)))) q_0)
  replace q_1 := cell_keep hb11 (cell_keep (by (repeat (first | exact Below.refl _ _ | assumption | refine Below.drew ?_ | refine balloc ?_ _ | refine bset ?_ (by simp; omega) _ | refine bset ?_ (by simp) _ | refine bstep ?_ (by assumption)))) q_1)
  replace q_2 := cell_keep hb11 (cell_keep (by (repeat (first | exact Below.refl _ _ | assumption | refine Below.drew ?_ | refine balloc ?_ _ | refine bset ?_ (by simp; omega) _ | refine bset ?_ (by simp) _ | refine bstep ?_ (by assumption)))) q_2)
  replace q_3 := cell_keep hb11 (cell_keep (by (repeat (first | exact Below.refl _ _ | assumption | refine Below.drew ?_ | refine balloc ?_ _ | refine bset ?_ (by simp; omega) _ | refine bset ?_ (by simp) _ | refine bstep ?_ (by assumption)))) q_3)
  replace y_0 := cell_keep hb11 (cell_keep (by (repeat (first | exact Below.refl _ _ | assumption | refine Below.drew ?_ | refine balloc ?_ _ | refine bset ?_ (by simp; omega) _ | refine bset ?_ (by simp) _ | refine bstep ?_ (by assumption)))) y_0)
  replace g_0 := cell_keep hb11 (cell_keep (by (repeat (first | exact Below.refl _ _ | assumption | refine Below.drew ?_ | refine balloc ?_ _ | refine bset ?_ (by simp; omega) _ | refine bset ?_ (by simp) _ | refine bstep ?_ (by assumption)))) g_0)
  replace g_1 := cell_keep hb11 (cell_keep (by (repeat (first | exact Below.refl _ _ | assumption | refine Below.drew ?_ | refine balloc ?_ _ | refine bset ?_ (by simp; omega) _ | refine bset ?_ (by simp) _ | refine bstep ?_ (by assumption)))) g_1)
  replace g_2 := cell_keep hb11 (cell_keep (by (repeat (first | exact Below.refl _ _ | assumption | refine Below.drew ?_ | refine balloc ?_ _ | refine bset ?_ (by simp; omega) _ | refine bset ?_ (by simp) _ | refine bstep ?_ (by assumption)))) g_2)
  replace g_3 := cell_keep hb11 (cell_keep (by (repeat (first | exact Below.refl _ _ | assumption | refine Below.drew ?_ | refine balloc ?_ _ | refine bset ?_ (by simp; omega) _ | refine bset ?_ (by simp) _ | refine bstep ?_ (by assumption)))) g_3)
  replace oW := accRR.keep2 oW (by (repeat (first | exact Below.refl _ _ | assumption | refine Below.drew ?_ | refine balloc ?_ _ | refine bset ?_ (by simp; omega) _ | refine bset ?_ (by simp) _ | refine bstep ?_ (by assumption)))) hb11
  replace oCm := accR.keep2 oCm (by (repeat (first | exact Below.refl _ _ | assumption | refine Below.drew ?_ | refine balloc ?_ _ | refine bset ?_ (by simp; omega) _ | refine bset ?_ (by simp) _ | refine bstep ?_ (by assumption)))) hb11
  replace oGm := accRR.keep2 oGm (by (repeat (first | exact Below.refl _ _ | assumption | refine Below.drew ?_ | refine balloc ?_ _ | refine bset ?_ (by simp; omega) _ | refine bset ?_ (by simp) _ | refine bstep ?_ (by assumption)))) hb11
  clear hB10
  clear hb11
  have fH := accR.ofO oH
  obtain ⟨ah1, ch1, rfl⟩ := acc_form fH
  clear z0 z1 z5 z6
  have z0 := World.block_lt_of_cell? _ _ b_0
  dsimp only at z0
  have z1 := World.block_lt_of_cell? _ _ q_0
  dsimp only at z1
  have z5 := World.block_lt_of_cell? _ _ y_0
  dsimp only at z5
  have z6 := World.block_lt_of_cell? _ _ g_0
  dsimp only at z6
  go_wp2_with fail
  refine (implAccAt_u _ d0 k1 k2 k3 k4 _ (accR.below (accR.ofO oH) (by (repeat (first | exact Below.refl _ _ | assumption | refine Below.drew ?_ | refine balloc ?_ _ | refine bset ?_ (by simp; omega) _ | refine bset ?_ (by simp) _ | refine bstep ?_ (by assumption)))))).mono ?_
  rintro e w12 ⟨vI, FI, rfl, oI, hb12⟩
  have hB12 : Below w.heap.size w w12 := by (repeat (first | exact Below.refl _ _ | assumption | refine Below.drew ?_ | refine balloc ?_ _ | refine bset ?_ (by simp; omega) _ | refine bset ?_ (by simp) _ | refine bstep ?_ (by assumption)))
  have s12 := hb12.size
  try simp only [World.size_alloc] at s12
  replace b_0 := cell_keep hb12 (cell_keep (by (repeat (first | exact Below.refl _ _ | assumption | refine Below.drew ?_ | refine balloc ?_ _ | refine bset ?_ (by simp; omega) _ | refine bset ?_ (by simp) _ | refine bstep ?_ (by assumption)))) b_0)
  replace q_0 := cell_keep hb12 (cell_keep (by (repeat (first | exact Below.refl _ _ | assumption | refine Below.drew ?_ | refine balloc ?_ _ | refine bset ?_ (by simp; omega) _ | refine bset ?_ (by simp) _ | refine bstep ?_ (by assumption)))) q_0)
  replace q_1 := cell_keep hb12 (cell_keep (by (repeat (first | exact Below.refl _ _ | assumption | refine Below.drew ?_ | refine balloc ?_ _ | refine bset ?_ (by simp; omega) _ | refine bset ?_ (by simp) _ | refine bstep ?_ (by assumption)))) q_1)
  replace q_2 := cell_keep hb12 (cell_keep (by (repeat (first | exact Below.refl _ _ | assumption | refine Below.drew ?_ | refine balloc ?_ _ | refine bset ?_ (by simp; omega) _ | refine bset ?_ (by simp) _ | refine bstep ?_ (by assumption)))) q_2)
  replace q_3 := cell_keep hb12 (cell_keep (by (repeat (first | exact Below.refl _ _ | assumption | refine Below.drew ?_ | refine balloc ?_ _ | refine bset ?_ (by simp; omega) _ | refine bset ?_ (by simp) _ | refine bstep ?_ (by assumption)))) q_3)
  replace y_0 := cell_keep hb12 (cell_keep (by (repeat (first | exact Below.refl _ _ | assumption | refine Below.drew ?_ | refine balloc ?_ _ | refine bset ?_ (by simp; omega) _ | refine bset ?_ (by simp) _ | refine bstep ?_ (by assumption)))) y_0)
  replace g_0 := cell_keep hb12 (cell_keep (by (repeat (first | exact Below.refl _ _ | assumption | refine Below.drew ?_ | refine balloc ?_ _ | refine bset ?_ (by simp; omega) _ | refine bset ?_ (by simp) _ | refine bstep ?_ (by assumption)))) g_0)
  replace g_1 := cell_keep hb12 (cell_keep (by (repeat (first | exact Below.refl _ _ | assumption | refine Below.drew ?_ | refine balloc ?_ _ | refine bset ?_ (by simp; omega) _ | refine bset ?_ (by simp) _ | refine bstep ?_ (by assumption)))) g_1)
  replace g_2 := cell_keep hb12 (cell_keep (by (repeat (first | exact Below.refl _ _ | assumption | refine Below.drew ?_ | refine balloc ?_ _ | refine bset ?_ (by simp; omega) _ | refine bset ?_ (by simp) _ | refine bstep ?_ (by assumption)))) g_2)
  replace g_3 := cell_keep hb12 (cell_keep (by (repeat (first | exact Below.refl _ _ | assumption | refine Below.drew ?_ | refine balloc ?_ _ | refine bset ?_ (by simp; omega) _ | refine bset ?_ (by simp) _ | refine bstep ?_ (by assumption)))) g_3)
  replace oW := accRR.keep2 oW (by (repeat (first | exact Below.refl _ _ | assumption | refine Below.drew ?_ | refine balloc ?_ _ | refine bset ?_ (by simp; omega) _ | refine bset ?_ (by simp) _ | refine bstep ?_ (by assumption)))) hb12
  replace oCm := accR.keep2 oCm (by (repeat (first | exact Below.refl _ _ | assumption | refine Below.drew ?_ | refine balloc ?_ _ | refine bset ?_ (by simp; omega) _ | refine bset ?_ (by simp) _ | refine bstep ?_ (by assumption)))) hb12
  replace oGm := accRR.keep2 oGm (by (repeat (first | exact Below.refl _ _ | assumption | refine Below.drew ?_ | refine balloc ?_ _ | refine bset ?_ (by simp; omega) _ | refine bset ?_ (by simp) _ | refine bstep ?_ (by assumption)))) hb12
  clear hB11
  clear hb12
  have fI := accRR.ofO oI
  obtain ⟨ai1_1, ci1_1, rfl⟩ := accR_form fI
  clear z0 z1 z5 z6
  have z0 := World.block_lt_of_cell? _ _ b_0
  dsimp only at z0
  have z1 := World.block_lt_of_cell? _ _ q_0
  dsimp only at z1
  have z5 := World.block_lt_of_cell? _ _ y_0
  dsimp only at z5
  have z6 := World.block_lt_of_cell? _ _ g_0
  dsimp only at z6
  go_wp2_with fail
  refine (eqAcceptorResult_u _ _ (accAtD d0.slots k1 k2 k3 k4) (accAtD d0.slots k1 k2 k3 k4) _ (accRR.below (accRR.ofO oI) (by (repeat (first | exact Below.refl _ _ | assumption | refine Below.drew ?_ | refine balloc ?_ _ | refine bset ?_ (by simp; omega) _ | refine bset ?_ (by simp) _ | refine bstep ?_ (by assumption))))) (accRR.below (accRR.ofO oW) (by (repeat (first | exact Below.refl _ _ | assumption | refine Below.drew ?_ | refine balloc ?_ _ | refine bset ?_ (by simp; omega) _ | refine bset ?_ (by simp) _ | refine bstep ?_ (by assumption)))))).mono ?_
  rintro e w13 ⟨rfl, hb13⟩
  have hB13 : Below w.heap.size w w13 := by (repeat (first | exact Below.refl _ _ | assumption | refine Below.drew ?_ | refine balloc ?_ _ | refine bset ?_ (by simp; omega) _ | refine bset ?_ (by simp) _ | refine bstep ?_ (by assumption)))
  have s13 := hb13.size
  try simp only [World.size_alloc] at s13
  replace b_0 := cell_keep hb13 (cell_keep (by (repeat (first | exact Below.refl _ _ | assumption | refine Below.drew ?_ | refine balloc ?_ _ | refine bset ?_ (by simp; omega) _ | refine bset ?_ (by simp) _ | refine bstep ?_ (by assumption)))) b_0)
  replace q_0 := cell_keep hb13 (cell_keep (by (repeat (first | exact Below.refl _ _ | assumption | refine Below.drew ?_ | refine balloc ?_ _ | refine bset ?_ (by simp; omega) _ | refine bset ?_ (by simp) _ | refine bstep ?_ (by assumption)))) q_0)
  replace q_1 := cell_keep hb13 (cell_keep (by (repeat (first | exact Below.refl _ _ | assumption | refine Below.drew ?_ | refine balloc ?_ _ | refine bset ?_ (by simp; omega) _ | refine bset ?_ (by simp) _ | refine bstep ?_ (by assumption)))) q_1)
  replace q_2 := cell_keep hb13 (cell_keep (by (repeat (first | exact Below.refl _ _ | assumption | refine Below.drew ?_ | refine balloc ?_ _ | refine bset ?_ (by simp; omega) _ | refine bset ?_ (by simp) _ | refine bstep ?_ (by assumption)))) q_2)
  replace q_3 := cell_keep hb13 (cell_keep (by (repeat (first | exact Below.refl _ _ | assumption | refine Below.drew ?_ | refine balloc ?_ _ | refine bset ?_ (by simp; omega) _ | refine bset ?_ (by simp) _ | refine bstep ?_ (by assumption)))) q_3)
  replace y_0 := cell_keep hb13 (cell_keep (by (repeat (first | exact Below.refl _ _ | assumption | refine Below.drew ?_ | refine balloc ?_ _ | refine bset ?_ (by simp; omega) _ | refine bset ?_ (by simp) _ | refine bstep ?_ (by assumption)))) y_0)
  replace g_0 := cell_keep hb13 (cell_keep (by (repeat (first | exact Below.refl _ _ | assumption | refine Below.drew ?_ | refine balloc ?_ _ | refine bset ?_ (by simp; omega) _ | refine bset ?_ (by simp) _ | refine bstep ?_ (by assumption)))) g_0)
  replace g_1 := cell_keep hb13 (cell_keep (by (repeat (first | exact Below.refl _ _ | assumption | refine Below.drew ?_ | refine balloc ?_ _ | refine bset ?_ (by simp; omega) _ | refine bset ?_ (by simp) _ | refine bstep ?_ (by assumption)))) g_1)
  replace g_2 := cell_keep hb13 (cell_keep (by (repeat (first | exact Below.refl _ _ | assumption | refine Below.drew ?_ | refine balloc ?_ _ | refine bset ?_ (by simp; omega) _ | refine bset ?_ (by simp) _ | refine bstep ?_ (by assumption)))) g_2)
  replace g_3 := cell_keep hb13 (cell_keep (by (repeat (first | exact Below.refl _ _ | assumption | refine Below.drew ?_ | refine balloc ?_ _ | refine bset ?_ (by simp; omega) _ | refine bset ?_ (by simp) _ | refine bstep ?_ (by assumption)))) g_3)
  replace oW := accRR.keep2 oW (by (repeat (first | exact Below.refl _ _ | assumption | refine Below.drew ?_ | refine balloc ?_ _ | refine bset ?_ (by simp; omega) _ | refine bset ?_ (by simp) _ | refine bstep ?_ (by assumption)))) hb13
  replace oCm := accR.keep2 oCm (by (repeat (first | exact Below.refl _ _ | assumption | refine Below.drew ?_ | refine balloc ?_ _ | refine bset ?_ (by simp; omega) _ | refine bset ?_ (by simp) _ | refine bstep ?_ (by assumption)))) hb13
  replace oGm := accRR.keep2 oGm (by (repeat (first | exact Below.refl _ _ | assumption | refine Below.drew ?_ | refine balloc ?_ _ | refine bset ?_ (by simp; omega) _ | refine bset ?_ (by simp) _ | refine bstep ?_ (by assumption)))) hb13
  clear hB12
  clear hb13
  clear oH oI
  clear z0 z1 z5 z6
  have z0 := World.block_lt_of_cell? _ _ b_0
  dsimp only at z0
  have z1 := World.block_lt_of_cell? _ _ q_0
  dsimp only at z1
  have z5 := World.block_lt_of_cell? _ _ y_0
  dsimp only at z5
  have z6 := World.block_lt_of_cell? _ _ g_0
  dsimp only at z6
  go_wp2_with fail
  refine (heldAcceptorResult_u _ (accAtD d0.slots k1 k2 k3 k4) 1 _ (accRR.below (accRR.ofO oGm) (by (repeat (first | exact Below.refl _ _ | assumption | refine Below.drew ?_ | refine balloc ?_ _ | refine bset ?_ (by simp; omega) _ | refine bset ?_ (by simp) _ | refine bstep ?_ (by assumption))))) hwR hcR (by omega)).mono ?_
  rintro e w14 ⟨rfl, hb14⟩
  have hB14 : Below w.heap.size w w14 := by (repeat (first | exact Below.refl _ _ | assumption | refine Below.drew ?_ | refine balloc ?_ _ | refine bset ?_ (by simp; omega) _ | refine bset ?_ (by simp) _ | refine bstep ?_ (by assumption)))
  have s14 := hb14.size
  try simp only [World.size_alloc] at s14
  replace b_0 := cell_keep hb14 (cell_keep (by (repeat (first | exact Below.refl _ _ | assumption | refine Below.drew ?_ | refine balloc ?_ _ | refine bset ?_ (by simp; omega) _ | refine bset ?_ (by simp) _ | refine bstep ?_ (by assumption)))) b_0)
  replace q_0 := cell_keep hb14 (cell_keep (by (repeat (first | exact Below.refl _ _ | assumption | refine Below.drew ?_ | refine balloc ?_ _ | refine bset ?_ (by simp; omega) _ | refine bset ?_ (by simp) _ | refine bstep ?_ (by assumption)))) q_0)
  replace q_1 := cell_keep hb14 (cell_keep (by (repeat (first | exact Below.refl _ _ | assumption | refine Below.drew ?_ | refine balloc ?_ _ | refine bset ?_ (by simp; omega) _ | refine bset ?_ (by simp) _ | refine bstep ?_ (by assumption)))) q_1)
  replace q_2 := cell_keep hb14 (cell_keep (by (repeat (first | exact Below.refl _ _ | assumption | refine Below.drew ?_ | refine balloc ?_ _ | refine bset ?_ (by simp; omega) _ | refine bset ?_ (by simp) _ | refine bstep ?_ (by assumption)))) q_2)
  replace q_3 := cell_keep hb14 (cell_keep (by (repeat (first | exact Below.refl _ _ | assumption | refine Below.drew ?_ | refine balloc ?_ _ | refine bset ?_ (by simp; omega) _ | refine bset ?_ (by simp) _ | refine bstep ?_ (by assumption)))) q_3)
  replace y_0 := cell_keep hb14 (cell_keep (by (repeat (first | exact Below.refl _ _ | assumption | refine Below.drew ?_ | refine balloc ?_ _ | refine bset ?_ (by simp; omega) _ | refine bset ?_ (by simp) _ | refine bstep ?_ (by assumption)))) y_0)
  replace g_0 := cell_keep hb14 (cell_keep (by (repeat (first | exact Below.refl _ _ | assumption | refine Below.drew ?_ | refine balloc ?_ _ | refine bset ?_ (by simp; omega) _ | refine bset ?_ (by simp) _ | refine bstep ?_ (by assumption)))) g_0)
  replace g_1 := cell_keep hb14 (cell_keep (by (repeat (first | exact Below.refl _ _ | assumption | refine Below.drew ?_ | refine balloc ?_ _ | refine bset ?_ (by simp; omega) _ | refine bset ?_ (by simp) _ | refine bstep ?_ (by assumption)))) g_1)
  replace g_2 := cell_keep hb14 (cell_keep (by (repeat (first | exact Below.refl _ _ | assumption | refine Below.drew ?_ | refine balloc ?_ _ | refine bset ?_ (by simp; omega) _ | refine bset ?_ (by simp) _ | refine bstep ?_ (by assumption)))) g_2)
  replace g_3 := cell_keep hb14 (cell_keep (by (repeat (first | exact Below.refl _ _ | assumption | refine Below.drew ?_ | refine balloc ?_ _ | refine bset ?_ (by simp; omega) _ | refine bset ?_ (by simp) _ | refine bstep ?_ (by assumption)))) g_3)
  replace oW := accRR.keep2 oW (by (repeat (first | exact Below.refl _ _ | assumption | refine Below.drew ?_ | refine balloc ?_ _ | refine bset ?_ (by simp; omega) _ | refine bset ?_ (by simp) _ | refine bstep ?_ (by assumption)))) hb14
  replace oCm := accR.keep2 oCm (by (repeat (first | exact Below.refl _ _ | assumption | refine Below.drew ?_ | refine balloc ?_ _ | refine bset ?_ (by simp; omega) _ | refine bset ?_ (by simp) _ | refine bstep ?_ (by assumption)))) hb14
  replace oGm := accRR.keep2 oGm (by (repeat (first | exact Below.refl _ _ | assumption | refine Below.drew ?_ | refine balloc ?_ _ | refine bset ?_ (by simp; omega) _ | refine bset ?_ (by simp) _ | refine bstep ?_ (by assumption)))) hb14
  clear hB13
  go_wp2
  go_ret
  exact ⟨rfl, hB14⟩
end Go.Proofs.Ytncmdeijimgchaa.acceptAtLaw

