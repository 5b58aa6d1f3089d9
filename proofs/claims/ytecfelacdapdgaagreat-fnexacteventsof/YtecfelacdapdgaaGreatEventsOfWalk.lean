import Derived.Test.YtecfelacdapdgaaGreatPrnEventsOfLaw19
import Derived.Test.YtecfelacdapdgaaGreatPrnEventsOfLaw7
import Derived.Deep.RegionHeld3
import Derived.Deep.DrawnRows

/-
  Proved: laws.FnExactEventsOf answers true at every argument, and its arguments read behind the call as they read before. No condition. (The walk.)
-/
namespace Go.Proofs.YtecfelacdapdgaaGreat.eventsOfLaw
open Go.RowKit
set_option linter.unusedSectionVars false
variable [DecidableEq Leg] [Inhabited Leg] [DecidableEq Cont] [Inhabited Cont] [DecidableEq Evt] [Inhabited Evt] [DecidableEq EvtsR] [Inhabited EvtsR] [DecidableEq EvtR] [Inhabited EvtR] [DecidableEq BytesR] [Inhabited BytesR] [DecidableEq ContR] [Inhabited ContR] [DecidableEq Logg] [Inhabited Logg] [DecidableEq LoggR] [Inhabited LoggR] [DecidableEq RecsR] [Inhabited RecsR] [DecidableEq Bal] [Inhabited Bal] [DecidableEq Jrn] [Inhabited Jrn] [DecidableEq Rw] [Inhabited Rw] [DecidableEq Ledg] [Inhabited Ledg] [DecidableEq LedgR] [Inhabited LedgR] [DecidableEq OutcR] [Inhabited OutcR] [DecidableEq Mrk] [Inhabited Mrk] [DecidableEq Shd] [Inhabited Shd] [DecidableEq ShdR] [Inhabited ShdR]
attribute [local go_sem ↓] Go.wp_at_zero Go.wp_at_succ

set_option maxHeartbeats 4000000 in
theorem walk (x0 : Value) (d0 : Jrn) (w : World) (hx0 : jrnR.V w x0 d0) :
    Calls Tryz.prog 6 #[x0] w fun e w' => e = .returned (.bool true) ∧ Below w.heap.size w w' := by
  have hX0 := hx0
  obtain ⟨ax1, ax2_1, ax2_2, cx1, cx2_1, cx2_2, rfl⟩ := jrn_form hx0
  go_enter Tryz.func6, Tryz.ntmps6
  go_wp2_with fail
  refine (szJournal_u _ d0 1048576 _ (jrnR.below hX0 (by (repeat (first | exact Below.refl _ _ | assumption | refine Below.drew ?_ | refine balloc ?_ _ | refine bset ?_ (by simp; omega) _ | refine bset ?_ (by simp) _ | refine bstep ?_ (by assumption))))) (by omega) (by omega)).mono ?_
  rintro e w1 ⟨rfl, hb1⟩
  have hB1 : Below w.heap.size w w1 := by (repeat (first | exact Below.refl _ _ | assumption | refine Below.drew ?_ | refine balloc ?_ _ | refine bset ?_ (by simp; omega) _ | refine bset ?_ (by simp) _ | refine bstep ?_ (by assumption)))
  have s1 := hb1.size
  try simp only [World.size_alloc] at s1
  have b_0 : w1.cell? ⟨w.heap.size, 0, none⟩ = some (.int .i64 d0.idx) := cell_keep hb1 (by simp [go_sem])
  have b_1 : w1.cell? ⟨w.heap.size, 1, none⟩ = some (.slice ax1 d0.start.length cx1) := cell_keep hb1 (by simp [go_sem])
  have b_2 : w1.cell? ⟨w.heap.size, 2, none⟩ = some (.slice ax2_1 d0.log.synced.length cx2_1) := cell_keep hb1 (by simp [go_sem])
  have b_3 : w1.cell? ⟨w.heap.size, 3, none⟩ = some (.slice ax2_2 d0.log.loose.length cx2_2) := cell_keep hb1 (by simp [go_sem])
  clear hb1
  by_cases hsz : 1048576 < wtJrn d0
  · rw [show szLen 1048576 ((wtJrn d0 : Nat) : Int) = -1 by unfold szLen; rw [if_pos (by omega)]]
    go_wp2
    go_ret
    exact ⟨rfl, by (repeat (first | exact Below.refl _ _ | assumption | refine Below.drew ?_ | refine balloc ?_ _ | refine bset ?_ (by simp; omega) _ | refine bset ?_ (by simp) _ | refine bstep ?_ (by assumption)))⟩
  have e1 : szLen 1048576 ((wtJrn d0 : Nat) : Int) = 1048576 - ((wtJrn d0 : Nat) : Int) := by unfold szLen; rw [if_neg (by omega)]
  have e2 : ¬ (1048576 : Int) - ((wtJrn d0 : Nat) : Int) < 0 := by omega
  rw [e1]
  clear e1
  have hcA := jrn_cnt d0
  have hwR : wtEvtsR (evsD d0.log) ≤ 1048576 := by have := evsD_wt d0.log; omega
  have hcR : (1 : Int) + cntEvtsR (evsD d0.log) ≤ 1073741824 := by have := evsD_wt d0.log; have := evtsR_cnt (evsD d0.log); omega
  have hk1 : ¬ (1 : Int) + cntJrn d0 < 0 := by omega
  have hk2 : ¬ (1 : Int) + cntEvtsR (evsD d0.log) < 0 := by omega
  have hkA : (1 : Int) + cntJrn d0 ≤ 1073741824 := by omega
  go_wp2_with fail
  refine (toJournal_u _ d0 _ (jrnR.below hX0 (by (repeat (first | exact Below.refl _ _ | assumption | refine Below.drew ?_ | refine balloc ?_ _ | refine bset ?_ (by simp; omega) _ | refine bset ?_ (by simp) _ | refine bstep ?_ (by assumption))))) (by omega)).mono ?_
  rintro e w2 ⟨vS, FS, rfl, oS, hb2⟩
  have hB2 : Below w.heap.size w w2 := by (repeat (first | exact Below.refl _ _ | assumption | refine Below.drew ?_ | refine balloc ?_ _ | refine bset ?_ (by simp; omega) _ | refine bset ?_ (by simp) _ | refine bstep ?_ (by assumption)))
  have s2 := hb2.size
  try simp only [World.size_alloc] at s2
  replace b_0 := cell_keep hb2 (cell_keep (by (repeat (first | exact Below.refl _ _ | assumption | refine Below.drew ?_ | refine balloc ?_ _ | refine bset ?_ (by simp; omega) _ | refine bset ?_ (by simp) _ | refine bstep ?_ (by assumption)))) b_0)
  replace b_1 := cell_keep hb2 (cell_keep (by (repeat (first | exact Below.refl _ _ | assumption | refine Below.drew ?_ | refine balloc ?_ _ | refine bset ?_ (by simp; omega) _ | refine bset ?_ (by simp) _ | refine bstep ?_ (by assumption)))) b_1)
  replace b_2 := cell_keep hb2 (cell_keep (by (repeat (first | exact Below.refl _ _ | assumption | refine Below.drew ?_ | refine balloc ?_ _ | refine bset ?_ (by simp; omega) _ | refine bset ?_ (by simp) _ | refine bstep ?_ (by assumption)))) b_2)
  replace b_3 := cell_keep hb2 (cell_keep (by (repeat (first | exact Below.refl _ _ | assumption | refine Below.drew ?_ | refine balloc ?_ _ | refine bset ?_ (by simp; omega) _ | refine bset ?_ (by simp) _ | refine bstep ?_ (by assumption)))) b_3)
  clear hB1
  clear hb2
  have fS := jrnR.ofO oS
  obtain ⟨asv1, asv2_1, asv2_2, csv1, csv2_1, csv2_2, rfl⟩ := jrn_form fS
  have z0 := World.block_lt_of_cell? _ _ b_0
  dsimp only at z0
  go_wp2_with fail
  refine (specEvs_u _ d0 _ (jrnR.below (jrnR.ofO oS) (by (repeat (first | exact Below.refl _ _ | assumption | refine Below.drew ?_ | refine balloc ?_ _ | refine bset ?_ (by simp; omega) _ | refine bset ?_ (by simp) _ | refine bstep ?_ (by assumption))))) (by unfold wtJrn at hsz; omega)).mono ?_
  rintro e w3 ⟨vW, FW, rfl, oW, hb3⟩
  have hB3 : Below w.heap.size w w3 := by (repeat (first | exact Below.refl _ _ | assumption | refine Below.drew ?_ | refine balloc ?_ _ | refine bset ?_ (by simp; omega) _ | refine bset ?_ (by simp) _ | refine bstep ?_ (by assumption)))
  have s3 := hb3.size
  try simp only [World.size_alloc] at s3
  replace b_0 := cell_keep hb3 (cell_keep (by (repeat (first | exact Below.refl _ _ | assumption | refine Below.drew ?_ | refine balloc ?_ _ | refine bset ?_ (by simp; omega) _ | refine bset ?_ (by simp) _ | refine bstep ?_ (by assumption)))) b_0)
  replace b_1 := cell_keep hb3 (cell_keep (by (repeat (first | exact Below.refl _ _ | assumption | refine Below.drew ?_ | refine balloc ?_ _ | refine bset ?_ (by simp; omega) _ | refine bset ?_ (by simp) _ | refine bstep ?_ (by assumption)))) b_1)
  replace b_2 := cell_keep hb3 (cell_keep (by (repeat (first | exact Below.refl _ _ | assumption | refine Below.drew ?_ | refine balloc ?_ _ | refine bset ?_ (by simp; omega) _ | refine bset ?_ (by simp) _ | refine bstep ?_ (by assumption)))) b_2)
  replace b_3 := cell_keep hb3 (cell_keep (by (repeat (first | exact Below.refl _ _ | assumption | refine Below.drew ?_ | refine balloc ?_ _ | refine bset ?_ (by simp; omega) _ | refine bset ?_ (by simp) _ | refine bstep ?_ (by assumption)))) b_3)
  clear hB2
  have roW : ∀ b, FW b → w2.heap.size ≤ b ∧ b < w3.heap.size := fun b hb => by
    have := evtsRR.rng oW b hb
    try simp only [World.size_alloc] at this
    omega
  clear hb3
  have fW := evtsRR.ofO oW
  obtain ⟨aw1, cw1, rfl⟩ := evtsR_form fW
  clear oS
  clear z0
  have z0 := World.block_lt_of_cell? _ _ b_0
  dsimp only at z0
  go_wp2_with fail
  refine (toJournal_u _ d0 _ (jrnR.below hX0 (by (repeat (first | exact Below.refl _ _ | assumption | refine Below.drew ?_ | refine balloc ?_ _ | refine bset ?_ (by simp; omega) _ | refine bset ?_ (by simp) _ | refine bstep ?_ (by assumption))))) (by omega)).mono ?_
  rintro e w4 ⟨vC, FC, rfl, oC, hb4⟩
  have hB4 : Below w.heap.size w w4 := by (repeat (first | exact Below.refl _ _ | assumption | refine Below.drew ?_ | refine balloc ?_ _ | refine bset ?_ (by simp; omega) _ | refine bset ?_ (by simp) _ | refine bstep ?_ (by assumption)))
  have s4 := hb4.size
  try simp only [World.size_alloc] at s4
  replace b_0 := cell_keep hb4 (cell_keep (by (repeat (first | exact Below.refl _ _ | assumption | refine Below.drew ?_ | refine balloc ?_ _ | refine bset ?_ (by simp; omega) _ | refine bset ?_ (by simp) _ | refine bstep ?_ (by assumption)))) b_0)
  replace b_1 := cell_keep hb4 (cell_keep (by (repeat (first | exact Below.refl _ _ | assumption | refine Below.drew ?_ | refine balloc ?_ _ | refine bset ?_ (by simp; omega) _ | refine bset ?_ (by simp) _ | refine bstep ?_ (by assumption)))) b_1)
  replace b_2 := cell_keep hb4 (cell_keep (by (repeat (first | exact Below.refl _ _ | assumption | refine Below.drew ?_ | refine balloc ?_ _ | refine bset ?_ (by simp; omega) _ | refine bset ?_ (by simp) _ | refine bstep ?_ (by assumption)))) b_2)
  replace b_3 := cell_keep hb4 (cell_keep (by (repeat (first | exact Below.refl _ _ | assumption | refine Below.drew ?_ | refine balloc ?_ _ | refine bset ?_ (by simp; omega) _ | refine bset ?_ (by simp) _ | refine bstep ?_ (by assumption)))) b_3)
  have q_0 : w4.cell? ⟨w3.heap.size, 0, none⟩ = some (.int .i64 (evsD d0.log).code) := cell_keep hb4 (by simp [go_sem])
  have q_1 : w4.cell? ⟨w3.heap.size, 1, none⟩ = some (.slice aw1 (evsD d0.log).evts.length cw1) := cell_keep hb4 (by simp [go_sem])
  replace oW := evtsRR.keep2 oW (by (repeat (first | exact Below.refl _ _ | assumption | refine Below.drew ?_ | refine balloc ?_ _ | refine bset ?_ (by simp; omega) _ | refine bset ?_ (by simp) _ | refine bstep ?_ (by assumption)))) hb4
  clear hB3
  have roC : ∀ b, FC b → w3.heap.size + 1 ≤ b ∧ b < w4.heap.size := fun b hb => by
    have := jrnR.rng oC b hb
    try simp only [World.size_alloc] at this
    omega
  clear hb4
  have fC := jrnR.ofO oC
  obtain ⟨ay1, ay2_1, ay2_2, cy1, cy2_1, cy2_2, rfl⟩ := jrn_form fC
  clear z0
  have z0 := World.block_lt_of_cell? _ _ b_0
  dsimp only at z0
  have z4 := World.block_lt_of_cell? _ _ q_0
  dsimp only at z4
  go_wp2_with fail
  refine (implEvs_u _ d0 _ (jrnR.below (jrnR.ofO oC) (by (repeat (first | exact Below.refl _ _ | assumption | refine Below.drew ?_ | refine balloc ?_ _ | refine bset ?_ (by simp; omega) _ | refine bset ?_ (by simp) _ | refine bstep ?_ (by assumption))))) (by unfold wtJrn at hsz; omega)).mono ?_
  rintro e w5 ⟨vG, FG, rfl, oG, hb5⟩
  have hB5 : Below w.heap.size w w5 := by (repeat (first | exact Below.refl _ _ | assumption | refine Below.drew ?_ | refine balloc ?_ _ | refine bset ?_ (by simp; omega) _ | refine bset ?_ (by simp) _ | refine bstep ?_ (by assumption)))
  have s5 := hb5.size
  try simp only [World.size_alloc] at s5
  replace b_0 := cell_keep hb5 (cell_keep (by (repeat (first | exact Below.refl _ _ | assumption | refine Below.drew ?_ | refine balloc ?_ _ | refine bset ?_ (by simp; omega) _ | refine bset ?_ (by simp) _ | refine bstep ?_ (by assumption)))) b_0)
  replace b_1 := cell_keep hb5 (cell_keep (by (repeat (first | exact Below.refl _ _ | assumption | refine Below.drew ?_ | refine balloc ?_ _ | refine bset ?_ (by simp; omega) _ | refine bset ?_ (by simp) _ | refine bstep ?_ (by assumption)))) b_1)
  replace b_2 := cell_keep hb5 (cell_keep (by (repeat (first | exact Below.refl _ _ | assumption | refine Below.drew ?_ | refine balloc ?_ _ | refine bset ?_ (by simp; omega) _ | refine bset ?_ (by simp) _ | refine bstep ?_ (by assumption)))) b_2)
  replace b_3 := cell_keep hb5 (cell_keep (by (repeat (first | exact Below.refl _ _ | assumption | refine Below.drew ?_ | refine balloc ?_ _ | refine bset ?_ (by simp; omega) _ | refine bset ?_ (by simp) _ | refine bstep ?_ (by assumption)))) b_3)
  replace q_0 := cell_keep hb5 (cell_keep (by (repeat (first | exact Below.refl _ _ | assumption | refine Below.drew ?_ | refine balloc ?_ _ | refine bset ?_ (by simp; omega) _ | refine bset ?_ (by simp) _ | refine bstep ?_ (by assumption)))) q_0)
  replace q_1 := cell_keep hb5 (cell_keep (by (repeat (first | exact Below.refl _ _ | assumption | refine Below.drew ?_ | refine balloc ?_ _ | refine bset ?_ (by simp; omega) _ | refine bset ?_ (by simp) _ | refine bstep ?_ (by assumption)))) q_1)
  have y_0 : w5.cell? ⟨w4.heap.size, 0, none⟩ = some (.int .i64 d0.idx) := cell_keep hb5 (by simp [go_sem])
  have y_1 : w5.cell? ⟨w4.heap.size, 1, none⟩ = some (.slice ay1 d0.start.length cy1) := cell_keep hb5 (by simp [go_sem])
  have y_2 : w5.cell? ⟨w4.heap.size, 2, none⟩ = some (.slice ay2_1 d0.log.synced.length cy2_1) := cell_keep hb5 (by simp [go_sem])
  have y_3 : w5.cell? ⟨w4.heap.size, 3, none⟩ = some (.slice ay2_2 d0.log.loose.length cy2_2) := cell_keep hb5 (by simp [go_sem])
  replace oW := evtsRR.keep2 oW (by (repeat (first | exact Below.refl _ _ | assumption | refine Below.drew ?_ | refine balloc ?_ _ | refine bset ?_ (by simp; omega) _ | refine bset ?_ (by simp) _ | refine bstep ?_ (by assumption)))) hb5
  replace oC := jrnR.keep2 oC (by (repeat (first | exact Below.refl _ _ | assumption | refine Below.drew ?_ | refine balloc ?_ _ | refine bset ?_ (by simp; omega) _ | refine bset ?_ (by simp) _ | refine bstep ?_ (by assumption)))) hb5
  clear hB4
  have roG : ∀ b, FG b → w4.heap.size + 1 ≤ b ∧ b < w5.heap.size := fun b hb => by
    have := evtsRR.rng oG b hb
    try simp only [World.size_alloc] at this
    omega
  clear hb5
  have fG := evtsRR.ofO oG
  obtain ⟨ag1, cg1, rfl⟩ := evtsR_form fG
  clear z0 z4
  have z0 := World.block_lt_of_cell? _ _ b_0
  dsimp only at z0
  have z4 := World.block_lt_of_cell? _ _ q_0
  dsimp only at z4
  have z6 := World.block_lt_of_cell? _ _ y_0
  dsimp only at z6
  go_wp2_with fail
  refine (eqEventsResult_u _ _ (evsD d0.log) (evsD d0.log) _ (evtsRR.below (evtsRR.ofO oG) (by (repeat (first | exact Below.refl _ _ | assumption | refine Below.drew ?_ | refine balloc ?_ _ | refine bset ?_ (by simp; omega) _ | refine bset ?_ (by simp) _ | refine bstep ?_ (by assumption))))) (evtsRR.below (evtsRR.ofO oW) (by (repeat (first | exact Below.refl _ _ | assumption | refine Below.drew ?_ | refine balloc ?_ _ | refine bset ?_ (by simp; omega) _ | refine bset ?_ (by simp) _ | refine bstep ?_ (by assumption)))))).mono ?_
  rintro e w6 ⟨rfl, hb6⟩
  have hB6 : Below w.heap.size w w6 := by (repeat (first | exact Below.refl _ _ | assumption | refine Below.drew ?_ | refine balloc ?_ _ | refine bset ?_ (by simp; omega) _ | refine bset ?_ (by simp) _ | refine bstep ?_ (by assumption)))
  have s6 := hb6.size
  try simp only [World.size_alloc] at s6
  replace b_0 := cell_keep hb6 (cell_keep (by (repeat (first | exact Below.refl _ _ | assumption | refine Below.drew ?_ | refine balloc ?_ _ | refine bset ?_ (by simp; omega) _ | refine bset ?_ (by simp) _ | refine bstep ?_ (by assumption)))) b_0)
  replace b_1 := cell_keep hb6 (cell_keep (by (repeat (first | exact Below.refl _ _ | assumption | refine Below.drew ?_ | refine balloc ?_ _ | refine bset ?_ (by simp; omega) _ | refine bset ?_ (by simp) _ | refine bstep ?_ (by assumption)))) b_1)
  replace b_2 := cell_keep hb6 (cell_keep (by (repeat (first | exact Below.refl _ _ | assumption | refine Below.drew ?_ | refine balloc ?_ _ | refine bset ?_ (by simp; omega) _ | refine bset ?_ (by simp) _ | refine bstep ?_ (by assumption)))) b_2)
  replace b_3 := cell_keep hb6 (cell_keep (by (repeat (first | exact Below.refl _ _ | assumption | refine Below.drew ?_ | refine balloc ?_ _ | refine bset ?_ (by simp; omega) _ | refine bset ?_ (by simp) _ | refine bstep ?_ (by assumption)))) b_3)
  replace q_0 := cell_keep hb6 (cell_keep (by (repeat (first | exact Below.refl _ _ | assumption | refine Below.drew ?_ | refine balloc ?_ _ | refine bset ?_ (by simp; omega) _ | refine bset ?_ (by simp) _ | refine bstep ?_ (by assumption)))) q_0)
  replace q_1 := cell_keep hb6 (cell_keep (by (repeat (first | exact Below.refl _ _ | assumption | refine Below.drew ?_ | refine balloc ?_ _ | refine bset ?_ (by simp; omega) _ | refine bset ?_ (by simp) _ | refine bstep ?_ (by assumption)))) q_1)
  replace y_0 := cell_keep hb6 (cell_keep (by (repeat (first | exact Below.refl _ _ | assumption | refine Below.drew ?_ | refine balloc ?_ _ | refine bset ?_ (by simp; omega) _ | refine bset ?_ (by simp) _ | refine bstep ?_ (by assumption)))) y_0)
  replace y_1 := cell_keep hb6 (cell_keep (by (repeat (first | exact Below.refl _ _ | assumption | refine Below.drew ?_ | refine balloc ?_ _ | refine bset ?_ (by simp; omega) _ | refine bset ?_ (by simp) _ | refine bstep ?_ (by assumption)))) y_1)
  replace y_2 := cell_keep hb6 (cell_keep (by (repeat (first | exact Below.refl _ _ | assumption | refine Below.drew ?_ | refine balloc ?_ _ | refine bset ?_ (by simp; omega) _ | refine bset ?_ (by simp) _ | refine bstep ?_ (by assumption)))) y_2)
  replace y_3 := cell_keep hb6 (cell_keep (by (repeat (first | exact Below.refl _ _ | assumption | refine Below.drew ?_ | refine balloc ?_ _ | refine bset ?_ (by simp; omega) _ | refine bset ?_ (by simp) _ | refine bstep ?_ (by assumption)))) y_3)
  have g_0 : w6.cell? ⟨w5.heap.size, 0, none⟩ = some (.int .i64 (evsD d0.log).code) := cell_keep hb6 (by simp [go_sem])
  have g_1 : w6.cell? ⟨w5.heap.size, 1, none⟩ = some (.slice ag1 (evsD d0.log).evts.length cg1) := cell_keep hb6 (by simp [go_sem])
  replace oW := evtsRR.keep2 oW (by (repeat (first | exact Below.refl _ _ | assumption | refine Below.drew ?_ | refine balloc ?_ _ | refine bset ?_ (by simp; omega) _ | refine bset ?_ (by simp) _ | refine bstep ?_ (by assumption)))) hb6
  replace oC := jrnR.keep2 oC (by (repeat (first | exact Below.refl _ _ | assumption | refine Below.drew ?_ | refine balloc ?_ _ | refine bset ?_ (by simp; omega) _ | refine bset ?_ (by simp) _ | refine bstep ?_ (by assumption)))) hb6
  replace oG := evtsRR.keep2 oG (by (repeat (first | exact Below.refl _ _ | assumption | refine Below.drew ?_ | refine balloc ?_ _ | refine bset ?_ (by simp; omega) _ | refine bset ?_ (by simp) _ | refine bstep ?_ (by assumption)))) hb6
  clear hB5
  clear hb6
  clear z0 z4 z6
  have z0 := World.block_lt_of_cell? _ _ b_0
  dsimp only at z0
  have z4 := World.block_lt_of_cell? _ _ q_0
  dsimp only at z4
  have z6 := World.block_lt_of_cell? _ _ y_0
  dsimp only at z6
  have z10 := World.block_lt_of_cell? _ _ g_0
  dsimp only at z10
  go_wp2
  have VC : jrnR.V w6 _ d0 := jrnR.ofO oC
  go_region_held3 (fun w' => Below w6.heap.size w6 w' ∧ w'.cell? ⟨w.heap.size, 0, none⟩ = some (.int .i64 d0.idx) ∧ w'.cell? ⟨w.heap.size, 1, none⟩ = some (.slice ax1 d0.start.length cx1) ∧ w'.cell? ⟨w.heap.size, 2, none⟩ = some (.slice ax2_1 d0.log.synced.length cx2_1) ∧ w'.cell? ⟨w.heap.size, 3, none⟩ = some (.slice ax2_2 d0.log.loose.length cx2_2) ∧ w'.cell? ⟨w3.heap.size, 0, none⟩ = some (.int .i64 (evsD d0.log).code) ∧ w'.cell? ⟨w3.heap.size, 1, none⟩ = some (.slice aw1 (evsD d0.log).evts.length cw1) ∧ w'.cell? ⟨w4.heap.size, 0, none⟩ = some (.int .i64 d0.idx) ∧ w'.cell? ⟨w4.heap.size, 1, none⟩ = some (.slice ay1 d0.start.length cy1) ∧ w'.cell? ⟨w4.heap.size, 2, none⟩ = some (.slice ay2_1 d0.log.synced.length cy2_1) ∧ w'.cell? ⟨w4.heap.size, 3, none⟩ = some (.slice ay2_2 d0.log.loose.length cy2_2) ∧ w'.cell? ⟨w5.heap.size, 0, none⟩ = some (.int .i64 (evsD d0.log).code) ∧ w'.cell? ⟨w5.heap.size, 1, none⟩ = some (.slice ag1 (evsD d0.log).evts.length cg1))
    ((refine keepN12 ?_ b_0 b_1 b_2 b_3 q_0 q_1 y_0 y_1 y_2 y_3 g_0 g_1; repeat (first | exact Below.refl _ _ | assumption | refine Below.drew ?_ | refine balloc ?_ _ | refine bstep ?_ (by assumption))))
    (first | (go_at_call 28; refine (toJournal_u _ d0 _ (jrnR.below hX0 (by (repeat (first | exact Below.refl _ _ | assumption | refine Below.drew ?_ | refine balloc ?_ _ | refine bset ?_ (by simp; omega) _ | refine bset ?_ (by simp) _ | refine bstep ?_ (by assumption))))) (by omega)).mono ?_; rintro e wD ⟨vE, FE, rfl, oE, hbD⟩; have fE := jrnR.ofO oE; obtain ⟨ae1, ae2_1, ae2_2, ce1, ce2_1, ce2_2, rfl⟩ := jrn_form fE) | (go_at_call 31; refine (eqJournal_u _ _ d0 d0 _ (jrnR.below VC (by (repeat (first | exact Below.refl _ _ | assumption | refine Below.drew ?_ | refine balloc ?_ _ | refine bset ?_ (by simp; omega) _ | refine bset ?_ (by simp) _ | refine bstep ?_ (by assumption))))) (jrnR.below (jrnR.ofO oE) (by (repeat (first | exact Below.refl _ _ | assumption | refine Below.drew ?_ | refine balloc ?_ _ | refine bset ?_ (by simp; omega) _ | refine bset ?_ (by simp) _ | refine bstep ?_ (by assumption)))))).mono ?_; rintro e wE ⟨rfl, hbE⟩))
  rename_i hH
  have hBE : Below w.heap.size w wE := bstep hB6 hH.1
  have sE := hH.1.size
  replace oW := evtsRR.keep oW hH.1
  replace oC := jrnR.keep oC hH.1
  replace oG := evtsRR.keep oG hH.1
  obtain ⟨_, rb_0, rb_1, rb_2, rb_3, rq_0, rq_1, ry_0, ry_1, ry_2, ry_3, rg_0, rg_1⟩ := hH
  replace b_0 := rb_0
  replace b_1 := rb_1
  replace b_2 := rb_2
  replace b_3 := rb_3
  replace q_0 := rq_0
  replace q_1 := rq_1
  replace y_0 := ry_0
  replace y_1 := ry_1
  replace y_2 := ry_2
  replace y_3 := ry_3
  replace g_0 := rg_0
  replace g_1 := rg_1
  clear rb_0 rb_1 rb_2 rb_3 rq_0 rq_1 ry_0 ry_1 ry_2 ry_3 rg_0 rg_1 hB6 oE hbD hbE VC
  clear z0 z4 z6 z10
  have z0 := World.block_lt_of_cell? _ _ b_0
  dsimp only at z0
  have z4 := World.block_lt_of_cell? _ _ q_0
  dsimp only at z4
  have z6 := World.block_lt_of_cell? _ _ y_0
  dsimp only at z6
  have z10 := World.block_lt_of_cell? _ _ g_0
  dsimp only at z10
  go_wp2_with fail
  refine (markJournal_u _ d0 _ FC 1 _ oC (by omega) hkA (by omega)).mono ?_
  rintro e w7 ⟨rfl, oCm, m7⟩
  have hB7 : Below w.heap.size w w7 := m7.below hBE hBE.size (fun b hb => by have := roC b hb; omega)
  have s7 := m7.size
  replace b_0 := m7.cell b_0 (fun hf => by have := roC _ hf; dsimp only at this; omega)
  replace b_1 := m7.cell b_1 (fun hf => by have := roC _ hf; dsimp only at this; omega)
  replace b_2 := m7.cell b_2 (fun hf => by have := roC _ hf; dsimp only at this; omega)
  replace b_3 := m7.cell b_3 (fun hf => by have := roC _ hf; dsimp only at this; omega)
  replace q_0 := m7.cell q_0 (fun hf => by have := roC _ hf; dsimp only at this; omega)
  replace q_1 := m7.cell q_1 (fun hf => by have := roC _ hf; dsimp only at this; omega)
  replace y_0 := m7.cell y_0 (fun hf => by have := roC _ hf; dsimp only at this; omega)
  replace y_1 := m7.cell y_1 (fun hf => by have := roC _ hf; dsimp only at this; omega)
  replace y_2 := m7.cell y_2 (fun hf => by have := roC _ hf; dsimp only at this; omega)
  replace y_3 := m7.cell y_3 (fun hf => by have := roC _ hf; dsimp only at this; omega)
  replace g_0 := m7.cell g_0 (fun hf => by have := roC _ hf; dsimp only at this; omega)
  replace g_1 := m7.cell g_1 (fun hf => by have := roC _ hf; dsimp only at this; omega)
  replace oW := evtsRR.mod oW m7 (fun b p q => by have := roW b p; have := roC b q; omega)
  replace oG := evtsRR.mod oG m7 (fun b p q => by have := roG b p; have := roC b q; omega)
  clear hBE oC m7
  clear z0 z4 z6 z10
  have z0 := World.block_lt_of_cell? _ _ b_0
  dsimp only at z0
  have z4 := World.block_lt_of_cell? _ _ q_0
  dsimp only at z4
  have z6 := World.block_lt_of_cell? _ _ y_0
  dsimp only at z6
  have z10 := World.block_lt_of_cell? _ _ g_0
  dsimp only at z10
  go_wp2_with fail
  refine (eqEventsResult_u _ _ (evsD d0.log) (evsD d0.log) _ (evtsRR.below (evtsRR.ofO oG) (by (repeat (first | exact Below.refl _ _ | assumption | refine Below.drew ?_ | refine balloc ?_ _ | refine bset ?_ (by simp; omega) _ | refine bset ?_ (by simp) _ | refine bstep ?_ (by assumption))))) (evtsRR.below (evtsRR.ofO oW) (by (repeat (first | exact Below.refl _ _ | assumption | refine Below.drew ?_ | refine balloc ?_ _ | refine bset ?_ (by simp; omega) _ | refine bset ?_ (by simp) _ | refine bstep ?_ (by assumption)))))).mono ?_
  rintro e w8 ⟨rfl, hb8⟩
  have hB8 : Below w.heap.size w w8 := by (repeat (first | exact Below.refl _ _ | assumption | refine Below.drew ?_ | refine balloc ?_ _ | refine bset ?_ (by simp; omega) _ | refine bset ?_ (by simp) _ | refine bstep ?_ (by assumption)))
  have s8 := hb8.size
  try simp only [World.size_alloc] at s8
  replace b_0 := cell_keep hb8 (cell_keep (by (repeat (first | exact Below.refl _ _ | assumption | refine Below.drew ?_ | refine balloc ?_ _ | refine bset ?_ (by simp; omega) _ | refine bset ?_ (by simp) _ | refine bstep ?_ (by assumption)))) b_0)
  replace b_1 := cell_keep hb8 (cell_keep (by (repeat (first | exact Below.refl _ _ | assumption | refine Below.drew ?_ | refine balloc ?_ _ | refine bset ?_ (by simp; omega) _ | refine bset ?_ (by simp) _ | refine bstep ?_ (by assumption)))) b_1)
  replace b_2 := cell_keep hb8 (cell_keep (by (repeat (first | exact Below.refl _ _ | assumption | refine Below.drew ?_ | refine balloc ?_ _ | refine bset ?_ (by simp; omega) _ | refine bset ?_ (by simp) _ | refine bstep ?_ (by assumption)))) b_2)
  replace b_3 := cell_keep hb8 (cell_keep (by (repeat (first | exact Below.refl _ _ | assumption | refine Below.drew ?_ | refine balloc ?_ _ | refine bset ?_ (by simp; omega) _ | refine bset ?_ (by simp) _ | refine bstep ?_ (by assumption)))) b_3)
  replace q_0 := cell_keep hb8 (cell_keep (by (repeat (first | exact Below.refl _ _ | assumption | refine Below.drew ?_ | refine balloc ?_ _ | refine bset ?_ (by simp; omega) _ | refine bset ?_ (by simp) _ | refine bstep ?_ (by assumption)))) q_0)
  replace q_1 := cell_keep hb8 (cell_keep (by (repeat (first | exact Below.refl _ _ | assumption | refine Below.drew ?_ | refine balloc ?_ _ | refine bset ?_ (by simp; omega) _ | refine bset ?_ (by simp) _ | refine bstep ?_ (by assumption)))) q_1)
  replace y_0 := cell_keep hb8 (cell_keep (by (repeat (first | exact Below.refl _ _ | assumption | refine Below.drew ?_ | refine balloc ?_ _ | refine bset ?_ (by simp; omega) _ | refine bset ?_ (by simp) _ | refine bstep ?_ (by assumption)))) y_0)
  replace y_1 := cell_keep hb8 (cell_keep (by (repeat (first | exact Below.refl _ _ | assumption | refine Below.drew ?_ | refine balloc ?_ _ | refine bset ?_ (by simp; omega) _ | refine bset ?_ (by simp) _ | refine bstep ?_ (by assumption)))) y_1)
  replace y_2 := cell_keep hb8 (cell_keep (by (repeat (first | exact Below.refl _ _ | assumption | refine Below.drew ?_ | refine balloc ?_ _ | refine bset ?_ (by simp; omega) _ | refine bset ?_ (by simp) _ | refine bstep ?_ (by assumption)))) y_2)
  replace y_3 := cell_keep hb8 (cell_keep (by (repeat (first | exact Below.refl _ _ | assumption | refine Below.drew ?_ | refine balloc ?_ _ | refine bset ?_ (by simp; omega) _ | refine bset ?_ (by simp) _ | refine bstep ?_ (by assumption)))) y_3)
  replace g_0 := cell_keep hb8 (cell_keep (by (repeat (first | exact Below.refl _ _ | assumption | refine Below.drew ?_ | refine balloc ?_ _ | refine bset ?_ (by simp; omega) _ | refine bset ?_ (by simp) _ | refine bstep ?_ (by assumption)))) g_0)
  replace g_1 := cell_keep hb8 (cell_keep (by (repeat (first | exact Below.refl _ _ | assumption | refine Below.drew ?_ | refine balloc ?_ _ | refine bset ?_ (by simp; omega) _ | refine bset ?_ (by simp) _ | refine bstep ?_ (by assumption)))) g_1)
  replace oW := evtsRR.keep2 oW (by (repeat (first | exact Below.refl _ _ | assumption | refine Below.drew ?_ | refine balloc ?_ _ | refine bset ?_ (by simp; omega) _ | refine bset ?_ (by simp) _ | refine bstep ?_ (by assumption)))) hb8
  replace oG := evtsRR.keep2 oG (by (repeat (first | exact Below.refl _ _ | assumption | refine Below.drew ?_ | refine balloc ?_ _ | refine bset ?_ (by simp; omega) _ | refine bset ?_ (by simp) _ | refine bstep ?_ (by assumption)))) hb8
  replace oCm := jrnR.keep2 oCm (by (repeat (first | exact Below.refl _ _ | assumption | refine Below.drew ?_ | refine balloc ?_ _ | refine bset ?_ (by simp; omega) _ | refine bset ?_ (by simp) _ | refine bstep ?_ (by assumption)))) hb8
  clear hB7
  clear hb8
  clear z0 z4 z6 z10
  have z0 := World.block_lt_of_cell? _ _ b_0
  dsimp only at z0
  have z4 := World.block_lt_of_cell? _ _ q_0
  dsimp only at z4
  have z6 := World.block_lt_of_cell? _ _ y_0
  dsimp only at z6
  have z10 := World.block_lt_of_cell? _ _ g_0
  dsimp only at z10
  go_wp2_with fail
  refine (markEventsResult_u _ (evsD d0.log) _ FG 1 _ oG hwR hcR (by omega)).mono ?_
  rintro e w9 ⟨rfl, oGm, m9⟩
  have hB9 : Below w.heap.size w w9 := m9.below hB8 hB8.size (fun b hb => by have := roG b hb; omega)
  have s9 := m9.size
  replace b_0 := m9.cell b_0 (fun hf => by have := roG _ hf; dsimp only at this; omega)
  replace b_1 := m9.cell b_1 (fun hf => by have := roG _ hf; dsimp only at this; omega)
  replace b_2 := m9.cell b_2 (fun hf => by have := roG _ hf; dsimp only at this; omega)
  replace b_3 := m9.cell b_3 (fun hf => by have := roG _ hf; dsimp only at this; omega)
  replace q_0 := m9.cell q_0 (fun hf => by have := roG _ hf; dsimp only at this; omega)
  replace q_1 := m9.cell q_1 (fun hf => by have := roG _ hf; dsimp only at this; omega)
  replace y_0 := m9.cell y_0 (fun hf => by have := roG _ hf; dsimp only at this; omega)
  replace y_1 := m9.cell y_1 (fun hf => by have := roG _ hf; dsimp only at this; omega)
  replace y_2 := m9.cell y_2 (fun hf => by have := roG _ hf; dsimp only at this; omega)
  replace y_3 := m9.cell y_3 (fun hf => by have := roG _ hf; dsimp only at this; omega)
  replace g_0 := m9.cell g_0 (fun hf => by have := roG _ hf; dsimp only at this; omega)
  replace g_1 := m9.cell g_1 (fun hf => by have := roG _ hf; dsimp only at this; omega)
  replace oW := evtsRR.mod oW m9 (fun b p q => by have := roW b p; have := roG b q; omega)
  replace oCm := jrnR.mod oCm m9 (fun b p q => by have := roC b p; have := roG b q; omega)
  clear hB8 oG m9
  clear z0 z4 z6 z10
  have z0 := World.block_lt_of_cell? _ _ b_0
  dsimp only at z0
  have z4 := World.block_lt_of_cell? _ _ q_0
  dsimp only at z4
  have z6 := World.block_lt_of_cell? _ _ y_0
  dsimp only at z6
  have z10 := World.block_lt_of_cell? _ _ g_0
  dsimp only at z10
  go_wp2_with fail
  refine (heldEventsResult_u _ (evsD d0.log) 1 _ (evtsRR.below (evtsRR.ofO oGm) (by (repeat (first | exact Below.refl _ _ | assumption | refine Below.drew ?_ | refine balloc ?_ _ | refine bset ?_ (by simp; omega) _ | refine bset ?_ (by simp) _ | refine bstep ?_ (by assumption))))) hwR hcR (by omega)).mono ?_
  rintro e w10 ⟨rfl, hb10⟩
  have hB10 : Below w.heap.size w w10 := by (repeat (first | exact Below.refl _ _ | assumption | refine Below.drew ?_ | refine balloc ?_ _ | refine bset ?_ (by simp; omega) _ | refine bset ?_ (by simp) _ | refine bstep ?_ (by assumption)))
  have s10 := hb10.size
  try simp only [World.size_alloc] at s10
  replace b_0 := cell_keep hb10 (cell_keep (by (repeat (first | exact Below.refl _ _ | assumption | refine Below.drew ?_ | refine balloc ?_ _ | refine bset ?_ (by simp; omega) _ | refine bset ?_ (by simp) _ | refine bstep ?_ (by assumption)))) b_0)
  replace b_1 := cell_keep hb10 (cell_keep (by (repeat (first | exact Below.refl _ _ | assumption | refine Below.drew ?_ | refine balloc ?_ _ | refine bset ?_ (by simp; omega) _ | refine bset ?_ (by simp) _ | refine bstep ?_ (by assumption)))) b_1)
  replace b_2 := cell_keep hb10 (cell_keep (by (repeat (first | exact Below.refl _ _ | assumption | refine Below.drew ?_ | refine balloc ?_ _ | refine bset ?_ (by simp; omega) _ | refine bset ?_ (by simp) _ | refine bstep ?_ (by assumption)))) b_2)
  replace b_3 := cell_keep hb10 (cell_keep (by (repeat (first | exact Below.refl _ _ | assumption | refine Below.drew ?_ | refine balloc ?_ _ | refine bset ?_ (by simp; omega) _ | refine bset ?_ (by simp) _ | refine bstep ?_ (by assumption)))) b_3)
  replace q_0 := cell_keep hb10 (cell_keep (by (repeat (first | exact Below.refl _ _ | assumption | refine Below.drew ?_ | refine balloc ?_ _ | refine bset ?_ (by simp; omega) _ | refine bset ?_ (by simp) _ | refine bstep ?_ (by assumption)))) q_0)
  replace q_1 := cell_keep hb10 (cell_keep (by (repeat (first | exact Below.refl _ _ | assumption | refine Below.drew ?_ | refine balloc ?_ _ | refine bset ?_ (by simp; omega) _ | refine bset ?_ (by simp) _ | refine bstep ?_ (by assumption)))) q_1)
  replace y_0 := cell_keep hb10 (cell_keep (by (repeat (first | exact Below.refl _ _ | assumption | refine Below.drew ?_ | refine balloc ?_ _ | refine bset ?_ (by simp; omega) _ | refine bset ?_ (by simp) _ | refine bstep ?_ (by assumption)))) y_0)
  replace y_1 := cell_keep hb10 (cell_keep (by (repeat (first | exact Below.refl _ _ | assumption | refine Below.drew ?_ | refine balloc ?_ _ | refine bset ?_ (by simp; omega) _ | refine bset ?_ (by simp) _ | refine bstep ?_ (by assumption)))) y_1)
  replace y_2 := cell_keep hb10 (cell_keep (by (repeat (first | exact Below.refl _ _ | assumption | refine Below.drew ?_ | refine balloc ?_ _ | refine bset ?_ (by simp; omega) _ | refine bset ?_ (by simp) _ | refine bstep ?_ (by assumption)))) y_2)
  replace y_3 := cell_keep hb10 (cell_keep (by (repeat (first | exact Below.refl _ _ | assumption | refine Below.drew ?_ | refine balloc ?_ _ | refine bset ?_ (by simp; omega) _ | refine bset ?_ (by simp) _ | refine bstep ?_ (by assumption)))) y_3)
  replace g_0 := cell_keep hb10 (cell_keep (by (repeat (first | exact Below.refl _ _ | assumption | refine Below.drew ?_ | refine balloc ?_ _ | refine bset ?_ (by simp; omega) _ | refine bset ?_ (by simp) _ | refine bstep ?_ (by assumption)))) g_0)
  replace g_1 := cell_keep hb10 (cell_keep (by (repeat (first | exact Below.refl _ _ | assumption | refine Below.drew ?_ | refine balloc ?_ _ | refine bset ?_ (by simp; omega) _ | refine bset ?_ (by simp) _ | refine bstep ?_ (by assumption)))) g_1)
  replace oW := evtsRR.keep2 oW (by (repeat (first | exact Below.refl _ _ | assumption | refine Below.drew ?_ | refine balloc ?_ _ | refine bset ?_ (by simp; omega) _ | refine bset ?_ (by simp) _ | refine bstep ?_ (by assumption)))) hb10
  replace oCm := jrnR.keep2 oCm (by (repeat (first | exact Below.refl _ _ | assumption | refine Below.drew ?_ | refine balloc ?_ _ | refine bset ?_ (by simp; omega) _ | refine bset ?_ (by simp) _ | refine bstep ?_ (by assumption)))) hb10
  replace oGm := evtsRR.keep2 oGm (by (repeat (first | exact Below.refl _ _ | assumption | refine Below.drew ?_ | refine balloc ?_ _ | refine bset ?_ (by simp; omega) _ | refine bset ?_ (by simp) _ | refine bstep ?_ (by assumption)))) hb10
  clear hB9
  clear hb10
  clear z0 z4 z6 z10
  have z0 := World.block_lt_of_cell? _ _ b_0
  dsimp only at z0
  have z4 := World.block_lt_of_cell? _ _ q_0
  dsimp only at z4
  have z6 := World.block_lt_of_cell? _ _ y_0
  dsimp only at z6
  have z10 := World.block_lt_of_cell? _ _ g_0
  dsimp only at z10
  go_wp2_with fail
  refine (toJournal_u _ d0 _ (jrnR.below hX0 (by (repeat (first | exact Below.refl _ _ | assumption | refine Below.drew ?_ | refine balloc ?_ _ | refine bset ?_ (by simp; omega) _ | refine bset ?_ (by simp) _ | refine bstep ?_ (by assumption))))) (by omega)).mono ?_
  rintro e w11 ⟨vH, FH, rfl, oH, hb11⟩
  have hB11 : Below w.heap.size w w11 := by (repeat (first | exact Below.refl _ _ | assumption | refine Below.drew ?_ | refine balloc ?_ _ | refine bset ?_ (by simp; omega) _ | refine bset ?_ (by simp) _ | refine bstep ?_ (by assumption)))
  have s11 := hb11.size
  try simp only [World.size_alloc] at s11
  replace b_0 := cell_keep hb11 (cell_keep (by (repeat (first | exact Below.refl _ _ | assumption | refine Below.drew ?_ | refine balloc ?_ _ | refine bset ?_ (by simp; omega) _ | refine bset ?_ (by simp) _ | refine bstep ?_ (by assumption)))) b_0)
  replace b_1 := cell_keep hb11 (cell_keep (by (repeat (first | exact Below.refl _ _ | assumption | refine Below.drew ?_ | refine balloc ?_ _ | refine bset ?_ (by simp; omega) _ | refine bset ?_ (by simp) _ | refine bstep ?_ (by assumption)))) b_1)
  replace b_2 := cell_keep hb11 (cell_keep (by (repeat (first | exact Below.refl _ _ | assumption | refine Below.drew ?_ | refine balloc ?_ _ | refine bset ?_ (by simp; omega) _ | refine bset ?_ (by simp) _ | refine bstep ?_ (by assumption)))) b_2)
  replace b_3 := cell_keep hb11 (cell_keep (by (repeat (first | exact Below.refl _ _ | assumption | refine Below.drew ?_ | refine balloc ?_ _ | refine bset ?_ (by simp; omega) _ | refine bset ?_ (by simp) _ | refine bstep ?_ (by assumption)))) b_3)
  replace q_0 := cell_keep hb11 (cell_keep (by (repeat (first | exact Below.refl _ _ | assumption | refine Below.drew ?_ | refine balloc ?_ _ | refine bset ?_ (by simp; omega) _ | refine bset ?_ (by simp) _ | refine bstep ?_ (by assumption)))) q_0)
  replace q_1 := cell_keep hb11 (cell_keep (by (repeat (first | exact Below.refl _ _ | assumption | refine Below.drew ?_ | refine balloc ?_ _ | refine bset ?_ (by simp; omega) _ | refine bset ?_ (by simp) _ | refine bstep ?_ (by assumption)))) q_1)
  replace y_0 := cell_keep hb11 (cell_keep (by (repeat (first | exact Below.refl _ _ | assumption | refine Below.drew ?_ | refine balloc ?_ _ | refine bset ?_ (by simp; omega) _ | refine bset ?_ (by simp) _ | refine bstep ?_ (by assumption)))) y_0)
  replace y_1 := cell_keep hb11 (cell_keep (by (repeat (first | exact Below.refl _ _ | assumption | refine Below.drew ?_ | refine balloc ?_ _ | refine bset ?_ (by simp; omega) _ | refine bset ?_ (by simp) _ | refine bstep ?_ (by assumption)))) y_1)
  replace y_2 := cell_keep hb11 (cell_keep (by (repeat (first | exact Below.refl _ _ | assumption | refine Below.drew ?_ | refine balloc ?_ _ | refine bset ?_ (by simp; omega) _ | refine bset ?_ (by simp) _ | refine bstep ?_ (by assumption)))) y_2)
  replace y_3 := cell_keep hb11 (cell_keep (by (repeat (first | exact Below.refl _ _ | assumption | refine Below.drew ?_ | refine balloc ?_ _ | refine bset ?_ (by simp; omega) _ | refine bset ?_ (by simp) _ | refine bstep ?_ (by assumption)))) y_3)
  replace g_0 := cell_keep hb11 (cell_keep (by (repeat (first | exact Below.refl _ _ | assumption | refine Below.drew ?_ | refine balloc ?_ _ | refine bset ?_ (by simp; omega) _ | refine bset ?_ (by simp) _ | refine bstep ?_ (by assumption)))) g_0)
  replace g_1 := cell_keep hb11 (cell_keep (by (repeat (first | exact Below.refl _ _ | assumption | refine Below.drew ?_ | refine balloc ?_ _ | refine bset ?_ (by simp; omega) _ | refine bset ?_ (by simp) _ | refine bstep ?_ (by assumption)))) g_1)
  replace oW := evtsRR.keep2 oW (by (repeat (first | exact Below.refl _ _ | assumption | refine Below.drew ?_ | refine balloc ?_ _ | refine bset ?_ (by simp; omega) _ | refine bset ?_ (by simp) _ | refine bstep ?_ (by assumption)))) hb11
  replace oCm := jrnR.keep2 oCm (by (repeat (first | exact Below.refl _ _ | assumption | refine Below.drew ?_ | refine balloc ?_ _ | refine bset ?_ (by simp; omega) _ | refine bset ?_ (by simp) _ | refine bstep ?_ (by assumption)))) hb11
  replace oGm := evtsRR.keep2 oGm (by (repeat (first | exact Below.refl _ _ | assumption | refine Below.drew ?_ | refine balloc ?_ _ | refine bset ?_ (by simp; omega) _ | refine bset ?_ (by simp) _ | refine bstep ?_ (by assumption)))) hb11
  clear hB10
  clear hb11
  have fH := jrnR.ofO oH
  obtain ⟨ah1, ah2_1, ah2_2, ch1, ch2_1, ch2_2, rfl⟩ := jrn_form fH
  clear z0 z4 z6 z10
  have z0 := World.block_lt_of_cell? _ _ b_0
  dsimp only at z0
  have z4 := World.block_lt_of_cell? _ _ q_0
  dsimp only at z4
  have z6 := World.block_lt_of_cell? _ _ y_0
  dsimp only at z6
  have z10 := World.block_lt_of_cell? _ _ g_0
  dsimp only at z10
  go_wp2_with fail
  refine (implEvs_u _ d0 _ (jrnR.below (jrnR.ofO oH) (by (repeat (first | exact Below.refl _ _ | assumption | refine Below.drew ?_ | refine balloc ?_ _ | refine bset ?_ (by simp; omega) _ | refine bset ?_ (by simp) _ | refine bstep ?_ (by assumption))))) (by unfold wtJrn at hsz; omega)).mono ?_
  rintro e w12 ⟨vI, FI, rfl, oI, hb12⟩
  have hB12 : Below w.heap.size w w12 := by (repeat (first | exact Below.refl _ _ | assumption | refine Below.drew ?_ | refine balloc ?_ _ | refine bset ?_ (by simp; omega) _ | refine bset ?_ (by simp) _ | refine bstep ?_ (by assumption)))
  have s12 := hb12.size
  try simp only [World.size_alloc] at s12
  replace b_0 := cell_keep hb12 (cell_keep (by (repeat (first | exact Below.refl _ _ | assumption | refine Below.drew ?_ | refine balloc ?_ _ | refine bset ?_ (by simp; omega) _ | refine bset ?_ (by simp) _ | refine bstep ?_ (by assumption)))) b_0)
  replace b_1 := cell_keep hb12 (cell_keep (by (repeat (first | exact Below.refl _ _ | assumption | refine Below.drew ?_ | refine balloc ?_ _ | refine bset ?_ (by simp; omega) _ | refine bset ?_ (by simp) _ | refine bstep ?_ (by assumption)))) b_1)
  replace b_2 := cell_keep hb12 (cell_keep (by (repeat (first | exact Below.refl _ _ | assumption | refine Below.drew ?_ | refine balloc ?_ _ | refine bset ?_ (by simp; omega) _ | refine bset ?_ (by simp) _ | refine bstep ?_ (by assumption)))) b_2)
  replace b_3 := cell_keep hb12 (cell_keep (by (repeat (first | exact Below.refl _ _ | assumption | refine Below.drew ?_ | refine balloc ?_ _ | refine bset ?_ (by simp; omega) _ | refine bset ?_ (by simp) _ | refine bstep ?_ (by assumption)))) b_3)
  replace q_0 := cell_keep hb12 (cell_keep (by (repeat (first | exact Below.refl _ _ | assumption | refine Below.drew ?_ | refine balloc ?_ _ | refine bset ?_ (by simp; omega) _ | refine bset ?_ (by simp) _ | refine bstep ?_ (by assumption)))) q_0)
  replace q_1 := cell_keep hb12 (cell_keep (by (repeat (first | exact Below.refl _ _ | assumption | refine Below.drew ?_ | refine balloc ?_ _ | refine bset ?_ (by simp; omega) _ | refine bset ?_ (by simp) _ | refine bstep ?_ (by assumption)))) q_1)
  replace y_0 := cell_keep hb12 (cell_keep (by (repeat (first | exact Below.refl _ _ | assumption | refine Below.drew ?_ | refine balloc ?_ _ | refine bset ?_ (by simp; omega) _ | refine bset ?_ (by simp) _ | refine bstep ?_ (by assumption)))) y_0)
  replace y_1 := cell_keep hb12 (cell_keep (by (repeat (first | exact Below.refl _ _ | assumption | refine Below.drew ?_ | refine balloc ?_ _ | refine bset ?_ (by simp; omega) _ | refine bset ?_ (by simp) _ | refine bstep ?_ (by assumption)))) y_1)
  replace y_2 := cell_keep hb12 (cell_keep (by (repeat (first | exact Below.refl _ _ | assumption | refine Below.drew ?_ | refine balloc ?_ _ | refine bset ?_ (by simp; omega) _ | refine bset ?_ (by simp) _ | refine bstep ?_ (by assumption)))) y_2)
  replace y_3 := cell_keep hb12 (cell_keep (by (repeat (first | exact Below.refl _ _ | assumption | refine Below.drew ?_ | refine balloc ?_ _ | refine bset ?_ (by simp; omega) _ | refine bset ?_ (by simp) _ | refine bstep ?_ (by assumption)))) y_3)
  replace g_0 := cell_keep hb12 (cell_keep (by (repeat (first | exact Below.refl _ _ | assumption | refine Below.drew ?_ | refine balloc ?_ _ | refine bset ?_ (by simp; omega) _ | refine bset ?_ (by simp) _ | refine bstep ?_ (by assumption)))) g_0)
  replace g_1 := cell_keep hb12 (cell_keep (by (repeat (first | exact Below.refl _ _ | assumption | refine Below.drew ?_ | refine balloc ?_ _ | refine bset ?_ (by simp; omega) _ | refine bset ?_ (by simp) _ | refine bstep ?_ (by assumption)))) g_1)
  replace oW := evtsRR.keep2 oW (by (repeat (first | exact Below.refl _ _ | assumption | refine Below.drew ?_ | refine balloc ?_ _ | refine bset ?_ (by simp; omega) _ | refine bset ?_ (by simp) _ | refine bstep ?_ (by assumption)))) hb12
  replace oCm := jrnR.keep2 oCm (by (repeat (first | exact Below.refl _ _ | assumption | refine Below.drew ?_ | refine balloc ?_ _ | refine bset ?_ (by simp; omega) _ | refine bset ?_ (by simp) _ | refine bstep ?_ (by assumption)))) hb12
  replace oGm := evtsRR.keep2 oGm (by (repeat (first | exact Below.refl _ _ | assumption | refine Below.drew ?_ | refine balloc ?_ _ | refine bset ?_ (by simp; omega) _ | refine bset ?_ (by simp) _ | refine bstep ?_ (by assumption)))) hb12
  clear hB11
  clear hb12
  have fI := evtsRR.ofO oI
  obtain ⟨ai1, ci1, rfl⟩ := evtsR_form fI
  clear z0 z4 z6 z10
  have z0 := World.block_lt_of_cell? _ _ b_0
  dsimp only at z0
  have z4 := World.block_lt_of_cell? _ _ q_0
  dsimp only at z4
  have z6 := World.block_lt_of_cell? _ _ y_0
  dsimp only at z6
  have z10 := World.block_lt_of_cell? _ _ g_0
  dsimp only at z10
  go_wp2_with fail
  refine (eqEventsResult_u _ _ (evsD d0.log) (evsD d0.log) _ (evtsRR.below (evtsRR.ofO oI) (by (repeat (first | exact Below.refl _ _ | assumption | refine Below.drew ?_ | refine balloc ?_ _ | refine bset ?_ (by simp; omega) _ | refine bset ?_ (by simp) _ | refine bstep ?_ (by assumption))))) (evtsRR.below (evtsRR.ofO oW) (by (repeat (first | exact Below.refl _ _ | assumption | refine Below.drew ?_ | refine balloc ?_ _ | refine bset ?_ (by simp; omega) _ | refine bset ?_ (by simp) _ | refine bstep ?_ (by assumption)))))).mono ?_
  rintro e w13 ⟨rfl, hb13⟩
  have hB13 : Below w.heap.size w w13 := by (repeat (first | exact Below.refl _ _ | assumption | refine Below.drew ?_ | refine balloc ?_ _ | refine bset ?_ (by simp; omega) _ | refine bset ?_ (by simp) _ | refine bstep ?_ (by assumption)))
  have s13 := hb13.size
  try simp only [World.size_alloc] at s13
  replace b_0 := cell_keep hb13 (cell_keep (by (repeat (first | exact Below.refl _ _ | assumption | refine Below.drew ?_ | refine balloc ?_ _ | refine bset ?_ (by simp; omega) _ | refine bset ?_ (by simp) _ | refine bstep ?_ (by assumption)))) b_0)
  replace b_1 := cell_keep hb13 (cell_keep (by (repeat (first | exact Below.refl _ _ | assumption | refine Below.drew ?_ | refine balloc ?_ _ | refine bset ?_ (by simp; omega) _ | refine bset ?_ (by simp) _ | refine bstep ?_ (by assumption)))) b_1)
  replace b_2 := cell_keep hb13 (cell_keep (by (repeat (first | exact Below.refl _ _ | assumption | refine Below.drew ?_ | refine balloc ?_ _ | refine bset ?_ (by simp; omega) _ | refine bset ?_ (by simp) _ | refine bstep ?_ (by assumption)))) b_2)
  replace b_3 := cell_keep hb13 (cell_keep (by (repeat (first | exact Below.refl _ _ | assumption | refine Below.drew ?_ | refine balloc ?_ _ | refine bset ?_ (by simp; omega) _ | refine bset ?_ (by simp) _ | refine bstep ?_ (by assumption)))) b_3)
  replace q_0 := cell_keep hb13 (cell_keep (by (repeat (first | exact Below.refl _ _ | assumption | refine Below.drew ?_ | refine balloc ?_ _ | refine bset ?_ (by simp; omega) _ | refine bset ?_ (by simp) _ | refine bstep ?_ (by assumption)))) q_0)
  replace q_1 := cell_keep hb13 (cell_keep (by (repeat (first | exact Below.refl _ _ | assumption | refine Below.drew ?_ | refine balloc ?_ _ | refine bset ?_ (by simp; omega) _ | refine bset ?_ (by simp) _ | refine bstep ?_ (by assumption)))) q_1)
  replace y_0 := cell_keep hb13 (cell_keep (by (repeat (first | exact Below.refl _ _ | assumption | refine Below.drew ?_ | refine balloc ?_ _ | refine bset ?_ (by simp; omega) _ | refine bset ?_ (by simp) _ | refine bstep ?_ (by assumption)))) y_0)
  replace y_1 := cell_keep hb13 (cell_keep (by (repeat (first | exact Below.refl _ _ | assumption | refine Below.drew ?_ | refine balloc ?_ _ | refine bset ?_ (by simp; omega) _ | refine bset ?_ (by simp) _ | refine bstep ?_ (by assumption)))) y_1)
  replace y_2 := cell_keep hb13 (cell_keep (by (repeat (first | exact Below.refl _ _ | assumption | refine Below.drew ?_ | refine balloc ?_ _ | refine bset ?_ (by simp; omega) _ | refine bset ?_ (by simp) _ | refine bstep ?_ (by assumption)))) y_2)
  replace y_3 := cell_keep hb13 (cell_keep (by (repeat (first | exact Below.refl _ _ | assumption | refine Below.drew ?_ | refine balloc ?_ _ | refine bset ?_ (by simp; omega) _ | refine bset ?_ (by simp) _ | refine bstep ?_ (by assumption)))) y_3)
  replace g_0 := cell_keep hb13 (cell_keep (by (repeat (first | exact Below.refl _ _ | assumption | refine Below.drew ?_ | refine balloc ?_ _ | refine bset ?_ (by simp; omega) _ | refine bset ?_ (by simp) _ | refine bstep ?_ (by assumption)))) g_0)
  replace g_1 := cell_keep hb13 (cell_keep (by (repeat (first | exact Below.refl _ _ | assumption | refine Below.drew ?_ | refine balloc ?_ _ | refine bset ?_ (by simp; omega) _ | refine bset ?_ (by simp) _ | refine bstep ?_ (by assumption)))) g_1)
  replace oW := evtsRR.keep2 oW (by (repeat (first | exact Below.refl _ _ | assumption | refine Below.drew ?_ | refine balloc ?_ _ | refine bset ?_ (by simp; omega) _ | refine bset ?_ (by simp) _ | refine bstep ?_ (by assumption)))) hb13
  replace oCm := jrnR.keep2 oCm (by (repeat (first | exact Below.refl _ _ | assumption | refine Below.drew ?_ | refine balloc ?_ _ | refine bset ?_ (by simp; omega) _ | refine bset ?_ (by simp) _ | refine bstep ?_ (by assumption)))) hb13
  replace oGm := evtsRR.keep2 oGm (by (repeat (first | exact Below.refl _ _ | assumption | refine Below.drew ?_ | refine balloc ?_ _ | refine bset ?_ (by simp; omega) _ | refine bset ?_ (by simp) _ | refine bstep ?_ (by assumption)))) hb13
  clear hB12
  clear hb13
  clear oH oI
  clear z0 z4 z6 z10
  have z0 := World.block_lt_of_cell? _ _ b_0
  dsimp only at z0
  have z4 := World.block_lt_of_cell? _ _ q_0
  dsimp only at z4
  have z6 := World.block_lt_of_cell? _ _ y_0
  dsimp only at z6
  have z10 := World.block_lt_of_cell? _ _ g_0
  dsimp only at z10
  go_wp2_with fail
  refine (heldEventsResult_u _ (evsD d0.log) 1 _ (evtsRR.below (evtsRR.ofO oGm) (by (repeat (first | exact Below.refl _ _ | assumption | refine Below.drew ?_ | refine balloc ?_ _ | refine bset ?_ (by simp; omega) _ | refine bset ?_ (by simp) _ | refine bstep ?_ (by assumption))))) hwR hcR (by omega)).mono ?_
  rintro e w14 ⟨rfl, hb14⟩
  have hB14 : Below w.heap.size w w14 := by (repeat (first | exact Below.refl _ _ | assumption | refine Below.drew ?_ | refine balloc ?_ _ | refine bset ?_ (by simp; omega) _ | refine bset ?_ (by simp) _ | refine bstep ?_ (by assumption)))
  have s14 := hb14.size
  try simp only [World.size_alloc] at s14
  replace b_0 := cell_keep hb14 (cell_keep (by (repeat (first | exact Below.refl _ _ | assumption | refine Below.drew ?_ | refine balloc ?_ _ | refine bset ?_ (by simp; omega) _ | refine bset ?_ (by simp) _ | refine bstep ?_ (by assumption)))) b_0)
  replace b_1 := cell_keep hb14 (cell_keep (by (repeat (first | exact Below.refl _ _ | assumption | refine Below.drew ?_ | refine balloc ?_ _ | refine bset ?_ (by simp; omega) _ | refine bset ?_ (by simp) _ | refine bstep ?_ (by assumption)))) b_1)
  replace b_2 := cell_keep hb14 (cell_keep (by (repeat (first | exact Below.refl _ _ | assumption | refine Below.drew ?_ | refine balloc ?_ _ | refine bset ?_ (by simp; omega) _ | refine bset ?_ (by simp) _ | refine bstep ?_ (by assumption)))) b_2)
  replace b_3 := cell_keep hb14 (cell_keep (by (repeat (first | exact Below.refl _ _ | assumption | refine Below.drew ?_ | refine balloc ?_ _ | refine bset ?_ (by simp; omega) _ | refine bset ?_ (by simp) _ | refine bstep ?_ (by assumption)))) b_3)
  replace q_0 := cell_keep hb14 (cell_keep (by (repeat (first | exact Below.refl _ _ | assumption | refine Below.drew ?_ | refine balloc ?_ _ | refine bset ?_ (by simp; omega) _ | refine bset ?_ (by simp) _ | refine bstep ?_ (by assumption)))) q_0)
  replace q_1 := cell_keep hb14 (cell_keep (by (repeat (first | exact Below.refl _ _ | assumption | refine Below.drew ?_ | refine balloc ?_ _ | refine bset ?_ (by simp; omega) _ | refine bset ?_ (by simp) _ | refine bstep ?_ (by assumption)))) q_1)
  replace y_0 := cell_keep hb14 (cell_keep (by (repeat (first | exact Below.refl _ _ | assumption | refine Below.drew ?_ | refine balloc ?_ _ | refine bset ?_ (by simp; omega) _ | refine bset ?_ (by simp) _ | refine bstep ?_ (by assumption)))) y_0)
  replace y_1 := cell_keep hb14 (cell_keep (by (repeat (first | exact Below.refl _ _ | assumption | refine Below.drew ?_ | refine balloc ?_ _ | refine bset ?_ (by simp; omega) _ | refine bset ?_ (by simp) _ | refine bstep ?_ (by assumption)))) y_1)
  replace y_2 := cell_keep hb14 (cell_keep (by (repeat (first | exact Below.refl _ _ | assumption | refine Below.drew ?_ | refine balloc ?_ _ | refine bset ?_ (by simp; omega) _ | refine bset ?_ (by simp) _ | refine bstep ?_ (by assumption)))) y_2)
  replace y_3 := cell_keep hb14 (cell_keep (by (repeat (first | exact Below.refl _ _ | assumption | refine Below.drew ?_ | refine balloc ?_ _ | refine bset ?_ (by simp; omega) _ | refine bset ?_ (by simp) _ | refine bstep ?_ (by assumption)))) y_3)
  replace g_0 := cell_keep hb14 (cell_keep (by (repeat (first | exact Below.refl _ _ | assumption | refine Below.drew ?_ | refine balloc ?_ _ | refine bset ?_ (by simp; omega) _ | refine bset ?_ (by simp) _ | refine bstep ?_ (by assumption)))) g_0)
  replace g_1 := cell_keep hb14 (cell_keep (by (repeat (first | exact Below.refl _ _ | assumption | refine Below.drew ?_ | refine balloc ?_ _ | refine bset ?_ (by simp; omega) _ | refine bset ?_ (by simp) _ | refine bstep ?_ (by assumption)))) g_1)
  replace oW := evtsRR.keep2 oW (by (repeat (first | exact Below.refl _ _ | assumption | refine Below.drew ?_ | refine balloc ?_ _ | refine bset ?_ (by simp; omega) _ | refine bset ?_ (by simp) _ | refine bstep ?_ (by assumption)))) hb14
  replace oCm := jrnR.keep2 oCm (by (repeat (first | exact Below.refl _ _ | assumption | refine Below.drew ?_ | refine balloc ?_ _ | refine bset ?_ (by simp; omega) _ | refine bset ?_ (by simp) _ | refine bstep ?_ (by assumption)))) hb14
  replace oGm := evtsRR.keep2 oGm (by (repeat (first | exact Below.refl _ _ | assumption | refine Below.drew ?_ | refine balloc ?_ _ | refine bset ?_ (by simp; omega) _ | refine bset ?_ (by simp) _ | refine bstep ?_ (by assumption)))) hb14
  clear hB13
  go_wp2
  go_ret
  exact ⟨rfl, hB14⟩
end Go.Proofs.YtecfelacdapdgaaGreat.eventsOfLaw

