import Derived.Test.YtedcfokhdkljaaaGreatPrnSettleAllLaw18
import Derived.Test.YtedcfokhdkljaaaGreatPrnSettleAllLaw6
import Derived.Deep.RegionHeld3
import Derived.Deep.DrawnRows
import Derived.Deep.DeepCutAuto

/-
  Proved: laws.FnExactSettleAll answers true at every argument, and its arguments read behind the call as they read before. No condition. (The walk.)
-/
namespace Go.Proofs.YtedcfokhdkljaaaGreat.settleAllLaw
open Go.RowKit
set_option linter.unusedSectionVars false
variable [DecidableEq Rw] [Inhabited Rw] [DecidableEq Bal] [Inhabited Bal] [DecidableEq Ledg] [Inhabited Ledg] [DecidableEq Leg] [Inhabited Leg] [DecidableEq Cont] [Inhabited Cont] [DecidableEq LedgR] [Inhabited LedgR] [DecidableEq OutcR] [Inhabited OutcR]
attribute [local go_sem ↓] Go.wp_at_zero Go.wp_at_succ

set_option maxHeartbeats 8000000 in
set_option maxRecDepth 20000 in
theorem walk (x0 : Value) (d0 : Ledg) (x1 : Value) (d1 : List Cont) (w : World) (hx0 : ledgR.V w x0 d0) (hx1 : contsR.V w x1 d1) :
    Calls Tryz.prog 3 #[x0, x1] w fun e w' => e = .returned (.bool true) ∧ Below w.heap.size w w' := by
  have hX0 := hx0
  obtain ⟨ax01, cx01, rfl⟩ := ledg_form hx0
  have hX1 := hx1
  obtain ⟨ax1, cx1, rfl⟩ := conts_form hx1
  go_enter Tryz.func3, Tryz.ntmps3
  go_wp2_with fail
  refine (szLedger_u _ d0 1048576 _ (ledgR.below hX0 (by (repeat (first | exact Below.refl _ _ | assumption | refine Below.drew ?_ | refine balloc ?_ _ | refine bset ?_ (by simp; omega) _ | refine bset ?_ (by simp) _ | refine bstep ?_ (by assumption))))) (by omega) (by omega)).mono ?_
  rintro e w1 ⟨rfl, hb1⟩
  have hB1 : Below w.heap.size w w1 := by (repeat (first | exact Below.refl _ _ | assumption | refine Below.drew ?_ | refine balloc ?_ _ | refine bset ?_ (by simp; omega) _ | refine bset ?_ (by simp) _ | refine bstep ?_ (by assumption)))
  have s1 := hb1.size
  try simp only [World.size_alloc] at s1
  have b0_0 : w1.cell? ⟨w.heap.size, 0, none⟩ = some (.slice ax01 d0.shards.length cx01) := cell_keep hb1 (by simp [go_sem])
  clear hb1
  by_cases hs0 : szLen 1048576 ((wtLedg d0 : Nat) : Int) < 0
  · go_wp2
    go_ret
    exact ⟨rfl, by (repeat (first | exact Below.refl _ _ | assumption | refine Below.drew ?_ | refine balloc ?_ _ | refine bset ?_ (by simp; omega) _ | refine bset ?_ (by simp) _ | refine bstep ?_ (by assumption)))⟩
  go_wp2_with fail
  refine (szContractS_u _ d1 (szLen 1048576 (wtLedg d0 : Nat)) _ (contsR.below hX1 (by (repeat (first | exact Below.refl _ _ | assumption | refine Below.drew ?_ | refine balloc ?_ _ | refine bset ?_ (by simp; omega) _ | refine bset ?_ (by simp) _ | refine bstep ?_ (by assumption))))) (by omega) (by have := szLen_le (left := 1048576) (n := wtLedg d0) (by omega); omega)).mono ?_
  rintro e w2 ⟨rfl, hb2⟩
  have hB2 : Below w.heap.size w w2 := by (repeat (first | exact Below.refl _ _ | assumption | refine Below.drew ?_ | refine balloc ?_ _ | refine bset ?_ (by simp; omega) _ | refine bset ?_ (by simp) _ | refine bstep ?_ (by assumption)))
  have s2 := hb2.size
  try simp only [World.size_alloc] at s2
  replace b0_0 := cell_keep hb2 (cell_keep (by (repeat (first | exact Below.refl _ _ | assumption | refine Below.drew ?_ | refine balloc ?_ _ | refine bset ?_ (by simp; omega) _ | refine bset ?_ (by simp) _ | refine bstep ?_ (by assumption)))) b0_0)
  clear hB1
  rw [szLen_add (n := wtLedg d0) (by omega)]
  clear hb2
  by_cases hsz : 1048576 < wtLedg d0 + wtConts d1
  · rw [show szLen 1048576 ((wtLedg d0 + wtConts d1 : Nat) : Int) = -1 by unfold szLen; rw [if_pos (by omega)]]
    go_wp2
    go_ret
    exact ⟨rfl, by (repeat (first | exact Below.refl _ _ | assumption | refine Below.drew ?_ | refine balloc ?_ _ | refine bset ?_ (by simp; omega) _ | refine bset ?_ (by simp) _ | refine bstep ?_ (by assumption)))⟩
  have e1 : szLen 1048576 ((wtLedg d0 + wtConts d1 : Nat) : Int) = 1048576 - ((wtLedg d0 + wtConts d1 : Nat) : Int) := by unfold szLen; rw [if_neg (by omega)]
  have e2 : ¬ (1048576 : Int) - ((wtLedg d0 + wtConts d1 : Nat) : Int) < 0 := by omega
  rw [e1]
  clear e1
  have hcA0 := ledg_cnt d0
  have hcA1 := conts_cnt d1
  have hwR : wtOutcR (allD d0 d1) ≤ 1048576 := by have := allD_le d0 d1; omega
  have hcR : (1 : Int) + cntOutcR (allD d0 d1) ≤ 1073741824 := by have := allD_le d0 d1; have := outcR_cnt (allD d0 d1); omega
  have hkA0 : (1 : Int) + cntLedg d0 ≤ 1073741824 := by omega
  have hkA1 : (1 : Int) + cntLedg d0 + cntConts d1 ≤ 1073741824 := by omega
  have hk1 : ¬ (1 : Int) + cntLedg d0 + cntConts d1 < 0 := by omega
  have hk2 : ¬ (1 : Int) + cntOutcR (allD d0 d1) < 0 := by omega
  go_wp2_with fail
  refine (toLedger_u _ d0 _ (ledgR.below hX0 (by (repeat (first | exact Below.refl _ _ | assumption | refine Below.drew ?_ | refine balloc ?_ _ | refine bset ?_ (by simp; omega) _ | refine bset ?_ (by simp) _ | refine bstep ?_ (by assumption))))) (by omega)).mono ?_
  rintro e w3 ⟨vS0, FS0, rfl, oS0, hb3⟩
  have hB3 : Below w.heap.size w w3 := by (repeat (first | exact Below.refl _ _ | assumption | refine Below.drew ?_ | refine balloc ?_ _ | refine bset ?_ (by simp; omega) _ | refine bset ?_ (by simp) _ | refine bstep ?_ (by assumption)))
  have s3 := hb3.size
  try simp only [World.size_alloc] at s3
  replace b0_0 := cell_keep hb3 (cell_keep (by (repeat (first | exact Below.refl _ _ | assumption | refine Below.drew ?_ | refine balloc ?_ _ | refine bset ?_ (by simp; omega) _ | refine bset ?_ (by simp) _ | refine bstep ?_ (by assumption)))) b0_0)
  clear hB2
  have roS0 : ∀ b, FS0 b → w2.heap.size ≤ b ∧ b < w3.heap.size := fun b hb => by
    have := ledgR.rng oS0 b hb
    try simp only [World.size_alloc] at this
    omega
  clear hb3
  have fS0 := ledgR.ofO oS0
  obtain ⟨as01, cs01, rfl⟩ := ledg_form fS0
  have z0 := World.block_lt_of_cell? _ _ b0_0
  dsimp only at z0
  go_wp2_with fail
  refine (toContractS_u _ d1 _ (contsR.below hX1 (by (repeat (first | exact Below.refl _ _ | assumption | refine Below.drew ?_ | refine balloc ?_ _ | refine bset ?_ (by simp; omega) _ | refine bset ?_ (by simp) _ | refine bstep ?_ (by assumption))))) (by omega)).mono ?_
  rintro e w4 ⟨vS1, FS1, rfl, oS1, hb4⟩
  have hB4 : Below w.heap.size w w4 := by (repeat (first | exact Below.refl _ _ | assumption | refine Below.drew ?_ | refine balloc ?_ _ | refine bset ?_ (by simp; omega) _ | refine bset ?_ (by simp) _ | refine bstep ?_ (by assumption)))
  have s4 := hb4.size
  try simp only [World.size_alloc] at s4
  replace b0_0 := cell_keep hb4 (cell_keep (by (repeat (first | exact Below.refl _ _ | assumption | refine Below.drew ?_ | refine balloc ?_ _ | refine bset ?_ (by simp; omega) _ | refine bset ?_ (by simp) _ | refine bstep ?_ (by assumption)))) b0_0)
  replace oS0 := ledgR.keep2 oS0 (by (repeat (first | exact Below.refl _ _ | assumption | refine Below.drew ?_ | refine balloc ?_ _ | refine bset ?_ (by simp; omega) _ | refine bset ?_ (by simp) _ | refine bstep ?_ (by assumption)))) hb4
  clear hB3
  have roS1 : ∀ b, FS1 b → w3.heap.size ≤ b ∧ b < w4.heap.size := fun b hb => by
    have := contsR.rng oS1 b hb
    try simp only [World.size_alloc] at this
    omega
  clear hb4
  have fS1 := contsR.ofO oS1
  obtain ⟨as1, cs1, rfl⟩ := conts_form fS1
  clear z0
  have z0 := World.block_lt_of_cell? _ _ b0_0
  dsimp only at z0
  go_wp2_with fail
  refine (specAll_u _ _ d0 d1 _ (ledgR.below (ledgR.ofO oS0) (by (repeat (first | exact Below.refl _ _ | assumption | refine Below.drew ?_ | refine balloc ?_ _ | refine bset ?_ (by simp; omega) _ | refine bset ?_ (by simp) _ | refine bstep ?_ (by assumption))))) (contsR.below (contsR.ofO oS1) (by (repeat (first | exact Below.refl _ _ | assumption | refine Below.drew ?_ | refine balloc ?_ _ | refine bset ?_ (by simp; omega) _ | refine bset ?_ (by simp) _ | refine bstep ?_ (by assumption)))))).mono ?_
  rintro e w5 ⟨vW, FW, rfl, oW, hb5⟩
  have hB5 : Below w.heap.size w w5 := by (repeat (first | exact Below.refl _ _ | assumption | refine Below.drew ?_ | refine balloc ?_ _ | refine bset ?_ (by simp; omega) _ | refine bset ?_ (by simp) _ | refine bstep ?_ (by assumption)))
  have s5 := hb5.size
  try simp only [World.size_alloc] at s5
  replace b0_0 := cell_keep hb5 (cell_keep (by (repeat (first | exact Below.refl _ _ | assumption | refine Below.drew ?_ | refine balloc ?_ _ | refine bset ?_ (by simp; omega) _ | refine bset ?_ (by simp) _ | refine bstep ?_ (by assumption)))) b0_0)
  replace oS0 := ledgR.keep2 oS0 (by (repeat (first | exact Below.refl _ _ | assumption | refine Below.drew ?_ | refine balloc ?_ _ | refine bset ?_ (by simp; omega) _ | refine bset ?_ (by simp) _ | refine bstep ?_ (by assumption)))) hb5
  replace oS1 := contsR.keep2 oS1 (by (repeat (first | exact Below.refl _ _ | assumption | refine Below.drew ?_ | refine balloc ?_ _ | refine bset ?_ (by simp; omega) _ | refine bset ?_ (by simp) _ | refine bstep ?_ (by assumption)))) hb5
  clear hB4
  have roW : ∀ b, FW b → w4.heap.size ≤ b ∧ b < w5.heap.size := fun b hb => by
    have := outcRR.rng oW b hb
    try simp only [World.size_alloc] at this
    omega
  clear hb5
  have fW := outcRR.ofO oW
  obtain ⟨aw1, aw2_1, cw1, cw2_1, rfl⟩ := outcR_form fW
  clear oS0 roS0 oS1 roS1
  clear z0
  have z0 := World.block_lt_of_cell? _ _ b0_0
  dsimp only at z0
  go_wp2_with fail
  refine (toLedger_u _ d0 _ (ledgR.below hX0 (by (repeat (first | exact Below.refl _ _ | assumption | refine Below.drew ?_ | refine balloc ?_ _ | refine bset ?_ (by simp; omega) _ | refine bset ?_ (by simp) _ | refine bstep ?_ (by assumption))))) (by omega)).mono ?_
  rintro e w6 ⟨vC0, FC0, rfl, oC0, hb6⟩
  have hB6 : Below w.heap.size w w6 := by (repeat (first | exact Below.refl _ _ | assumption | refine Below.drew ?_ | refine balloc ?_ _ | refine bset ?_ (by simp; omega) _ | refine bset ?_ (by simp) _ | refine bstep ?_ (by assumption)))
  have s6 := hb6.size
  try simp only [World.size_alloc] at s6
  replace b0_0 := cell_keep hb6 (cell_keep (by (repeat (first | exact Below.refl _ _ | assumption | refine Below.drew ?_ | refine balloc ?_ _ | refine bset ?_ (by simp; omega) _ | refine bset ?_ (by simp) _ | refine bstep ?_ (by assumption)))) b0_0)
  have q_0 : w6.cell? ⟨w5.heap.size, 0, none⟩ = some (.int .i64 (allD d0 d1).code) := cell_keep hb6 (by simp [go_sem])
  have q_1 : w6.cell? ⟨w5.heap.size, 1, none⟩ = some (.slice aw1 (allD d0 d1).outcomes.length cw1) := cell_keep hb6 (by simp [go_sem])
  have q_2 : w6.cell? ⟨w5.heap.size, 2, none⟩ = some (.slice aw2_1 (allD d0 d1).ledger.shards.length cw2_1) := cell_keep hb6 (by simp [go_sem])
  replace oW := outcRR.keep2 oW (by (repeat (first | exact Below.refl _ _ | assumption | refine Below.drew ?_ | refine balloc ?_ _ | refine bset ?_ (by simp; omega) _ | refine bset ?_ (by simp) _ | refine bstep ?_ (by assumption)))) hb6
  clear hB5
  have roC0 : ∀ b, FC0 b → w5.heap.size + 1 ≤ b ∧ b < w6.heap.size := fun b hb => by
    have := ledgR.rng oC0 b hb
    try simp only [World.size_alloc] at this
    omega
  clear hb6
  have fC0 := ledgR.ofO oC0
  obtain ⟨ay01, cy01, rfl⟩ := ledg_form fC0
  clear z0
  have z0 := World.block_lt_of_cell? _ _ b0_0
  dsimp only at z0
  have z1 := World.block_lt_of_cell? _ _ q_0
  dsimp only at z1
  go_wp2_with fail
  refine (toContractS_u _ d1 _ (contsR.below hX1 (by (repeat (first | exact Below.refl _ _ | assumption | refine Below.drew ?_ | refine balloc ?_ _ | refine bset ?_ (by simp; omega) _ | refine bset ?_ (by simp) _ | refine bstep ?_ (by assumption))))) (by omega)).mono ?_
  rintro e w7 ⟨vC1, FC1, rfl, oC1, hb7⟩
  have hB7 : Below w.heap.size w w7 := by (repeat (first | exact Below.refl _ _ | assumption | refine Below.drew ?_ | refine balloc ?_ _ | refine bset ?_ (by simp; omega) _ | refine bset ?_ (by simp) _ | refine bstep ?_ (by assumption)))
  have s7 := hb7.size
  try simp only [World.size_alloc] at s7
  replace b0_0 := cell_keep hb7 (cell_keep (by (repeat (first | exact Below.refl _ _ | assumption | refine Below.drew ?_ | refine balloc ?_ _ | refine bset ?_ (by simp; omega) _ | refine bset ?_ (by simp) _ | refine bstep ?_ (by assumption)))) b0_0)
  replace q_0 := cell_keep hb7 (cell_keep (by (repeat (first | exact Below.refl _ _ | assumption | refine Below.drew ?_ | refine balloc ?_ _ | refine bset ?_ (by simp; omega) _ | refine bset ?_ (by simp) _ | refine bstep ?_ (by assumption)))) q_0)
  replace q_1 := cell_keep hb7 (cell_keep (by (repeat (first | exact Below.refl _ _ | assumption | refine Below.drew ?_ | refine balloc ?_ _ | refine bset ?_ (by simp; omega) _ | refine bset ?_ (by simp) _ | refine bstep ?_ (by assumption)))) q_1)
  replace q_2 := cell_keep hb7 (cell_keep (by (repeat (first | exact Below.refl _ _ | assumption | refine Below.drew ?_ | refine balloc ?_ _ | refine bset ?_ (by simp; omega) _ | refine bset ?_ (by simp) _ | refine bstep ?_ (by assumption)))) q_2)
  have y0_0 : w7.cell? ⟨w6.heap.size, 0, none⟩ = some (.slice ay01 d0.shards.length cy01) := cell_keep hb7 (by simp [go_sem])
  replace oW := outcRR.keep2 oW (by (repeat (first | exact Below.refl _ _ | assumption | refine Below.drew ?_ | refine balloc ?_ _ | refine bset ?_ (by simp; omega) _ | refine bset ?_ (by simp) _ | refine bstep ?_ (by assumption)))) hb7
  replace oC0 := ledgR.keep2 oC0 (by (repeat (first | exact Below.refl _ _ | assumption | refine Below.drew ?_ | refine balloc ?_ _ | refine bset ?_ (by simp; omega) _ | refine bset ?_ (by simp) _ | refine bstep ?_ (by assumption)))) hb7
  clear hB6
  have roC1 : ∀ b, FC1 b → w6.heap.size + 1 ≤ b ∧ b < w7.heap.size := fun b hb => by
    have := contsR.rng oC1 b hb
    try simp only [World.size_alloc] at this
    omega
  clear hb7
  have fC1 := contsR.ofO oC1
  obtain ⟨ay1, cy1, rfl⟩ := conts_form fC1
  clear z0 z1
  have z0 := World.block_lt_of_cell? _ _ b0_0
  dsimp only at z0
  have z1 := World.block_lt_of_cell? _ _ q_0
  dsimp only at z1
  have z4 := World.block_lt_of_cell? _ _ y0_0
  dsimp only at z4
  go_wp2_with fail
  refine (implAll_u _ _ d0 d1 _ (ledgR.below (ledgR.ofO oC0) (by (repeat (first | exact Below.refl _ _ | assumption | refine Below.drew ?_ | refine balloc ?_ _ | refine bset ?_ (by simp; omega) _ | refine bset ?_ (by simp) _ | refine bstep ?_ (by assumption))))) (contsR.below (contsR.ofO oC1) (by (repeat (first | exact Below.refl _ _ | assumption | refine Below.drew ?_ | refine balloc ?_ _ | refine bset ?_ (by simp; omega) _ | refine bset ?_ (by simp) _ | refine bstep ?_ (by assumption)))))).mono ?_
  rintro e w8 ⟨vG, FG, rfl, oG, hb8⟩
  have hB8 : Below w.heap.size w w8 := by (repeat (first | exact Below.refl _ _ | assumption | refine Below.drew ?_ | refine balloc ?_ _ | refine bset ?_ (by simp; omega) _ | refine bset ?_ (by simp) _ | refine bstep ?_ (by assumption)))
  have s8 := hb8.size
  try simp only [World.size_alloc] at s8
  replace b0_0 := cell_keep hb8 (cell_keep (by (repeat (first | exact Below.refl _ _ | assumption | refine Below.drew ?_ | refine balloc ?_ _ | refine bset ?_ (by simp; omega) _ | refine bset ?_ (by simp) _ | refine bstep ?_ (by assumption)))) b0_0)
  replace q_0 := cell_keep hb8 (cell_keep (by (repeat (first | exact Below.refl _ _ | assumption | refine Below.drew ?_ | refine balloc ?_ _ | refine bset ?_ (by simp; omega) _ | refine bset ?_ (by simp) _ | refine bstep ?_ (by assumption)))) q_0)
  replace q_1 := cell_keep hb8 (cell_keep (by (repeat (first | exact Below.refl _ _ | assumption | refine Below.drew ?_ | refine balloc ?_ _ | refine bset ?_ (by simp; omega) _ | refine bset ?_ (by simp) _ | refine bstep ?_ (by assumption)))) q_1)
  replace q_2 := cell_keep hb8 (cell_keep (by (repeat (first | exact Below.refl _ _ | assumption | refine Below.drew ?_ | refine balloc ?_ _ | refine bset ?_ (by simp; omega) _ | refine bset ?_ (by simp) _ | refine bstep ?_ (by assumption)))) q_2)
  replace y0_0 := cell_keep hb8 (cell_keep (by (repeat (first | exact Below.refl _ _ | assumption | refine Below.drew ?_ | refine balloc ?_ _ | refine bset ?_ (by simp; omega) _ | refine bset ?_ (by simp) _ | refine bstep ?_ (by assumption)))) y0_0)
  replace oW := outcRR.keep2 oW (by (repeat (first | exact Below.refl _ _ | assumption | refine Below.drew ?_ | refine balloc ?_ _ | refine bset ?_ (by simp; omega) _ | refine bset ?_ (by simp) _ | refine bstep ?_ (by assumption)))) hb8
  replace oC0 := ledgR.keep2 oC0 (by (repeat (first | exact Below.refl _ _ | assumption | refine Below.drew ?_ | refine balloc ?_ _ | refine bset ?_ (by simp; omega) _ | refine bset ?_ (by simp) _ | refine bstep ?_ (by assumption)))) hb8
  replace oC1 := contsR.keep2 oC1 (by (repeat (first | exact Below.refl _ _ | assumption | refine Below.drew ?_ | refine balloc ?_ _ | refine bset ?_ (by simp; omega) _ | refine bset ?_ (by simp) _ | refine bstep ?_ (by assumption)))) hb8
  clear hB7
  have roG : ∀ b, FG b → w7.heap.size ≤ b ∧ b < w8.heap.size := fun b hb => by
    have := outcRR.rng oG b hb
    try simp only [World.size_alloc] at this
    omega
  clear hb8
  have fG := outcRR.ofO oG
  obtain ⟨ag1, ag2_1, cg1, cg2_1, rfl⟩ := outcR_form fG
  clear z0 z1 z4
  have z0 := World.block_lt_of_cell? _ _ b0_0
  dsimp only at z0
  have z1 := World.block_lt_of_cell? _ _ q_0
  dsimp only at z1
  have z4 := World.block_lt_of_cell? _ _ y0_0
  dsimp only at z4
  go_wp2_with fail
  refine (eqOutcomesResult_u _ _ (allD d0 d1) (allD d0 d1) _ (outcRR.below (outcRR.ofO oG) (by (repeat (first | exact Below.refl _ _ | assumption | refine Below.drew ?_ | refine balloc ?_ _ | refine bset ?_ (by simp; omega) _ | refine bset ?_ (by simp) _ | refine bstep ?_ (by assumption))))) (outcRR.below (outcRR.ofO oW) (by (repeat (first | exact Below.refl _ _ | assumption | refine Below.drew ?_ | refine balloc ?_ _ | refine bset ?_ (by simp; omega) _ | refine bset ?_ (by simp) _ | refine bstep ?_ (by assumption)))))).mono ?_
  rintro e w9 ⟨rfl, hb9⟩
  have hB9 : Below w.heap.size w w9 := by (repeat (first | exact Below.refl _ _ | assumption | refine Below.drew ?_ | refine balloc ?_ _ | refine bset ?_ (by simp; omega) _ | refine bset ?_ (by simp) _ | refine bstep ?_ (by assumption)))
  have s9 := hb9.size
  try simp only [World.size_alloc] at s9
  replace b0_0 := cell_keep hb9 (cell_keep (by (repeat (first | exact Below.refl _ _ | assumption | refine Below.drew ?_ | refine balloc ?_ _ | refine bset ?_ (by simp; omega) _ | refine bset ?_ (by simp) _ | refine bstep ?_ (by assumption)))) b0_0)
  replace q_0 := cell_keep hb9 (cell_keep (by (repeat (first | exact Below.refl _ _ | assumption | refine Below.drew ?_ | refine balloc ?_ _ | refine bset ?_ (by simp; omega) _ | refine bset ?_ (by simp) _ | refine bstep ?_ (by assumption)))) q_0)
  replace q_1 := cell_keep hb9 (cell_keep (by (repeat (first | exact Below.refl _ _ | assumption | refine Below.drew ?_ | refine balloc ?_ _ | refine bset ?_ (by simp; omega) _ | refine bset ?_ (by simp) _ | refine bstep ?_ (by assumption)))) q_1)
  replace q_2 := cell_keep hb9 (cell_keep (by (repeat (first | exact Below.refl _ _ | assumption | refine Below.drew ?_ | refine balloc ?_ _ | refine bset ?_ (by simp; omega) _ | refine bset ?_ (by simp) _ | refine bstep ?_ (by assumption)))) q_2)
  replace y0_0 := cell_keep hb9 (cell_keep (by (repeat (first | exact Below.refl _ _ | assumption | refine Below.drew ?_ | refine balloc ?_ _ | refine bset ?_ (by simp; omega) _ | refine bset ?_ (by simp) _ | refine bstep ?_ (by assumption)))) y0_0)
  have g_0 : w9.cell? ⟨w8.heap.size, 0, none⟩ = some (.int .i64 (allD d0 d1).code) := cell_keep hb9 (by simp [go_sem])
  have g_1 : w9.cell? ⟨w8.heap.size, 1, none⟩ = some (.slice ag1 (allD d0 d1).outcomes.length cg1) := cell_keep hb9 (by simp [go_sem])
  have g_2 : w9.cell? ⟨w8.heap.size, 2, none⟩ = some (.slice ag2_1 (allD d0 d1).ledger.shards.length cg2_1) := cell_keep hb9 (by simp [go_sem])
  replace oW := outcRR.keep2 oW (by (repeat (first | exact Below.refl _ _ | assumption | refine Below.drew ?_ | refine balloc ?_ _ | refine bset ?_ (by simp; omega) _ | refine bset ?_ (by simp) _ | refine bstep ?_ (by assumption)))) hb9
  replace oC0 := ledgR.keep2 oC0 (by (repeat (first | exact Below.refl _ _ | assumption | refine Below.drew ?_ | refine balloc ?_ _ | refine bset ?_ (by simp; omega) _ | refine bset ?_ (by simp) _ | refine bstep ?_ (by assumption)))) hb9
  replace oC1 := contsR.keep2 oC1 (by (repeat (first | exact Below.refl _ _ | assumption | refine Below.drew ?_ | refine balloc ?_ _ | refine bset ?_ (by simp; omega) _ | refine bset ?_ (by simp) _ | refine bstep ?_ (by assumption)))) hb9
  replace oG := outcRR.keep2 oG (by (repeat (first | exact Below.refl _ _ | assumption | refine Below.drew ?_ | refine balloc ?_ _ | refine bset ?_ (by simp; omega) _ | refine bset ?_ (by simp) _ | refine bstep ?_ (by assumption)))) hb9
  clear hB8
  clear hb9
  clear z0 z1 z4
  have z0 := World.block_lt_of_cell? _ _ b0_0
  dsimp only at z0
  have z1 := World.block_lt_of_cell? _ _ q_0
  dsimp only at z1
  have z4 := World.block_lt_of_cell? _ _ y0_0
  dsimp only at z4
  have z5 := World.block_lt_of_cell? _ _ g_0
  dsimp only at z5
  go_wp2
  have VC : ledgR.V w9 _ d0 := ledgR.ofO oC0
  go_region_held3 (fun w' => Below w9.heap.size w9 w' ∧ w'.cell? ⟨w.heap.size, 0, none⟩ = some (.slice ax01 d0.shards.length cx01) ∧ w'.cell? ⟨w5.heap.size, 0, none⟩ = some (.int .i64 (allD d0 d1).code) ∧ w'.cell? ⟨w5.heap.size, 1, none⟩ = some (.slice aw1 (allD d0 d1).outcomes.length cw1) ∧ w'.cell? ⟨w5.heap.size, 2, none⟩ = some (.slice aw2_1 (allD d0 d1).ledger.shards.length cw2_1) ∧ w'.cell? ⟨w6.heap.size, 0, none⟩ = some (.slice ay01 d0.shards.length cy01) ∧ w'.cell? ⟨w8.heap.size, 0, none⟩ = some (.int .i64 (allD d0 d1).code) ∧ w'.cell? ⟨w8.heap.size, 1, none⟩ = some (.slice ag1 (allD d0 d1).outcomes.length cg1) ∧ w'.cell? ⟨w8.heap.size, 2, none⟩ = some (.slice ag2_1 (allD d0 d1).ledger.shards.length cg2_1))
    ((refine keepN8 ?_ b0_0 q_0 q_1 q_2 y0_0 g_0 g_1 g_2; repeat (first | exact Below.refl _ _ | assumption | refine Below.drew ?_ | refine balloc ?_ _ | refine bstep ?_ (by assumption))))
    (first | (go_at_call 7; refine (toLedger_u _ d0 _ (ledgR.below hX0 (by (repeat (first | exact Below.refl _ _ | assumption | refine Below.drew ?_ | refine balloc ?_ _ | refine bset ?_ (by simp; omega) _ | refine bset ?_ (by simp) _ | refine bstep ?_ (by assumption))))) (by omega)).mono ?_; rintro e wD0 ⟨vE, FE, rfl, oE, hbD⟩; have fE := ledgR.ofO oE; obtain ⟨ae1, ce1, rfl⟩ := ledg_form fE) | (go_at_call 11; refine (eqLedger_u _ _ d0 d0 _ (ledgR.below VC (by (repeat (first | exact Below.refl _ _ | assumption | refine Below.drew ?_ | refine balloc ?_ _ | refine bset ?_ (by simp; omega) _ | refine bset ?_ (by simp) _ | refine bstep ?_ (by assumption))))) (ledgR.below (ledgR.ofO oE) (by (repeat (first | exact Below.refl _ _ | assumption | refine Below.drew ?_ | refine balloc ?_ _ | refine bset ?_ (by simp; omega) _ | refine bset ?_ (by simp) _ | refine bstep ?_ (by assumption)))))).mono ?_; rintro e wE0 ⟨rfl, hbE⟩))
  rename_i hH
  have hBE0 : Below w.heap.size w wE0 := bstep hB9 hH.1
  have sE0 := hH.1.size
  replace oW := outcRR.keep oW hH.1
  replace oC0 := ledgR.keep oC0 hH.1
  replace oC1 := contsR.keep oC1 hH.1
  replace oG := outcRR.keep oG hH.1
  obtain ⟨_, rb0_0, rq_0, rq_1, rq_2, ry0_0, rg_0, rg_1, rg_2⟩ := hH
  replace b0_0 := rb0_0
  replace q_0 := rq_0
  replace q_1 := rq_1
  replace q_2 := rq_2
  replace y0_0 := ry0_0
  replace g_0 := rg_0
  replace g_1 := rg_1
  replace g_2 := rg_2
  clear rb0_0 rq_0 rq_1 rq_2 ry0_0 rg_0 rg_1 rg_2 hB9 oE hbD hbE VC
  clear z0 z1 z4 z5
  have z0 := World.block_lt_of_cell? _ _ b0_0
  dsimp only at z0
  have z1 := World.block_lt_of_cell? _ _ q_0
  dsimp only at z1
  have z4 := World.block_lt_of_cell? _ _ y0_0
  dsimp only at z4
  have z5 := World.block_lt_of_cell? _ _ g_0
  dsimp only at z5
  go_wp2_with fail
  refine (toContractS_u _ d1 _ (contsR.below hX1 (by (repeat (first | exact Below.refl _ _ | assumption | refine Below.drew ?_ | refine balloc ?_ _ | refine bset ?_ (by simp; omega) _ | refine bset ?_ (by simp) _ | refine bstep ?_ (by assumption))))) (by omega)).mono ?_
  rintro e w10 ⟨vE1, FE1, rfl, oE1, hb10⟩
  have hB10 : Below w.heap.size w w10 := by (repeat (first | exact Below.refl _ _ | assumption | refine Below.drew ?_ | refine balloc ?_ _ | refine bset ?_ (by simp; omega) _ | refine bset ?_ (by simp) _ | refine bstep ?_ (by assumption)))
  have s10 := hb10.size
  try simp only [World.size_alloc] at s10
  replace b0_0 := cell_keep hb10 (cell_keep (by (repeat (first | exact Below.refl _ _ | assumption | refine Below.drew ?_ | refine balloc ?_ _ | refine bset ?_ (by simp; omega) _ | refine bset ?_ (by simp) _ | refine bstep ?_ (by assumption)))) b0_0)
  replace q_0 := cell_keep hb10 (cell_keep (by (repeat (first | exact Below.refl _ _ | assumption | refine Below.drew ?_ | refine balloc ?_ _ | refine bset ?_ (by simp; omega) _ | refine bset ?_ (by simp) _ | refine bstep ?_ (by assumption)))) q_0)
  replace q_1 := cell_keep hb10 (cell_keep (by (repeat (first | exact Below.refl _ _ | assumption | refine Below.drew ?_ | refine balloc ?_ _ | refine bset ?_ (by simp; omega) _ | refine bset ?_ (by simp) _ | refine bstep ?_ (by assumption)))) q_1)
  replace q_2 := cell_keep hb10 (cell_keep (by (repeat (first | exact Below.refl _ _ | assumption | refine Below.drew ?_ | refine balloc ?_ _ | refine bset ?_ (by simp; omega) _ | refine bset ?_ (by simp) _ | refine bstep ?_ (by assumption)))) q_2)
  replace y0_0 := cell_keep hb10 (cell_keep (by (repeat (first | exact Below.refl _ _ | assumption | refine Below.drew ?_ | refine balloc ?_ _ | refine bset ?_ (by simp; omega) _ | refine bset ?_ (by simp) _ | refine bstep ?_ (by assumption)))) y0_0)
  replace g_0 := cell_keep hb10 (cell_keep (by (repeat (first | exact Below.refl _ _ | assumption | refine Below.drew ?_ | refine balloc ?_ _ | refine bset ?_ (by simp; omega) _ | refine bset ?_ (by simp) _ | refine bstep ?_ (by assumption)))) g_0)
  replace g_1 := cell_keep hb10 (cell_keep (by (repeat (first | exact Below.refl _ _ | assumption | refine Below.drew ?_ | refine balloc ?_ _ | refine bset ?_ (by simp; omega) _ | refine bset ?_ (by simp) _ | refine bstep ?_ (by assumption)))) g_1)
  replace g_2 := cell_keep hb10 (cell_keep (by (repeat (first | exact Below.refl _ _ | assumption | refine Below.drew ?_ | refine balloc ?_ _ | refine bset ?_ (by simp; omega) _ | refine bset ?_ (by simp) _ | refine bstep ?_ (by assumption)))) g_2)
  replace oW := outcRR.keep2 oW (by (repeat (first | exact Below.refl _ _ | assumption | refine Below.drew ?_ | refine balloc ?_ _ | refine bset ?_ (by simp; omega) _ | refine bset ?_ (by simp) _ | refine bstep ?_ (by assumption)))) hb10
  replace oC0 := ledgR.keep2 oC0 (by (repeat (first | exact Below.refl _ _ | assumption | refine Below.drew ?_ | refine balloc ?_ _ | refine bset ?_ (by simp; omega) _ | refine bset ?_ (by simp) _ | refine bstep ?_ (by assumption)))) hb10
  replace oC1 := contsR.keep2 oC1 (by (repeat (first | exact Below.refl _ _ | assumption | refine Below.drew ?_ | refine balloc ?_ _ | refine bset ?_ (by simp; omega) _ | refine bset ?_ (by simp) _ | refine bstep ?_ (by assumption)))) hb10
  replace oG := outcRR.keep2 oG (by (repeat (first | exact Below.refl _ _ | assumption | refine Below.drew ?_ | refine balloc ?_ _ | refine bset ?_ (by simp; omega) _ | refine bset ?_ (by simp) _ | refine bstep ?_ (by assumption)))) hb10
  clear hBE0
  clear hb10
  have fE1 := contsR.ofO oE1
  obtain ⟨ae1, ce1, rfl⟩ := conts_form fE1
  clear z0 z1 z4 z5
  have z0 := World.block_lt_of_cell? _ _ b0_0
  dsimp only at z0
  have z1 := World.block_lt_of_cell? _ _ q_0
  dsimp only at z1
  have z4 := World.block_lt_of_cell? _ _ y0_0
  dsimp only at z4
  have z5 := World.block_lt_of_cell? _ _ g_0
  dsimp only at z5
  go_wp2_with fail
  refine (eqContractS_u _ _ d1 d1 _ (contsR.below (contsR.ofO oC1) (by (repeat (first | exact Below.refl _ _ | assumption | refine Below.drew ?_ | refine balloc ?_ _ | refine bset ?_ (by simp; omega) _ | refine bset ?_ (by simp) _ | refine bstep ?_ (by assumption))))) (contsR.below (contsR.ofO oE1) (by (repeat (first | exact Below.refl _ _ | assumption | refine Below.drew ?_ | refine balloc ?_ _ | refine bset ?_ (by simp; omega) _ | refine bset ?_ (by simp) _ | refine bstep ?_ (by assumption)))))).mono ?_
  rintro e w11 ⟨rfl, hb11⟩
  have hB11 : Below w.heap.size w w11 := by (repeat (first | exact Below.refl _ _ | assumption | refine Below.drew ?_ | refine balloc ?_ _ | refine bset ?_ (by simp; omega) _ | refine bset ?_ (by simp) _ | refine bstep ?_ (by assumption)))
  have s11 := hb11.size
  try simp only [World.size_alloc] at s11
  replace b0_0 := cell_keep hb11 (cell_keep (by (repeat (first | exact Below.refl _ _ | assumption | refine Below.drew ?_ | refine balloc ?_ _ | refine bset ?_ (by simp; omega) _ | refine bset ?_ (by simp) _ | refine bstep ?_ (by assumption)))) b0_0)
  replace q_0 := cell_keep hb11 (cell_keep (by (repeat (first | exact Below.refl _ _ | assumption | refine Below.drew ?_ | refine balloc ?_ _ | refine bset ?_ (by simp; omega) _ | refine bset ?_ (by simp) _ | refine bstep ?_ (by assumption)))) q_0)
  replace q_1 := cell_keep hb11 (cell_keep (by (repeat (first | exact Below.refl _ _ | assumption | refine Below.drew ?_ | refine balloc ?_ _ | refine bset ?_ (by simp; omega) _ | refine bset ?_ (by simp) _ | refine bstep ?_ (by assumption)))) q_1)
  replace q_2 := cell_keep hb11 (cell_keep (by (repeat (first | exact Below.refl _ _ | assumption | refine Below.drew ?_ | refine balloc ?_ _ | refine bset ?_ (by simp; omega) _ | refine bset ?_ (by simp) _ | refine bstep ?_ (by assumption)))) q_2)
  replace y0_0 := cell_keep hb11 (cell_keep (by (repeat (first | exact Below.refl _ _ | assumption | refine Below.drew ?_ | refine balloc ?_ _ | refine bset ?_ (by simp; omega) _ | refine bset ?_ (by simp) _ | refine bstep ?_ (by assumption)))) y0_0)
  replace g_0 := cell_keep hb11 (cell_keep (by (repeat (first | exact Below.refl _ _ | assumption | refine Below.drew ?_ | refine balloc ?_ _ | refine bset ?_ (by simp; omega) _ | refine bset ?_ (by simp) _ | refine bstep ?_ (by assumption)))) g_0)
  replace g_1 := cell_keep hb11 (cell_keep (by (repeat (first | exact Below.refl _ _ | assumption | refine Below.drew ?_ | refine balloc ?_ _ | refine bset ?_ (by simp; omega) _ | refine bset ?_ (by simp) _ | refine bstep ?_ (by assumption)))) g_1)
  replace g_2 := cell_keep hb11 (cell_keep (by (repeat (first | exact Below.refl _ _ | assumption | refine Below.drew ?_ | refine balloc ?_ _ | refine bset ?_ (by simp; omega) _ | refine bset ?_ (by simp) _ | refine bstep ?_ (by assumption)))) g_2)
  replace oW := outcRR.keep2 oW (by (repeat (first | exact Below.refl _ _ | assumption | refine Below.drew ?_ | refine balloc ?_ _ | refine bset ?_ (by simp; omega) _ | refine bset ?_ (by simp) _ | refine bstep ?_ (by assumption)))) hb11
  replace oC0 := ledgR.keep2 oC0 (by (repeat (first | exact Below.refl _ _ | assumption | refine Below.drew ?_ | refine balloc ?_ _ | refine bset ?_ (by simp; omega) _ | refine bset ?_ (by simp) _ | refine bstep ?_ (by assumption)))) hb11
  replace oC1 := contsR.keep2 oC1 (by (repeat (first | exact Below.refl _ _ | assumption | refine Below.drew ?_ | refine balloc ?_ _ | refine bset ?_ (by simp; omega) _ | refine bset ?_ (by simp) _ | refine bstep ?_ (by assumption)))) hb11
  replace oG := outcRR.keep2 oG (by (repeat (first | exact Below.refl _ _ | assumption | refine Below.drew ?_ | refine balloc ?_ _ | refine bset ?_ (by simp; omega) _ | refine bset ?_ (by simp) _ | refine bstep ?_ (by assumption)))) hb11
  clear hB10
  clear hb11
  clear oE1
  clear z0 z1 z4 z5
  have z0 := World.block_lt_of_cell? _ _ b0_0
  dsimp only at z0
  have z1 := World.block_lt_of_cell? _ _ q_0
  dsimp only at z1
  have z4 := World.block_lt_of_cell? _ _ y0_0
  dsimp only at z4
  have z5 := World.block_lt_of_cell? _ _ g_0
  dsimp only at z5
  go_wp2_with fail
  refine (markLedger_u _ d0 _ FC0 1 _ oC0 (by omega) hkA0 (by omega)).mono ?_
  rintro e w12 ⟨rfl, oC0m, m12⟩
  have hB12 : Below w.heap.size w w12 := m12.below hB11 hB11.size (fun b hb => by have := roC0 b hb; omega)
  have s12 := m12.size
  replace b0_0 := m12.cell b0_0 (fun hf => by have := roC0 _ hf; dsimp only at this; omega)
  replace q_0 := m12.cell q_0 (fun hf => by have := roC0 _ hf; dsimp only at this; omega)
  replace q_1 := m12.cell q_1 (fun hf => by have := roC0 _ hf; dsimp only at this; omega)
  replace q_2 := m12.cell q_2 (fun hf => by have := roC0 _ hf; dsimp only at this; omega)
  replace y0_0 := m12.cell y0_0 (fun hf => by have := roC0 _ hf; dsimp only at this; omega)
  replace g_0 := m12.cell g_0 (fun hf => by have := roC0 _ hf; dsimp only at this; omega)
  replace g_1 := m12.cell g_1 (fun hf => by have := roC0 _ hf; dsimp only at this; omega)
  replace g_2 := m12.cell g_2 (fun hf => by have := roC0 _ hf; dsimp only at this; omega)
  replace oW := outcRR.mod oW m12 (fun b p q => by have := roW b p; have := roC0 b q; omega)
  replace oC1 := contsR.mod oC1 m12 (fun b p q => by have := roC1 b p; have := roC0 b q; omega)
  replace oG := outcRR.mod oG m12 (fun b p q => by have := roG b p; have := roC0 b q; omega)
  clear hB11 oC0 m12
  clear z0 z1 z4 z5
  have z0 := World.block_lt_of_cell? _ _ b0_0
  dsimp only at z0
  have z1 := World.block_lt_of_cell? _ _ q_0
  dsimp only at z1
  have z4 := World.block_lt_of_cell? _ _ y0_0
  dsimp only at z4
  have z5 := World.block_lt_of_cell? _ _ g_0
  dsimp only at z5
  go_wp2_with fail
  refine (markContractS_u _ d1 _ FC1 ((1 : Int) + cntLedg d0) _ oC1 (by omega) hkA1 (by omega)).mono ?_
  rintro e w13 ⟨rfl, oC1m, m13⟩
  have hB13 : Below w.heap.size w w13 := m13.below hB12 hB12.size (fun b hb => by have := roC1 b hb; omega)
  have s13 := m13.size
  replace b0_0 := m13.cell b0_0 (fun hf => by have := roC1 _ hf; dsimp only at this; omega)
  replace q_0 := m13.cell q_0 (fun hf => by have := roC1 _ hf; dsimp only at this; omega)
  replace q_1 := m13.cell q_1 (fun hf => by have := roC1 _ hf; dsimp only at this; omega)
  replace q_2 := m13.cell q_2 (fun hf => by have := roC1 _ hf; dsimp only at this; omega)
  replace y0_0 := m13.cell y0_0 (fun hf => by have := roC1 _ hf; dsimp only at this; omega)
  replace g_0 := m13.cell g_0 (fun hf => by have := roC1 _ hf; dsimp only at this; omega)
  replace g_1 := m13.cell g_1 (fun hf => by have := roC1 _ hf; dsimp only at this; omega)
  replace g_2 := m13.cell g_2 (fun hf => by have := roC1 _ hf; dsimp only at this; omega)
  replace oW := outcRR.mod oW m13 (fun b p q => by have := roW b p; have := roC1 b q; omega)
  replace oG := outcRR.mod oG m13 (fun b p q => by have := roG b p; have := roC1 b q; omega)
  replace oC0m := ledgR.mod oC0m m13 (fun b p q => by have := roC0 b p; have := roC1 b q; omega)
  clear hB12 oC1 m13
  clear z0 z1 z4 z5
  have z0 := World.block_lt_of_cell? _ _ b0_0
  dsimp only at z0
  have z1 := World.block_lt_of_cell? _ _ q_0
  dsimp only at z1
  have z4 := World.block_lt_of_cell? _ _ y0_0
  dsimp only at z4
  have z5 := World.block_lt_of_cell? _ _ g_0
  dsimp only at z5
  go_wp2_with fail
  refine (eqOutcomesResult_u _ _ (allD d0 d1) (allD d0 d1) _ (outcRR.below (outcRR.ofO oG) (by (repeat (first | exact Below.refl _ _ | assumption | refine Below.drew ?_ | refine balloc ?_ _ | refine bset ?_ (by simp; omega) _ | refine bset ?_ (by simp) _ | refine bstep ?_ (by assumption))))) (outcRR.below (outcRR.ofO oW) (by (repeat (first | exact Below.refl _ _ | assumption | refine Below.drew ?_ | refine balloc ?_ _ | refine bset ?_ (by simp; omega) _ | refine bset ?_ (by simp) _ | refine bstep ?_ (by assumption)))))).mono ?_
  rintro e w14 ⟨rfl, hb14⟩
  have hB14 : Below w.heap.size w w14 := by (repeat (first | exact Below.refl _ _ | assumption | refine Below.drew ?_ | refine balloc ?_ _ | refine bset ?_ (by simp; omega) _ | refine bset ?_ (by simp) _ | refine bstep ?_ (by assumption)))
  have s14 := hb14.size
  try simp only [World.size_alloc] at s14
  replace b0_0 := cell_keep hb14 (cell_keep (by (repeat (first | exact Below.refl _ _ | assumption | refine Below.drew ?_ | refine balloc ?_ _ | refine bset ?_ (by simp; omega) _ | refine bset ?_ (by simp) _ | refine bstep ?_ (by assumption)))) b0_0)
  replace q_0 := cell_keep hb14 (cell_keep (by (repeat (first | exact Below.refl _ _ | assumption | refine Below.drew ?_ | refine balloc ?_ _ | refine bset ?_ (by simp; omega) _ | refine bset ?_ (by simp) _ | refine bstep ?_ (by assumption)))) q_0)
  replace q_1 := cell_keep hb14 (cell_keep (by (repeat (first | exact Below.refl _ _ | assumption | refine Below.drew ?_ | refine balloc ?_ _ | refine bset ?_ (by simp; omega) _ | refine bset ?_ (by simp) _ | refine bstep ?_ (by assumption)))) q_1)
  replace q_2 := cell_keep hb14 (cell_keep (by (repeat (first | exact Below.refl _ _ | assumption | refine Below.drew ?_ | refine balloc ?_ _ | refine bset ?_ (by simp; omega) _ | refine bset ?_ (by simp) _ | refine bstep ?_ (by assumption)))) q_2)
  replace y0_0 := cell_keep hb14 (cell_keep (by (repeat (first | exact Below.refl _ _ | assumption | refine Below.drew ?_ | refine balloc ?_ _ | refine bset ?_ (by simp; omega) _ | refine bset ?_ (by simp) _ | refine bstep ?_ (by assumption)))) y0_0)
  replace g_0 := cell_keep hb14 (cell_keep (by (repeat (first | exact Below.refl _ _ | assumption | refine Below.drew ?_ | refine balloc ?_ _ | refine bset ?_ (by simp; omega) _ | refine bset ?_ (by simp) _ | refine bstep ?_ (by assumption)))) g_0)
  replace g_1 := cell_keep hb14 (cell_keep (by (repeat (first | exact Below.refl _ _ | assumption | refine Below.drew ?_ | refine balloc ?_ _ | refine bset ?_ (by simp; omega) _ | refine bset ?_ (by simp) _ | refine bstep ?_ (by assumption)))) g_1)
  replace g_2 := cell_keep hb14 (cell_keep (by (repeat (first | exact Below.refl _ _ | assumption | refine Below.drew ?_ | refine balloc ?_ _ | refine bset ?_ (by simp; omega) _ | refine bset ?_ (by simp) _ | refine bstep ?_ (by assumption)))) g_2)
  replace oW := outcRR.keep2 oW (by (repeat (first | exact Below.refl _ _ | assumption | refine Below.drew ?_ | refine balloc ?_ _ | refine bset ?_ (by simp; omega) _ | refine bset ?_ (by simp) _ | refine bstep ?_ (by assumption)))) hb14
  replace oG := outcRR.keep2 oG (by (repeat (first | exact Below.refl _ _ | assumption | refine Below.drew ?_ | refine balloc ?_ _ | refine bset ?_ (by simp; omega) _ | refine bset ?_ (by simp) _ | refine bstep ?_ (by assumption)))) hb14
  replace oC0m := ledgR.keep2 oC0m (by (repeat (first | exact Below.refl _ _ | assumption | refine Below.drew ?_ | refine balloc ?_ _ | refine bset ?_ (by simp; omega) _ | refine bset ?_ (by simp) _ | refine bstep ?_ (by assumption)))) hb14
  replace oC1m := contsR.keep2 oC1m (by (repeat (first | exact Below.refl _ _ | assumption | refine Below.drew ?_ | refine balloc ?_ _ | refine bset ?_ (by simp; omega) _ | refine bset ?_ (by simp) _ | refine bstep ?_ (by assumption)))) hb14
  clear hB13
  clear hb14
  clear z0 z1 z4 z5
  have z0 := World.block_lt_of_cell? _ _ b0_0
  dsimp only at z0
  have z1 := World.block_lt_of_cell? _ _ q_0
  dsimp only at z1
  have z4 := World.block_lt_of_cell? _ _ y0_0
  dsimp only at z4
  have z5 := World.block_lt_of_cell? _ _ g_0
  dsimp only at z5
  go_wp2_with fail
  refine (markOutcomesResult_u _ (allD d0 d1) _ FG 1 _ oG hwR hcR (by omega)).mono ?_
  rintro e w15 ⟨rfl, oGm, m15⟩
  have hB15 : Below w.heap.size w w15 := m15.below hB14 hB14.size (fun b hb => by have := roG b hb; omega)
  have s15 := m15.size
  replace b0_0 := m15.cell b0_0 (fun hf => by have := roG _ hf; dsimp only at this; omega)
  replace q_0 := m15.cell q_0 (fun hf => by have := roG _ hf; dsimp only at this; omega)
  replace q_1 := m15.cell q_1 (fun hf => by have := roG _ hf; dsimp only at this; omega)
  replace q_2 := m15.cell q_2 (fun hf => by have := roG _ hf; dsimp only at this; omega)
  replace y0_0 := m15.cell y0_0 (fun hf => by have := roG _ hf; dsimp only at this; omega)
  replace g_0 := m15.cell g_0 (fun hf => by have := roG _ hf; dsimp only at this; omega)
  replace g_1 := m15.cell g_1 (fun hf => by have := roG _ hf; dsimp only at this; omega)
  replace g_2 := m15.cell g_2 (fun hf => by have := roG _ hf; dsimp only at this; omega)
  replace oW := outcRR.mod oW m15 (fun b p q => by have := roW b p; have := roG b q; omega)
  replace oC0m := ledgR.mod oC0m m15 (fun b p q => by have := roC0 b p; have := roG b q; omega)
  replace oC1m := contsR.mod oC1m m15 (fun b p q => by have := roC1 b p; have := roG b q; omega)
  clear hB14 oG m15
  clear z0 z1 z4 z5
  have z0 := World.block_lt_of_cell? _ _ b0_0
  dsimp only at z0
  have z1 := World.block_lt_of_cell? _ _ q_0
  dsimp only at z1
  have z4 := World.block_lt_of_cell? _ _ y0_0
  dsimp only at z4
  have z5 := World.block_lt_of_cell? _ _ g_0
  dsimp only at z5
  go_wp2_with fail
  refine (heldOutcomesResult_u _ (allD d0 d1) 1 _ (outcRR.below (outcRR.ofO oGm) (by (repeat (first | exact Below.refl _ _ | assumption | refine Below.drew ?_ | refine balloc ?_ _ | refine bset ?_ (by simp; omega) _ | refine bset ?_ (by simp) _ | refine bstep ?_ (by assumption))))) hwR hcR (by omega)).mono ?_
  rintro e w16 ⟨rfl, hb16⟩
  have hB16 : Below w.heap.size w w16 := by (repeat (first | exact Below.refl _ _ | assumption | refine Below.drew ?_ | refine balloc ?_ _ | refine bset ?_ (by simp; omega) _ | refine bset ?_ (by simp) _ | refine bstep ?_ (by assumption)))
  have s16 := hb16.size
  try simp only [World.size_alloc] at s16
  replace b0_0 := cell_keep hb16 (cell_keep (by (repeat (first | exact Below.refl _ _ | assumption | refine Below.drew ?_ | refine balloc ?_ _ | refine bset ?_ (by simp; omega) _ | refine bset ?_ (by simp) _ | refine bstep ?_ (by assumption)))) b0_0)
  replace q_0 := cell_keep hb16 (cell_keep (by (repeat (first | exact Below.refl _ _ | assumption | refine Below.drew ?_ | refine balloc ?_ _ | refine bset ?_ (by simp; omega) _ | refine bset ?_ (by simp) _ | refine bstep ?_ (by assumption)))) q_0)
  replace q_1 := cell_keep hb16 (cell_keep (by (repeat (first | exact Below.refl _ _ | assumption | refine Below.drew ?_ | refine balloc ?_ _ | refine bset ?_ (by simp; omega) _ | refine bset ?_ (by simp) _ | refine bstep ?_ (by assumption)))) q_1)
  replace q_2 := cell_keep hb16 (cell_keep (by (repeat (first | exact Below.refl _ _ | assumption | refine Below.drew ?_ | refine balloc ?_ _ | refine bset ?_ (by simp; omega) _ | refine bset ?_ (by simp) _ | refine bstep ?_ (by assumption)))) q_2)
  replace y0_0 := cell_keep hb16 (cell_keep (by (repeat (first | exact Below.refl _ _ | assumption | refine Below.drew ?_ | refine balloc ?_ _ | refine bset ?_ (by simp; omega) _ | refine bset ?_ (by simp) _ | refine bstep ?_ (by assumption)))) y0_0)
  replace g_0 := cell_keep hb16 (cell_keep (by (repeat (first | exact Below.refl _ _ | assumption | refine Below.drew ?_ | refine balloc ?_ _ | refine bset ?_ (by simp; omega) _ | refine bset ?_ (by simp) _ | refine bstep ?_ (by assumption)))) g_0)
  replace g_1 := cell_keep hb16 (cell_keep (by (repeat (first | exact Below.refl _ _ | assumption | refine Below.drew ?_ | refine balloc ?_ _ | refine bset ?_ (by simp; omega) _ | refine bset ?_ (by simp) _ | refine bstep ?_ (by assumption)))) g_1)
  replace g_2 := cell_keep hb16 (cell_keep (by (repeat (first | exact Below.refl _ _ | assumption | refine Below.drew ?_ | refine balloc ?_ _ | refine bset ?_ (by simp; omega) _ | refine bset ?_ (by simp) _ | refine bstep ?_ (by assumption)))) g_2)
  replace oW := outcRR.keep2 oW (by (repeat (first | exact Below.refl _ _ | assumption | refine Below.drew ?_ | refine balloc ?_ _ | refine bset ?_ (by simp; omega) _ | refine bset ?_ (by simp) _ | refine bstep ?_ (by assumption)))) hb16
  replace oC0m := ledgR.keep2 oC0m (by (repeat (first | exact Below.refl _ _ | assumption | refine Below.drew ?_ | refine balloc ?_ _ | refine bset ?_ (by simp; omega) _ | refine bset ?_ (by simp) _ | refine bstep ?_ (by assumption)))) hb16
  replace oC1m := contsR.keep2 oC1m (by (repeat (first | exact Below.refl _ _ | assumption | refine Below.drew ?_ | refine balloc ?_ _ | refine bset ?_ (by simp; omega) _ | refine bset ?_ (by simp) _ | refine bstep ?_ (by assumption)))) hb16
  replace oGm := outcRR.keep2 oGm (by (repeat (first | exact Below.refl _ _ | assumption | refine Below.drew ?_ | refine balloc ?_ _ | refine bset ?_ (by simp; omega) _ | refine bset ?_ (by simp) _ | refine bstep ?_ (by assumption)))) hb16
  clear hB15
  clear hb16
  clear z0 z1 z4 z5
  have z0 := World.block_lt_of_cell? _ _ b0_0
  dsimp only at z0
  have z1 := World.block_lt_of_cell? _ _ q_0
  dsimp only at z1
  have z4 := World.block_lt_of_cell? _ _ y0_0
  dsimp only at z4
  have z5 := World.block_lt_of_cell? _ _ g_0
  dsimp only at z5
  go_wp2_with fail
  refine (toLedger_u _ d0 _ (ledgR.below hX0 (by (repeat (first | exact Below.refl _ _ | assumption | refine Below.drew ?_ | refine balloc ?_ _ | refine bset ?_ (by simp; omega) _ | refine bset ?_ (by simp) _ | refine bstep ?_ (by assumption))))) (by omega)).mono ?_
  rintro e w17 ⟨vH0, FH0, rfl, oH0, hb17⟩
  have hB17 : Below w.heap.size w w17 := by (repeat (first | exact Below.refl _ _ | assumption | refine Below.drew ?_ | refine balloc ?_ _ | refine bset ?_ (by simp; omega) _ | refine bset ?_ (by simp) _ | refine bstep ?_ (by assumption)))
  have s17 := hb17.size
  try simp only [World.size_alloc] at s17
  replace b0_0 := cell_keep hb17 (cell_keep (by (repeat (first | exact Below.refl _ _ | assumption | refine Below.drew ?_ | refine balloc ?_ _ | refine bset ?_ (by simp; omega) _ | refine bset ?_ (by simp) _ | refine bstep ?_ (by assumption)))) b0_0)
  replace q_0 := cell_keep hb17 (cell_keep (by (repeat (first | exact Below.refl _ _ | assumption | refine Below.drew ?_ | refine balloc ?_ _ | refine bset ?_ (by simp; omega) _ | refine bset ?_ (by simp) _ | refine bstep ?_ (by assumption)))) q_0)
  replace q_1 := cell_keep hb17 (cell_keep (by (repeat (first | exact Below.refl _ _ | assumption | refine Below.drew ?_ | refine balloc ?_ _ | refine bset ?_ (by simp; omega) _ | refine bset ?_ (by simp) _ | refine bstep ?_ (by assumption)))) q_1)
  replace q_2 := cell_keep hb17 (cell_keep (by (repeat (first | exact Below.refl _ _ | assumption | refine Below.drew ?_ | refine balloc ?_ _ | refine bset ?_ (by simp; omega) _ | refine bset ?_ (by simp) _ | refine bstep ?_ (by assumption)))) q_2)
  replace y0_0 := cell_keep hb17 (cell_keep (by (repeat (first | exact Below.refl _ _ | assumption | refine Below.drew ?_ | refine balloc ?_ _ | refine bset ?_ (by simp; omega) _ | refine bset ?_ (by simp) _ | refine bstep ?_ (by assumption)))) y0_0)
  replace g_0 := cell_keep hb17 (cell_keep (by (repeat (first | exact Below.refl _ _ | assumption | refine Below.drew ?_ | refine balloc ?_ _ | refine bset ?_ (by simp; omega) _ | refine bset ?_ (by simp) _ | refine bstep ?_ (by assumption)))) g_0)
  replace g_1 := cell_keep hb17 (cell_keep (by (repeat (first | exact Below.refl _ _ | assumption | refine Below.drew ?_ | refine balloc ?_ _ | refine bset ?_ (by simp; omega) _ | refine bset ?_ (by simp) _ | refine bstep ?_ (by assumption)))) g_1)
  replace g_2 := cell_keep hb17 (cell_keep (by (repeat (first | exact Below.refl _ _ | assumption | refine Below.drew ?_ | refine balloc ?_ _ | refine bset ?_ (by simp; omega) _ | refine bset ?_ (by simp) _ | refine bstep ?_ (by assumption)))) g_2)
  replace oW := outcRR.keep2 oW (by (repeat (first | exact Below.refl _ _ | assumption | refine Below.drew ?_ | refine balloc ?_ _ | refine bset ?_ (by simp; omega) _ | refine bset ?_ (by simp) _ | refine bstep ?_ (by assumption)))) hb17
  replace oC0m := ledgR.keep2 oC0m (by (repeat (first | exact Below.refl _ _ | assumption | refine Below.drew ?_ | refine balloc ?_ _ | refine bset ?_ (by simp; omega) _ | refine bset ?_ (by simp) _ | refine bstep ?_ (by assumption)))) hb17
  replace oC1m := contsR.keep2 oC1m (by (repeat (first | exact Below.refl _ _ | assumption | refine Below.drew ?_ | refine balloc ?_ _ | refine bset ?_ (by simp; omega) _ | refine bset ?_ (by simp) _ | refine bstep ?_ (by assumption)))) hb17
  replace oGm := outcRR.keep2 oGm (by (repeat (first | exact Below.refl _ _ | assumption | refine Below.drew ?_ | refine balloc ?_ _ | refine bset ?_ (by simp; omega) _ | refine bset ?_ (by simp) _ | refine bstep ?_ (by assumption)))) hb17
  clear hB16
  have roH0 : ∀ b, FH0 b → w16.heap.size ≤ b ∧ b < w17.heap.size := fun b hb => by
    have := ledgR.rng oH0 b hb
    try simp only [World.size_alloc] at this
    omega
  clear hb17
  have fH0 := ledgR.ofO oH0
  obtain ⟨ah01, ch01, rfl⟩ := ledg_form fH0
  clear z0 z1 z4 z5
  have z0 := World.block_lt_of_cell? _ _ b0_0
  dsimp only at z0
  have z1 := World.block_lt_of_cell? _ _ q_0
  dsimp only at z1
  have z4 := World.block_lt_of_cell? _ _ y0_0
  dsimp only at z4
  have z5 := World.block_lt_of_cell? _ _ g_0
  dsimp only at z5
  go_wp2_with fail
  refine (toContractS_u _ d1 _ (contsR.below hX1 (by (repeat (first | exact Below.refl _ _ | assumption | refine Below.drew ?_ | refine balloc ?_ _ | refine bset ?_ (by simp; omega) _ | refine bset ?_ (by simp) _ | refine bstep ?_ (by assumption))))) (by omega)).mono ?_
  rintro e w18 ⟨vH1, FH1, rfl, oH1, hb18⟩
  have hB18 : Below w.heap.size w w18 := by (repeat (first | exact Below.refl _ _ | assumption | refine Below.drew ?_ | refine balloc ?_ _ | refine bset ?_ (by simp; omega) _ | refine bset ?_ (by simp) _ | refine bstep ?_ (by assumption)))
  have s18 := hb18.size
  try simp only [World.size_alloc] at s18
  replace b0_0 := cell_keep hb18 (cell_keep (by (repeat (first | exact Below.refl _ _ | assumption | refine Below.drew ?_ | refine balloc ?_ _ | refine bset ?_ (by simp; omega) _ | refine bset ?_ (by simp) _ | refine bstep ?_ (by assumption)))) b0_0)
  replace q_0 := cell_keep hb18 (cell_keep (by (repeat (first | exact Below.refl _ _ | assumption | refine Below.drew ?_ | refine balloc ?_ _ | refine bset ?_ (by simp; omega) _ | refine bset ?_ (by simp) _ | refine bstep ?_ (by assumption)))) q_0)
  replace q_1 := cell_keep hb18 (cell_keep (by (repeat (first | exact Below.refl _ _ | assumption | refine Below.drew ?_ | refine balloc ?_ _ | refine bset ?_ (by simp; omega) _ | refine bset ?_ (by simp) _ | refine bstep ?_ (by assumption)))) q_1)
  replace q_2 := cell_keep hb18 (cell_keep (by (repeat (first | exact Below.refl _ _ | assumption | refine Below.drew ?_ | refine balloc ?_ _ | refine bset ?_ (by simp; omega) _ | refine bset ?_ (by simp) _ | refine bstep ?_ (by assumption)))) q_2)
  replace y0_0 := cell_keep hb18 (cell_keep (by (repeat (first | exact Below.refl _ _ | assumption | refine Below.drew ?_ | refine balloc ?_ _ | refine bset ?_ (by simp; omega) _ | refine bset ?_ (by simp) _ | refine bstep ?_ (by assumption)))) y0_0)
  replace g_0 := cell_keep hb18 (cell_keep (by (repeat (first | exact Below.refl _ _ | assumption | refine Below.drew ?_ | refine balloc ?_ _ | refine bset ?_ (by simp; omega) _ | refine bset ?_ (by simp) _ | refine bstep ?_ (by assumption)))) g_0)
  replace g_1 := cell_keep hb18 (cell_keep (by (repeat (first | exact Below.refl _ _ | assumption | refine Below.drew ?_ | refine balloc ?_ _ | refine bset ?_ (by simp; omega) _ | refine bset ?_ (by simp) _ | refine bstep ?_ (by assumption)))) g_1)
  replace g_2 := cell_keep hb18 (cell_keep (by (repeat (first | exact Below.refl _ _ | assumption | refine Below.drew ?_ | refine balloc ?_ _ | refine bset ?_ (by simp; omega) _ | refine bset ?_ (by simp) _ | refine bstep ?_ (by assumption)))) g_2)
  replace oW := outcRR.keep2 oW (by (repeat (first | exact Below.refl _ _ | assumption | refine Below.drew ?_ | refine balloc ?_ _ | refine bset ?_ (by simp; omega) _ | refine bset ?_ (by simp) _ | refine bstep ?_ (by assumption)))) hb18
  replace oC0m := ledgR.keep2 oC0m (by (repeat (first | exact Below.refl _ _ | assumption | refine Below.drew ?_ | refine balloc ?_ _ | refine bset ?_ (by simp; omega) _ | refine bset ?_ (by simp) _ | refine bstep ?_ (by assumption)))) hb18
  replace oC1m := contsR.keep2 oC1m (by (repeat (first | exact Below.refl _ _ | assumption | refine Below.drew ?_ | refine balloc ?_ _ | refine bset ?_ (by simp; omega) _ | refine bset ?_ (by simp) _ | refine bstep ?_ (by assumption)))) hb18
  replace oGm := outcRR.keep2 oGm (by (repeat (first | exact Below.refl _ _ | assumption | refine Below.drew ?_ | refine balloc ?_ _ | refine bset ?_ (by simp; omega) _ | refine bset ?_ (by simp) _ | refine bstep ?_ (by assumption)))) hb18
  replace oH0 := ledgR.keep2 oH0 (by (repeat (first | exact Below.refl _ _ | assumption | refine Below.drew ?_ | refine balloc ?_ _ | refine bset ?_ (by simp; omega) _ | refine bset ?_ (by simp) _ | refine bstep ?_ (by assumption)))) hb18
  clear hB17
  have roH1 : ∀ b, FH1 b → w17.heap.size ≤ b ∧ b < w18.heap.size := fun b hb => by
    have := contsR.rng oH1 b hb
    try simp only [World.size_alloc] at this
    omega
  clear hb18
  have fH1 := contsR.ofO oH1
  obtain ⟨ah1, ch1, rfl⟩ := conts_form fH1
  clear z0 z1 z4 z5
  have z0 := World.block_lt_of_cell? _ _ b0_0
  dsimp only at z0
  have z1 := World.block_lt_of_cell? _ _ q_0
  dsimp only at z1
  have z4 := World.block_lt_of_cell? _ _ y0_0
  dsimp only at z4
  have z5 := World.block_lt_of_cell? _ _ g_0
  dsimp only at z5
  go_wp2_with fail
  refine (implAll_u _ _ d0 d1 _ (ledgR.below (ledgR.ofO oH0) (by (repeat (first | exact Below.refl _ _ | assumption | refine Below.drew ?_ | refine balloc ?_ _ | refine bset ?_ (by simp; omega) _ | refine bset ?_ (by simp) _ | refine bstep ?_ (by assumption))))) (contsR.below (contsR.ofO oH1) (by (repeat (first | exact Below.refl _ _ | assumption | refine Below.drew ?_ | refine balloc ?_ _ | refine bset ?_ (by simp; omega) _ | refine bset ?_ (by simp) _ | refine bstep ?_ (by assumption)))))).mono ?_
  rintro e w19 ⟨vI, FI, rfl, oI, hb19⟩
  have hB19 : Below w.heap.size w w19 := by (repeat (first | exact Below.refl _ _ | assumption | refine Below.drew ?_ | refine balloc ?_ _ | refine bset ?_ (by simp; omega) _ | refine bset ?_ (by simp) _ | refine bstep ?_ (by assumption)))
  have s19 := hb19.size
  try simp only [World.size_alloc] at s19
  replace b0_0 := cell_keep hb19 (cell_keep (by (repeat (first | exact Below.refl _ _ | assumption | refine Below.drew ?_ | refine balloc ?_ _ | refine bset ?_ (by simp; omega) _ | refine bset ?_ (by simp) _ | refine bstep ?_ (by assumption)))) b0_0)
  replace q_0 := cell_keep hb19 (cell_keep (by (repeat (first | exact Below.refl _ _ | assumption | refine Below.drew ?_ | refine balloc ?_ _ | refine bset ?_ (by simp; omega) _ | refine bset ?_ (by simp) _ | refine bstep ?_ (by assumption)))) q_0)
  replace q_1 := cell_keep hb19 (cell_keep (by (repeat (first | exact Below.refl _ _ | assumption | refine Below.drew ?_ | refine balloc ?_ _ | refine bset ?_ (by simp; omega) _ | refine bset ?_ (by simp) _ | refine bstep ?_ (by assumption)))) q_1)
  replace q_2 := cell_keep hb19 (cell_keep (by (repeat (first | exact Below.refl _ _ | assumption | refine Below.drew ?_ | refine balloc ?_ _ | refine bset ?_ (by simp; omega) _ | refine bset ?_ (by simp) _ | refine bstep ?_ (by assumption)))) q_2)
  replace y0_0 := cell_keep hb19 (cell_keep (by (repeat (first | exact Below.refl _ _ | assumption | refine Below.drew ?_ | refine balloc ?_ _ | refine bset ?_ (by simp; omega) _ | refine bset ?_ (by simp) _ | refine bstep ?_ (by assumption)))) y0_0)
  replace g_0 := cell_keep hb19 (cell_keep (by (repeat (first | exact Below.refl _ _ | assumption | refine Below.drew ?_ | refine balloc ?_ _ | refine bset ?_ (by simp; omega) _ | refine bset ?_ (by simp) _ | refine bstep ?_ (by assumption)))) g_0)
  replace g_1 := cell_keep hb19 (cell_keep (by (repeat (first | exact Below.refl _ _ | assumption | refine Below.drew ?_ | refine balloc ?_ _ | refine bset ?_ (by simp; omega) _ | refine bset ?_ (by simp) _ | refine bstep ?_ (by assumption)))) g_1)
  replace g_2 := cell_keep hb19 (cell_keep (by (repeat (first | exact Below.refl _ _ | assumption | refine Below.drew ?_ | refine balloc ?_ _ | refine bset ?_ (by simp; omega) _ | refine bset ?_ (by simp) _ | refine bstep ?_ (by assumption)))) g_2)
  replace oW := outcRR.keep2 oW (by (repeat (first | exact Below.refl _ _ | assumption | refine Below.drew ?_ | refine balloc ?_ _ | refine bset ?_ (by simp; omega) _ | refine bset ?_ (by simp) _ | refine bstep ?_ (by assumption)))) hb19
  replace oC0m := ledgR.keep2 oC0m (by (repeat (first | exact Below.refl _ _ | assumption | refine Below.drew ?_ | refine balloc ?_ _ | refine bset ?_ (by simp; omega) _ | refine bset ?_ (by simp) _ | refine bstep ?_ (by assumption)))) hb19
  replace oC1m := contsR.keep2 oC1m (by (repeat (first | exact Below.refl _ _ | assumption | refine Below.drew ?_ | refine balloc ?_ _ | refine bset ?_ (by simp; omega) _ | refine bset ?_ (by simp) _ | refine bstep ?_ (by assumption)))) hb19
  replace oGm := outcRR.keep2 oGm (by (repeat (first | exact Below.refl _ _ | assumption | refine Below.drew ?_ | refine balloc ?_ _ | refine bset ?_ (by simp; omega) _ | refine bset ?_ (by simp) _ | refine bstep ?_ (by assumption)))) hb19
  replace oH0 := ledgR.keep2 oH0 (by (repeat (first | exact Below.refl _ _ | assumption | refine Below.drew ?_ | refine balloc ?_ _ | refine bset ?_ (by simp; omega) _ | refine bset ?_ (by simp) _ | refine bstep ?_ (by assumption)))) hb19
  replace oH1 := contsR.keep2 oH1 (by (repeat (first | exact Below.refl _ _ | assumption | refine Below.drew ?_ | refine balloc ?_ _ | refine bset ?_ (by simp; omega) _ | refine bset ?_ (by simp) _ | refine bstep ?_ (by assumption)))) hb19
  clear hB18
  clear hb19
  have fI := outcRR.ofO oI
  obtain ⟨ai1, ai2_1, ci1, ci2_1, rfl⟩ := outcR_form fI
  clear z0 z1 z4 z5
  have z0 := World.block_lt_of_cell? _ _ b0_0
  dsimp only at z0
  have z1 := World.block_lt_of_cell? _ _ q_0
  dsimp only at z1
  have z4 := World.block_lt_of_cell? _ _ y0_0
  dsimp only at z4
  have z5 := World.block_lt_of_cell? _ _ g_0
  dsimp only at z5
  go_wp2_with fail
  refine (eqOutcomesResult_u _ _ (allD d0 d1) (allD d0 d1) _ (outcRR.below (outcRR.ofO oI) (by (repeat (first | exact Below.refl _ _ | assumption | refine Below.drew ?_ | refine balloc ?_ _ | refine bset ?_ (by simp; omega) _ | refine bset ?_ (by simp) _ | refine bstep ?_ (by assumption))))) (outcRR.below (outcRR.ofO oW) (by (repeat (first | exact Below.refl _ _ | assumption | refine Below.drew ?_ | refine balloc ?_ _ | refine bset ?_ (by simp; omega) _ | refine bset ?_ (by simp) _ | refine bstep ?_ (by assumption)))))).mono ?_
  rintro e w20 ⟨rfl, hb20⟩
  have hB20 : Below w.heap.size w w20 := by (repeat (first | exact Below.refl _ _ | assumption | refine Below.drew ?_ | refine balloc ?_ _ | refine bset ?_ (by simp; omega) _ | refine bset ?_ (by simp) _ | refine bstep ?_ (by assumption)))
  have s20 := hb20.size
  try simp only [World.size_alloc] at s20
  replace b0_0 := cell_keep hb20 (cell_keep (by (repeat (first | exact Below.refl _ _ | assumption | refine Below.drew ?_ | refine balloc ?_ _ | refine bset ?_ (by simp; omega) _ | refine bset ?_ (by simp) _ | refine bstep ?_ (by assumption)))) b0_0)
  replace q_0 := cell_keep hb20 (cell_keep (by (repeat (first | exact Below.refl _ _ | assumption | refine Below.drew ?_ | refine balloc ?_ _ | refine bset ?_ (by simp; omega) _ | refine bset ?_ (by simp) _ | refine bstep ?_ (by assumption)))) q_0)
  replace q_1 := cell_keep hb20 (cell_keep (by (repeat (first | exact Below.refl _ _ | assumption | refine Below.drew ?_ | refine balloc ?_ _ | refine bset ?_ (by simp; omega) _ | refine bset ?_ (by simp) _ | refine bstep ?_ (by assumption)))) q_1)
  replace q_2 := cell_keep hb20 (cell_keep (by (repeat (first | exact Below.refl _ _ | assumption | refine Below.drew ?_ | refine balloc ?_ _ | refine bset ?_ (by simp; omega) _ | refine bset ?_ (by simp) _ | refine bstep ?_ (by assumption)))) q_2)
  replace y0_0 := cell_keep hb20 (cell_keep (by (repeat (first | exact Below.refl _ _ | assumption | refine Below.drew ?_ | refine balloc ?_ _ | refine bset ?_ (by simp; omega) _ | refine bset ?_ (by simp) _ | refine bstep ?_ (by assumption)))) y0_0)
  replace g_0 := cell_keep hb20 (cell_keep (by (repeat (first | exact Below.refl _ _ | assumption | refine Below.drew ?_ | refine balloc ?_ _ | refine bset ?_ (by simp; omega) _ | refine bset ?_ (by simp) _ | refine bstep ?_ (by assumption)))) g_0)
  replace g_1 := cell_keep hb20 (cell_keep (by (repeat (first | exact Below.refl _ _ | assumption | refine Below.drew ?_ | refine balloc ?_ _ | refine bset ?_ (by simp; omega) _ | refine bset ?_ (by simp) _ | refine bstep ?_ (by assumption)))) g_1)
  replace g_2 := cell_keep hb20 (cell_keep (by (repeat (first | exact Below.refl _ _ | assumption | refine Below.drew ?_ | refine balloc ?_ _ | refine bset ?_ (by simp; omega) _ | refine bset ?_ (by simp) _ | refine bstep ?_ (by assumption)))) g_2)
  replace oW := outcRR.keep2 oW (by (repeat (first | exact Below.refl _ _ | assumption | refine Below.drew ?_ | refine balloc ?_ _ | refine bset ?_ (by simp; omega) _ | refine bset ?_ (by simp) _ | refine bstep ?_ (by assumption)))) hb20
  replace oC0m := ledgR.keep2 oC0m (by (repeat (first | exact Below.refl _ _ | assumption | refine Below.drew ?_ | refine balloc ?_ _ | refine bset ?_ (by simp; omega) _ | refine bset ?_ (by simp) _ | refine bstep ?_ (by assumption)))) hb20
  replace oC1m := contsR.keep2 oC1m (by (repeat (first | exact Below.refl _ _ | assumption | refine Below.drew ?_ | refine balloc ?_ _ | refine bset ?_ (by simp; omega) _ | refine bset ?_ (by simp) _ | refine bstep ?_ (by assumption)))) hb20
  replace oGm := outcRR.keep2 oGm (by (repeat (first | exact Below.refl _ _ | assumption | refine Below.drew ?_ | refine balloc ?_ _ | refine bset ?_ (by simp; omega) _ | refine bset ?_ (by simp) _ | refine bstep ?_ (by assumption)))) hb20
  clear hB19
  clear hb20
  clear oI oH0 roH0 oH1 roH1
  clear z0 z1 z4 z5
  have z0 := World.block_lt_of_cell? _ _ b0_0
  dsimp only at z0
  have z1 := World.block_lt_of_cell? _ _ q_0
  dsimp only at z1
  have z4 := World.block_lt_of_cell? _ _ y0_0
  dsimp only at z4
  have z5 := World.block_lt_of_cell? _ _ g_0
  dsimp only at z5
  go_wp2_with fail
  refine (heldOutcomesResult_u _ (allD d0 d1) 1 _ (outcRR.below (outcRR.ofO oGm) (by (repeat (first | exact Below.refl _ _ | assumption | refine Below.drew ?_ | refine balloc ?_ _ | refine bset ?_ (by simp; omega) _ | refine bset ?_ (by simp) _ | refine bstep ?_ (by assumption))))) hwR hcR (by omega)).mono ?_
  rintro e w21 ⟨rfl, hb21⟩
  have hB21 : Below w.heap.size w w21 := by (repeat (first | exact Below.refl _ _ | assumption | refine Below.drew ?_ | refine balloc ?_ _ | refine bset ?_ (by simp; omega) _ | refine bset ?_ (by simp) _ | refine bstep ?_ (by assumption)))
  have s21 := hb21.size
  try simp only [World.size_alloc] at s21
  replace b0_0 := cell_keep hb21 (cell_keep (by (repeat (first | exact Below.refl _ _ | assumption | refine Below.drew ?_ | refine balloc ?_ _ | refine bset ?_ (by simp; omega) _ | refine bset ?_ (by simp) _ | refine bstep ?_ (by assumption)))) b0_0)
  replace q_0 := cell_keep hb21 (cell_keep (by (repeat (first | exact Below.refl _ _ | assumption | refine Below.drew ?_ | refine balloc ?_ _ | refine bset ?_ (by simp; omega) _ | refine bset ?_ (by simp) _ | refine bstep ?_ (by assumption)))) q_0)
  replace q_1 := cell_keep hb21 (cell_keep (by (repeat (first | exact Below.refl _ _ | assumption | refine Below.drew ?_ | refine balloc ?_ _ | refine bset ?_ (by simp; omega) _ | refine bset ?_ (by simp) _ | refine bstep ?_ (by assumption)))) q_1)
  replace q_2 := cell_keep hb21 (cell_keep (by (repeat (first | exact Below.refl _ _ | assumption | refine Below.drew ?_ | refine balloc ?_ _ | refine bset ?_ (by simp; omega) _ | refine bset ?_ (by simp) _ | refine bstep ?_ (by assumption)))) q_2)
  replace y0_0 := cell_keep hb21 (cell_keep (by (repeat (first | exact Below.refl _ _ | assumption | refine Below.drew ?_ | refine balloc ?_ _ | refine bset ?_ (by simp; omega) _ | refine bset ?_ (by simp) _ | refine bstep ?_ (by assumption)))) y0_0)
  replace g_0 := cell_keep hb21 (cell_keep (by (repeat (first | exact Below.refl _ _ | assumption | refine Below.drew ?_ | refine balloc ?_ _ | refine bset ?_ (by simp; omega) _ | refine bset ?_ (by simp) _ | refine bstep ?_ (by assumption)))) g_0)
  replace g_1 := cell_keep hb21 (cell_keep (by (repeat (first | exact Below.refl _ _ | assumption | refine Below.drew ?_ | refine balloc ?_ _ | refine bset ?_ (by simp; omega) _ | refine bset ?_ (by simp) _ | refine bstep ?_ (by assumption)))) g_1)
  replace g_2 := cell_keep hb21 (cell_keep (by (repeat (first | exact Below.refl _ _ | assumption | refine Below.drew ?_ | refine balloc ?_ _ | refine bset ?_ (by simp; omega) _ | refine bset ?_ (by simp) _ | refine bstep ?_ (by assumption)))) g_2)
  replace oW := outcRR.keep2 oW (by (repeat (first | exact Below.refl _ _ | assumption | refine Below.drew ?_ | refine balloc ?_ _ | refine bset ?_ (by simp; omega) _ | refine bset ?_ (by simp) _ | refine bstep ?_ (by assumption)))) hb21
  replace oC0m := ledgR.keep2 oC0m (by (repeat (first | exact Below.refl _ _ | assumption | refine Below.drew ?_ | refine balloc ?_ _ | refine bset ?_ (by simp; omega) _ | refine bset ?_ (by simp) _ | refine bstep ?_ (by assumption)))) hb21
  replace oC1m := contsR.keep2 oC1m (by (repeat (first | exact Below.refl _ _ | assumption | refine Below.drew ?_ | refine balloc ?_ _ | refine bset ?_ (by simp; omega) _ | refine bset ?_ (by simp) _ | refine bstep ?_ (by assumption)))) hb21
  replace oGm := outcRR.keep2 oGm (by (repeat (first | exact Below.refl _ _ | assumption | refine Below.drew ?_ | refine balloc ?_ _ | refine bset ?_ (by simp; omega) _ | refine bset ?_ (by simp) _ | refine bstep ?_ (by assumption)))) hb21
  clear hB20
  go_wp2
  go_ret
  exact ⟨rfl, hB21⟩
end Go.Proofs.YtedcfokhdkljaaaGreat.settleAllLaw

