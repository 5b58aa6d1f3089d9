/-
  Proved: laws.FnExactAppendLog answers true at every argument, and its arguments read behind the call as they read before. No condition. (The walk.)
-/
import Derived.Test.YtlhikbjohlcdmaaLogI
import Derived.Test.YtlhikbjohlcdmaaKeeps
import Derived.Deep.RegionHeld3
import Derived.Deep.DrawnRows
namespace Go.Proofs.Ytlhikbjohlcdmaa.appendLogLaw
open Go.RowKit
set_option linter.unusedSectionVars false
variable [DecidableEq Logg] [Inhabited Logg] [DecidableEq LoggR] [Inhabited LoggR] [DecidableEq BytesR] [Inhabited BytesR] [DecidableEq RecsR] [Inhabited RecsR] [DecidableEq Leg] [Inhabited Leg]
attribute [local go_sem ↓] Go.wp_at_zero Go.wp_at_succ

set_option maxHeartbeats 8000000 in
set_option maxRecDepth 20000 in
theorem walk (x0 : Value) (d0 : Logg) (x1 : Value) (d1 : List Byte) (w : World) (hx0 : loggR.V w x0 d0) (hx1 : bytesR.V w x1 d1) :
    Calls Try.prog 4 #[x0, x1] w fun e w' => e = .returned (.bool true) ∧ Below w.heap.size w w' := by
  have hX0 := hx0
  obtain ⟨ax01, ax02, cx01, cx02, rfl⟩ := logg_form hx0
  have hX1 := hx1
  obtain ⟨ax1, cx1, rfl⟩ := bytes_form hx1
  by_cases hsz1 : 1048576 < wtBytes d1
  · unfold wtBytes at hsz1
    have hmx := hX1
    obtain ⟨_, _, hmv, hml, hmc, _⟩ := hmx
    unfold maxLen at hmc
    simp only [Value.slice.injEq, true_and] at hmv
    have hl2 : d1.length ≤ 9223372036854775807 := by omega
    clear hmv hml hmc
    generalize d1.length = n1 at *
    go_enter Try.func4, Try.ntmps4
    go_wp2
    go_ret
    exact ⟨rfl, by (repeat (first | exact Below.refl _ _ | assumption | refine Below.drew ?_ | refine balloc ?_ _ | refine bset ?_ (by simp; omega) _ | refine bset ?_ (by simp) _ | refine bstep ?_ (by assumption)))⟩
  have hlen1 : d1.length ≤ 1048576 := by unfold wtBytes at hsz1; omega
  go_enter Try.func4, Try.ntmps4
  go_wp2_with fail
  refine (szLog_u _ d0 1048576 _ (loggR.below hX0 (by (repeat (first | exact Below.refl _ _ | assumption | refine Below.drew ?_ | refine balloc ?_ _ | refine bset ?_ (by simp; omega) _ | refine bset ?_ (by simp) _ | refine bstep ?_ (by assumption))))) (by omega) (by omega)).mono ?_
  rintro e w1 ⟨rfl, hb1⟩
  have hB1 : Below w.heap.size w w1 := by (repeat (first | exact Below.refl _ _ | assumption | refine Below.drew ?_ | refine balloc ?_ _ | refine bset ?_ (by simp; omega) _ | refine bset ?_ (by simp) _ | refine bstep ?_ (by assumption)))
  have s1 := hb1.size
  try simp only [World.size_alloc] at s1
  have b0_0 : w1.cell? ⟨w.heap.size, 0, none⟩ = some (.slice ax01 d0.synced.length cx01) := cell_keep hb1 (by simp [go_sem])
  have b0_1 : w1.cell? ⟨w.heap.size, 1, none⟩ = some (.slice ax02 d0.loose.length cx02) := cell_keep hb1 (by simp [go_sem])
  clear hb1
  by_cases hsz : 1048576 < wtLogg d0
  · rw [show szLen 1048576 ((wtLogg d0 : Nat) : Int) = -1 by unfold szLen; rw [if_pos (by omega)]]
    go_wp2
    go_ret
    exact ⟨rfl, by (repeat (first | exact Below.refl _ _ | assumption | refine Below.drew ?_ | refine balloc ?_ _ | refine bset ?_ (by simp; omega) _ | refine bset ?_ (by simp) _ | refine bstep ?_ (by assumption)))⟩
  have e1 : szLen 1048576 ((wtLogg d0 : Nat) : Int) = 1048576 - ((wtLogg d0 : Nat) : Int) := by unfold szLen; rw [if_neg (by omega)]
  have e2 : ¬ (1048576 : Int) - ((wtLogg d0 : Nat) : Int) < 0 := by omega
  rw [e1]
  clear e1
  have hcA0 := logg_cnt d0
  have hcA1 := bytes_cnt d1
  have hwR : wtLoggR (appD d0 d1) ≤ 1048576 := by have := appD_le d0 d1; omega
  have hcR : (1 : Int) + cntLoggR (appD d0 d1) ≤ 1073741824 := by have := appD_le d0 d1; have := loggR_cnt (appD d0 d1); omega
  have hkA0 : (1 : Int) + cntLogg d0 ≤ 1073741824 := by omega
  have hkA1 : (1 : Int) + cntLogg d0 + cntBytes d1 ≤ 1073741824 := by omega
  have hk1 : ¬ (1 : Int) + cntLogg d0 + cntBytes d1 < 0 := by omega
  have hk2 : ¬ (1 : Int) + cntLoggR (appD d0 d1) < 0 := by omega
  go_wp2_with fail
  refine (toLog_u _ d0 _ (loggR.below hX0 (by (repeat (first | exact Below.refl _ _ | assumption | refine Below.drew ?_ | refine balloc ?_ _ | refine bset ?_ (by simp; omega) _ | refine bset ?_ (by simp) _ | refine bstep ?_ (by assumption))))) (by omega)).mono ?_
  rintro e w2 ⟨vS0, FS0, rfl, oS0, hb2⟩
  have hB2 : Below w.heap.size w w2 := by (repeat (first | exact Below.refl _ _ | assumption | refine Below.drew ?_ | refine balloc ?_ _ | refine bset ?_ (by simp; omega) _ | refine bset ?_ (by simp) _ | refine bstep ?_ (by assumption)))
  have s2 := hb2.size
  try simp only [World.size_alloc] at s2
  replace b0_0 := cell_keep hb2 (cell_keep (by (repeat (first | exact Below.refl _ _ | assumption | refine Below.drew ?_ | refine balloc ?_ _ | refine bset ?_ (by simp; omega) _ | refine bset ?_ (by simp) _ | refine bstep ?_ (by assumption)))) b0_0)
  replace b0_1 := cell_keep hb2 (cell_keep (by (repeat (first | exact Below.refl _ _ | assumption | refine Below.drew ?_ | refine balloc ?_ _ | refine bset ?_ (by simp; omega) _ | refine bset ?_ (by simp) _ | refine bstep ?_ (by assumption)))) b0_1)
  clear hB1
  have roS0 : ∀ b, FS0 b → w1.heap.size ≤ b ∧ b < w2.heap.size := fun b hb => by
    have := loggR.rng oS0 b hb
    try simp only [World.size_alloc] at this
    omega
  clear hb2
  have fS0 := loggR.ofO oS0
  obtain ⟨as01, as02, cs01, cs02, rfl⟩ := logg_form fS0
  have z0 := World.block_lt_of_cell? _ _ b0_0
  dsimp only at z0
  go_wp2_with fail
  refine (toByteS_u _ d1 _ (bytesR.below hX1 (by (repeat (first | exact Below.refl _ _ | assumption | refine Below.drew ?_ | refine balloc ?_ _ | refine bset ?_ (by simp; omega) _ | refine bset ?_ (by simp) _ | refine bstep ?_ (by assumption))))) (by omega)).mono ?_
  rintro e w3 ⟨vS1, FS1, rfl, oS1, hb3⟩
  have hB3 : Below w.heap.size w w3 := by (repeat (first | exact Below.refl _ _ | assumption | refine Below.drew ?_ | refine balloc ?_ _ | refine bset ?_ (by simp; omega) _ | refine bset ?_ (by simp) _ | refine bstep ?_ (by assumption)))
  have s3 := hb3.size
  try simp only [World.size_alloc] at s3
  replace b0_0 := cell_keep hb3 (cell_keep (by (repeat (first | exact Below.refl _ _ | assumption | refine Below.drew ?_ | refine balloc ?_ _ | refine bset ?_ (by simp; omega) _ | refine bset ?_ (by simp) _ | refine bstep ?_ (by assumption)))) b0_0)
  replace b0_1 := cell_keep hb3 (cell_keep (by (repeat (first | exact Below.refl _ _ | assumption | refine Below.drew ?_ | refine balloc ?_ _ | refine bset ?_ (by simp; omega) _ | refine bset ?_ (by simp) _ | refine bstep ?_ (by assumption)))) b0_1)
  replace oS0 := loggR.keep2 oS0 (by (repeat (first | exact Below.refl _ _ | assumption | refine Below.drew ?_ | refine balloc ?_ _ | refine bset ?_ (by simp; omega) _ | refine bset ?_ (by simp) _ | refine bstep ?_ (by assumption)))) hb3
  clear hB2
  have roS1 : ∀ b, FS1 b → w2.heap.size ≤ b ∧ b < w3.heap.size := fun b hb => by
    have := bytesR.rng oS1 b hb
    try simp only [World.size_alloc] at this
    omega
  clear hb3
  have fS1 := bytesR.ofO oS1
  obtain ⟨as1, cs1, rfl⟩ := bytes_form fS1
  clear z0
  have z0 := World.block_lt_of_cell? _ _ b0_0
  dsimp only at z0
  go_wp2_with fail
  refine (specApp_u _ d0 _ d1 _ (loggR.below (loggR.ofO oS0) (by (repeat (first | exact Below.refl _ _ | assumption | refine Below.drew ?_ | refine balloc ?_ _ | refine bset ?_ (by simp; omega) _ | refine bset ?_ (by simp) _ | refine bstep ?_ (by assumption))))) (by omega) (bytesR.below (bytesR.ofO oS1) (by (repeat (first | exact Below.refl _ _ | assumption | refine Below.drew ?_ | refine balloc ?_ _ | refine bset ?_ (by simp; omega) _ | refine bset ?_ (by simp) _ | refine bstep ?_ (by assumption)))))).mono ?_
  rintro e w4 ⟨vW, FW, rfl, oW, hb4⟩
  have hB4 : Below w.heap.size w w4 := by (repeat (first | exact Below.refl _ _ | assumption | refine Below.drew ?_ | refine balloc ?_ _ | refine bset ?_ (by simp; omega) _ | refine bset ?_ (by simp) _ | refine bstep ?_ (by assumption)))
  have s4 := hb4.size
  try simp only [World.size_alloc] at s4
  replace b0_0 := cell_keep hb4 (cell_keep (by (repeat (first | exact Below.refl _ _ | assumption | refine Below.drew ?_ | refine balloc ?_ _ | refine bset ?_ (by simp; omega) _ | refine bset ?_ (by simp) _ | refine bstep ?_ (by assumption)))) b0_0)
  replace b0_1 := cell_keep hb4 (cell_keep (by (repeat (first | exact Below.refl _ _ | assumption | refine Below.drew ?_ | refine balloc ?_ _ | refine bset ?_ (by simp; omega) _ | refine bset ?_ (by simp) _ | refine bstep ?_ (by assumption)))) b0_1)
  replace oS0 := loggR.keep2 oS0 (by (repeat (first | exact Below.refl _ _ | assumption | refine Below.drew ?_ | refine balloc ?_ _ | refine bset ?_ (by simp; omega) _ | refine bset ?_ (by simp) _ | refine bstep ?_ (by assumption)))) hb4
  replace oS1 := bytesR.keep2 oS1 (by (repeat (first | exact Below.refl _ _ | assumption | refine Below.drew ?_ | refine balloc ?_ _ | refine bset ?_ (by simp; omega) _ | refine bset ?_ (by simp) _ | refine bstep ?_ (by assumption)))) hb4
  clear hB3
  have roW : ∀ b, FW b → w3.heap.size ≤ b ∧ b < w4.heap.size := fun b hb => by
    have := loggRR.rng oW b hb
    try simp only [World.size_alloc] at this
    omega
  clear hb4
  have fW := loggRR.ofO oW
  obtain ⟨aw1_1, aw1_2, cw1_1, cw1_2, rfl⟩ := loggR_form fW
  clear oS0 roS0 oS1 roS1
  clear z0
  have z0 := World.block_lt_of_cell? _ _ b0_0
  dsimp only at z0
  go_wp2_with fail
  refine (toLog_u _ d0 _ (loggR.below hX0 (by (repeat (first | exact Below.refl _ _ | assumption | refine Below.drew ?_ | refine balloc ?_ _ | refine bset ?_ (by simp; omega) _ | refine bset ?_ (by simp) _ | refine bstep ?_ (by assumption))))) (by omega)).mono ?_
  rintro e w5 ⟨vC0, FC0, rfl, oC0, hb5⟩
  have hB5 : Below w.heap.size w w5 := by (repeat (first | exact Below.refl _ _ | assumption | refine Below.drew ?_ | refine balloc ?_ _ | refine bset ?_ (by simp; omega) _ | refine bset ?_ (by simp) _ | refine bstep ?_ (by assumption)))
  have s5 := hb5.size
  try simp only [World.size_alloc] at s5
  replace b0_0 := cell_keep hb5 (cell_keep (by (repeat (first | exact Below.refl _ _ | assumption | refine Below.drew ?_ | refine balloc ?_ _ | refine bset ?_ (by simp; omega) _ | refine bset ?_ (by simp) _ | refine bstep ?_ (by assumption)))) b0_0)
  replace b0_1 := cell_keep hb5 (cell_keep (by (repeat (first | exact Below.refl _ _ | assumption | refine Below.drew ?_ | refine balloc ?_ _ | refine bset ?_ (by simp; omega) _ | refine bset ?_ (by simp) _ | refine bstep ?_ (by assumption)))) b0_1)
  have q_0 : w5.cell? ⟨w4.heap.size, 0, none⟩ = some (.int .i64 (appD d0 d1).code) := cell_keep hb5 (by simp [go_sem])
  have q_1 : w5.cell? ⟨w4.heap.size, 1, none⟩ = some (.slice aw1_1 (appD d0 d1).log.synced.length cw1_1) := cell_keep hb5 (by simp [go_sem])
  have q_2 : w5.cell? ⟨w4.heap.size, 2, none⟩ = some (.slice aw1_2 (appD d0 d1).log.loose.length cw1_2) := cell_keep hb5 (by simp [go_sem])
  replace oW := loggRR.keep2 oW (by (repeat (first | exact Below.refl _ _ | assumption | refine Below.drew ?_ | refine balloc ?_ _ | refine bset ?_ (by simp; omega) _ | refine bset ?_ (by simp) _ | refine bstep ?_ (by assumption)))) hb5
  clear hB4
  have roC0 : ∀ b, FC0 b → w4.heap.size + 1 ≤ b ∧ b < w5.heap.size := fun b hb => by
    have := loggR.rng oC0 b hb
    try simp only [World.size_alloc] at this
    omega
  clear hb5
  have fC0 := loggR.ofO oC0
  obtain ⟨ay01, ay02, cy01, cy02, rfl⟩ := logg_form fC0
  clear z0
  have z0 := World.block_lt_of_cell? _ _ b0_0
  dsimp only at z0
  have z2 := World.block_lt_of_cell? _ _ q_0
  dsimp only at z2
  go_wp2_with fail
  refine (toByteS_u _ d1 _ (bytesR.below hX1 (by (repeat (first | exact Below.refl _ _ | assumption | refine Below.drew ?_ | refine balloc ?_ _ | refine bset ?_ (by simp; omega) _ | refine bset ?_ (by simp) _ | refine bstep ?_ (by assumption))))) (by omega)).mono ?_
  rintro e w6 ⟨vC1, FC1, rfl, oC1, hb6⟩
  have hB6 : Below w.heap.size w w6 := by (repeat (first | exact Below.refl _ _ | assumption | refine Below.drew ?_ | refine balloc ?_ _ | refine bset ?_ (by simp; omega) _ | refine bset ?_ (by simp) _ | refine bstep ?_ (by assumption)))
  have s6 := hb6.size
  try simp only [World.size_alloc] at s6
  replace b0_0 := cell_keep hb6 (cell_keep (by (repeat (first | exact Below.refl _ _ | assumption | refine Below.drew ?_ | refine balloc ?_ _ | refine bset ?_ (by simp; omega) _ | refine bset ?_ (by simp) _ | refine bstep ?_ (by assumption)))) b0_0)
  replace b0_1 := cell_keep hb6 (cell_keep (by (repeat (first | exact Below.refl _ _ | assumption | refine Below.drew ?_ | refine balloc ?_ _ | refine bset ?_ (by simp; omega) _ | refine bset ?_ (by simp) _ | refine bstep ?_ (by assumption)))) b0_1)
  replace q_0 := cell_keep hb6 (cell_keep (by (repeat (first | exact Below.refl _ _ | assumption | refine Below.drew ?_ | refine balloc ?_ _ | refine bset ?_ (by simp; omega) _ | refine bset ?_ (by simp) _ | refine bstep ?_ (by assumption)))) q_0)
  replace q_1 := cell_keep hb6 (cell_keep (by (repeat (first | exact Below.refl _ _ | assumption | refine Below.drew ?_ | refine balloc ?_ _ | refine bset ?_ (by simp; omega) _ | refine bset ?_ (by simp) _ | refine bstep ?_ (by assumption)))) q_1)
  replace q_2 := cell_keep hb6 (cell_keep (by (repeat (first | exact Below.refl _ _ | assumption | refine Below.drew ?_ | refine balloc ?_ _ | refine bset ?_ (by simp; omega) _ | refine bset ?_ (by simp) _ | refine bstep ?_ (by assumption)))) q_2)
  have y0_0 : w6.cell? ⟨w5.heap.size, 0, none⟩ = some (.slice ay01 d0.synced.length cy01) := cell_keep hb6 (by simp [go_sem])
  have y0_1 : w6.cell? ⟨w5.heap.size, 1, none⟩ = some (.slice ay02 d0.loose.length cy02) := cell_keep hb6 (by simp [go_sem])
  replace oW := loggRR.keep2 oW (by (repeat (first | exact Below.refl _ _ | assumption | refine Below.drew ?_ | refine balloc ?_ _ | refine bset ?_ (by simp; omega) _ | refine bset ?_ (by simp) _ | refine bstep ?_ (by assumption)))) hb6
  replace oC0 := loggR.keep2 oC0 (by (repeat (first | exact Below.refl _ _ | assumption | refine Below.drew ?_ | refine balloc ?_ _ | refine bset ?_ (by simp; omega) _ | refine bset ?_ (by simp) _ | refine bstep ?_ (by assumption)))) hb6
  clear hB5
  have roC1 : ∀ b, FC1 b → w5.heap.size + 1 ≤ b ∧ b < w6.heap.size := fun b hb => by
    have := bytesR.rng oC1 b hb
    try simp only [World.size_alloc] at this
    omega
  clear hb6
  have fC1 := bytesR.ofO oC1
  obtain ⟨ay1, cy1, rfl⟩ := bytes_form fC1
  clear z0 z2
  have z0 := World.block_lt_of_cell? _ _ b0_0
  dsimp only at z0
  have z2 := World.block_lt_of_cell? _ _ q_0
  dsimp only at z2
  have z5 := World.block_lt_of_cell? _ _ y0_0
  dsimp only at z5
  go_wp2_with fail
  refine (implApp_u _ d0 _ d1 _ (loggR.below (loggR.ofO oC0) (by (repeat (first | exact Below.refl _ _ | assumption | refine Below.drew ?_ | refine balloc ?_ _ | refine bset ?_ (by simp; omega) _ | refine bset ?_ (by simp) _ | refine bstep ?_ (by assumption))))) (by omega) (bytesR.below (bytesR.ofO oC1) (by (repeat (first | exact Below.refl _ _ | assumption | refine Below.drew ?_ | refine balloc ?_ _ | refine bset ?_ (by simp; omega) _ | refine bset ?_ (by simp) _ | refine bstep ?_ (by assumption)))))).mono ?_
  rintro e w7 ⟨vG, FG, rfl, oG, hb7⟩
  have hB7 : Below w.heap.size w w7 := by (repeat (first | exact Below.refl _ _ | assumption | refine Below.drew ?_ | refine balloc ?_ _ | refine bset ?_ (by simp; omega) _ | refine bset ?_ (by simp) _ | refine bstep ?_ (by assumption)))
  have s7 := hb7.size
  try simp only [World.size_alloc] at s7
  replace b0_0 := cell_keep hb7 (cell_keep (by (repeat (first | exact Below.refl _ _ | assumption | refine Below.drew ?_ | refine balloc ?_ _ | refine bset ?_ (by simp; omega) _ | refine bset ?_ (by simp) _ | refine bstep ?_ (by assumption)))) b0_0)
  replace b0_1 := cell_keep hb7 (cell_keep (by (repeat (first | exact Below.refl _ _ | assumption | refine Below.drew ?_ | refine balloc ?_ _ | refine bset ?_ (by simp; omega) _ | refine bset ?_ (by simp) _ | refine bstep ?_ (by assumption)))) b0_1)
  replace q_0 := cell_keep hb7 (cell_keep (by (repeat (first | exact Below.refl _ _ | assumption | refine Below.drew ?_ | refine balloc ?_ _ | refine bset ?_ (by simp; omega) _ | refine bset ?_ (by simp) _ | refine bstep ?_ (by assumption)))) q_0)
  replace q_1 := cell_keep hb7 (cell_keep (by (repeat (first | exact Below.refl _ _ | assumption | refine Below.drew ?_ | refine balloc ?_ _ | refine bset ?_ (by simp; omega) _ | refine bset ?_ (by simp) _ | refine bstep ?_ (by assumption)))) q_1)
  replace q_2 := cell_keep hb7 (cell_keep (by (repeat (first | exact Below.refl _ _ | assumption | refine Below.drew ?_ | refine balloc ?_ _ | refine bset ?_ (by simp; omega) _ | refine bset ?_ (by simp) _ | refine bstep ?_ (by assumption)))) q_2)
  replace y0_0 := cell_keep hb7 (cell_keep (by (repeat (first | exact Below.refl _ _ | assumption | refine Below.drew ?_ | refine balloc ?_ _ | refine bset ?_ (by simp; omega) _ | refine bset ?_ (by simp) _ | refine bstep ?_ (by assumption)))) y0_0)
  replace y0_1 := cell_keep hb7 (cell_keep (by (repeat (first | exact Below.refl _ _ | assumption | refine Below.drew ?_ | refine balloc ?_ _ | refine bset ?_ (by simp; omega) _ | refine bset ?_ (by simp) _ | refine bstep ?_ (by assumption)))) y0_1)
  replace oW := loggRR.keep2 oW (by (repeat (first | exact Below.refl _ _ | assumption | refine Below.drew ?_ | refine balloc ?_ _ | refine bset ?_ (by simp; omega) _ | refine bset ?_ (by simp) _ | refine bstep ?_ (by assumption)))) hb7
  replace oC0 := loggR.keep2 oC0 (by (repeat (first | exact Below.refl _ _ | assumption | refine Below.drew ?_ | refine balloc ?_ _ | refine bset ?_ (by simp; omega) _ | refine bset ?_ (by simp) _ | refine bstep ?_ (by assumption)))) hb7
  replace oC1 := bytesR.keep2 oC1 (by (repeat (first | exact Below.refl _ _ | assumption | refine Below.drew ?_ | refine balloc ?_ _ | refine bset ?_ (by simp; omega) _ | refine bset ?_ (by simp) _ | refine bstep ?_ (by assumption)))) hb7
  clear hB6
  have roG : ∀ b, FG b → w6.heap.size ≤ b ∧ b < w7.heap.size := fun b hb => by
    have := loggRR.rng oG b hb
    try simp only [World.size_alloc] at this
    omega
  clear hb7
  have fG := loggRR.ofO oG
  obtain ⟨ag1_1, ag1_2, cg1_1, cg1_2, rfl⟩ := loggR_form fG
  clear z0 z2 z5
  have z0 := World.block_lt_of_cell? _ _ b0_0
  dsimp only at z0
  have z2 := World.block_lt_of_cell? _ _ q_0
  dsimp only at z2
  have z5 := World.block_lt_of_cell? _ _ y0_0
  dsimp only at z5
  go_wp2_with fail
  refine (eqLogResult_u _ _ (appD d0 d1) (appD d0 d1) _ (loggRR.below (loggRR.ofO oG) (by (repeat (first | exact Below.refl _ _ | assumption | refine Below.drew ?_ | refine balloc ?_ _ | refine bset ?_ (by simp; omega) _ | refine bset ?_ (by simp) _ | refine bstep ?_ (by assumption))))) (loggRR.below (loggRR.ofO oW) (by (repeat (first | exact Below.refl _ _ | assumption | refine Below.drew ?_ | refine balloc ?_ _ | refine bset ?_ (by simp; omega) _ | refine bset ?_ (by simp) _ | refine bstep ?_ (by assumption)))))).mono ?_
  rintro e w8 ⟨rfl, hb8⟩
  have hB8 : Below w.heap.size w w8 := by (repeat (first | exact Below.refl _ _ | assumption | refine Below.drew ?_ | refine balloc ?_ _ | refine bset ?_ (by simp; omega) _ | refine bset ?_ (by simp) _ | refine bstep ?_ (by assumption)))
  have s8 := hb8.size
  try simp only [World.size_alloc] at s8
  replace b0_0 := cell_keep hb8 (cell_keep (by (repeat (first | exact Below.refl _ _ | assumption | refine Below.drew ?_ | refine balloc ?_ _ | refine bset ?_ (by simp; omega) _ | refine bset ?_ (by simp) _ | refine bstep ?_ (by assumption)))) b0_0)
  replace b0_1 := cell_keep hb8 (cell_keep (by (repeat (first | exact Below.refl _ _ | assumption | refine Below.drew ?_ | refine balloc ?_ _ | refine bset ?_ (by simp; omega) _ | refine bset ?_ (by simp) _ | refine bstep ?_ (by assumption)))) b0_1)
  replace q_0 := cell_keep hb8 (cell_keep (by (repeat (first | exact Below.refl _ _ | assumption | refine Below.drew ?_ | refine balloc ?_ _ | refine bset ?_ (by simp; omega) _ | refine bset ?_ (by simp) _ | refine bstep ?_ (by assumption)))) q_0)
  replace q_1 := cell_keep hb8 (cell_keep (by (repeat (first | exact Below.refl _ _ | assumption | refine Below.drew ?_ | refine balloc ?_ _ | refine bset ?_ (by simp; omega) _ | refine bset ?_ (by simp) _ | refine bstep ?_ (by assumption)))) q_1)
  replace q_2 := cell_keep hb8 (cell_keep (by (repeat (first | exact Below.refl _ _ | assumption | refine Below.drew ?_ | refine balloc ?_ _ | refine bset ?_ (by simp; omega) _ | refine bset ?_ (by simp) _ | refine bstep ?_ (by assumption)))) q_2)
  replace y0_0 := cell_keep hb8 (cell_keep (by (repeat (first | exact Below.refl _ _ | assumption | refine Below.drew ?_ | refine balloc ?_ _ | refine bset ?_ (by simp; omega) _ | refine bset ?_ (by simp) _ | refine bstep ?_ (by assumption)))) y0_0)
  replace y0_1 := cell_keep hb8 (cell_keep (by (repeat (first | exact Below.refl _ _ | assumption | refine Below.drew ?_ | refine balloc ?_ _ | refine bset ?_ (by simp; omega) _ | refine bset ?_ (by simp) _ | refine bstep ?_ (by assumption)))) y0_1)
  have g_0 : w8.cell? ⟨w7.heap.size, 0, none⟩ = some (.int .i64 (appD d0 d1).code) := cell_keep hb8 (by simp [go_sem])
  have g_1 : w8.cell? ⟨w7.heap.size, 1, none⟩ = some (.slice ag1_1 (appD d0 d1).log.synced.length cg1_1) := cell_keep hb8 (by simp [go_sem])
  have g_2 : w8.cell? ⟨w7.heap.size, 2, none⟩ = some (.slice ag1_2 (appD d0 d1).log.loose.length cg1_2) := cell_keep hb8 (by simp [go_sem])
  replace oW := loggRR.keep2 oW (by (repeat (first | exact Below.refl _ _ | assumption | refine Below.drew ?_ | refine balloc ?_ _ | refine bset ?_ (by simp; omega) _ | refine bset ?_ (by simp) _ | refine bstep ?_ (by assumption)))) hb8
  replace oC0 := loggR.keep2 oC0 (by (repeat (first | exact Below.refl _ _ | assumption | refine Below.drew ?_ | refine balloc ?_ _ | refine bset ?_ (by simp; omega) _ | refine bset ?_ (by simp) _ | refine bstep ?_ (by assumption)))) hb8
  replace oC1 := bytesR.keep2 oC1 (by (repeat (first | exact Below.refl _ _ | assumption | refine Below.drew ?_ | refine balloc ?_ _ | refine bset ?_ (by simp; omega) _ | refine bset ?_ (by simp) _ | refine bstep ?_ (by assumption)))) hb8
  replace oG := loggRR.keep2 oG (by (repeat (first | exact Below.refl _ _ | assumption | refine Below.drew ?_ | refine balloc ?_ _ | refine bset ?_ (by simp; omega) _ | refine bset ?_ (by simp) _ | refine bstep ?_ (by assumption)))) hb8
  clear hB7
  clear hb8
  clear z0 z2 z5
  have z0 := World.block_lt_of_cell? _ _ b0_0
  dsimp only at z0
  have z2 := World.block_lt_of_cell? _ _ q_0
  dsimp only at z2
  have z5 := World.block_lt_of_cell? _ _ y0_0
  dsimp only at z5
  have z7 := World.block_lt_of_cell? _ _ g_0
  dsimp only at z7
  go_wp2
  have VC : loggR.V w8 _ d0 := loggR.ofO oC0
  go_region_held3 (fun w' => Below w8.heap.size w8 w' ∧ w'.cell? ⟨w.heap.size, 0, none⟩ = some (.slice ax01 d0.synced.length cx01) ∧ w'.cell? ⟨w.heap.size, 1, none⟩ = some (.slice ax02 d0.loose.length cx02) ∧ w'.cell? ⟨w4.heap.size, 0, none⟩ = some (.int .i64 (appD d0 d1).code) ∧ w'.cell? ⟨w4.heap.size, 1, none⟩ = some (.slice aw1_1 (appD d0 d1).log.synced.length cw1_1) ∧ w'.cell? ⟨w4.heap.size, 2, none⟩ = some (.slice aw1_2 (appD d0 d1).log.loose.length cw1_2) ∧ w'.cell? ⟨w5.heap.size, 0, none⟩ = some (.slice ay01 d0.synced.length cy01) ∧ w'.cell? ⟨w5.heap.size, 1, none⟩ = some (.slice ay02 d0.loose.length cy02) ∧ w'.cell? ⟨w7.heap.size, 0, none⟩ = some (.int .i64 (appD d0 d1).code) ∧ w'.cell? ⟨w7.heap.size, 1, none⟩ = some (.slice ag1_1 (appD d0 d1).log.synced.length cg1_1) ∧ w'.cell? ⟨w7.heap.size, 2, none⟩ = some (.slice ag1_2 (appD d0 d1).log.loose.length cg1_2))
    ((refine keepN10 ?_ b0_0 b0_1 q_0 q_1 q_2 y0_0 y0_1 g_0 g_1 g_2; repeat (first | exact Below.refl _ _ | assumption | refine Below.drew ?_ | refine balloc ?_ _ | refine bstep ?_ (by assumption))))
    (first | (go_at_call 11; refine (toLog_u _ d0 _ (loggR.below hX0 (by (repeat (first | exact Below.refl _ _ | assumption | refine Below.drew ?_ | refine balloc ?_ _ | refine bset ?_ (by simp; omega) _ | refine bset ?_ (by simp) _ | refine bstep ?_ (by assumption))))) (by omega)).mono ?_; rintro e wD0 ⟨vE, FE, rfl, oE, hbD⟩; have fE := loggR.ofO oE; obtain ⟨ae1, ae2, ce1, ce2, rfl⟩ := logg_form fE) | (go_at_call 13; refine (eqLog_u _ _ d0 d0 _ (loggR.below VC (by (repeat (first | exact Below.refl _ _ | assumption | refine Below.drew ?_ | refine balloc ?_ _ | refine bset ?_ (by simp; omega) _ | refine bset ?_ (by simp) _ | refine bstep ?_ (by assumption))))) (loggR.below (loggR.ofO oE) (by (repeat (first | exact Below.refl _ _ | assumption | refine Below.drew ?_ | refine balloc ?_ _ | refine bset ?_ (by simp; omega) _ | refine bset ?_ (by simp) _ | refine bstep ?_ (by assumption)))))).mono ?_; rintro e wE0 ⟨rfl, hbE⟩))
  rename_i hH
  have hBE0 : Below w.heap.size w wE0 := bstep hB8 hH.1
  have sE0 := hH.1.size
  replace oW := loggRR.keep oW hH.1
  replace oC0 := loggR.keep oC0 hH.1
  replace oC1 := bytesR.keep oC1 hH.1
  replace oG := loggRR.keep oG hH.1
  obtain ⟨_, rb0_0, rb0_1, rq_0, rq_1, rq_2, ry0_0, ry0_1, rg_0, rg_1, rg_2⟩ := hH
  replace b0_0 := rb0_0
  replace b0_1 := rb0_1
  replace q_0 := rq_0
  replace q_1 := rq_1
  replace q_2 := rq_2
  replace y0_0 := ry0_0
  replace y0_1 := ry0_1
  replace g_0 := rg_0
  replace g_1 := rg_1
  replace g_2 := rg_2
  clear rb0_0 rb0_1 rq_0 rq_1 rq_2 ry0_0 ry0_1 rg_0 rg_1 rg_2 hB8 oE hbD hbE VC
  clear z0 z2 z5 z7
  have z0 := World.block_lt_of_cell? _ _ b0_0
  dsimp only at z0
  have z2 := World.block_lt_of_cell? _ _ q_0
  dsimp only at z2
  have z5 := World.block_lt_of_cell? _ _ y0_0
  dsimp only at z5
  have z7 := World.block_lt_of_cell? _ _ g_0
  dsimp only at z7
  go_wp2_with fail
  refine (toByteS_u _ d1 _ (bytesR.below hX1 (by (repeat (first | exact Below.refl _ _ | assumption | refine Below.drew ?_ | refine balloc ?_ _ | refine bset ?_ (by simp; omega) _ | refine bset ?_ (by simp) _ | refine bstep ?_ (by assumption))))) (by omega)).mono ?_
  rintro e w9 ⟨vE1, FE1, rfl, oE1, hb9⟩
  have hB9 : Below w.heap.size w w9 := by (repeat (first | exact Below.refl _ _ | assumption | refine Below.drew ?_ | refine balloc ?_ _ | refine bset ?_ (by simp; omega) _ | refine bset ?_ (by simp) _ | refine bstep ?_ (by assumption)))
  have s9 := hb9.size
  try simp only [World.size_alloc] at s9
  replace b0_0 := cell_keep hb9 (cell_keep (by (repeat (first | exact Below.refl _ _ | assumption | refine Below.drew ?_ | refine balloc ?_ _ | refine bset ?_ (by simp; omega) _ | refine bset ?_ (by simp) _ | refine bstep ?_ (by assumption)))) b0_0)
  replace b0_1 := cell_keep hb9 (cell_keep (by (repeat (first | exact Below.refl _ _ | assumption | refine Below.drew ?_ | refine balloc ?_ _ | refine bset ?_ (by simp; omega) _ | refine bset ?_ (by simp) _ | refine bstep ?_ (by assumption)))) b0_1)
  replace q_0 := cell_keep hb9 (cell_keep (by (repeat (first | exact Below.refl _ _ | assumption | refine Below.drew ?_ | refine balloc ?_ _ | refine bset ?_ (by simp; omega) _ | refine bset ?_ (by simp) _ | refine bstep ?_ (by assumption)))) q_0)
  replace q_1 := cell_keep hb9 (cell_keep (by (repeat (first | exact Below.refl _ _ | assumption | refine Below.drew ?_ | refine balloc ?_ _ | refine bset ?_ (by simp; omega) _ | refine bset ?_ (by simp) _ | refine bstep ?_ (by assumption)))) q_1)
  replace q_2 := cell_keep hb9 (cell_keep (by (repeat (first | exact Below.refl _ _ | assumption | refine Below.drew ?_ | refine balloc ?_ _ | refine bset ?_ (by simp; omega) _ | refine bset ?_ (by simp) _ | refine bstep ?_ (by assumption)))) q_2)
  replace y0_0 := cell_keep hb9 (cell_keep (by (repeat (first | exact Below.refl _ _ | assumption | refine Below.drew ?_ | refine balloc ?_ _ | refine bset ?_ (by simp; omega) _ | refine bset ?_ (by simp) _ | refine bstep ?_ (by assumption)))) y0_0)
  replace y0_1 := cell_keep hb9 (cell_keep (by (repeat (first | exact Below.refl _ _ | assumption | refine Below.drew ?_ | refine balloc ?_ _ | refine bset ?_ (by simp; omega) _ | refine bset ?_ (by simp) _ | refine bstep ?_ (by assumption)))) y0_1)
  replace g_0 := cell_keep hb9 (cell_keep (by (repeat (first | exact Below.refl _ _ | assumption | refine Below.drew ?_ | refine balloc ?_ _ | refine bset ?_ (by simp; omega) _ | refine bset ?_ (by simp) _ | refine bstep ?_ (by assumption)))) g_0)
  replace g_1 := cell_keep hb9 (cell_keep (by (repeat (first | exact Below.refl _ _ | assumption | refine Below.drew ?_ | refine balloc ?_ _ | refine bset ?_ (by simp; omega) _ | refine bset ?_ (by simp) _ | refine bstep ?_ (by assumption)))) g_1)
  replace g_2 := cell_keep hb9 (cell_keep (by (repeat (first | exact Below.refl _ _ | assumption | refine Below.drew ?_ | refine balloc ?_ _ | refine bset ?_ (by simp; omega) _ | refine bset ?_ (by simp) _ | refine bstep ?_ (by assumption)))) g_2)
  replace oW := loggRR.keep2 oW (by (repeat (first | exact Below.refl _ _ | assumption | refine Below.drew ?_ | refine balloc ?_ _ | refine bset ?_ (by simp; omega) _ | refine bset ?_ (by simp) _ | refine bstep ?_ (by assumption)))) hb9
  replace oC0 := loggR.keep2 oC0 (by (repeat (first | exact Below.refl _ _ | assumption | refine Below.drew ?_ | refine balloc ?_ _ | refine bset ?_ (by simp; omega) _ | refine bset ?_ (by simp) _ | refine bstep ?_ (by assumption)))) hb9
  replace oC1 := bytesR.keep2 oC1 (by (repeat (first | exact Below.refl _ _ | assumption | refine Below.drew ?_ | refine balloc ?_ _ | refine bset ?_ (by simp; omega) _ | refine bset ?_ (by simp) _ | refine bstep ?_ (by assumption)))) hb9
  replace oG := loggRR.keep2 oG (by (repeat (first | exact Below.refl _ _ | assumption | refine Below.drew ?_ | refine balloc ?_ _ | refine bset ?_ (by simp; omega) _ | refine bset ?_ (by simp) _ | refine bstep ?_ (by assumption)))) hb9
  clear hBE0
  clear hb9
  have fE1 := bytesR.ofO oE1
  obtain ⟨ae1, ce1, rfl⟩ := bytes_form fE1
  clear z0 z2 z5 z7
  have z0 := World.block_lt_of_cell? _ _ b0_0
  dsimp only at z0
  have z2 := World.block_lt_of_cell? _ _ q_0
  dsimp only at z2
  have z5 := World.block_lt_of_cell? _ _ y0_0
  dsimp only at z5
  have z7 := World.block_lt_of_cell? _ _ g_0
  dsimp only at z7
  go_wp2_with fail
  refine (eqByteS_u _ _ d1 d1 _ (bytesR.below (bytesR.ofO oC1) (by (repeat (first | exact Below.refl _ _ | assumption | refine Below.drew ?_ | refine balloc ?_ _ | refine bset ?_ (by simp; omega) _ | refine bset ?_ (by simp) _ | refine bstep ?_ (by assumption))))) (bytesR.below (bytesR.ofO oE1) (by (repeat (first | exact Below.refl _ _ | assumption | refine Below.drew ?_ | refine balloc ?_ _ | refine bset ?_ (by simp; omega) _ | refine bset ?_ (by simp) _ | refine bstep ?_ (by assumption)))))).mono ?_
  rintro e w10 ⟨rfl, hb10⟩
  have hB10 : Below w.heap.size w w10 := by (repeat (first | exact Below.refl _ _ | assumption | refine Below.drew ?_ | refine balloc ?_ _ | refine bset ?_ (by simp; omega) _ | refine bset ?_ (by simp) _ | refine bstep ?_ (by assumption)))
  have s10 := hb10.size
  try simp only [World.size_alloc] at s10
  replace b0_0 := cell_keep hb10 (cell_keep (by (repeat (first | exact Below.refl _ _ | assumption | refine Below.drew ?_ | refine balloc ?_ _ | refine bset ?_ (by simp; omega) _ | refine bset ?_ (by simp) _ | refine bstep ?_ (by assumption)))) b0_0)
  replace b0_1 := cell_keep hb10 (cell_keep (by (repeat (first | exact Below.refl _ _ | assumption | refine Below.drew ?_ | refine balloc ?_ _ | refine bset ?_ (by simp; omega) _ | refine bset ?_ (by simp) _ | refine bstep ?_ (by assumption)))) b0_1)
  replace q_0 := cell_keep hb10 (cell_keep (by (repeat (first | exact Below.refl _ _ | assumption | refine Below.drew ?_ | refine balloc ?_ _ | refine bset ?_ (by simp; omega) _ | refine bset ?_ (by simp) _ | refine bstep ?_ (by assumption)))) q_0)
  replace q_1 := cell_keep hb10 (cell_keep (by (repeat (first | exact Below.refl _ _ | assumption | refine Below.drew ?_ | refine balloc ?_ _ | refine bset ?_ (by simp; omega) _ | refine bset ?_ (by simp) _ | refine bstep ?_ (by assumption)))) q_1)
  replace q_2 := cell_keep hb10 (cell_keep (by (repeat (first | exact Below.refl _ _ | assumption | refine Below.drew ?_ | refine balloc ?_ _ | refine bset ?_ (by simp; omega) _ | refine bset ?_ (by simp) _ | refine bstep ?_ (by assumption)))) q_2)
  replace y0_0 := cell_keep hb10 (cell_keep (by (repeat (first | exact Below.refl _ _ | assumption | refine Below.drew ?_ | refine balloc ?_ _ | refine bset ?_ (by simp; omega) _ | refine bset ?_ (by simp) _ | refine bstep ?_ (by assumption)))) y0_0)
  replace y0_1 := cell_keep hb10 (cell_keep (by (repeat (first | exact Below.refl _ _ | assumption | refine Below.drew ?_ | refine balloc ?_ _ | refine bset ?_ (by simp; omega) _ | refine bset ?_ (by simp) _ | refine bstep ?_ (by assumption)))) y0_1)
  replace g_0 := cell_keep hb10 (cell_keep (by (repeat (first | exact Below.refl _ _ | assumption | refine Below.drew ?_ | refine balloc ?_ _ | refine bset ?_ (by simp; omega) _ | refine bset ?_ (by simp) _ | refine bstep ?_ (by assumption)))) g_0)
  replace g_1 := cell_keep hb10 (cell_keep (by (repeat (first | exact Below.refl _ _ | assumption | refine Below.drew ?_ | refine balloc ?_ _ | refine bset ?_ (by simp; omega) _ | refine bset ?_ (by simp) _ | refine bstep ?_ (by assumption)))) g_1)
  replace g_2 := cell_keep hb10 (cell_keep (by (repeat (first | exact Below.refl _ _ | assumption | refine Below.drew ?_ | refine balloc ?_ _ | refine bset ?_ (by simp; omega) _ | refine bset ?_ (by simp) _ | refine bstep ?_ (by assumption)))) g_2)
  replace oW := loggRR.keep2 oW (by (repeat (first | exact Below.refl _ _ | assumption | refine Below.drew ?_ | refine balloc ?_ _ | refine bset ?_ (by simp; omega) _ | refine bset ?_ (by simp) _ | refine bstep ?_ (by assumption)))) hb10
  replace oC0 := loggR.keep2 oC0 (by (repeat (first | exact Below.refl _ _ | assumption | refine Below.drew ?_ | refine balloc ?_ _ | refine bset ?_ (by simp; omega) _ | refine bset ?_ (by simp) _ | refine bstep ?_ (by assumption)))) hb10
  replace oC1 := bytesR.keep2 oC1 (by (repeat (first | exact Below.refl _ _ | assumption | refine Below.drew ?_ | refine balloc ?_ _ | refine bset ?_ (by simp; omega) _ | refine bset ?_ (by simp) _ | refine bstep ?_ (by assumption)))) hb10
  replace oG := loggRR.keep2 oG (by (repeat (first | exact Below.refl _ _ | assumption | refine Below.drew ?_ | refine balloc ?_ _ | refine bset ?_ (by simp; omega) _ | refine bset ?_ (by simp) _ | refine bstep ?_ (by assumption)))) hb10
  clear hB9
  clear hb10
  clear oE1
  clear z0 z2 z5 z7
  have z0 := World.block_lt_of_cell? _ _ b0_0
  dsimp only at z0
  have z2 := World.block_lt_of_cell? _ _ q_0
  dsimp only at z2
  have z5 := World.block_lt_of_cell? _ _ y0_0
  dsimp only at z5
  have z7 := World.block_lt_of_cell? _ _ g_0
  dsimp only at z7
  go_wp2_with fail
  refine (markLog_u _ d0 _ FC0 1 _ oC0 (by omega) hkA0 (by omega)).mono ?_
  rintro e w11 ⟨rfl, oC0m, m11⟩
  have hB11 : Below w.heap.size w w11 := m11.below hB10 hB10.size (fun b hb => by have := roC0 b hb; omega)
  have s11 := m11.size
  replace b0_0 := m11.cell b0_0 (fun hf => by have := roC0 _ hf; dsimp only at this; omega)
  replace b0_1 := m11.cell b0_1 (fun hf => by have := roC0 _ hf; dsimp only at this; omega)
  replace q_0 := m11.cell q_0 (fun hf => by have := roC0 _ hf; dsimp only at this; omega)
  replace q_1 := m11.cell q_1 (fun hf => by have := roC0 _ hf; dsimp only at this; omega)
  replace q_2 := m11.cell q_2 (fun hf => by have := roC0 _ hf; dsimp only at this; omega)
  replace y0_0 := m11.cell y0_0 (fun hf => by have := roC0 _ hf; dsimp only at this; omega)
  replace y0_1 := m11.cell y0_1 (fun hf => by have := roC0 _ hf; dsimp only at this; omega)
  replace g_0 := m11.cell g_0 (fun hf => by have := roC0 _ hf; dsimp only at this; omega)
  replace g_1 := m11.cell g_1 (fun hf => by have := roC0 _ hf; dsimp only at this; omega)
  replace g_2 := m11.cell g_2 (fun hf => by have := roC0 _ hf; dsimp only at this; omega)
  replace oW := loggRR.mod oW m11 (fun b p q => by have := roW b p; have := roC0 b q; omega)
  replace oC1 := bytesR.mod oC1 m11 (fun b p q => by have := roC1 b p; have := roC0 b q; omega)
  replace oG := loggRR.mod oG m11 (fun b p q => by have := roG b p; have := roC0 b q; omega)
  clear hB10 oC0 m11
  clear z0 z2 z5 z7
  have z0 := World.block_lt_of_cell? _ _ b0_0
  dsimp only at z0
  have z2 := World.block_lt_of_cell? _ _ q_0
  dsimp only at z2
  have z5 := World.block_lt_of_cell? _ _ y0_0
  dsimp only at z5
  have z7 := World.block_lt_of_cell? _ _ g_0
  dsimp only at z7
  go_wp2_with fail
  refine (markByteS_u _ d1 _ FC1 ((1 : Int) + cntLogg d0) _ oC1 (by omega) hkA1 (by omega)).mono ?_
  rintro e w12 ⟨rfl, oC1m, m12⟩
  have hB12 : Below w.heap.size w w12 := m12.below hB11 hB11.size (fun b hb => by have := roC1 b hb; omega)
  have s12 := m12.size
  replace b0_0 := m12.cell b0_0 (fun hf => by have := roC1 _ hf; dsimp only at this; omega)
  replace b0_1 := m12.cell b0_1 (fun hf => by have := roC1 _ hf; dsimp only at this; omega)
  replace q_0 := m12.cell q_0 (fun hf => by have := roC1 _ hf; dsimp only at this; omega)
  replace q_1 := m12.cell q_1 (fun hf => by have := roC1 _ hf; dsimp only at this; omega)
  replace q_2 := m12.cell q_2 (fun hf => by have := roC1 _ hf; dsimp only at this; omega)
  replace y0_0 := m12.cell y0_0 (fun hf => by have := roC1 _ hf; dsimp only at this; omega)
  replace y0_1 := m12.cell y0_1 (fun hf => by have := roC1 _ hf; dsimp only at this; omega)
  replace g_0 := m12.cell g_0 (fun hf => by have := roC1 _ hf; dsimp only at this; omega)
  replace g_1 := m12.cell g_1 (fun hf => by have := roC1 _ hf; dsimp only at this; omega)
  replace g_2 := m12.cell g_2 (fun hf => by have := roC1 _ hf; dsimp only at this; omega)
  replace oW := loggRR.mod oW m12 (fun b p q => by have := roW b p; have := roC1 b q; omega)
  replace oG := loggRR.mod oG m12 (fun b p q => by have := roG b p; have := roC1 b q; omega)
  replace oC0m := loggR.mod oC0m m12 (fun b p q => by have := roC0 b p; have := roC1 b q; omega)
  clear hB11 oC1 m12
  clear z0 z2 z5 z7
  have z0 := World.block_lt_of_cell? _ _ b0_0
  dsimp only at z0
  have z2 := World.block_lt_of_cell? _ _ q_0
  dsimp only at z2
  have z5 := World.block_lt_of_cell? _ _ y0_0
  dsimp only at z5
  have z7 := World.block_lt_of_cell? _ _ g_0
  dsimp only at z7
  go_wp2_with fail
  refine (eqLogResult_u _ _ (appD d0 d1) (appD d0 d1) _ (loggRR.below (loggRR.ofO oG) (by (repeat (first | exact Below.refl _ _ | assumption | refine Below.drew ?_ | refine balloc ?_ _ | refine bset ?_ (by simp; omega) _ | refine bset ?_ (by simp) _ | refine bstep ?_ (by assumption))))) (loggRR.below (loggRR.ofO oW) (by (repeat (first | exact Below.refl _ _ | assumption | refine Below.drew ?_ | refine balloc ?_ _ | refine bset ?_ (by simp; omega) _ | refine bset ?_ (by simp) _ | refine bstep ?_ (by assumption)))))).mono ?_
  rintro e w13 ⟨rfl, hb13⟩
  have hB13 : Below w.heap.size w w13 := by (repeat (first | exact Below.refl _ _ | assumption | refine Below.drew ?_ | refine balloc ?_ _ | refine bset ?_ (by simp; omega) _ | refine bset ?_ (by simp) _ | refine bstep ?_ (by assumption)))
  have s13 := hb13.size
  try simp only [World.size_alloc] at s13
  replace b0_0 := cell_keep hb13 (cell_keep (by (repeat (first | exact Below.refl _ _ | assumption | refine Below.drew ?_ | refine balloc ?_ _ | refine bset ?_ (by simp; omega) _ | refine bset ?_ (by simp) _ | refine bstep ?_ (by assumption)))) b0_0)
  replace b0_1 := cell_keep hb13 (cell_keep (by (repeat (first | exact Below.refl _ _ | assumption | refine Below.drew ?_ | refine balloc ?_ _ | refine bset ?_ (by simp; omega) _ | refine bset ?_ (by simp) _ | refine bstep ?_ (by assumption)))) b0_1)
  replace q_0 := cell_keep hb13 (cell_keep (by (repeat (first | exact Below.refl _ _ | assumption | refine Below.drew ?_ | refine balloc ?_ _ | refine bset ?_ (by simp; omega) _ | refine bset ?_ (by simp) _ | refine bstep ?_ (by assumption)))) q_0)
  replace q_1 := cell_keep hb13 (cell_keep (by (repeat (first | exact Below.refl _ _ | assumption | refine Below.drew ?_ | refine balloc ?_ _ | refine bset ?_ (by simp; omega) _ | refine bset ?_ (by simp) _ | refine bstep ?_ (by assumption)))) q_1)
  replace q_2 := cell_keep hb13 (cell_keep (by (repeat (first | exact Below.refl _ _ | assumption | refine Below.drew ?_ | refine balloc ?_ _ | refine bset ?_ (by simp; omega) _ | refine bset ?_ (by simp) _ | refine bstep ?_ (by assumption)))) q_2)
  replace y0_0 := cell_keep hb13 (cell_keep (by (repeat (first | exact Below.refl _ _ | assumption | refine Below.drew ?_ | refine balloc ?_ _ | refine bset ?_ (by simp; omega) _ | refine bset ?_ (by simp) _ | refine bstep ?_ (by assumption)))) y0_0)
  replace y0_1 := cell_keep hb13 (cell_keep (by (repeat (first | exact Below.refl _ _ | assumption | refine Below.drew ?_ | refine balloc ?_ _ | refine bset ?_ (by simp; omega) _ | refine bset ?_ (by simp) _ | refine bstep ?_ (by assumption)))) y0_1)
  replace g_0 := cell_keep hb13 (cell_keep (by (repeat (first | exact Below.refl _ _ | assumption | refine Below.drew ?_ | refine balloc ?_ _ | refine bset ?_ (by simp; omega) _ | refine bset ?_ (by simp) _ | refine bstep ?_ (by assumption)))) g_0)
  replace g_1 := cell_keep hb13 (cell_keep (by (repeat (first | exact Below.refl _ _ | assumption | refine Below.drew ?_ | refine balloc ?_ _ | refine bset ?_ (by simp; omega) _ | refine bset ?_ (by simp) _ | refine bstep ?_ (by assumption)))) g_1)
  replace g_2 := cell_keep hb13 (cell_keep (by (repeat (first | exact Below.refl _ _ | assumption | refine Below.drew ?_ | refine balloc ?_ _ | refine bset ?_ (by simp; omega) _ | refine bset ?_ (by simp) _ | refine bstep ?_ (by assumption)))) g_2)
  replace oW := loggRR.keep2 oW (by (repeat (first | exact Below.refl _ _ | assumption | refine Below.drew ?_ | refine balloc ?_ _ | refine bset ?_ (by simp; omega) _ | refine bset ?_ (by simp) _ | refine bstep ?_ (by assumption)))) hb13
  replace oG := loggRR.keep2 oG (by (repeat (first | exact Below.refl _ _ | assumption | refine Below.drew ?_ | refine balloc ?_ _ | refine bset ?_ (by simp; omega) _ | refine bset ?_ (by simp) _ | refine bstep ?_ (by assumption)))) hb13
  replace oC0m := loggR.keep2 oC0m (by (repeat (first | exact Below.refl _ _ | assumption | refine Below.drew ?_ | refine balloc ?_ _ | refine bset ?_ (by simp; omega) _ | refine bset ?_ (by simp) _ | refine bstep ?_ (by assumption)))) hb13
  replace oC1m := bytesR.keep2 oC1m (by (repeat (first | exact Below.refl _ _ | assumption | refine Below.drew ?_ | refine balloc ?_ _ | refine bset ?_ (by simp; omega) _ | refine bset ?_ (by simp) _ | refine bstep ?_ (by assumption)))) hb13
  clear hB12
  clear hb13
  clear z0 z2 z5 z7
  have z0 := World.block_lt_of_cell? _ _ b0_0
  dsimp only at z0
  have z2 := World.block_lt_of_cell? _ _ q_0
  dsimp only at z2
  have z5 := World.block_lt_of_cell? _ _ y0_0
  dsimp only at z5
  have z7 := World.block_lt_of_cell? _ _ g_0
  dsimp only at z7
  go_wp2_with fail
  refine (markLogResult_u _ (appD d0 d1) _ FG 1 _ oG hwR hcR (by omega)).mono ?_
  rintro e w14 ⟨rfl, oGm, m14⟩
  have hB14 : Below w.heap.size w w14 := m14.below hB13 hB13.size (fun b hb => by have := roG b hb; omega)
  have s14 := m14.size
  replace b0_0 := m14.cell b0_0 (fun hf => by have := roG _ hf; dsimp only at this; omega)
  replace b0_1 := m14.cell b0_1 (fun hf => by have := roG _ hf; dsimp only at this; omega)
  replace q_0 := m14.cell q_0 (fun hf => by have := roG _ hf; dsimp only at this; omega)
  replace q_1 := m14.cell q_1 (fun hf => by have := roG _ hf; dsimp only at this; omega)
  replace q_2 := m14.cell q_2 (fun hf => by have := roG _ hf; dsimp only at this; omega)
  replace y0_0 := m14.cell y0_0 (fun hf => by have := roG _ hf; dsimp only at this; omega)
  replace y0_1 := m14.cell y0_1 (fun hf => by have := roG _ hf; dsimp only at this; omega)
  replace g_0 := m14.cell g_0 (fun hf => by have := roG _ hf; dsimp only at this; omega)
  replace g_1 := m14.cell g_1 (fun hf => by have := roG _ hf; dsimp only at this; omega)
  replace g_2 := m14.cell g_2 (fun hf => by have := roG _ hf; dsimp only at this; omega)
  replace oW := loggRR.mod oW m14 (fun b p q => by have := roW b p; have := roG b q; omega)
  replace oC0m := loggR.mod oC0m m14 (fun b p q => by have := roC0 b p; have := roG b q; omega)
  replace oC1m := bytesR.mod oC1m m14 (fun b p q => by have := roC1 b p; have := roG b q; omega)
  clear hB13 oG m14
  clear z0 z2 z5 z7
  have z0 := World.block_lt_of_cell? _ _ b0_0
  dsimp only at z0
  have z2 := World.block_lt_of_cell? _ _ q_0
  dsimp only at z2
  have z5 := World.block_lt_of_cell? _ _ y0_0
  dsimp only at z5
  have z7 := World.block_lt_of_cell? _ _ g_0
  dsimp only at z7
  go_wp2_with fail
  refine (heldLogResult_u _ (appD d0 d1) 1 _ (loggRR.below (loggRR.ofO oGm) (by (repeat (first | exact Below.refl _ _ | assumption | refine Below.drew ?_ | refine balloc ?_ _ | refine bset ?_ (by simp; omega) _ | refine bset ?_ (by simp) _ | refine bstep ?_ (by assumption))))) hwR hcR (by omega)).mono ?_
  rintro e w15 ⟨rfl, hb15⟩
  have hB15 : Below w.heap.size w w15 := by (repeat (first | exact Below.refl _ _ | assumption | refine Below.drew ?_ | refine balloc ?_ _ | refine bset ?_ (by simp; omega) _ | refine bset ?_ (by simp) _ | refine bstep ?_ (by assumption)))
  have s15 := hb15.size
  try simp only [World.size_alloc] at s15
  replace b0_0 := cell_keep hb15 (cell_keep (by (repeat (first | exact Below.refl _ _ | assumption | refine Below.drew ?_ | refine balloc ?_ _ | refine bset ?_ (by simp; omega) _ | refine bset ?_ (by simp) _ | refine bstep ?_ (by assumption)))) b0_0)
  replace b0_1 := cell_keep hb15 (cell_keep (by (repeat (first | exact Below.refl _ _ | assumption | refine Below.drew ?_ | refine balloc ?_ _ | refine bset ?_ (by simp; omega) _ | refine bset ?_ (by simp) _ | refine bstep ?_ (by assumption)))) b0_1)
  replace q_0 := cell_keep hb15 (cell_keep (by (repeat (first | exact Below.refl _ _ | assumption | refine Below.drew ?_ | refine balloc ?_ _ | refine bset ?_ (by simp; omega) _ | refine bset ?_ (by simp) _ | refine bstep ?_ (by assumption)))) q_0)
  replace q_1 := cell_keep hb15 (cell_keep (by (repeat (first | exact Below.refl _ _ | assumption | refine Below.drew ?_ | refine balloc ?_ _ | refine bset ?_ (by simp; omega) _ | refine bset ?_ (by simp) _ | refine bstep ?_ (by assumption)))) q_1)
  replace q_2 := cell_keep hb15 (cell_keep (by (repeat (first | exact Below.refl _ _ | assumption | refine Below.drew ?_ | refine balloc ?_ _ | refine bset ?_ (by simp; omega) _ | refine bset ?_ (by simp) _ | refine bstep ?_ (by assumption)))) q_2)
  replace y0_0 := cell_keep hb15 (cell_keep (by (repeat (first | exact Below.refl _ _ | assumption | refine Below.drew ?_ | refine balloc ?_ _ | refine bset ?_ (by simp; omega) _ | refine bset ?_ (by simp) _ | refine bstep ?_ (by assumption)))) y0_0)
  replace y0_1 := cell_keep hb15 (cell_keep (by (repeat (first | exact Below.refl _ _ | assumption | refine Below.drew ?_ | refine balloc ?_ _ | refine bset ?_ (by simp; omega) _ | refine bset ?_ (by simp) _ | refine bstep ?_ (by assumption)))) y0_1)
  replace g_0 := cell_keep hb15 (cell_keep (by (repeat (first | exact Below.refl _ _ | assumption | refine Below.drew ?_ | refine balloc ?_ _ | refine bset ?_ (by simp; omega) _ | refine bset ?_ (by simp) _ | refine bstep ?_ (by assumption)))) g_0)
  replace g_1 := cell_keep hb15 (cell_keep (by (repeat (first | exact Below.refl _ _ | assumption | refine Below.drew ?_ | refine balloc ?_ _ | refine bset ?_ (by simp; omega) _ | refine bset ?_ (by simp) _ | refine bstep ?_ (by assumption)))) g_1)
  replace g_2 := cell_keep hb15 (cell_keep (by (repeat (first | exact Below.refl _ _ | assumption | refine Below.drew ?_ | refine balloc ?_ _ | refine bset ?_ (by simp; omega) _ | refine bset ?_ (by simp) _ | refine bstep ?_ (by assumption)))) g_2)
  replace oW := loggRR.keep2 oW (by (repeat (first | exact Below.refl _ _ | assumption | refine Below.drew ?_ | refine balloc ?_ _ | refine bset ?_ (by simp; omega) _ | refine bset ?_ (by simp) _ | refine bstep ?_ (by assumption)))) hb15
  replace oC0m := loggR.keep2 oC0m (by (repeat (first | exact Below.refl _ _ | assumption | refine Below.drew ?_ | refine balloc ?_ _ | refine bset ?_ (by simp; omega) _ | refine bset ?_ (by simp) _ | refine bstep ?_ (by assumption)))) hb15
  replace oC1m := bytesR.keep2 oC1m (by (repeat (first | exact Below.refl _ _ | assumption | refine Below.drew ?_ | refine balloc ?_ _ | refine bset ?_ (by simp; omega) _ | refine bset ?_ (by simp) _ | refine bstep ?_ (by assumption)))) hb15
  replace oGm := loggRR.keep2 oGm (by (repeat (first | exact Below.refl _ _ | assumption | refine Below.drew ?_ | refine balloc ?_ _ | refine bset ?_ (by simp; omega) _ | refine bset ?_ (by simp) _ | refine bstep ?_ (by assumption)))) hb15
  clear hB14
  clear hb15
  clear z0 z2 z5 z7
  have z0 := World.block_lt_of_cell? _ _ b0_0
  dsimp only at z0
  have z2 := World.block_lt_of_cell? _ _ q_0
  dsimp only at z2
  have z5 := World.block_lt_of_cell? _ _ y0_0
  dsimp only at z5
  have z7 := World.block_lt_of_cell? _ _ g_0
  dsimp only at z7
  go_wp2_with fail
  refine (toLog_u _ d0 _ (loggR.below hX0 (by (repeat (first | exact Below.refl _ _ | assumption | refine Below.drew ?_ | refine balloc ?_ _ | refine bset ?_ (by simp; omega) _ | refine bset ?_ (by simp) _ | refine bstep ?_ (by assumption))))) (by omega)).mono ?_
  rintro e w16 ⟨vH0, FH0, rfl, oH0, hb16⟩
  have hB16 : Below w.heap.size w w16 := by (repeat (first | exact Below.refl _ _ | assumption | refine Below.drew ?_ | refine balloc ?_ _ | refine bset ?_ (by simp; omega) _ | refine bset ?_ (by simp) _ | refine bstep ?_ (by assumption)))
  have s16 := hb16.size
  try simp only [World.size_alloc] at s16
  replace b0_0 := cell_keep hb16 (cell_keep (by (repeat (first | exact Below.refl _ _ | assumption | refine Below.drew ?_ | refine balloc ?_ _ | refine bset ?_ (by simp; omega) _ | refine bset ?_ (by simp) _ | refine bstep ?_ (by assumption)))) b0_0)
  replace b0_1 := cell_keep hb16 (cell_keep (by (repeat (first | exact Below.refl _ _ | assumption | refine Below.drew ?_ | refine balloc ?_ _ | refine bset ?_ (by simp; omega) _ | refine bset ?_ (by simp) _ | refine bstep ?_ (by assumption)))) b0_1)
  replace q_0 := cell_keep hb16 (cell_keep (by (repeat (first | exact Below.refl _ _ | assumption | refine Below.drew ?_ | refine balloc ?_ _ | refine bset ?_ (by simp; omega) _ | refine bset ?_ (by simp) _ | refine bstep ?_ (by assumption)))) q_0)
  replace q_1 := cell_keep hb16 (cell_keep (by (repeat (first | exact Below.refl _ _ | assumption | refine Below.drew ?_ | refine balloc ?_ _ | refine bset ?_ (by simp; omega) _ | refine bset ?_ (by simp) _ | refine bstep ?_ (by assumption)))) q_1)
  replace q_2 := cell_keep hb16 (cell_keep (by (repeat (first | exact Below.refl _ _ | assumption | refine Below.drew ?_ | refine balloc ?_ _ | refine bset ?_ (by simp; omega) _ | refine bset ?_ (by simp) _ | refine bstep ?_ (by assumption)))) q_2)
  replace y0_0 := cell_keep hb16 (cell_keep (by (repeat (first | exact Below.refl _ _ | assumption | refine Below.drew ?_ | refine balloc ?_ _ | refine bset ?_ (by simp; omega) _ | refine bset ?_ (by simp) _ | refine bstep ?_ (by assumption)))) y0_0)
  replace y0_1 := cell_keep hb16 (cell_keep (by (repeat (first | exact Below.refl _ _ | assumption | refine Below.drew ?_ | refine balloc ?_ _ | refine bset ?_ (by simp; omega) _ | refine bset ?_ (by simp) _ | refine bstep ?_ (by assumption)))) y0_1)
  replace g_0 := cell_keep hb16 (cell_keep (by (repeat (first | exact Below.refl _ _ | assumption | refine Below.drew ?_ | refine balloc ?_ _ | refine bset ?_ (by simp; omega) _ | refine bset ?_ (by simp) _ | refine bstep ?_ (by assumption)))) g_0)
  replace g_1 := cell_keep hb16 (cell_keep (by (repeat (first | exact Below.refl _ _ | assumption | refine Below.drew ?_ | refine balloc ?_ _ | refine bset ?_ (by simp; omega) _ | refine bset ?_ (by simp) _ | refine bstep ?_ (by assumption)))) g_1)
  replace g_2 := cell_keep hb16 (cell_keep (by (repeat (first | exact Below.refl _ _ | assumption | refine Below.drew ?_ | refine balloc ?_ _ | refine bset ?_ (by simp; omega) _ | refine bset ?_ (by simp) _ | refine bstep ?_ (by assumption)))) g_2)
  replace oW := loggRR.keep2 oW (by (repeat (first | exact Below.refl _ _ | assumption | refine Below.drew ?_ | refine balloc ?_ _ | refine bset ?_ (by simp; omega) _ | refine bset ?_ (by simp) _ | refine bstep ?_ (by assumption)))) hb16
  replace oC0m := loggR.keep2 oC0m (by (repeat (first | exact Below.refl _ _ | assumption | refine Below.drew ?_ | refine balloc ?_ _ | refine bset ?_ (by simp; omega) _ | refine bset ?_ (by simp) _ | refine bstep ?_ (by assumption)))) hb16
  replace oC1m := bytesR.keep2 oC1m (by (repeat (first | exact Below.refl _ _ | assumption | refine Below.drew ?_ | refine balloc ?_ _ | refine bset ?_ (by simp; omega) _ | refine bset ?_ (by simp) _ | refine bstep ?_ (by assumption)))) hb16
  replace oGm := loggRR.keep2 oGm (by (repeat (first | exact Below.refl _ _ | assumption | refine Below.drew ?_ | refine balloc ?_ _ | refine bset ?_ (by simp; omega) _ | refine bset ?_ (by simp) _ | refine bstep ?_ (by assumption)))) hb16
  clear hB15
  have roH0 : ∀ b, FH0 b → w15.heap.size ≤ b ∧ b < w16.heap.size := fun b hb => by
    have := loggR.rng oH0 b hb
    try simp only [World.size_alloc] at this
    omega
  clear hb16
  have fH0 := loggR.ofO oH0
  obtain ⟨ah01, ah02, ch01, ch02, rfl⟩ := logg_form fH0
  clear z0 z2 z5 z7
  have z0 := World.block_lt_of_cell? _ _ b0_0
  dsimp only at z0
  have z2 := World.block_lt_of_cell? _ _ q_0
  dsimp only at z2
  have z5 := World.block_lt_of_cell? _ _ y0_0
  dsimp only at z5
  have z7 := World.block_lt_of_cell? _ _ g_0
  dsimp only at z7
  go_wp2_with fail
  refine (toByteS_u _ d1 _ (bytesR.below hX1 (by (repeat (first | exact Below.refl _ _ | assumption | refine Below.drew ?_ | refine balloc ?_ _ | refine bset ?_ (by simp; omega) _ | refine bset ?_ (by simp) _ | refine bstep ?_ (by assumption))))) (by omega)).mono ?_
  rintro e w17 ⟨vH1, FH1, rfl, oH1, hb17⟩
  have hB17 : Below w.heap.size w w17 := by (repeat (first | exact Below.refl _ _ | assumption | refine Below.drew ?_ | refine balloc ?_ _ | refine bset ?_ (by simp; omega) _ | refine bset ?_ (by simp) _ | refine bstep ?_ (by assumption)))
  have s17 := hb17.size
  try simp only [World.size_alloc] at s17
  replace b0_0 := cell_keep hb17 (cell_keep (by (repeat (first | exact Below.refl _ _ | assumption | refine Below.drew ?_ | refine balloc ?_ _ | refine bset ?_ (by simp; omega) _ | refine bset ?_ (by simp) _ | refine bstep ?_ (by assumption)))) b0_0)
  replace b0_1 := cell_keep hb17 (cell_keep (by (repeat (first | exact Below.refl _ _ | assumption | refine Below.drew ?_ | refine balloc ?_ _ | refine bset ?_ (by simp; omega) _ | refine bset ?_ (by simp) _ | refine bstep ?_ (by assumption)))) b0_1)
  replace q_0 := cell_keep hb17 (cell_keep (by (repeat (first | exact Below.refl _ _ | assumption | refine Below.drew ?_ | refine balloc ?_ _ | refine bset ?_ (by simp; omega) _ | refine bset ?_ (by simp) _ | refine bstep ?_ (by assumption)))) q_0)
  replace q_1 := cell_keep hb17 (cell_keep (by (repeat (first | exact Below.refl _ _ | assumption | refine Below.drew ?_ | refine balloc ?_ _ | refine bset ?_ (by simp; omega) _ | refine bset ?_ (by simp) _ | refine bstep ?_ (by assumption)))) q_1)
  replace q_2 := cell_keep hb17 (cell_keep (by (repeat (first | exact Below.refl _ _ | assumption | refine Below.drew ?_ | refine balloc ?_ _ | refine bset ?_ (by simp; omega) _ | refine bset ?_ (by simp) _ | refine bstep ?_ (by assumption)))) q_2)
  replace y0_0 := cell_keep hb17 (cell_keep (by (repeat (first | exact Below.refl _ _ | assumption | refine Below.drew ?_ | refine balloc ?_ _ | refine bset ?_ (by simp; omega) _ | refine bset ?_ (by simp) _ | refine bstep ?_ (by assumption)))) y0_0)
  replace y0_1 := cell_keep hb17 (cell_keep (by (repeat (first | exact Below.refl _ _ | assumption | refine Below.drew ?_ | refine balloc ?_ _ | refine bset ?_ (by simp; omega) _ | refine bset ?_ (by simp) _ | refine bstep ?_ (by assumption)))) y0_1)
  replace g_0 := cell_keep hb17 (cell_keep (by (repeat (first | exact Below.refl _ _ | assumption | refine Below.drew ?_ | refine balloc ?_ _ | refine bset ?_ (by simp; omega) _ | refine bset ?_ (by simp) _ | refine bstep ?_ (by assumption)))) g_0)
  replace g_1 := cell_keep hb17 (cell_keep (by (repeat (first | exact Below.refl _ _ | assumption | refine Below.drew ?_ | refine balloc ?_ _ | refine bset ?_ (by simp; omega) _ | refine bset ?_ (by simp) _ | refine bstep ?_ (by assumption)))) g_1)
  replace g_2 := cell_keep hb17 (cell_keep (by (repeat (first | exact Below.refl _ _ | assumption | refine Below.drew ?_ | refine balloc ?_ _ | refine bset ?_ (by simp; omega) _ | refine bset ?_ (by simp) _ | refine bstep ?_ (by assumption)))) g_2)
  replace oW := loggRR.keep2 oW (by (repeat (first | exact Below.refl _ _ | assumption | refine Below.drew ?_ | refine balloc ?_ _ | refine bset ?_ (by simp; omega) _ | refine bset ?_ (by simp) _ | refine bstep ?_ (by assumption)))) hb17
  replace oC0m := loggR.keep2 oC0m (by (repeat (first | exact Below.refl _ _ | assumption | refine Below.drew ?_ | refine balloc ?_ _ | refine bset ?_ (by simp; omega) _ | refine bset ?_ (by simp) _ | refine bstep ?_ (by assumption)))) hb17
  replace oC1m := bytesR.keep2 oC1m (by (repeat (first | exact Below.refl _ _ | assumption | refine Below.drew ?_ | refine balloc ?_ _ | refine bset ?_ (by simp; omega) _ | refine bset ?_ (by simp) _ | refine bstep ?_ (by assumption)))) hb17
  replace oGm := loggRR.keep2 oGm (by (repeat (first | exact Below.refl _ _ | assumption | refine Below.drew ?_ | refine balloc ?_ _ | refine bset ?_ (by simp; omega) _ | refine bset ?_ (by simp) _ | refine bstep ?_ (by assumption)))) hb17
  replace oH0 := loggR.keep2 oH0 (by (repeat (first | exact Below.refl _ _ | assumption | refine Below.drew ?_ | refine balloc ?_ _ | refine bset ?_ (by simp; omega) _ | refine bset ?_ (by simp) _ | refine bstep ?_ (by assumption)))) hb17
  clear hB16
  have roH1 : ∀ b, FH1 b → w16.heap.size ≤ b ∧ b < w17.heap.size := fun b hb => by
    have := bytesR.rng oH1 b hb
    try simp only [World.size_alloc] at this
    omega
  clear hb17
  have fH1 := bytesR.ofO oH1
  obtain ⟨ah1, ch1, rfl⟩ := bytes_form fH1
  clear z0 z2 z5 z7
  have z0 := World.block_lt_of_cell? _ _ b0_0
  dsimp only at z0
  have z2 := World.block_lt_of_cell? _ _ q_0
  dsimp only at z2
  have z5 := World.block_lt_of_cell? _ _ y0_0
  dsimp only at z5
  have z7 := World.block_lt_of_cell? _ _ g_0
  dsimp only at z7
  go_wp2_with fail
  refine (implApp_u _ d0 _ d1 _ (loggR.below (loggR.ofO oH0) (by (repeat (first | exact Below.refl _ _ | assumption | refine Below.drew ?_ | refine balloc ?_ _ | refine bset ?_ (by simp; omega) _ | refine bset ?_ (by simp) _ | refine bstep ?_ (by assumption))))) (by omega) (bytesR.below (bytesR.ofO oH1) (by (repeat (first | exact Below.refl _ _ | assumption | refine Below.drew ?_ | refine balloc ?_ _ | refine bset ?_ (by simp; omega) _ | refine bset ?_ (by simp) _ | refine bstep ?_ (by assumption)))))).mono ?_
  rintro e w18 ⟨vI, FI, rfl, oI, hb18⟩
  have hB18 : Below w.heap.size w w18 := by (repeat (first | exact Below.refl _ _ | assumption | refine Below.drew ?_ | refine balloc ?_ _ | refine bset ?_ (by simp; omega) _ | refine bset ?_ (by simp) _ | refine bstep ?_ (by assumption)))
  have s18 := hb18.size
  try simp only [World.size_alloc] at s18
  replace b0_0 := cell_keep hb18 (cell_keep (by (repeat (first | exact Below.refl _ _ | assumption | refine Below.drew ?_ | refine balloc ?_ _ | refine bset ?_ (by simp; omega) _ | refine bset ?_ (by simp) _ | refine bstep ?_ (by assumption)))) b0_0)
  replace b0_1 := cell_keep hb18 (cell_keep (by (repeat (first | exact Below.refl _ _ | assumption | refine Below.drew ?_ | refine balloc ?_ _ | refine bset ?_ (by simp; omega) _ | refine bset ?_ (by simp) _ | refine bstep ?_ (by assumption)))) b0_1)
  replace q_0 := cell_keep hb18 (cell_keep (by (repeat (first | exact Below.refl _ _ | assumption | refine Below.drew ?_ | refine balloc ?_ _ | refine bset ?_ (by simp; omega) _ | refine bset ?_ (by simp) _ | refine bstep ?_ (by assumption)))) q_0)
  replace q_1 := cell_keep hb18 (cell_keep (by (repeat (first | exact Below.refl _ _ | assumption | refine Below.drew ?_ | refine balloc ?_ _ | refine bset ?_ (by simp; omega) _ | refine bset ?_ (by simp) _ | refine bstep ?_ (by assumption)))) q_1)
  replace q_2 := cell_keep hb18 (cell_keep (by (repeat (first | exact Below.refl _ _ | assumption | refine Below.drew ?_ | refine balloc ?_ _ | refine bset ?_ (by simp; omega) _ | refine bset ?_ (by simp) _ | refine bstep ?_ (by assumption)))) q_2)
  replace y0_0 := cell_keep hb18 (cell_keep (by (repeat (first | exact Below.refl _ _ | assumption | refine Below.drew ?_ | refine balloc ?_ _ | refine bset ?_ (by simp; omega) _ | refine bset ?_ (by simp) _ | refine bstep ?_ (by assumption)))) y0_0)
  replace y0_1 := cell_keep hb18 (cell_keep (by (repeat (first | exact Below.refl _ _ | assumption | refine Below.drew ?_ | refine balloc ?_ _ | refine bset ?_ (by simp; omega) _ | refine bset ?_ (by simp) _ | refine bstep ?_ (by assumption)))) y0_1)
  replace g_0 := cell_keep hb18 (cell_keep (by (repeat (first | exact Below.refl _ _ | assumption | refine Below.drew ?_ | refine balloc ?_ _ | refine bset ?_ (by simp; omega) _ | refine bset ?_ (by simp) _ | refine bstep ?_ (by assumption)))) g_0)
  replace g_1 := cell_keep hb18 (cell_keep (by (repeat (first | exact Below.refl _ _ | assumption | refine Below.drew ?_ | refine balloc ?_ _ | refine bset ?_ (by simp; omega) _ | refine bset ?_ (by simp) _ | refine bstep ?_ (by assumption)))) g_1)
  replace g_2 := cell_keep hb18 (cell_keep (by (repeat (first | exact Below.refl _ _ | assumption | refine Below.drew ?_ | refine balloc ?_ _ | refine bset ?_ (by simp; omega) _ | refine bset ?_ (by simp) _ | refine bstep ?_ (by assumption)))) g_2)
  replace oW := loggRR.keep2 oW (by (repeat (first | exact Below.refl _ _ | assumption | refine Below.drew ?_ | refine balloc ?_ _ | refine bset ?_ (by simp; omega) _ | refine bset ?_ (by simp) _ | refine bstep ?_ (by assumption)))) hb18
  replace oC0m := loggR.keep2 oC0m (by (repeat (first | exact Below.refl _ _ | assumption | refine Below.drew ?_ | refine balloc ?_ _ | refine bset ?_ (by simp; omega) _ | refine bset ?_ (by simp) _ | refine bstep ?_ (by assumption)))) hb18
  replace oC1m := bytesR.keep2 oC1m (by (repeat (first | exact Below.refl _ _ | assumption | refine Below.drew ?_ | refine balloc ?_ _ | refine bset ?_ (by simp; omega) _ | refine bset ?_ (by simp) _ | refine bstep ?_ (by assumption)))) hb18
  replace oGm := loggRR.keep2 oGm (by (repeat (first | exact Below.refl _ _ | assumption | refine Below.drew ?_ | refine balloc ?_ _ | refine bset ?_ (by simp; omega) _ | refine bset ?_ (by simp) _ | refine bstep ?_ (by assumption)))) hb18
  replace oH0 := loggR.keep2 oH0 (by (repeat (first | exact Below.refl _ _ | assumption | refine Below.drew ?_ | refine balloc ?_ _ | refine bset ?_ (by simp; omega) _ | refine bset ?_ (by simp) _ | refine bstep ?_ (by assumption)))) hb18
  replace oH1 := bytesR.keep2 oH1 (by (repeat (first | exact Below.refl _ _ | assumption | refine Below.drew ?_ | refine balloc ?_ _ | refine bset ?_ (by simp; omega) _ | refine bset ?_ (by simp) _ | refine bstep ?_ (by assumption)))) hb18
  clear hB17
  clear hb18
  have fI := loggRR.ofO oI
  obtain ⟨ai1_1, ai1_2, ci1_1, ci1_2, rfl⟩ := loggR_form fI
  clear z0 z2 z5 z7
  have z0 := World.block_lt_of_cell? _ _ b0_0
  dsimp only at z0
  have z2 := World.block_lt_of_cell? _ _ q_0
  dsimp only at z2
  have z5 := World.block_lt_of_cell? _ _ y0_0
  dsimp only at z5
  have z7 := World.block_lt_of_cell? _ _ g_0
  dsimp only at z7
  go_wp2_with fail
  refine (eqLogResult_u _ _ (appD d0 d1) (appD d0 d1) _ (loggRR.below (loggRR.ofO oI) (by (repeat (first | exact Below.refl _ _ | assumption | refine Below.drew ?_ | refine balloc ?_ _ | refine bset ?_ (by simp; omega) _ | refine bset ?_ (by simp) _ | refine bstep ?_ (by assumption))))) (loggRR.below (loggRR.ofO oW) (by (repeat (first | exact Below.refl _ _ | assumption | refine Below.drew ?_ | refine balloc ?_ _ | refine bset ?_ (by simp; omega) _ | refine bset ?_ (by simp) _ | refine bstep ?_ (by assumption)))))).mono ?_
  rintro e w19 ⟨rfl, hb19⟩
  have hB19 : Below w.heap.size w w19 := by (repeat (first | exact Below.refl _ _ | assumption | refine Below.drew ?_ | refine balloc ?_ _ | refine bset ?_ (by simp; omega) _ | refine bset ?_ (by simp) _ | refine bstep ?_ (by assumption)))
  have s19 := hb19.size
  try simp only [World.size_alloc] at s19
  replace b0_0 := cell_keep hb19 (cell_keep (by (repeat (first | exact Below.refl _ _ | assumption | refine Below.drew ?_ | refine balloc ?_ _ | refine bset ?_ (by simp; omega) _ | refine bset ?_ (by simp) _ | refine bstep ?_ (by assumption)))) b0_0)
  replace b0_1 := cell_keep hb19 (cell_keep (by (repeat (first | exact Below.refl _ _ | assumption | refine Below.drew ?_ | refine balloc ?_ _ | refine bset ?_ (by simp; omega) _ | refine bset ?_ (by simp) _ | refine bstep ?_ (by assumption)))) b0_1)
  replace q_0 := cell_keep hb19 (cell_keep (by (repeat (first | exact Below.refl _ _ | assumption | refine Below.drew ?_ | refine balloc ?_ _ | refine bset ?_ (by simp; omega) _ | refine bset ?_ (by simp) _ | refine bstep ?_ (by assumption)))) q_0)
  replace q_1 := cell_keep hb19 (cell_keep (by (repeat (first | exact Below.refl _ _ | assumption | refine Below.drew ?_ | refine balloc ?_ _ | refine bset ?_ (by simp; omega) _ | refine bset ?_ (by simp) _ | refine bstep ?_ (by assumption)))) q_1)
  replace q_2 := cell_keep hb19 (cell_keep (by (repeat (first | exact Below.refl _ _ | assumption | refine Below.drew ?_ | refine balloc ?_ _ | refine bset ?_ (by simp; omega) _ | refine bset ?_ (by simp) _ | refine bstep ?_ (by assumption)))) q_2)
  replace y0_0 := cell_keep hb19 (cell_keep (by (repeat (first | exact Below.refl _ _ | assumption | refine Below.drew ?_ | refine balloc ?_ _ | refine bset ?_ (by simp; omega) _ | refine bset ?_ (by simp) _ | refine bstep ?_ (by assumption)))) y0_0)
  replace y0_1 := cell_keep hb19 (cell_keep (by (repeat (first | exact Below.refl _ _ | assumption | refine Below.drew ?_ | refine balloc ?_ _ | refine bset ?_ (by simp; omega) _ | refine bset ?_ (by simp) _ | refine bstep ?_ (by assumption)))) y0_1)
  replace g_0 := cell_keep hb19 (cell_keep (by (repeat (first | exact Below.refl _ _ | assumption | refine Below.drew ?_ | refine balloc ?_ _ | refine bset ?_ (by simp; omega) _ | refine bset ?_ (by simp) _ | refine bstep ?_ (by assumption)))) g_0)
  replace g_1 := cell_keep hb19 (cell_keep (by (repeat (first | exact Below.refl _ _ | assumption | refine Below.drew ?_ | refine balloc ?_ _ | refine bset ?_ (by simp; omega) _ | refine bset ?_ (by simp) _ | refine bstep ?_ (by assumption)))) g_1)
  replace g_2 := cell_keep hb19 (cell_keep (by (repeat (first | exact Below.refl _ _ | assumption | refine Below.drew ?_ | refine balloc ?_ _ | refine bset ?_ (by simp; omega) _ | refine bset ?_ (by simp) _ | refine bstep ?_ (by assumption)))) g_2)
  replace oW := loggRR.keep2 oW (by (repeat (first | exact Below.refl _ _ | assumption | refine Below.drew ?_ | refine balloc ?_ _ | refine bset ?_ (by simp; omega) _ | refine bset ?_ (by simp) _ | refine bstep ?_ (by assumption)))) hb19
  replace oC0m := loggR.keep2 oC0m (by (repeat (first | exact Below.refl _ _ | assumption | refine Below.drew ?_ | refine balloc ?_ _ | refine bset ?_ (by simp; omega) _ | refine bset ?_ (by simp) _ | refine bstep ?_ (by assumption)))) hb19
  replace oC1m := bytesR.keep2 oC1m (by (repeat (first | exact Below.refl _ _ | assumption | refine Below.drew ?_ | refine balloc ?_ _ | refine bset ?_ (by simp; omega) _ | refine bset ?_ (by simp) _ | refine bstep ?_ (by assumption)))) hb19
  replace oGm := loggRR.keep2 oGm (by (repeat (first | exact Below.refl _ _ | assumption | refine Below.drew ?_ | refine balloc ?_ _ | refine bset ?_ (by simp; omega) _ | refine bset ?_ (by simp) _ | refine bstep ?_ (by assumption)))) hb19
  clear hB18
  clear hb19
  clear oI oH0 roH0 oH1 roH1
  clear z0 z2 z5 z7
  have z0 := World.block_lt_of_cell? _ _ b0_0
  dsimp only at z0
  have z2 := World.block_lt_of_cell? _ _ q_0
  dsimp only at z2
  have z5 := World.block_lt_of_cell? _ _ y0_0
  dsimp only at z5
  have z7 := World.block_lt_of_cell? _ _ g_0
  dsimp only at z7
  go_wp2_with fail
  refine (heldLogResult_u _ (appD d0 d1) 1 _ (loggRR.below (loggRR.ofO oGm) (by (repeat (first | exact Below.refl _ _ | assumption | refine Below.drew ?_ | refine balloc ?_ _ | refine bset ?_ (by simp; omega) _ | refine bset ?_ (by simp) _ | refine bstep ?_ (by assumption))))) hwR hcR (by omega)).mono ?_
  rintro e w20 ⟨rfl, hb20⟩
  have hB20 : Below w.heap.size w w20 := by (repeat (first | exact Below.refl _ _ | assumption | refine Below.drew ?_ | refine balloc ?_ _ | refine bset ?_ (by simp; omega) _ | refine bset ?_ (by simp) _ | refine bstep ?_ (by assumption)))
  have s20 := hb20.size
  try simp only [World.size_alloc] at s20
  replace b0_0 := cell_keep hb20 (cell_keep (by (repeat (first | exact Below.refl _ _ | assumption | refine Below.drew ?_ | refine balloc ?_ _ | refine bset ?_ (by simp; omega) _ | refine bset ?_ (by simp) _ | refine bstep ?_ (by assumption)))) b0_0)
  replace b0_1 := cell_keep hb20 (cell_keep (by (repeat (first | exact Below.refl _ _ | assumption | refine Below.drew ?_ | refine balloc ?_ _ | refine bset ?_ (by simp; omega) _ | refine bset ?_ (by simp) _ | refine bstep ?_ (by assumption)))) b0_1)
  replace q_0 := cell_keep hb20 (cell_keep (by (repeat (first | exact Below.refl _ _ | assumption | refine Below.drew ?_ | refine balloc ?_ _ | refine bset ?_ (by simp; omega) _ | refine bset ?_ (by simp) _ | refine bstep ?_ (by assumption)))) q_0)
  replace q_1 := cell_keep hb20 (cell_keep (by (repeat (first | exact Below.refl _ _ | assumption | refine Below.drew ?_ | refine balloc ?_ _ | refine bset ?_ (by simp; omega) _ | refine bset ?_ (by simp) _ | refine bstep ?_ (by assumption)))) q_1)
  replace q_2 := cell_keep hb20 (cell_keep (by (repeat (first | exact Below.refl _ _ | assumption | refine Below.drew ?_ | refine balloc ?_ _ | refine bset ?_ (by simp; omega) _ | refine bset ?_ (by simp) _ | refine bstep ?_ (by assumption)))) q_2)
  replace y0_0 := cell_keep hb20 (cell_keep (by (repeat (first | exact Below.refl _ _ | assumption | refine Below.drew ?_ | refine balloc ?_ _ | refine bset ?_ (by simp; omega) _ | refine bset ?_ (by simp) _ | refine bstep ?_ (by assumption)))) y0_0)
  replace y0_1 := cell_keep hb20 (cell_keep (by (repeat (first | exact Below.refl _ _ | assumption | refine Below.drew ?_ | refine balloc ?_ _ | refine bset ?_ (by simp; omega) _ | refine bset ?_ (by simp) _ | refine bstep ?_ (by assumption)))) y0_1)
  replace g_0 := cell_keep hb20 (cell_keep (by (repeat (first | exact Below.refl _ _ | assumption | refine Below.drew ?_ | refine balloc ?_ _ | refine bset ?_ (by simp; omega) _ | refine bset ?_ (by simp) _ | refine bstep ?_ (by assumption)))) g_0)
  replace g_1 := cell_keep hb20 (cell_keep (by (repeat (first | exact Below.refl _ _ | assumption | refine Below.drew ?_ | refine balloc ?_ _ | refine bset ?_ (by simp; omega) _ | refine bset ?_ (by simp) _ | refine bstep ?_ (by assumption)))) g_1)
  replace g_2 := cell_keep hb20 (cell_keep (by (repeat (first | exact Below.refl _ _ | assumption | refine Below.drew ?_ | refine balloc ?_ _ | refine bset ?_ (by simp; omega) _ | refine bset ?_ (by simp) _ | refine bstep ?_ (by assumption)))) g_2)
  replace oW := loggRR.keep2 oW (by (repeat (first | exact Below.refl _ _ | assumption | refine Below.drew ?_ | refine balloc ?_ _ | refine bset ?_ (by simp; omega) _ | refine bset ?_ (by simp) _ | refine bstep ?_ (by assumption)))) hb20
  replace oC0m := loggR.keep2 oC0m (by (repeat (first | exact Below.refl _ _ | assumption | refine Below.drew ?_ | refine balloc ?_ _ | refine bset ?_ (by simp; omega) _ | refine bset ?_ (by simp) _ | refine bstep ?_ (by assumption)))) hb20
  replace oC1m := bytesR.keep2 oC1m (by (repeat (first | exact Below.refl _ _ | assumption | refine Below.drew ?_ | refine balloc ?_ _ | refine bset ?_ (by simp; omega) _ | refine bset ?_ (by simp) _ | refine bstep ?_ (by assumption)))) hb20
  replace oGm := loggRR.keep2 oGm (by (repeat (first | exact Below.refl _ _ | assumption | refine Below.drew ?_ | refine balloc ?_ _ | refine bset ?_ (by simp; omega) _ | refine bset ?_ (by simp) _ | refine bstep ?_ (by assumption)))) hb20
  clear hB19
  go_wp2
  go_ret
  exact ⟨rfl, hB20⟩

end Go.Proofs.Ytlhikbjohlcdmaa.appendLogLaw
