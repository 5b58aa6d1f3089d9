import Derived.Test.YtncmdeijimgchaaGreatPrnRunBallotLaw21
import Derived.Test.YtncmdeijimgchaaGreatPrnRunBallotLaw17
import Derived.Test.YtncmdeijimgchaaGreatPrnRunBallotLaw22
import Derived.Test.YtncmdeijimgchaaGreatPrnRunBallotLaw7
import Derived.Deep.RegionHeld3
import Derived.Deep.DrawnRows

/-
  Proved: laws.FnExactRunBallot answers true at every argument, and its arguments read behind the call as they read before. No condition. (The walk.)
-/
namespace Go.Proofs.YtncmdeijimgchaaGreat.runBallotLaw
open Go.RowKit
set_option linter.unusedSectionVars false
variable [DecidableEq Vot] [Inhabited Vot] [DecidableEq Slt] [Inhabited Slt] [DecidableEq SltR] [Inhabited SltR] [DecidableEq Bal] [Inhabited Bal] [DecidableEq Ledg] [Inhabited Ledg] [DecidableEq Leg] [Inhabited Leg] [DecidableEq Acc] [Inhabited Acc] [DecidableEq AccR] [Inhabited AccR] [DecidableEq AccsR] [Inhabited AccsR] [DecidableEq SltsR] [Inhabited SltsR]
attribute [local go_sem ↓] Go.wp_at_zero Go.wp_at_succ

set_option maxHeartbeats 8000000 in
set_option maxRecDepth 20000 in
theorem walk (x0 : Value) (d0 : List Acc) (x1 : Value) (d1 : List Int) (k2 : Int) (k3 : Int) (k4 : Int) (k5 : Int) (w : World) (hx0 : accsR.V w x0 d0) (hx1 : intsR.V w x1 d1) :
    Calls Tryz.prog 3 #[x0, x1, .int .i64 k2, .int .i64 k3, .int .i64 k4, .int .i64 k5] w fun e w' => e = .returned (.bool true) ∧ Below w.heap.size w w' := by
  have hX0 := hx0
  obtain ⟨ax0, cx0, rfl⟩ := accs_form hx0
  have hX1 := hx1
  obtain ⟨ax1, cx1, rfl⟩ := ints_form hx1
  by_cases hsz1 : 1048576 < wtInts d1
  · unfold wtInts at hsz1
    have hmx := hX1
    obtain ⟨_, _, hmv, hml, hmc, _⟩ := hmx
    unfold maxLen at hmc
    simp only [Value.slice.injEq, true_and] at hmv
    have hl2 : d1.length ≤ 9223372036854775807 := by omega
    clear hmv hml hmc
    generalize d1.length = n1 at *
    go_enter Tryz.func3, Tryz.ntmps3
    go_wp2
    go_ret
    exact ⟨rfl, by (repeat (first | exact Below.refl _ _ | assumption | refine Below.drew ?_ | refine balloc ?_ _ | refine bset ?_ (by simp; omega) _ | refine bset ?_ (by simp) _ | refine bstep ?_ (by assumption)))⟩
  have hlen1 : d1.length ≤ 1048576 := by unfold wtInts at hsz1; omega
  go_enter Tryz.func3, Tryz.ntmps3
  go_wp2_with fail
  refine (szAcceptorS_u _ d0 1048576 _ (accsR.below hX0 (by (repeat (first | exact Below.refl _ _ | assumption | refine Below.drew ?_ | refine balloc ?_ _ | refine bset ?_ (by simp; omega) _ | refine bset ?_ (by simp) _ | refine bstep ?_ (by assumption))))) (by omega) (by omega)).mono ?_
  rintro e w1 ⟨rfl, hb1⟩
  have hB1 : Below w.heap.size w w1 := by (repeat (first | exact Below.refl _ _ | assumption | refine Below.drew ?_ | refine balloc ?_ _ | refine bset ?_ (by simp; omega) _ | refine bset ?_ (by simp) _ | refine bstep ?_ (by assumption)))
  have s1 := hb1.size
  try simp only [World.size_alloc] at s1
  clear hb1
  by_cases hsz : 1048576 < wtAccs d0
  · rw [show szLen 1048576 ((wtAccs d0 : Nat) : Int) = -1 by unfold szLen; rw [if_pos (by omega)]]
    go_wp2
    go_ret
    exact ⟨rfl, by (repeat (first | exact Below.refl _ _ | assumption | refine Below.drew ?_ | refine balloc ?_ _ | refine bset ?_ (by simp; omega) _ | refine bset ?_ (by simp) _ | refine bstep ?_ (by assumption)))⟩
  have e1 : szLen 1048576 ((wtAccs d0 : Nat) : Int) = 1048576 - ((wtAccs d0 : Nat) : Int) := by unfold szLen; rw [if_neg (by omega)]
  have e2 : ¬ (1048576 : Int) - ((wtAccs d0 : Nat) : Int) < 0 := by omega
  rw [e1]
  clear e1
  have hcA0 := accs_cnt d0
  have hcA1 := ints_cnt d1
  have hwR : wtAccsR (runD d0 d1 k2 k3 k4 k5) ≤ 1048576 := by have := runD_wt d0 d1 k2 k3 k4 k5; omega
  have hcR : (1 : Int) + cntAccsR (runD d0 d1 k2 k3 k4 k5) ≤ 1073741824 := by have := runD_wt d0 d1 k2 k3 k4 k5; have := accsR_cnt (runD d0 d1 k2 k3 k4 k5); omega
  have hkA0 : (1 : Int) + cntAccs d0 ≤ 1073741824 := by omega
  have hkA1 : (1 : Int) + cntAccs d0 + cntInts d1 ≤ 1073741824 := by omega
  have hk1 : ¬ (1 : Int) + cntAccs d0 + cntInts d1 < 0 := by omega
  have hk2 : ¬ (1 : Int) + cntAccsR (runD d0 d1 k2 k3 k4 k5) < 0 := by omega
  go_wp2_with fail
  refine (toAcceptorS_u _ d0 _ (accsR.below hX0 (by (repeat (first | exact Below.refl _ _ | assumption | refine Below.drew ?_ | refine balloc ?_ _ | refine bset ?_ (by simp; omega) _ | refine bset ?_ (by simp) _ | refine bstep ?_ (by assumption))))) (by omega)).mono ?_
  rintro e w2 ⟨vS0, FS0, rfl, oS0, hb2⟩
  have hB2 : Below w.heap.size w w2 := by (repeat (first | exact Below.refl _ _ | assumption | refine Below.drew ?_ | refine balloc ?_ _ | refine bset ?_ (by simp; omega) _ | refine bset ?_ (by simp) _ | refine bstep ?_ (by assumption)))
  have s2 := hb2.size
  try simp only [World.size_alloc] at s2
  clear hB1
  have roS0 : ∀ b, FS0 b → w1.heap.size ≤ b ∧ b < w2.heap.size := fun b hb => by
    have := accsR.rng oS0 b hb
    try simp only [World.size_alloc] at this
    omega
  clear hb2
  have fS0 := accsR.ofO oS0
  obtain ⟨as0, cs0, rfl⟩ := accs_form fS0
  go_wp2_with fail
  refine (toInt64S_u _ d1 _ (intsR.below hX1 (by (repeat (first | exact Below.refl _ _ | assumption | refine Below.drew ?_ | refine balloc ?_ _ | refine bset ?_ (by simp; omega) _ | refine bset ?_ (by simp) _ | refine bstep ?_ (by assumption))))) (by omega)).mono ?_
  rintro e w3 ⟨vS1, FS1, rfl, oS1, hb3⟩
  have hB3 : Below w.heap.size w w3 := by (repeat (first | exact Below.refl _ _ | assumption | refine Below.drew ?_ | refine balloc ?_ _ | refine bset ?_ (by simp; omega) _ | refine bset ?_ (by simp) _ | refine bstep ?_ (by assumption)))
  have s3 := hb3.size
  try simp only [World.size_alloc] at s3
  replace oS0 := accsR.keep2 oS0 (by (repeat (first | exact Below.refl _ _ | assumption | refine Below.drew ?_ | refine balloc ?_ _ | refine bset ?_ (by simp; omega) _ | refine bset ?_ (by simp) _ | refine bstep ?_ (by assumption)))) hb3
  clear hB2
  have roS1 : ∀ b, FS1 b → w2.heap.size ≤ b ∧ b < w3.heap.size := fun b hb => by
    have := intsR.rng oS1 b hb
    try simp only [World.size_alloc] at this
    omega
  clear hb3
  have fS1 := intsR.ofO oS1
  obtain ⟨as1, cs1, rfl⟩ := ints_form fS1
  go_wp2_with fail
  refine (specRun_u _ _ d0 d1 k2 k3 k4 k5 _ (accsR.below (accsR.ofO oS0) (by (repeat (first | exact Below.refl _ _ | assumption | refine Below.drew ?_ | refine balloc ?_ _ | refine bset ?_ (by simp; omega) _ | refine bset ?_ (by simp) _ | refine bstep ?_ (by assumption))))) (intsR.below (intsR.ofO oS1) (by (repeat (first | exact Below.refl _ _ | assumption | refine Below.drew ?_ | refine balloc ?_ _ | refine bset ?_ (by simp; omega) _ | refine bset ?_ (by simp) _ | refine bstep ?_ (by assumption)))))).mono ?_
  rintro e w4 ⟨vW, FW, rfl, oW, hb4⟩
  have hB4 : Below w.heap.size w w4 := by (repeat (first | exact Below.refl _ _ | assumption | refine Below.drew ?_ | refine balloc ?_ _ | refine bset ?_ (by simp; omega) _ | refine bset ?_ (by simp) _ | refine bstep ?_ (by assumption)))
  have s4 := hb4.size
  try simp only [World.size_alloc] at s4
  replace oS0 := accsR.keep2 oS0 (by (repeat (first | exact Below.refl _ _ | assumption | refine Below.drew ?_ | refine balloc ?_ _ | refine bset ?_ (by simp; omega) _ | refine bset ?_ (by simp) _ | refine bstep ?_ (by assumption)))) hb4
  replace oS1 := intsR.keep2 oS1 (by (repeat (first | exact Below.refl _ _ | assumption | refine Below.drew ?_ | refine balloc ?_ _ | refine bset ?_ (by simp; omega) _ | refine bset ?_ (by simp) _ | refine bstep ?_ (by assumption)))) hb4
  clear hB3
  have roW : ∀ b, FW b → w3.heap.size ≤ b ∧ b < w4.heap.size := fun b hb => by
    have := accsRR.rng oW b hb
    try simp only [World.size_alloc] at this
    omega
  clear hb4
  have fW := accsRR.ofO oW
  obtain ⟨aw1, cw1, rfl⟩ := accsR_form fW
  clear oS0 roS0 oS1 roS1
  go_wp2_with fail
  refine (toAcceptorS_u _ d0 _ (accsR.below hX0 (by (repeat (first | exact Below.refl _ _ | assumption | refine Below.drew ?_ | refine balloc ?_ _ | refine bset ?_ (by simp; omega) _ | refine bset ?_ (by simp) _ | refine bstep ?_ (by assumption))))) (by omega)).mono ?_
  rintro e w5 ⟨vC0, FC0, rfl, oC0, hb5⟩
  have hB5 : Below w.heap.size w w5 := by (repeat (first | exact Below.refl _ _ | assumption | refine Below.drew ?_ | refine balloc ?_ _ | refine bset ?_ (by simp; omega) _ | refine bset ?_ (by simp) _ | refine bstep ?_ (by assumption)))
  have s5 := hb5.size
  try simp only [World.size_alloc] at s5
  have q_0 : w5.cell? ⟨w4.heap.size, 0, none⟩ = some (.int .i64 (runD d0 d1 k2 k3 k4 k5).code) := cell_keep hb5 (by simp [go_sem])
  have q_1 : w5.cell? ⟨w4.heap.size, 1, none⟩ = some (.int .i64 (runD d0 d1 k2 k3 k4 k5).value) := cell_keep hb5 (by simp [go_sem])
  have q_2 : w5.cell? ⟨w4.heap.size, 2, none⟩ = some (.slice aw1 (runD d0 d1 k2 k3 k4 k5).accs.length cw1) := cell_keep hb5 (by simp [go_sem])
  replace oW := accsRR.keep2 oW (by (repeat (first | exact Below.refl _ _ | assumption | refine Below.drew ?_ | refine balloc ?_ _ | refine bset ?_ (by simp; omega) _ | refine bset ?_ (by simp) _ | refine bstep ?_ (by assumption)))) hb5
  clear hB4
  have roC0 : ∀ b, FC0 b → w4.heap.size + 1 ≤ b ∧ b < w5.heap.size := fun b hb => by
    have := accsR.rng oC0 b hb
    try simp only [World.size_alloc] at this
    omega
  clear hb5
  have fC0 := accsR.ofO oC0
  obtain ⟨ay0, cy0, rfl⟩ := accs_form fC0
  have z0 := World.block_lt_of_cell? _ _ q_0
  dsimp only at z0
  go_wp2_with fail
  refine (toInt64S_u _ d1 _ (intsR.below hX1 (by (repeat (first | exact Below.refl _ _ | assumption | refine Below.drew ?_ | refine balloc ?_ _ | refine bset ?_ (by simp; omega) _ | refine bset ?_ (by simp) _ | refine bstep ?_ (by assumption))))) (by omega)).mono ?_
  rintro e w6 ⟨vC1, FC1, rfl, oC1, hb6⟩
  have hB6 : Below w.heap.size w w6 := by (repeat (first | exact Below.refl _ _ | assumption | refine Below.drew ?_ | refine balloc ?_ _ | refine bset ?_ (by simp; omega) _ | refine bset ?_ (by simp) _ | refine bstep ?_ (by assumption)))
  have s6 := hb6.size
  try simp only [World.size_alloc] at s6
  replace q_0 := cell_keep hb6 (cell_keep (by (repeat (first | exact Below.refl _ _ | assumption | refine Below.drew ?_ | refine balloc ?_ _ | refine bset ?_ (by simp; omega) _ | refine bset ?_ (by simp) _ | refine bstep ?_ (by assumption)))) q_0)
  replace q_1 := cell_keep hb6 (cell_keep (by (repeat (first | exact Below.refl _ _ | assumption | refine Below.drew ?_ | refine balloc ?_ _ | refine bset ?_ (by simp; omega) _ | refine bset ?_ (by simp) _ | refine bstep ?_ (by assumption)))) q_1)
  replace q_2 := cell_keep hb6 (cell_keep (by (repeat (first | exact Below.refl _ _ | assumption | refine Below.drew ?_ | refine balloc ?_ _ | refine bset ?_ (by simp; omega) _ | refine bset ?_ (by simp) _ | refine bstep ?_ (by assumption)))) q_2)
  replace oW := accsRR.keep2 oW (by (repeat (first | exact Below.refl _ _ | assumption | refine Below.drew ?_ | refine balloc ?_ _ | refine bset ?_ (by simp; omega) _ | refine bset ?_ (by simp) _ | refine bstep ?_ (by assumption)))) hb6
  replace oC0 := accsR.keep2 oC0 (by (repeat (first | exact Below.refl _ _ | assumption | refine Below.drew ?_ | refine balloc ?_ _ | refine bset ?_ (by simp; omega) _ | refine bset ?_ (by simp) _ | refine bstep ?_ (by assumption)))) hb6
  clear hB5
  have roC1 : ∀ b, FC1 b → w5.heap.size ≤ b ∧ b < w6.heap.size := fun b hb => by
    have := intsR.rng oC1 b hb
    try simp only [World.size_alloc] at this
    omega
  clear hb6
  have fC1 := intsR.ofO oC1
  obtain ⟨ay1, cy1, rfl⟩ := ints_form fC1
  clear z0
  have z0 := World.block_lt_of_cell? _ _ q_0
  dsimp only at z0
  go_wp2_with fail
  refine (implRun_u _ _ d0 d1 k2 k3 k4 k5 _ (accsR.below (accsR.ofO oC0) (by (repeat (first | exact Below.refl _ _ | assumption | refine Below.drew ?_ | refine balloc ?_ _ | refine bset ?_ (by simp; omega) _ | refine bset ?_ (by simp) _ | refine bstep ?_ (by assumption))))) (intsR.below (intsR.ofO oC1) (by (repeat (first | exact Below.refl _ _ | assumption | refine Below.drew ?_ | refine balloc ?_ _ | refine bset ?_ (by simp; omega) _ | refine bset ?_ (by simp) _ | refine bstep ?_ (by assumption)))))).mono ?_
  rintro e w7 ⟨vG, FG, rfl, oG, hb7⟩
  have hB7 : Below w.heap.size w w7 := by (repeat (first | exact Below.refl _ _ | assumption | refine Below.drew ?_ | refine balloc ?_ _ | refine bset ?_ (by simp; omega) _ | refine bset ?_ (by simp) _ | refine bstep ?_ (by assumption)))
  have s7 := hb7.size
  try simp only [World.size_alloc] at s7
  replace q_0 := cell_keep hb7 (cell_keep (by (repeat (first | exact Below.refl _ _ | assumption | refine Below.drew ?_ | refine balloc ?_ _ | refine bset ?_ (by simp; omega) _ | refine bset ?_ (by simp) _ | refine bstep ?_ (by assumption)))) q_0)
  replace q_1 := cell_keep hb7 (cell_keep (by (repeat (first | exact Below.refl _ _ | assumption | refine Below.drew ?_ | refine balloc ?_ _ | refine bset ?_ (by simp; omega) _ | refine bset ?_ (by simp) _ | refine bstep ?_ (by assumption)))) q_1)
  replace q_2 := cell_keep hb7 (cell_keep (by (repeat (first | exact Below.refl _ _ | assumption | refine Below.drew ?_ | refine balloc ?_ _ | refine bset ?_ (by simp; omega) _ | refine bset ?_ (by simp) _ | refine bstep ?_ (by assumption)))) q_2)
  replace oW := accsRR.keep2 oW (by (repeat (first | exact Below.refl _ _ | assumption | refine Below.drew ?_ | refine balloc ?_ _ | refine bset ?_ (by simp; omega) _ | refine bset ?_ (by simp) _ | refine bstep ?_ (by assumption)))) hb7
  replace oC0 := accsR.keep2 oC0 (by (repeat (first | exact Below.refl _ _ | assumption | refine Below.drew ?_ | refine balloc ?_ _ | refine bset ?_ (by simp; omega) _ | refine bset ?_ (by simp) _ | refine bstep ?_ (by assumption)))) hb7
  replace oC1 := intsR.keep2 oC1 (by (repeat (first | exact Below.refl _ _ | assumption | refine Below.drew ?_ | refine balloc ?_ _ | refine bset ?_ (by simp; omega) _ | refine bset ?_ (by simp) _ | refine bstep ?_ (by assumption)))) hb7
  clear hB6
  have roG : ∀ b, FG b → w6.heap.size ≤ b ∧ b < w7.heap.size := fun b hb => by
    have := accsRR.rng oG b hb
    try simp only [World.size_alloc] at this
    omega
  clear hb7
  have fG := accsRR.ofO oG
  obtain ⟨ag1, cg1, rfl⟩ := accsR_form fG
  clear z0
  have z0 := World.block_lt_of_cell? _ _ q_0
  dsimp only at z0
  go_wp2_with fail
  refine (eqAcceptorsResult_u _ _ (runD d0 d1 k2 k3 k4 k5) (runD d0 d1 k2 k3 k4 k5) _ (accsRR.below (accsRR.ofO oG) (by (repeat (first | exact Below.refl _ _ | assumption | refine Below.drew ?_ | refine balloc ?_ _ | refine bset ?_ (by simp; omega) _ | refine bset ?_ (by simp) _ | refine bstep ?_ (by assumption))))) (accsRR.below (accsRR.ofO oW) (by (repeat (first | exact Below.refl _ _ | assumption | refine Below.drew ?_ | refine balloc ?_ _ | refine bset ?_ (by simp; omega) _ | refine bset ?_ (by simp) _ | refine bstep ?_ (by assumption)))))).mono ?_
  rintro e w8 ⟨rfl, hb8⟩
  have hB8 : Below w.heap.size w w8 := by (repeat (first | exact Below.refl _ _ | assumption | refine Below.drew ?_ | refine balloc ?_ _ | refine bset ?_ (by simp; omega) _ | refine bset ?_ (by simp) _ | refine bstep ?_ (by assumption)))
  have s8 := hb8.size
  try simp only [World.size_alloc] at s8
  replace q_0 := cell_keep hb8 (cell_keep (by (repeat (first | exact Below.refl _ _ | assumption | refine Below.drew ?_ | refine balloc ?_ _ | refine bset ?_ (by simp; omega) _ | refine bset ?_ (by simp) _ | refine bstep ?_ (by assumption)))) q_0)
  replace q_1 := cell_keep hb8 (cell_keep (by (repeat (first | exact Below.refl _ _ | assumption | refine Below.drew ?_ | refine balloc ?_ _ | refine bset ?_ (by simp; omega) _ | refine bset ?_ (by simp) _ | refine bstep ?_ (by assumption)))) q_1)
  replace q_2 := cell_keep hb8 (cell_keep (by (repeat (first | exact Below.refl _ _ | assumption | refine Below.drew ?_ | refine balloc ?_ _ | refine bset ?_ (by simp; omega) _ | refine bset ?_ (by simp) _ | refine bstep ?_ (by assumption)))) q_2)
  have g_0 : w8.cell? ⟨w7.heap.size, 0, none⟩ = some (.int .i64 (runD d0 d1 k2 k3 k4 k5).code) := cell_keep hb8 (by simp [go_sem])
  have g_1 : w8.cell? ⟨w7.heap.size, 1, none⟩ = some (.int .i64 (runD d0 d1 k2 k3 k4 k5).value) := cell_keep hb8 (by simp [go_sem])
  have g_2 : w8.cell? ⟨w7.heap.size, 2, none⟩ = some (.slice ag1 (runD d0 d1 k2 k3 k4 k5).accs.length cg1) := cell_keep hb8 (by simp [go_sem])
  replace oW := accsRR.keep2 oW (by (repeat (first | exact Below.refl _ _ | assumption | refine Below.drew ?_ | refine balloc ?_ _ | refine bset ?_ (by simp; omega) _ | refine bset ?_ (by simp) _ | refine bstep ?_ (by assumption)))) hb8
  replace oC0 := accsR.keep2 oC0 (by (repeat (first | exact Below.refl _ _ | assumption | refine Below.drew ?_ | refine balloc ?_ _ | refine bset ?_ (by simp; omega) _ | refine bset ?_ (by simp) _ | refine bstep ?_ (by assumption)))) hb8
  replace oC1 := intsR.keep2 oC1 (by (repeat (first | exact Below.refl _ _ | assumption | refine Below.drew ?_ | refine balloc ?_ _ | refine bset ?_ (by simp; omega) _ | refine bset ?_ (by simp) _ | refine bstep ?_ (by assumption)))) hb8
  replace oG := accsRR.keep2 oG (by (repeat (first | exact Below.refl _ _ | assumption | refine Below.drew ?_ | refine balloc ?_ _ | refine bset ?_ (by simp; omega) _ | refine bset ?_ (by simp) _ | refine bstep ?_ (by assumption)))) hb8
  clear hB7
  clear hb8
  clear z0
  have z0 := World.block_lt_of_cell? _ _ q_0
  dsimp only at z0
  have z3 := World.block_lt_of_cell? _ _ g_0
  dsimp only at z3
  go_wp2_with fail
  refine (toAcceptorS_u _ d0 _ (accsR.below hX0 (by (repeat (first | exact Below.refl _ _ | assumption | refine Below.drew ?_ | refine balloc ?_ _ | refine bset ?_ (by simp; omega) _ | refine bset ?_ (by simp) _ | refine bstep ?_ (by assumption))))) (by omega)).mono ?_
  rintro e w9 ⟨vE0, FE0, rfl, oE0, hb9⟩
  have hB9 : Below w.heap.size w w9 := by (repeat (first | exact Below.refl _ _ | assumption | refine Below.drew ?_ | refine balloc ?_ _ | refine bset ?_ (by simp; omega) _ | refine bset ?_ (by simp) _ | refine bstep ?_ (by assumption)))
  have s9 := hb9.size
  try simp only [World.size_alloc] at s9
  replace q_0 := cell_keep hb9 (cell_keep (by (repeat (first | exact Below.refl _ _ | assumption | refine Below.drew ?_ | refine balloc ?_ _ | refine bset ?_ (by simp; omega) _ | refine bset ?_ (by simp) _ | refine bstep ?_ (by assumption)))) q_0)
  replace q_1 := cell_keep hb9 (cell_keep (by (repeat (first | exact Below.refl _ _ | assumption | refine Below.drew ?_ | refine balloc ?_ _ | refine bset ?_ (by simp; omega) _ | refine bset ?_ (by simp) _ | refine bstep ?_ (by assumption)))) q_1)
  replace q_2 := cell_keep hb9 (cell_keep (by (repeat (first | exact Below.refl _ _ | assumption | refine Below.drew ?_ | refine balloc ?_ _ | refine bset ?_ (by simp; omega) _ | refine bset ?_ (by simp) _ | refine bstep ?_ (by assumption)))) q_2)
  replace g_0 := cell_keep hb9 (cell_keep (by (repeat (first | exact Below.refl _ _ | assumption | refine Below.drew ?_ | refine balloc ?_ _ | refine bset ?_ (by simp; omega) _ | refine bset ?_ (by simp) _ | refine bstep ?_ (by assumption)))) g_0)
  replace g_1 := cell_keep hb9 (cell_keep (by (repeat (first | exact Below.refl _ _ | assumption | refine Below.drew ?_ | refine balloc ?_ _ | refine bset ?_ (by simp; omega) _ | refine bset ?_ (by simp) _ | refine bstep ?_ (by assumption)))) g_1)
  replace g_2 := cell_keep hb9 (cell_keep (by (repeat (first | exact Below.refl _ _ | assumption | refine Below.drew ?_ | refine balloc ?_ _ | refine bset ?_ (by simp; omega) _ | refine bset ?_ (by simp) _ | refine bstep ?_ (by assumption)))) g_2)
  replace oW := accsRR.keep2 oW (by (repeat (first | exact Below.refl _ _ | assumption | refine Below.drew ?_ | refine balloc ?_ _ | refine bset ?_ (by simp; omega) _ | refine bset ?_ (by simp) _ | refine bstep ?_ (by assumption)))) hb9
  replace oC0 := accsR.keep2 oC0 (by (repeat (first | exact Below.refl _ _ | assumption | refine Below.drew ?_ | refine balloc ?_ _ | refine bset ?_ (by simp; omega) _ | refine bset ?_ (by simp) _ | refine bstep ?_ (by assumption)))) hb9
  replace oC1 := intsR.keep2 oC1 (by (repeat (first | exact Below.refl _ _ | assumption | refine Below.drew ?_ | refine balloc ?_ _ | refine bset ?_ (by simp; omega) _ | refine bset ?_ (by simp) _ | refine bstep ?_ (by assumption)))) hb9
  replace oG := accsRR.keep2 oG (by (repeat (first | exact Below.refl _ _ | assumption | refine Below.drew ?_ | refine balloc ?_ _ | refine bset ?_ (by simp; omega) _ | refine bset ?_ (by simp) _ | refine bstep ?_ (by assumption)))) hb9
  clear hB8
  clear hb9
  have fE0 := accsR.ofO oE0
  obtain ⟨ae0, ce0, rfl⟩ := accs_form fE0
  clear z0 z3
  have z0 := World.block_lt_of_cell? _ _ q_0
  dsimp only at z0
  have z3 := World.block_lt_of_cell? _ _ g_0
  dsimp only at z3
  go_wp2_with fail
  refine (eqAcceptorS_u _ _ d0 d0 _ (accsR.below (accsR.ofO oC0) (by (repeat (first | exact Below.refl _ _ | assumption | refine Below.drew ?_ | refine balloc ?_ _ | refine bset ?_ (by simp; omega) _ | refine bset ?_ (by simp) _ | refine bstep ?_ (by assumption))))) (accsR.below (accsR.ofO oE0) (by (repeat (first | exact Below.refl _ _ | assumption | refine Below.drew ?_ | refine balloc ?_ _ | refine bset ?_ (by simp; omega) _ | refine bset ?_ (by simp) _ | refine bstep ?_ (by assumption)))))).mono ?_
  rintro e w10 ⟨rfl, hb10⟩
  have hB10 : Below w.heap.size w w10 := by (repeat (first | exact Below.refl _ _ | assumption | refine Below.drew ?_ | refine balloc ?_ _ | refine bset ?_ (by simp; omega) _ | refine bset ?_ (by simp) _ | refine bstep ?_ (by assumption)))
  have s10 := hb10.size
  try simp only [World.size_alloc] at s10
  replace q_0 := cell_keep hb10 (cell_keep (by (repeat (first | exact Below.refl _ _ | assumption | refine Below.drew ?_ | refine balloc ?_ _ | refine bset ?_ (by simp; omega) _ | refine bset ?_ (by simp) _ | refine bstep ?_ (by assumption)))) q_0)
  replace q_1 := cell_keep hb10 (cell_keep (by (repeat (first | exact Below.refl _ _ | assumption | refine Below.drew ?_ | refine balloc ?_ _ | refine bset ?_ (by simp; omega) _ | refine bset ?_ (by simp) _ | refine bstep ?_ (by assumption)))) q_1)
  replace q_2 := cell_keep hb10 (cell_keep (by (repeat (first | exact Below.refl _ _ | assumption | refine Below.drew ?_ | refine balloc ?_ _ | refine bset ?_ (by simp; omega) _ | refine bset ?_ (by simp) _ | refine bstep ?_ (by assumption)))) q_2)
  replace g_0 := cell_keep hb10 (cell_keep (by (repeat (first | exact Below.refl _ _ | assumption | refine Below.drew ?_ | refine balloc ?_ _ | refine bset ?_ (by simp; omega) _ | refine bset ?_ (by simp) _ | refine bstep ?_ (by assumption)))) g_0)
  replace g_1 := cell_keep hb10 (cell_keep (by (repeat (first | exact Below.refl _ _ | assumption | refine Below.drew ?_ | refine balloc ?_ _ | refine bset ?_ (by simp; omega) _ | refine bset ?_ (by simp) _ | refine bstep ?_ (by assumption)))) g_1)
  replace g_2 := cell_keep hb10 (cell_keep (by (repeat (first | exact Below.refl _ _ | assumption | refine Below.drew ?_ | refine balloc ?_ _ | refine bset ?_ (by simp; omega) _ | refine bset ?_ (by simp) _ | refine bstep ?_ (by assumption)))) g_2)
  replace oW := accsRR.keep2 oW (by (repeat (first | exact Below.refl _ _ | assumption | refine Below.drew ?_ | refine balloc ?_ _ | refine bset ?_ (by simp; omega) _ | refine bset ?_ (by simp) _ | refine bstep ?_ (by assumption)))) hb10
  replace oC0 := accsR.keep2 oC0 (by (repeat (first | exact Below.refl _ _ | assumption | refine Below.drew ?_ | refine balloc ?_ _ | refine bset ?_ (by simp; omega) _ | refine bset ?_ (by simp) _ | refine bstep ?_ (by assumption)))) hb10
  replace oC1 := intsR.keep2 oC1 (by (repeat (first | exact Below.refl _ _ | assumption | refine Below.drew ?_ | refine balloc ?_ _ | refine bset ?_ (by simp; omega) _ | refine bset ?_ (by simp) _ | refine bstep ?_ (by assumption)))) hb10
  replace oG := accsRR.keep2 oG (by (repeat (first | exact Below.refl _ _ | assumption | refine Below.drew ?_ | refine balloc ?_ _ | refine bset ?_ (by simp; omega) _ | refine bset ?_ (by simp) _ | refine bstep ?_ (by assumption)))) hb10
  clear hB9
  clear hb10
  clear oE0
  clear z0 z3
  have z0 := World.block_lt_of_cell? _ _ q_0
  dsimp only at z0
  have z3 := World.block_lt_of_cell? _ _ g_0
  dsimp only at z3
  go_wp2_with fail
  refine (toInt64S_u _ d1 _ (intsR.below hX1 (by (repeat (first | exact Below.refl _ _ | assumption | refine Below.drew ?_ | refine balloc ?_ _ | refine bset ?_ (by simp; omega) _ | refine bset ?_ (by simp) _ | refine bstep ?_ (by assumption))))) (by omega)).mono ?_
  rintro e w11 ⟨vE1, FE1, rfl, oE1, hb11⟩
  have hB11 : Below w.heap.size w w11 := by (repeat (first | exact Below.refl _ _ | assumption | refine Below.drew ?_ | refine balloc ?_ _ | refine bset ?_ (by simp; omega) _ | refine bset ?_ (by simp) _ | refine bstep ?_ (by assumption)))
  have s11 := hb11.size
  try simp only [World.size_alloc] at s11
  replace q_0 := cell_keep hb11 (cell_keep (by (repeat (first | exact Below.refl _ _ | assumption | refine Below.drew ?_ | refine balloc ?_ _ | refine bset ?_ (by simp; omega) _ | refine bset ?_ (by simp) _ | refine bstep ?_ (by assumption)))) q_0)
  replace q_1 := cell_keep hb11 (cell_keep (by (repeat (first | exact Below.refl _ _ | assumption | refine Below.drew ?_ | refine balloc ?_ _ | refine bset ?_ (by simp; omega) _ | refine bset ?_ (by simp) _ | refine bstep ?_ (by assumption)))) q_1)
  replace q_2 := cell_keep hb11 (cell_keep (by (repeat (first | exact Below.refl _ _ | assumption | refine Below.drew ?_ | refine balloc ?_ _ | refine bset ?_ (by simp; omega) _ | refine bset ?_ (by simp) _ | refine bstep ?_ (by assumption)))) q_2)
  replace g_0 := cell_keep hb11 (cell_keep (by (repeat (first | exact Below.refl _ _ | assumption | refine Below.drew ?_ | refine balloc ?_ _ | refine bset ?_ (by simp; omega) _ | refine bset ?_ (by simp) _ | refine bstep ?_ (by assumption)))) g_0)
  replace g_1 := cell_keep hb11 (cell_keep (by (repeat (first | exact Below.refl _ _ | assumption | refine Below.drew ?_ | refine balloc ?_ _ | refine bset ?_ (by simp; omega) _ | refine bset ?_ (by simp) _ | refine bstep ?_ (by assumption)))) g_1)
  replace g_2 := cell_keep hb11 (cell_keep (by (repeat (first | exact Below.refl _ _ | assumption | refine Below.drew ?_ | refine balloc ?_ _ | refine bset ?_ (by simp; omega) _ | refine bset ?_ (by simp) _ | refine bstep ?_ (by assumption)))) g_2)
  replace oW := accsRR.keep2 oW (by (repeat (first | exact Below.refl _ _ | assumption | refine Below.drew ?_ | refine balloc ?_ _ | refine bset ?_ (by simp; omega) _ | refine bset ?_ (by simp) _ | refine bstep ?_ (by assumption)))) hb11
  replace oC0 := accsR.keep2 oC0 (by (repeat (first | exact Below.refl _ _ | assumption | refine Below.drew ?_ | refine balloc ?_ _ | refine bset ?_ (by simp; omega) _ | refine bset ?_ (by simp) _ | refine bstep ?_ (by assumption)))) hb11
  replace oC1 := intsR.keep2 oC1 (by (repeat (first | exact Below.refl _ _ | assumption | refine Below.drew ?_ | refine balloc ?_ _ | refine bset ?_ (by simp; omega) _ | refine bset ?_ (by simp) _ | refine bstep ?_ (by assumption)))) hb11
  replace oG := accsRR.keep2 oG (by (repeat (first | exact Below.refl _ _ | assumption | refine Below.drew ?_ | refine balloc ?_ _ | refine bset ?_ (by simp; omega) _ | refine bset ?_ (by simp) _ | refine bstep ?_ (by assumption)))) hb11
  clear hB10
  clear hb11
  have fE1 := intsR.ofO oE1
  obtain ⟨ae1, ce1, rfl⟩ := ints_form fE1
  clear z0 z3
  have z0 := World.block_lt_of_cell? _ _ q_0
  dsimp only at z0
  have z3 := World.block_lt_of_cell? _ _ g_0
  dsimp only at z3
  go_wp2_with fail
  refine (eqInt64S_u _ _ d1 d1 _ (intsR.below (intsR.ofO oC1) (by (repeat (first | exact Below.refl _ _ | assumption | refine Below.drew ?_ | refine balloc ?_ _ | refine bset ?_ (by simp; omega) _ | refine bset ?_ (by simp) _ | refine bstep ?_ (by assumption))))) (intsR.below (intsR.ofO oE1) (by (repeat (first | exact Below.refl _ _ | assumption | refine Below.drew ?_ | refine balloc ?_ _ | refine bset ?_ (by simp; omega) _ | refine bset ?_ (by simp) _ | refine bstep ?_ (by assumption)))))).mono ?_
  rintro e w12 ⟨rfl, hb12⟩
  have hB12 : Below w.heap.size w w12 := by (repeat (first | exact Below.refl _ _ | assumption | refine Below.drew ?_ | refine balloc ?_ _ | refine bset ?_ (by simp; omega) _ | refine bset ?_ (by simp) _ | refine bstep ?_ (by assumption)))
  have s12 := hb12.size
  try simp only [World.size_alloc] at s12
  replace q_0 := cell_keep hb12 (cell_keep (by (repeat (first | exact Below.refl _ _ | assumption | refine Below.drew ?_ | refine balloc ?_ _ | refine bset ?_ (by simp; omega) _ | refine bset ?_ (by simp) _ | refine bstep ?_ (by assumption)))) q_0)
  replace q_1 := cell_keep hb12 (cell_keep (by (repeat (first | exact Below.refl _ _ | assumption | refine Below.drew ?_ | refine balloc ?_ _ | refine bset ?_ (by simp; omega) _ | refine bset ?_ (by simp) _ | refine bstep ?_ (by assumption)))) q_1)
  replace q_2 := cell_keep hb12 (cell_keep (by (repeat (first | exact Below.refl _ _ | assumption | refine Below.drew ?_ | refine balloc ?_ _ | refine bset ?_ (by simp; omega) _ | refine bset ?_ (by simp) _ | refine bstep ?_ (by assumption)))) q_2)
  replace g_0 := cell_keep hb12 (cell_keep (by (repeat (first | exact Below.refl _ _ | assumption | refine Below.drew ?_ | refine balloc ?_ _ | refine bset ?_ (by simp; omega) _ | refine bset ?_ (by simp) _ | refine bstep ?_ (by assumption)))) g_0)
  replace g_1 := cell_keep hb12 (cell_keep (by (repeat (first | exact Below.refl _ _ | assumption | refine Below.drew ?_ | refine balloc ?_ _ | refine bset ?_ (by simp; omega) _ | refine bset ?_ (by simp) _ | refine bstep ?_ (by assumption)))) g_1)
  replace g_2 := cell_keep hb12 (cell_keep (by (repeat (first | exact Below.refl _ _ | assumption | refine Below.drew ?_ | refine balloc ?_ _ | refine bset ?_ (by simp; omega) _ | refine bset ?_ (by simp) _ | refine bstep ?_ (by assumption)))) g_2)
  replace oW := accsRR.keep2 oW (by (repeat (first | exact Below.refl _ _ | assumption | refine Below.drew ?_ | refine balloc ?_ _ | refine bset ?_ (by simp; omega) _ | refine bset ?_ (by simp) _ | refine bstep ?_ (by assumption)))) hb12
  replace oC0 := accsR.keep2 oC0 (by (repeat (first | exact Below.refl _ _ | assumption | refine Below.drew ?_ | refine balloc ?_ _ | refine bset ?_ (by simp; omega) _ | refine bset ?_ (by simp) _ | refine bstep ?_ (by assumption)))) hb12
  replace oC1 := intsR.keep2 oC1 (by (repeat (first | exact Below.refl _ _ | assumption | refine Below.drew ?_ | refine balloc ?_ _ | refine bset ?_ (by simp; omega) _ | refine bset ?_ (by simp) _ | refine bstep ?_ (by assumption)))) hb12
  replace oG := accsRR.keep2 oG (by (repeat (first | exact Below.refl _ _ | assumption | refine Below.drew ?_ | refine balloc ?_ _ | refine bset ?_ (by simp; omega) _ | refine bset ?_ (by simp) _ | refine bstep ?_ (by assumption)))) hb12
  clear hB11
  clear hb12
  clear oE1
  clear z0 z3
  have z0 := World.block_lt_of_cell? _ _ q_0
  dsimp only at z0
  have z3 := World.block_lt_of_cell? _ _ g_0
  dsimp only at z3
  go_wp2_with fail
  refine (markAcceptorS_u _ d0 _ FC0 1 _ oC0 (by omega) hkA0 (by omega)).mono ?_
  rintro e w13 ⟨rfl, oC0m, m13⟩
  have hB13 : Below w.heap.size w w13 := m13.below hB12 hB12.size (fun b hb => by have := roC0 b hb; omega)
  have s13 := m13.size
  replace q_0 := m13.cell q_0 (fun hf => by have := roC0 _ hf; dsimp only at this; omega)
  replace q_1 := m13.cell q_1 (fun hf => by have := roC0 _ hf; dsimp only at this; omega)
  replace q_2 := m13.cell q_2 (fun hf => by have := roC0 _ hf; dsimp only at this; omega)
  replace g_0 := m13.cell g_0 (fun hf => by have := roC0 _ hf; dsimp only at this; omega)
  replace g_1 := m13.cell g_1 (fun hf => by have := roC0 _ hf; dsimp only at this; omega)
  replace g_2 := m13.cell g_2 (fun hf => by have := roC0 _ hf; dsimp only at this; omega)
  replace oW := accsRR.mod oW m13 (fun b p q => by have := roW b p; have := roC0 b q; omega)
  replace oC1 := intsR.mod oC1 m13 (fun b p q => by have := roC1 b p; have := roC0 b q; omega)
  replace oG := accsRR.mod oG m13 (fun b p q => by have := roG b p; have := roC0 b q; omega)
  clear hB12 oC0 m13
  clear z0 z3
  have z0 := World.block_lt_of_cell? _ _ q_0
  dsimp only at z0
  have z3 := World.block_lt_of_cell? _ _ g_0
  dsimp only at z3
  go_wp2_with fail
  refine (markInt64S_u _ d1 _ FC1 ((1 : Int) + cntAccs d0) _ oC1 (by omega) hkA1 (by omega)).mono ?_
  rintro e w14 ⟨rfl, oC1m, m14⟩
  have hB14 : Below w.heap.size w w14 := m14.below hB13 hB13.size (fun b hb => by have := roC1 b hb; omega)
  have s14 := m14.size
  replace q_0 := m14.cell q_0 (fun hf => by have := roC1 _ hf; dsimp only at this; omega)
  replace q_1 := m14.cell q_1 (fun hf => by have := roC1 _ hf; dsimp only at this; omega)
  replace q_2 := m14.cell q_2 (fun hf => by have := roC1 _ hf; dsimp only at this; omega)
  replace g_0 := m14.cell g_0 (fun hf => by have := roC1 _ hf; dsimp only at this; omega)
  replace g_1 := m14.cell g_1 (fun hf => by have := roC1 _ hf; dsimp only at this; omega)
  replace g_2 := m14.cell g_2 (fun hf => by have := roC1 _ hf; dsimp only at this; omega)
  replace oW := accsRR.mod oW m14 (fun b p q => by have := roW b p; have := roC1 b q; omega)
  replace oG := accsRR.mod oG m14 (fun b p q => by have := roG b p; have := roC1 b q; omega)
  replace oC0m := accsR.mod oC0m m14 (fun b p q => by have := roC0 b p; have := roC1 b q; omega)
  clear hB13 oC1 m14
  clear z0 z3
  have z0 := World.block_lt_of_cell? _ _ q_0
  dsimp only at z0
  have z3 := World.block_lt_of_cell? _ _ g_0
  dsimp only at z3
  go_wp2_with fail
  refine (eqAcceptorsResult_u _ _ (runD d0 d1 k2 k3 k4 k5) (runD d0 d1 k2 k3 k4 k5) _ (accsRR.below (accsRR.ofO oG) (by (repeat (first | exact Below.refl _ _ | assumption | refine Below.drew ?_ | refine balloc ?_ _ | refine bset ?_ (by simp; omega) _ | refine bset ?_ (by simp) _ | refine bstep ?_ (by assumption))))) (accsRR.below (accsRR.ofO oW) (by (repeat (first | exact Below.refl _ _ | assumption | refine Below.drew ?_ | refine balloc ?_ _ | refine bset ?_ (by simp; omega) _ | refine bset ?_ (by simp) _ | refine bstep ?_ (by assumption)))))).mono ?_
  rintro e w15 ⟨rfl, hb15⟩
  have hB15 : Below w.heap.size w w15 := by (repeat (first | exact Below.refl _ _ | assumption | refine Below.drew ?_ | refine balloc ?_ _ | refine bset ?_ (by simp; omega) _ | refine bset ?_ (by simp) _ | refine bstep ?_ (by assumption)))
  have s15 := hb15.size
  try simp only [World.size_alloc] at s15
  replace q_0 := cell_keep hb15 (cell_keep (by (repeat (first | exact Below.refl _ _ | assumption | refine Below.drew ?_ | refine balloc ?_ _ | refine bset ?_ (by simp; omega) _ | refine bset ?_ (by simp) _ | refine bstep ?_ (by assumption)))) q_0)
  replace q_1 := cell_keep hb15 (cell_keep (by (repeat (first | exact Below.refl _ _ | assumption | refine Below.drew ?_ | refine balloc ?_ _ | refine bset ?_ (by simp; omega) _ | refine bset ?_ (by simp) _ | refine bstep ?_ (by assumption)))) q_1)
  replace q_2 := cell_keep hb15 (cell_keep (by (repeat (first | exact Below.refl _ _ | assumption | refine Below.drew ?_ | refine balloc ?_ _ | refine bset ?_ (by simp; omega) _ | refine bset ?_ (by simp) _ | refine bstep ?_ (by assumption)))) q_2)
  replace g_0 := cell_keep hb15 (cell_keep (by (repeat (first | exact Below.refl _ _ | assumption | refine Below.drew ?_ | refine balloc ?_ _ | refine bset ?_ (by simp; omega) _ | refine bset ?_ (by simp) _ | refine bstep ?_ (by assumption)))) g_0)
  replace g_1 := cell_keep hb15 (cell_keep (by (repeat (first | exact Below.refl _ _ | assumption | refine Below.drew ?_ | refine balloc ?_ _ | refine bset ?_ (by simp; omega) _ | refine bset ?_ (by simp) _ | refine bstep ?_ (by assumption)))) g_1)
  replace g_2 := cell_keep hb15 (cell_keep (by (repeat (first | exact Below.refl _ _ | assumption | refine Below.drew ?_ | refine balloc ?_ _ | refine bset ?_ (by simp; omega) _ | refine bset ?_ (by simp) _ | refine bstep ?_ (by assumption)))) g_2)
  replace oW := accsRR.keep2 oW (by (repeat (first | exact Below.refl _ _ | assumption | refine Below.drew ?_ | refine balloc ?_ _ | refine bset ?_ (by simp; omega) _ | refine bset ?_ (by simp) _ | refine bstep ?_ (by assumption)))) hb15
  replace oG := accsRR.keep2 oG (by (repeat (first | exact Below.refl _ _ | assumption | refine Below.drew ?_ | refine balloc ?_ _ | refine bset ?_ (by simp; omega) _ | refine bset ?_ (by simp) _ | refine bstep ?_ (by assumption)))) hb15
  replace oC0m := accsR.keep2 oC0m (by (repeat (first | exact Below.refl _ _ | assumption | refine Below.drew ?_ | refine balloc ?_ _ | refine bset ?_ (by simp; omega) _ | refine bset ?_ (by simp) _ | refine bstep ?_ (by assumption)))) hb15
  replace oC1m := intsR.keep2 oC1m (by (repeat (first | exact Below.refl _ _ | assumption | refine Below.drew ?_ | refine balloc ?_ _ | refine bset ?_ (by simp; omega) _ | refine bset ?_ (by simp) _ | refine bstep ?_ (by assumption)))) hb15
  clear hB14
  clear hb15
  clear z0 z3
  have z0 := World.block_lt_of_cell? _ _ q_0
  dsimp only at z0
  have z3 := World.block_lt_of_cell? _ _ g_0
  dsimp only at z3
  go_wp2_with fail
  refine (markAcceptorsResult_u _ (runD d0 d1 k2 k3 k4 k5) _ FG 1 _ oG hwR hcR (by omega)).mono ?_
  rintro e w16 ⟨rfl, oGm, m16⟩
  have hB16 : Below w.heap.size w w16 := m16.below hB15 hB15.size (fun b hb => by have := roG b hb; omega)
  have s16 := m16.size
  replace q_0 := m16.cell q_0 (fun hf => by have := roG _ hf; dsimp only at this; omega)
  replace q_1 := m16.cell q_1 (fun hf => by have := roG _ hf; dsimp only at this; omega)
  replace q_2 := m16.cell q_2 (fun hf => by have := roG _ hf; dsimp only at this; omega)
  replace g_0 := m16.cell g_0 (fun hf => by have := roG _ hf; dsimp only at this; omega)
  replace g_1 := m16.cell g_1 (fun hf => by have := roG _ hf; dsimp only at this; omega)
  replace g_2 := m16.cell g_2 (fun hf => by have := roG _ hf; dsimp only at this; omega)
  replace oW := accsRR.mod oW m16 (fun b p q => by have := roW b p; have := roG b q; omega)
  replace oC0m := accsR.mod oC0m m16 (fun b p q => by have := roC0 b p; have := roG b q; omega)
  replace oC1m := intsR.mod oC1m m16 (fun b p q => by have := roC1 b p; have := roG b q; omega)
  clear hB15 oG m16
  clear z0 z3
  have z0 := World.block_lt_of_cell? _ _ q_0
  dsimp only at z0
  have z3 := World.block_lt_of_cell? _ _ g_0
  dsimp only at z3
  go_wp2_with fail
  refine (heldAcceptorsResult_u _ (runD d0 d1 k2 k3 k4 k5) 1 _ (accsRR.below (accsRR.ofO oGm) (by (repeat (first | exact Below.refl _ _ | assumption | refine Below.drew ?_ | refine balloc ?_ _ | refine bset ?_ (by simp; omega) _ | refine bset ?_ (by simp) _ | refine bstep ?_ (by assumption))))) hwR hcR (by omega)).mono ?_
  rintro e w17 ⟨rfl, hb17⟩
  have hB17 : Below w.heap.size w w17 := by (repeat (first | exact Below.refl _ _ | assumption | refine Below.drew ?_ | refine balloc ?_ _ | refine bset ?_ (by simp; omega) _ | refine bset ?_ (by simp) _ | refine bstep ?_ (by assumption)))
  have s17 := hb17.size
  try simp only [World.size_alloc] at s17
  replace q_0 := cell_keep hb17 (cell_keep (by (repeat (first | exact Below.refl _ _ | assumption | refine Below.drew ?_ | refine balloc ?_ _ | refine bset ?_ (by simp; omega) _ | refine bset ?_ (by simp) _ | refine bstep ?_ (by assumption)))) q_0)
  replace q_1 := cell_keep hb17 (cell_keep (by (repeat (first | exact Below.refl _ _ | assumption | refine Below.drew ?_ | refine balloc ?_ _ | refine bset ?_ (by simp; omega) _ | refine bset ?_ (by simp) _ | refine bstep ?_ (by assumption)))) q_1)
  replace q_2 := cell_keep hb17 (cell_keep (by (repeat (first | exact Below.refl _ _ | assumption | refine Below.drew ?_ | refine balloc ?_ _ | refine bset ?_ (by simp; omega) _ | refine bset ?_ (by simp) _ | refine bstep ?_ (by assumption)))) q_2)
  replace g_0 := cell_keep hb17 (cell_keep (by (repeat (first | exact Below.refl _ _ | assumption | refine Below.drew ?_ | refine balloc ?_ _ | refine bset ?_ (by simp; omega) _ | refine bset ?_ (by simp) _ | refine bstep ?_ (by assumption)))) g_0)
  replace g_1 := cell_keep hb17 (cell_keep (by (repeat (first | exact Below.refl _ _ | assumption | refine Below.drew ?_ | refine balloc ?_ _ | refine bset ?_ (by simp; omega) _ | refine bset ?_ (by simp) _ | refine bstep ?_ (by assumption)))) g_1)
  replace g_2 := cell_keep hb17 (cell_keep (by (repeat (first | exact Below.refl _ _ | assumption | refine Below.drew ?_ | refine balloc ?_ _ | refine bset ?_ (by simp; omega) _ | refine bset ?_ (by simp) _ | refine bstep ?_ (by assumption)))) g_2)
  replace oW := accsRR.keep2 oW (by (repeat (first | exact Below.refl _ _ | assumption | refine Below.drew ?_ | refine balloc ?_ _ | refine bset ?_ (by simp; omega) _ | refine bset ?_ (by simp) _ | refine bstep ?_ (by assumption)))) hb17
  replace oC0m := accsR.keep2 oC0m (by (repeat (first | exact Below.refl _ _ | assumption | refine Below.drew ?_ | refine balloc ?_ _ | refine bset ?_ (by simp; omega) _ | refine bset ?_ (by simp) _ | refine bstep ?_ (by assumption)))) hb17
  replace oC1m := intsR.keep2 oC1m (by (repeat (first | exact Below.refl _ _ | assumption | refine Below.drew ?_ | refine balloc ?_ _ | refine bset ?_ (by simp; omega) _ | refine bset ?_ (by simp) _ | refine bstep ?_ (by assumption)))) hb17
  replace oGm := accsRR.keep2 oGm (by (repeat (first | exact Below.refl _ _ | assumption | refine Below.drew ?_ | refine balloc ?_ _ | refine bset ?_ (by simp; omega) _ | refine bset ?_ (by simp) _ | refine bstep ?_ (by assumption)))) hb17
  clear hB16
  clear hb17
  clear z0 z3
  have z0 := World.block_lt_of_cell? _ _ q_0
  dsimp only at z0
  have z3 := World.block_lt_of_cell? _ _ g_0
  dsimp only at z3
  go_wp2_with fail
  refine (toAcceptorS_u _ d0 _ (accsR.below hX0 (by (repeat (first | exact Below.refl _ _ | assumption | refine Below.drew ?_ | refine balloc ?_ _ | refine bset ?_ (by simp; omega) _ | refine bset ?_ (by simp) _ | refine bstep ?_ (by assumption))))) (by omega)).mono ?_
  rintro e w18 ⟨vH0, FH0, rfl, oH0, hb18⟩
  have hB18 : Below w.heap.size w w18 := by (repeat (first | exact Below.refl _ _ | assumption | refine Below.drew ?_ | refine balloc ?_ _ | refine bset ?_ (by simp; omega) _ | refine bset ?_ (by simp) _ | refine bstep ?_ (by assumption)))
  have s18 := hb18.size
  try simp only [World.size_alloc] at s18
  replace q_0 := cell_keep hb18 (cell_keep (by (repeat (first | exact Below.refl _ _ | assumption | refine Below.drew ?_ | refine balloc ?_ _ | refine bset ?_ (by simp; omega) _ | refine bset ?_ (by simp) _ | refine bstep ?_ (by assumption)))) q_0)
  replace q_1 := cell_keep hb18 (cell_keep (by (repeat (first | exact Below.refl _ _ | assumption | refine Below.drew ?_ | refine balloc ?_ _ | refine bset ?_ (by simp; omega) _ | refine bset ?_ (by simp) _ | refine bstep ?_ (by assumption)))) q_1)
  replace q_2 := cell_keep hb18 (cell_keep (by (repeat (first | exact Below.refl _ _ | assumption | refine Below.drew ?_ | refine balloc ?_ _ | refine bset ?_ (by simp; omega) _ | refine bset ?_ (by simp) _ | refine bstep ?_ (by assumption)))) q_2)
  replace g_0 := cell_keep hb18 (cell_keep (by (repeat (first | exact Below.refl _ _ | assumption | refine Below.drew ?_ | refine balloc ?_ _ | refine bset ?_ (by simp; omega) _ | refine bset ?_ (by simp) _ | refine bstep ?_ (by assumption)))) g_0)
  replace g_1 := cell_keep hb18 (cell_keep (by (repeat (first | exact Below.refl _ _ | assumption | refine Below.drew ?_ | refine balloc ?_ _ | refine bset ?_ (by simp; omega) _ | refine bset ?_ (by simp) _ | refine bstep ?_ (by assumption)))) g_1)
  replace g_2 := cell_keep hb18 (cell_keep (by (repeat (first | exact Below.refl _ _ | assumption | refine Below.drew ?_ | refine balloc ?_ _ | refine bset ?_ (by simp; omega) _ | refine bset ?_ (by simp) _ | refine bstep ?_ (by assumption)))) g_2)
  replace oW := accsRR.keep2 oW (by (repeat (first | exact Below.refl _ _ | assumption | refine Below.drew ?_ | refine balloc ?_ _ | refine bset ?_ (by simp; omega) _ | refine bset ?_ (by simp) _ | refine bstep ?_ (by assumption)))) hb18
  replace oC0m := accsR.keep2 oC0m (by (repeat (first | exact Below.refl _ _ | assumption | refine Below.drew ?_ | refine balloc ?_ _ | refine bset ?_ (by simp; omega) _ | refine bset ?_ (by simp) _ | refine bstep ?_ (by assumption)))) hb18
  replace oC1m := intsR.keep2 oC1m (by (repeat (first | exact Below.refl _ _ | assumption | refine Below.drew ?_ | refine balloc ?_ _ | refine bset ?_ (by simp; omega) _ | refine bset ?_ (by simp) _ | refine bstep ?_ (by assumption)))) hb18
  replace oGm := accsRR.keep2 oGm (by (repeat (first | exact Below.refl _ _ | assumption | refine Below.drew ?_ | refine balloc ?_ _ | refine bset ?_ (by simp; omega) _ | refine bset ?_ (by simp) _ | refine bstep ?_ (by assumption)))) hb18
  clear hB17
  have roH0 : ∀ b, FH0 b → w17.heap.size ≤ b ∧ b < w18.heap.size := fun b hb => by
    have := accsR.rng oH0 b hb
    try simp only [World.size_alloc] at this
    omega
  clear hb18
  have fH0 := accsR.ofO oH0
  obtain ⟨ah0, ch0, rfl⟩ := accs_form fH0
  clear z0 z3
  have z0 := World.block_lt_of_cell? _ _ q_0
  dsimp only at z0
  have z3 := World.block_lt_of_cell? _ _ g_0
  dsimp only at z3
  go_wp2_with fail
  refine (toInt64S_u _ d1 _ (intsR.below hX1 (by (repeat (first | exact Below.refl _ _ | assumption | refine Below.drew ?_ | refine balloc ?_ _ | refine bset ?_ (by simp; omega) _ | refine bset ?_ (by simp) _ | refine bstep ?_ (by assumption))))) (by omega)).mono ?_
  rintro e w19 ⟨vH1, FH1, rfl, oH1, hb19⟩
  have hB19 : Below w.heap.size w w19 := by (repeat (first | exact Below.refl _ _ | assumption | refine Below.drew ?_ | refine balloc ?_ _ | refine bset ?_ (by simp; omega) _ | refine bset ?_ (by simp) _ | refine bstep ?_ (by assumption)))
  have s19 := hb19.size
  try simp only [World.size_alloc] at s19
  replace q_0 := cell_keep hb19 (cell_keep (by (repeat (first | exact Below.refl _ _ | assumption | refine Below.drew ?_ | refine balloc ?_ _ | refine bset ?_ (by simp; omega) _ | refine bset ?_ (by simp) _ | refine bstep ?_ (by assumption)))) q_0)
  replace q_1 := cell_keep hb19 (cell_keep (by (repeat (first | exact Below.refl _ _ | assumption | refine Below.drew ?_ | refine balloc ?_ _ | refine bset ?_ (by simp; omega) _ | refine bset ?_ (by simp) _ | refine bstep ?_ (by assumption)))) q_1)
  replace q_2 := cell_keep hb19 (cell_keep (by (repeat (first | exact Below.refl _ _ | assumption | refine Below.drew ?_ | refine balloc ?_ _ | refine bset ?_ (by simp; omega) _ | refine bset ?_ (by simp) _ | refine bstep ?_ (by assumption)))) q_2)
  replace g_0 := cell_keep hb19 (cell_keep (by (repeat (first | exact Below.refl _ _ | assumption | refine Below.drew ?_ | refine balloc ?_ _ | refine bset ?_ (by simp; omega) _ | refine bset ?_ (by simp) _ | refine bstep ?_ (by assumption)))) g_0)
  replace g_1 := cell_keep hb19 (cell_keep (by (repeat (first | exact Below.refl _ _ | assumption | refine Below.drew ?_ | refine balloc ?_ _ | refine bset ?_ (by simp; omega) _ | refine bset ?_ (by simp) _ | refine bstep ?_ (by assumption)))) g_1)
  replace g_2 := cell_keep hb19 (cell_keep (by (repeat (first | exact Below.refl _ _ | assumption | refine Below.drew ?_ | refine balloc ?_ _ | refine bset ?_ (by simp; omega) _ | refine bset ?_ (by simp) _ | refine bstep ?_ (by assumption)))) g_2)
  replace oW := accsRR.keep2 oW (by (repeat (first | exact Below.refl _ _ | assumption | refine Below.drew ?_ | refine balloc ?_ _ | refine bset ?_ (by simp; omega) _ | refine bset ?_ (by simp) _ | refine bstep ?_ (by assumption)))) hb19
  replace oC0m := accsR.keep2 oC0m (by (repeat (first | exact Below.refl _ _ | assumption | refine Below.drew ?_ | refine balloc ?_ _ | refine bset ?_ (by simp; omega) _ | refine bset ?_ (by simp) _ | refine bstep ?_ (by assumption)))) hb19
  replace oC1m := intsR.keep2 oC1m (by (repeat (first | exact Below.refl _ _ | assumption | refine Below.drew ?_ | refine balloc ?_ _ | refine bset ?_ (by simp; omega) _ | refine bset ?_ (by simp) _ | refine bstep ?_ (by assumption)))) hb19
  replace oGm := accsRR.keep2 oGm (by (repeat (first | exact Below.refl _ _ | assumption | refine Below.drew ?_ | refine balloc ?_ _ | refine bset ?_ (by simp; omega) _ | refine bset ?_ (by simp) _ | refine bstep ?_ (by assumption)))) hb19
  replace oH0 := accsR.keep2 oH0 (by (repeat (first | exact Below.refl _ _ | assumption | refine Below.drew ?_ | refine balloc ?_ _ | refine bset ?_ (by simp; omega) _ | refine bset ?_ (by simp) _ | refine bstep ?_ (by assumption)))) hb19
  clear hB18
  have roH1 : ∀ b, FH1 b → w18.heap.size ≤ b ∧ b < w19.heap.size := fun b hb => by
    have := intsR.rng oH1 b hb
    try simp only [World.size_alloc] at this
    omega
  clear hb19
  have fH1 := intsR.ofO oH1
  obtain ⟨ah1, ch1, rfl⟩ := ints_form fH1
  clear z0 z3
  have z0 := World.block_lt_of_cell? _ _ q_0
  dsimp only at z0
  have z3 := World.block_lt_of_cell? _ _ g_0
  dsimp only at z3
  go_wp2_with fail
  refine (implRun_u _ _ d0 d1 k2 k3 k4 k5 _ (accsR.below (accsR.ofO oH0) (by (repeat (first | exact Below.refl _ _ | assumption | refine Below.drew ?_ | refine balloc ?_ _ | refine bset ?_ (by simp; omega) _ | refine bset ?_ (by simp) _ | refine bstep ?_ (by assumption))))) (intsR.below (intsR.ofO oH1) (by (repeat (first | exact Below.refl _ _ | assumption | refine Below.drew ?_ | refine balloc ?_ _ | refine bset ?_ (by simp; omega) _ | refine bset ?_ (by simp) _ | refine bstep ?_ (by assumption)))))).mono ?_
  rintro e w20 ⟨vI, FI, rfl, oI, hb20⟩
  have hB20 : Below w.heap.size w w20 := by (repeat (first | exact Below.refl _ _ | assumption | refine Below.drew ?_ | refine balloc ?_ _ | refine bset ?_ (by simp; omega) _ | refine bset ?_ (by simp) _ | refine bstep ?_ (by assumption)))
  have s20 := hb20.size
  try simp only [World.size_alloc] at s20
  replace q_0 := cell_keep hb20 (cell_keep (by (repeat (first | exact Below.refl _ _ | assumption | refine Below.drew ?_ | refine balloc ?_ _ | refine bset ?_ (by simp; omega) _ | refine bset ?_ (by simp) _ | refine bstep ?_ (by assumption)))) q_0)
  replace q_1 := cell_keep hb20 (cell_keep (by (repeat (first | exact Below.refl _ _ | assumption | refine Below.drew ?_ | refine balloc ?_ _ | refine bset ?_ (by simp; omega) _ | refine bset ?_ (by simp) _ | refine bstep ?_ (by assumption)))) q_1)
  replace q_2 := cell_keep hb20 (cell_keep (by (repeat (first | exact Below.refl _ _ | assumption | refine Below.drew ?_ | refine balloc ?_ _ | refine bset ?_ (by simp; omega) _ | refine bset ?_ (by simp) _ | refine bstep ?_ (by assumption)))) q_2)
  replace g_0 := cell_keep hb20 (cell_keep (by (repeat (first | exact Below.refl _ _ | assumption | refine Below.drew ?_ | refine balloc ?_ _ | refine bset ?_ (by simp; omega) _ | refine bset ?_ (by simp) _ | refine bstep ?_ (by assumption)))) g_0)
  replace g_1 := cell_keep hb20 (cell_keep (by (repeat (first | exact Below.refl _ _ | assumption | refine Below.drew ?_ | refine balloc ?_ _ | refine bset ?_ (by simp; omega) _ | refine bset ?_ (by simp) _ | refine bstep ?_ (by assumption)))) g_1)
  replace g_2 := cell_keep hb20 (cell_keep (by (repeat (first | exact Below.refl _ _ | assumption | refine Below.drew ?_ | refine balloc ?_ _ | refine bset ?_ (by simp; omega) _ | refine bset ?_ (by simp) _ | refine bstep ?_ (by assumption)))) g_2)
  replace oW := accsRR.keep2 oW (by (repeat (first | exact Below.refl _ _ | assumption | refine Below.drew ?_ | refine balloc ?_ _ | refine bset ?_ (by simp; omega) _ | refine bset ?_ (by simp) _ | refine bstep ?_ (by assumption)))) hb20
  replace oC0m := accsR.keep2 oC0m (by (repeat (first | exact Below.refl _ _ | assumption | refine Below.drew ?_ | refine balloc ?_ _ | refine bset ?_ (by simp; omega) _ | refine bset ?_ (by simp) _ | refine bstep ?_ (by assumption)))) hb20
  replace oC1m := intsR.keep2 oC1m (by (repeat (first | exact Below.refl _ _ | assumption | refine Below.drew ?_ | refine balloc ?_ _ | refine bset ?_ (by simp; omega) _ | refine bset ?_ (by simp) _ | refine bstep ?_ (by assumption)))) hb20
  replace oGm := accsRR.keep2 oGm (by (repeat (first | exact Below.refl _ _ | assumption | refine Below.drew ?_ | refine balloc ?_ _ | refine bset ?_ (by simp; omega) _ | refine bset ?_ (by simp) _ | refine bstep ?_ (by assumption)))) hb20
  replace oH0 := accsR.keep2 oH0 (by (repeat (first | exact Below.refl _ _ | assumption | refine Below.drew ?_ | refine balloc ?_ _ | refine bset ?_ (by simp; omega) _ | refine bset ?_ (by simp) _ | refine bstep ?_ (by assumption)))) hb20
  replace oH1 := intsR.keep2 oH1 (by (repeat (first | exact Below.refl _ _ | assumption | refine Below.drew ?_ | refine balloc ?_ _ | refine bset ?_ (by simp; omega) _ | refine bset ?_ (by simp) _ | refine bstep ?_ (by assumption)))) hb20
  clear hB19
  clear hb20
  have fI := accsRR.ofO oI
  obtain ⟨ai1, ci1, rfl⟩ := accsR_form fI
  clear z0 z3
  have z0 := World.block_lt_of_cell? _ _ q_0
  dsimp only at z0
  have z3 := World.block_lt_of_cell? _ _ g_0
  dsimp only at z3
  go_wp2_with fail
  refine (eqAcceptorsResult_u _ _ (runD d0 d1 k2 k3 k4 k5) (runD d0 d1 k2 k3 k4 k5) _ (accsRR.below (accsRR.ofO oI) (by (repeat (first | exact Below.refl _ _ | assumption | refine Below.drew ?_ | refine balloc ?_ _ | refine bset ?_ (by simp; omega) _ | refine bset ?_ (by simp) _ | refine bstep ?_ (by assumption))))) (accsRR.below (accsRR.ofO oW) (by (repeat (first | exact Below.refl _ _ | assumption | refine Below.drew ?_ | refine balloc ?_ _ | refine bset ?_ (by simp; omega) _ | refine bset ?_ (by simp) _ | refine bstep ?_ (by assumption)))))).mono ?_
  rintro e w21 ⟨rfl, hb21⟩
  have hB21 : Below w.heap.size w w21 := by (repeat (first | exact Below.refl _ _ | assumption | refine Below.drew ?_ | refine balloc ?_ _ | refine bset ?_ (by simp; omega) _ | refine bset ?_ (by simp) _ | refine bstep ?_ (by assumption)))
  have s21 := hb21.size
  try simp only [World.size_alloc] at s21
  replace q_0 := cell_keep hb21 (cell_keep (by (repeat (first | exact Below.refl _ _ | assumption | refine Below.drew ?_ | refine balloc ?_ _ | refine bset ?_ (by simp; omega) _ | refine bset ?_ (by simp) _ | refine bstep ?_ (by assumption)))) q_0)
  replace q_1 := cell_keep hb21 (cell_keep (by (repeat (first | exact Below.refl _ _ | assumption | refine Below.drew ?_ | refine balloc ?_ _ | refine bset ?_ (by simp; omega) _ | refine bset ?_ (by simp) _ | refine bstep ?_ (by assumption)))) q_1)
  replace q_2 := cell_keep hb21 (cell_keep (by (repeat (first | exact Below.refl _ _ | assumption | refine Below.drew ?_ | refine balloc ?_ _ | refine bset ?_ (by simp; omega) _ | refine bset ?_ (by simp) _ | refine bstep ?_ (by assumption)))) q_2)
  replace g_0 := cell_keep hb21 (cell_keep (by (repeat (first | exact Below.refl _ _ | assumption | refine Below.drew ?_ | refine balloc ?_ _ | refine bset ?_ (by simp; omega) _ | refine bset ?_ (by simp) _ | refine bstep ?_ (by assumption)))) g_0)
  replace g_1 := cell_keep hb21 (cell_keep (by (repeat (first | exact Below.refl _ _ | assumption | refine Below.drew ?_ | refine balloc ?_ _ | refine bset ?_ (by simp; omega) _ | refine bset ?_ (by simp) _ | refine bstep ?_ (by assumption)))) g_1)
  replace g_2 := cell_keep hb21 (cell_keep (by (repeat (first | exact Below.refl _ _ | assumption | refine Below.drew ?_ | refine balloc ?_ _ | refine bset ?_ (by simp; omega) _ | refine bset ?_ (by simp) _ | refine bstep ?_ (by assumption)))) g_2)
  replace oW := accsRR.keep2 oW (by (repeat (first | exact Below.refl _ _ | assumption | refine Below.drew ?_ | refine balloc ?_ _ | refine bset ?_ (by simp; omega) _ | refine bset ?_ (by simp) _ | refine bstep ?_ (by assumption)))) hb21
  replace oC0m := accsR.keep2 oC0m (by (repeat (first | exact Below.refl _ _ | assumption | refine Below.drew ?_ | refine balloc ?_ _ | refine bset ?_ (by simp; omega) _ | refine bset ?_ (by simp) _ | refine bstep ?_ (by assumption)))) hb21
  replace oC1m := intsR.keep2 oC1m (by (repeat (first | exact Below.refl _ _ | assumption | refine Below.drew ?_ | refine balloc ?_ _ | refine bset ?_ (by simp; omega) _ | refine bset ?_ (by simp) _ | refine bstep ?_ (by assumption)))) hb21
  replace oGm := accsRR.keep2 oGm (by (repeat (first | exact Below.refl _ _ | assumption | refine Below.drew ?_ | refine balloc ?_ _ | refine bset ?_ (by simp; omega) _ | refine bset ?_ (by simp) _ | refine bstep ?_ (by assumption)))) hb21
  clear hB20
  clear hb21
  clear oI oH0 roH0 oH1 roH1
  clear z0 z3
  have z0 := World.block_lt_of_cell? _ _ q_0
  dsimp only at z0
  have z3 := World.block_lt_of_cell? _ _ g_0
  dsimp only at z3
  go_wp2_with fail
  refine (heldAcceptorsResult_u _ (runD d0 d1 k2 k3 k4 k5) 1 _ (accsRR.below (accsRR.ofO oGm) (by (repeat (first | exact Below.refl _ _ | assumption | refine Below.drew ?_ | refine balloc ?_ _ | refine bset ?_ (by simp; omega) _ | refine bset ?_ (by simp) _ | refine bstep ?_ (by assumption))))) hwR hcR (by omega)).mono ?_
  rintro e w22 ⟨rfl, hb22⟩
  have hB22 : Below w.heap.size w w22 := by (repeat (first | exact Below.refl _ _ | assumption | refine Below.drew ?_ | refine balloc ?_ _ | refine bset ?_ (by simp; omega) _ | refine bset ?_ (by simp) _ | refine bstep ?_ (by assumption)))
  have s22 := hb22.size
  try simp only [World.size_alloc] at s22
  replace q_0 := cell_keep hb22 (cell_keep (by (repeat (first | exact Below.refl _ _ | assumption | refine Below.drew ?_ | refine balloc ?_ _ | refine bset ?_ (by simp; omega) _ | refine bset ?_ (by simp) _ | refine bstep ?_ (by assumption)))) q_0)
  replace q_1 := cell_keep hb22 (cell_keep (by (repeat (first | exact Below.refl _ _ | assumption | refine Below.drew ?_ | refine balloc ?_ _ | refine bset ?_ (by simp; omega) _ | refine bset ?_ (by simp) _ | refine bstep ?_ (by assumption)))) q_1)
  replace q_2 := cell_keep hb22 (cell_keep (by (repeat (first | exact Below.refl _ _ | assumption | refine Below.drew ?_ | refine balloc ?_ _ | refine bset ?_ (by simp; omega) _ | refine bset ?_ (by simp) _ | refine bstep ?_ (by assumption)))) q_2)
  replace g_0 := cell_keep hb22 (cell_keep (by (repeat (first | exact Below.refl _ _ | assumption | refine Below.drew ?_ | refine balloc ?_ _ | refine bset ?_ (by simp; omega) _ | refine bset ?_ (by simp) _ | refine bstep ?_ (by assumption)))) g_0)
  replace g_1 := cell_keep hb22 (cell_keep (by (repeat (first | exact Below.refl _ _ | assumption | refine Below.drew ?_ | refine balloc ?_ _ | refine bset ?_ (by simp; omega) _ | refine bset ?_ (by simp) _ | refine bstep ?_ (by assumption)))) g_1)
  replace g_2 := cell_keep hb22 (cell_keep (by (repeat (first | exact Below.refl _ _ | assumption | refine Below.drew ?_ | refine balloc ?_ _ | refine bset ?_ (by simp; omega) _ | refine bset ?_ (by simp) _ | refine bstep ?_ (by assumption)))) g_2)
  replace oW := accsRR.keep2 oW (by (repeat (first | exact Below.refl _ _ | assumption | refine Below.drew ?_ | refine balloc ?_ _ | refine bset ?_ (by simp; omega) _ | refine bset ?_ (by simp) _ | refine bstep ?_ (by assumption)))) hb22
  replace oC0m := accsR.keep2 oC0m (by (repeat (first | exact Below.refl _ _ | assumption | refine Below.drew ?_ | refine balloc ?_ _ | refine bset ?_ (by simp; omega) _ | refine bset ?_ (by simp) _ | refine bstep ?_ (by assumption)))) hb22
  replace oC1m := intsR.keep2 oC1m (by (repeat (first | exact Below.refl _ _ | assumption | refine Below.drew ?_ | refine balloc ?_ _ | refine bset ?_ (by simp; omega) _ | refine bset ?_ (by simp) _ | refine bstep ?_ (by assumption)))) hb22
  replace oGm := accsRR.keep2 oGm (by (repeat (first | exact Below.refl _ _ | assumption | refine Below.drew ?_ | refine balloc ?_ _ | refine bset ?_ (by simp; omega) _ | refine bset ?_ (by simp) _ | refine bstep ?_ (by assumption)))) hb22
  clear hB21
  go_wp2
  go_ret
  exact ⟨rfl, hB22⟩
end Go.Proofs.YtncmdeijimgchaaGreat.runBallotLaw

