import Derived.Test.YtecfelacdapdgaaGreatPrnUnpackEventLaw14
import Derived.Test.YtecfelacdapdgaaGreatPrnUnpackEventLaw6
import Derived.Deep.RegionHeld3
import Derived.Deep.DrawnRows

/-
  Proved: laws.FnExactUnpackEvent answers true at every argument, and its arguments read behind the call as they read before. No condition. (The walk.)
-/
namespace Go.Proofs.YtecfelacdapdgaaGreat.unpackEventLaw
open Go.RowKit
set_option linter.unusedSectionVars false
variable [DecidableEq Leg] [Inhabited Leg] [DecidableEq Cont] [Inhabited Cont] [DecidableEq Evt] [Inhabited Evt] [DecidableEq EvtR] [Inhabited EvtR] [DecidableEq BytesR] [Inhabited BytesR] [DecidableEq ContR] [Inhabited ContR] [DecidableEq Logg] [Inhabited Logg] [DecidableEq LoggR] [Inhabited LoggR] [DecidableEq RecsR] [Inhabited RecsR] [DecidableEq Rw] [Inhabited Rw] [DecidableEq Bal] [Inhabited Bal] [DecidableEq Ledg] [Inhabited Ledg] [DecidableEq LedgR] [Inhabited LedgR] [DecidableEq OutcR] [Inhabited OutcR] [DecidableEq Mrk] [Inhabited Mrk] [DecidableEq Shd] [Inhabited Shd] [DecidableEq ShdR] [Inhabited ShdR]
attribute [local go_sem ↓] Go.wp_at_zero Go.wp_at_succ

set_option maxHeartbeats 4000000 in
theorem walk (x0 : Value) (d0 : List Byte) (w : World) (hx0 : bytesR.V w x0 d0) :
    Calls Tryz.prog 5 #[x0] w fun e w' => e = .returned (.bool true) ∧ Below w.heap.size w w' := by
  have hX0 := hx0
  obtain ⟨ax, cx, rfl⟩ := bytes_form hx0
  by_cases hsz : 1048576 < wtBytes d0
  · unfold wtBytes at hsz
    have hmx := hX0
    obtain ⟨_, _, hmv, hml, hmc, _⟩ := hmx
    unfold maxLen at hmc
    simp only [Value.slice.injEq, true_and] at hmv
    have hl2 : d0.length ≤ 9223372036854775807 := by omega
    clear hmv hml hmc
    generalize d0.length = n0 at *
    go_enter Tryz.func5, Tryz.ntmps5
    go_wp2
    go_ret
    exact ⟨rfl, by (repeat (first | exact Below.refl _ _ | assumption | refine Below.drew ?_ | refine balloc ?_ _ | refine bset ?_ (by simp; omega) _ | refine bset ?_ (by simp) _ | refine bstep ?_ (by assumption)))⟩
  have hlen : d0.length ≤ 1048576 := by unfold wtBytes at hsz; omega
  have hB1 : Below w.heap.size w w := Below.refl _ _
  go_enter Tryz.func5, Tryz.ntmps5
  have hcA := bytes_cnt d0
  have hwR : wtEvtR (unpE d0) ≤ 1048576 := by have := unpE_wt d0; omega
  have hcR : (1 : Int) + cntEvtR (unpE d0) ≤ 1073741824 := by have := unpE_wt d0; have := evtR_cnt (unpE d0); omega
  have hk1 : ¬ (1 : Int) + cntBytes d0 < 0 := by omega
  have hk2 : ¬ (1 : Int) + cntEvtR (unpE d0) < 0 := by omega
  have hkA : (1 : Int) + cntBytes d0 ≤ 1073741824 := by omega
  go_wp2_with fail
  refine (toByteS_u _ d0 _ (bytesR.below hX0 (by (repeat (first | exact Below.refl _ _ | assumption | refine Below.drew ?_ | refine balloc ?_ _ | refine bset ?_ (by simp; omega) _ | refine bset ?_ (by simp) _ | refine bstep ?_ (by assumption))))) (by omega)).mono ?_
  rintro e w2 ⟨vS, FS, rfl, oS, hb2⟩
  have hB2 : Below w.heap.size w w2 := by (repeat (first | exact Below.refl _ _ | assumption | refine Below.drew ?_ | refine balloc ?_ _ | refine bset ?_ (by simp; omega) _ | refine bset ?_ (by simp) _ | refine bstep ?_ (by assumption)))
  have s2 := hb2.size
  try simp only [World.size_alloc] at s2
  clear hB1
  clear hb2
  have fS := bytesR.ofO oS
  obtain ⟨asv, csv, rfl⟩ := bytes_form fS
  go_wp2_with fail
  refine (specUnpE_u _ d0 _ (bytesR.below (bytesR.ofO oS) (by (repeat (first | exact Below.refl _ _ | assumption | refine Below.drew ?_ | refine balloc ?_ _ | refine bset ?_ (by simp; omega) _ | refine bset ?_ (by simp) _ | refine bstep ?_ (by assumption)))))).mono ?_
  rintro e w3 ⟨vW, FW, rfl, oW, hb3⟩
  have hB3 : Below w.heap.size w w3 := by (repeat (first | exact Below.refl _ _ | assumption | refine Below.drew ?_ | refine balloc ?_ _ | refine bset ?_ (by simp; omega) _ | refine bset ?_ (by simp) _ | refine bstep ?_ (by assumption)))
  have s3 := hb3.size
  try simp only [World.size_alloc] at s3
  clear hB2
  have roW : ∀ b, FW b → w2.heap.size ≤ b ∧ b < w3.heap.size := fun b hb => by
    have := evtRR.rng oW b hb
    try simp only [World.size_alloc] at this
    omega
  clear hb3
  have fW := evtRR.ofO oW
  obtain ⟨aw1_1_1, cw1_1_1, rfl⟩ := evtR_form fW
  clear oS
  go_wp2_with fail
  refine (toByteS_u _ d0 _ (bytesR.below hX0 (by (repeat (first | exact Below.refl _ _ | assumption | refine Below.drew ?_ | refine balloc ?_ _ | refine bset ?_ (by simp; omega) _ | refine bset ?_ (by simp) _ | refine bstep ?_ (by assumption))))) (by omega)).mono ?_
  rintro e w4 ⟨vC, FC, rfl, oC, hb4⟩
  have hB4 : Below w.heap.size w w4 := by (repeat (first | exact Below.refl _ _ | assumption | refine Below.drew ?_ | refine balloc ?_ _ | refine bset ?_ (by simp; omega) _ | refine bset ?_ (by simp) _ | refine bstep ?_ (by assumption)))
  have s4 := hb4.size
  try simp only [World.size_alloc] at s4
  have q_0 : w4.cell? ⟨w3.heap.size, 0, none⟩ = some (.int .i64 (unpE d0).code) := cell_keep hb4 (by simp [go_sem])
  have q_1 : w4.cell? ⟨w3.heap.size, 1, none⟩ = some (.bool (unpE d0).evt.vote) := cell_keep hb4 (by simp [go_sem])
  have q_2 : w4.cell? ⟨w3.heap.size, 2, none⟩ = some (.int .i64 (unpE d0).evt.con.id) := cell_keep hb4 (by simp [go_sem])
  have q_3 : w4.cell? ⟨w3.heap.size, 3, none⟩ = some (.slice aw1_1_1 (unpE d0).evt.con.legs.length cw1_1_1) := cell_keep hb4 (by simp [go_sem])
  have q_4 : w4.cell? ⟨w3.heap.size, 4, none⟩ = some (.int .i64 (unpE d0).evt.out) := cell_keep hb4 (by simp [go_sem])
  replace oW := evtRR.keep2 oW (by (repeat (first | exact Below.refl _ _ | assumption | refine Below.drew ?_ | refine balloc ?_ _ | refine bset ?_ (by simp; omega) _ | refine bset ?_ (by simp) _ | refine bstep ?_ (by assumption)))) hb4
  clear hB3
  have roC : ∀ b, FC b → w3.heap.size + 1 ≤ b ∧ b < w4.heap.size := fun b hb => by
    have := bytesR.rng oC b hb
    try simp only [World.size_alloc] at this
    omega
  clear hb4
  have fC := bytesR.ofO oC
  obtain ⟨ay, cy, rfl⟩ := bytes_form fC
  have z0 := World.block_lt_of_cell? _ _ q_0
  dsimp only at z0
  go_wp2_with fail
  refine (implUnpE_u _ d0 _ (bytesR.below (bytesR.ofO oC) (by (repeat (first | exact Below.refl _ _ | assumption | refine Below.drew ?_ | refine balloc ?_ _ | refine bset ?_ (by simp; omega) _ | refine bset ?_ (by simp) _ | refine bstep ?_ (by assumption)))))).mono ?_
  rintro e w5 ⟨vG, FG, rfl, oG, hb5⟩
  have hB5 : Below w.heap.size w w5 := by (repeat (first | exact Below.refl _ _ | assumption | refine Below.drew ?_ | refine balloc ?_ _ | refine bset ?_ (by simp; omega) _ | refine bset ?_ (by simp) _ | refine bstep ?_ (by assumption)))
  have s5 := hb5.size
  try simp only [World.size_alloc] at s5
  replace q_0 := cell_keep hb5 (cell_keep (by (repeat (first | exact Below.refl _ _ | assumption | refine Below.drew ?_ | refine balloc ?_ _ | refine bset ?_ (by simp; omega) _ | refine bset ?_ (by simp) _ | refine bstep ?_ (by assumption)))) q_0)
  replace q_1 := cell_keep hb5 (cell_keep (by (repeat (first | exact Below.refl _ _ | assumption | refine Below.drew ?_ | refine balloc ?_ _ | refine bset ?_ (by simp; omega) _ | refine bset ?_ (by simp) _ | refine bstep ?_ (by assumption)))) q_1)
  replace q_2 := cell_keep hb5 (cell_keep (by (repeat (first | exact Below.refl _ _ | assumption | refine Below.drew ?_ | refine balloc ?_ _ | refine bset ?_ (by simp; omega) _ | refine bset ?_ (by simp) _ | refine bstep ?_ (by assumption)))) q_2)
  replace q_3 := cell_keep hb5 (cell_keep (by (repeat (first | exact Below.refl _ _ | assumption | refine Below.drew ?_ | refine balloc ?_ _ | refine bset ?_ (by simp; omega) _ | refine bset ?_ (by simp) _ | refine bstep ?_ (by assumption)))) q_3)
  replace q_4 := cell_keep hb5 (cell_keep (by (repeat (first | exact Below.refl _ _ | assumption | refine Below.drew ?_ | refine balloc ?_ _ | refine bset ?_ (by simp; omega) _ | refine bset ?_ (by simp) _ | refine bstep ?_ (by assumption)))) q_4)
  replace oW := evtRR.keep2 oW (by (repeat (first | exact Below.refl _ _ | assumption | refine Below.drew ?_ | refine balloc ?_ _ | refine bset ?_ (by simp; omega) _ | refine bset ?_ (by simp) _ | refine bstep ?_ (by assumption)))) hb5
  replace oC := bytesR.keep2 oC (by (repeat (first | exact Below.refl _ _ | assumption | refine Below.drew ?_ | refine balloc ?_ _ | refine bset ?_ (by simp; omega) _ | refine bset ?_ (by simp) _ | refine bstep ?_ (by assumption)))) hb5
  clear hB4
  have roG : ∀ b, FG b → w4.heap.size ≤ b ∧ b < w5.heap.size := fun b hb => by
    have := evtRR.rng oG b hb
    try simp only [World.size_alloc] at this
    omega
  clear hb5
  have fG := evtRR.ofO oG
  obtain ⟨ag1_1_1, cg1_1_1, rfl⟩ := evtR_form fG
  clear z0
  have z0 := World.block_lt_of_cell? _ _ q_0
  dsimp only at z0
  go_wp2_with fail
  refine (eqEventResult_u _ _ (unpE d0) (unpE d0) _ (evtRR.below (evtRR.ofO oG) (by (repeat (first | exact Below.refl _ _ | assumption | refine Below.drew ?_ | refine balloc ?_ _ | refine bset ?_ (by simp; omega) _ | refine bset ?_ (by simp) _ | refine bstep ?_ (by assumption))))) (evtRR.below (evtRR.ofO oW) (by (repeat (first | exact Below.refl _ _ | assumption | refine Below.drew ?_ | refine balloc ?_ _ | refine bset ?_ (by simp; omega) _ | refine bset ?_ (by simp) _ | refine bstep ?_ (by assumption)))))).mono ?_
  rintro e w6 ⟨rfl, hb6⟩
  have hB6 : Below w.heap.size w w6 := by (repeat (first | exact Below.refl _ _ | assumption | refine Below.drew ?_ | refine balloc ?_ _ | refine bset ?_ (by simp; omega) _ | refine bset ?_ (by simp) _ | refine bstep ?_ (by assumption)))
  have s6 := hb6.size
  try simp only [World.size_alloc] at s6
  replace q_0 := cell_keep hb6 (cell_keep (by (repeat (first | exact Below.refl _ _ | assumption | refine Below.drew ?_ | refine balloc ?_ _ | refine bset ?_ (by simp; omega) _ | refine bset ?_ (by simp) _ | refine bstep ?_ (by assumption)))) q_0)
  replace q_1 := cell_keep hb6 (cell_keep (by (repeat (first | exact Below.refl _ _ | assumption | refine Below.drew ?_ | refine balloc ?_ _ | refine bset ?_ (by simp; omega) _ | refine bset ?_ (by simp) _ | refine bstep ?_ (by assumption)))) q_1)
  replace q_2 := cell_keep hb6 (cell_keep (by (repeat (first | exact Below.refl _ _ | assumption | refine Below.drew ?_ | refine balloc ?_ _ | refine bset ?_ (by simp; omega) _ | refine bset ?_ (by simp) _ | refine bstep ?_ (by assumption)))) q_2)
  replace q_3 := cell_keep hb6 (cell_keep (by (repeat (first | exact Below.refl _ _ | assumption | refine Below.drew ?_ | refine balloc ?_ _ | refine bset ?_ (by simp; omega) _ | refine bset ?_ (by simp) _ | refine bstep ?_ (by assumption)))) q_3)
  replace q_4 := cell_keep hb6 (cell_keep (by (repeat (first | exact Below.refl _ _ | assumption | refine Below.drew ?_ | refine balloc ?_ _ | refine bset ?_ (by simp; omega) _ | refine bset ?_ (by simp) _ | refine bstep ?_ (by assumption)))) q_4)
  have g_0 : w6.cell? ⟨w5.heap.size, 0, none⟩ = some (.int .i64 (unpE d0).code) := cell_keep hb6 (by simp [go_sem])
  have g_1 : w6.cell? ⟨w5.heap.size, 1, none⟩ = some (.bool (unpE d0).evt.vote) := cell_keep hb6 (by simp [go_sem])
  have g_2 : w6.cell? ⟨w5.heap.size, 2, none⟩ = some (.int .i64 (unpE d0).evt.con.id) := cell_keep hb6 (by simp [go_sem])
  have g_3 : w6.cell? ⟨w5.heap.size, 3, none⟩ = some (.slice ag1_1_1 (unpE d0).evt.con.legs.length cg1_1_1) := cell_keep hb6 (by simp [go_sem])
  have g_4 : w6.cell? ⟨w5.heap.size, 4, none⟩ = some (.int .i64 (unpE d0).evt.out) := cell_keep hb6 (by simp [go_sem])
  replace oW := evtRR.keep2 oW (by (repeat (first | exact Below.refl _ _ | assumption | refine Below.drew ?_ | refine balloc ?_ _ | refine bset ?_ (by simp; omega) _ | refine bset ?_ (by simp) _ | refine bstep ?_ (by assumption)))) hb6
  replace oC := bytesR.keep2 oC (by (repeat (first | exact Below.refl _ _ | assumption | refine Below.drew ?_ | refine balloc ?_ _ | refine bset ?_ (by simp; omega) _ | refine bset ?_ (by simp) _ | refine bstep ?_ (by assumption)))) hb6
  replace oG := evtRR.keep2 oG (by (repeat (first | exact Below.refl _ _ | assumption | refine Below.drew ?_ | refine balloc ?_ _ | refine bset ?_ (by simp; omega) _ | refine bset ?_ (by simp) _ | refine bstep ?_ (by assumption)))) hb6
  clear hB5
  clear hb6
  clear z0
  have z0 := World.block_lt_of_cell? _ _ q_0
  dsimp only at z0
  have z5 := World.block_lt_of_cell? _ _ g_0
  dsimp only at z5
  go_wp2_with fail
  refine (toByteS_u _ d0 _ (bytesR.below hX0 (by (repeat (first | exact Below.refl _ _ | assumption | refine Below.drew ?_ | refine balloc ?_ _ | refine bset ?_ (by simp; omega) _ | refine bset ?_ (by simp) _ | refine bstep ?_ (by assumption))))) (by omega)).mono ?_
  rintro e w7 ⟨vE, FE, rfl, oE, hb7⟩
  have hB7 : Below w.heap.size w w7 := by (repeat (first | exact Below.refl _ _ | assumption | refine Below.drew ?_ | refine balloc ?_ _ | refine bset ?_ (by simp; omega) _ | refine bset ?_ (by simp) _ | refine bstep ?_ (by assumption)))
  have s7 := hb7.size
  try simp only [World.size_alloc] at s7
  replace q_0 := cell_keep hb7 (cell_keep (by (repeat (first | exact Below.refl _ _ | assumption | refine Below.drew ?_ | refine balloc ?_ _ | refine bset ?_ (by simp; omega) _ | refine bset ?_ (by simp) _ | refine bstep ?_ (by assumption)))) q_0)
  replace q_1 := cell_keep hb7 (cell_keep (by (repeat (first | exact Below.refl _ _ | assumption | refine Below.drew ?_ | refine balloc ?_ _ | refine bset ?_ (by simp; omega) _ | refine bset ?_ (by simp) _ | refine bstep ?_ (by assumption)))) q_1)
  replace q_2 := cell_keep hb7 (cell_keep (by (repeat (first | exact Below.refl _ _ | assumption | refine Below.drew ?_ | refine balloc ?_ _ | refine bset ?_ (by simp; omega) _ | refine bset ?_ (by simp) _ | refine bstep ?_ (by assumption)))) q_2)
  replace q_3 := cell_keep hb7 (cell_keep (by (repeat (first | exact Below.refl _ _ | assumption | refine Below.drew ?_ | refine balloc ?_ _ | refine bset ?_ (by simp; omega) _ | refine bset ?_ (by simp) _ | refine bstep ?_ (by assumption)))) q_3)
  replace q_4 := cell_keep hb7 (cell_keep (by (repeat (first | exact Below.refl _ _ | assumption | refine Below.drew ?_ | refine balloc ?_ _ | refine bset ?_ (by simp; omega) _ | refine bset ?_ (by simp) _ | refine bstep ?_ (by assumption)))) q_4)
  replace g_0 := cell_keep hb7 (cell_keep (by (repeat (first | exact Below.refl _ _ | assumption | refine Below.drew ?_ | refine balloc ?_ _ | refine bset ?_ (by simp; omega) _ | refine bset ?_ (by simp) _ | refine bstep ?_ (by assumption)))) g_0)
  replace g_1 := cell_keep hb7 (cell_keep (by (repeat (first | exact Below.refl _ _ | assumption | refine Below.drew ?_ | refine balloc ?_ _ | refine bset ?_ (by simp; omega) _ | refine bset ?_ (by simp) _ | refine bstep ?_ (by assumption)))) g_1)
  replace g_2 := cell_keep hb7 (cell_keep (by (repeat (first | exact Below.refl _ _ | assumption | refine Below.drew ?_ | refine balloc ?_ _ | refine bset ?_ (by simp; omega) _ | refine bset ?_ (by simp) _ | refine bstep ?_ (by assumption)))) g_2)
  replace g_3 := cell_keep hb7 (cell_keep (by (repeat (first | exact Below.refl _ _ | assumption | refine Below.drew ?_ | refine balloc ?_ _ | refine bset ?_ (by simp; omega) _ | refine bset ?_ (by simp) _ | refine bstep ?_ (by assumption)))) g_3)
  replace g_4 := cell_keep hb7 (cell_keep (by (repeat (first | exact Below.refl _ _ | assumption | refine Below.drew ?_ | refine balloc ?_ _ | refine bset ?_ (by simp; omega) _ | refine bset ?_ (by simp) _ | refine bstep ?_ (by assumption)))) g_4)
  replace oW := evtRR.keep2 oW (by (repeat (first | exact Below.refl _ _ | assumption | refine Below.drew ?_ | refine balloc ?_ _ | refine bset ?_ (by simp; omega) _ | refine bset ?_ (by simp) _ | refine bstep ?_ (by assumption)))) hb7
  replace oC := bytesR.keep2 oC (by (repeat (first | exact Below.refl _ _ | assumption | refine Below.drew ?_ | refine balloc ?_ _ | refine bset ?_ (by simp; omega) _ | refine bset ?_ (by simp) _ | refine bstep ?_ (by assumption)))) hb7
  replace oG := evtRR.keep2 oG (by (repeat (first | exact Below.refl _ _ | assumption | refine Below.drew ?_ | refine balloc ?_ _ | refine bset ?_ (by simp; omega) _ | refine bset ?_ (by simp) _ | refine bstep ?_ (by assumption)))) hb7
  clear hB6
  clear hb7
  have fE := bytesR.ofO oE
  obtain ⟨ae, ce, rfl⟩ := bytes_form fE
  go_wp2_with fail
  refine (eqByteS_u _ _ d0 d0 _ (bytesR.below (bytesR.ofO oC) (by (repeat (first | exact Below.refl _ _ | assumption | refine Below.drew ?_ | refine balloc ?_ _ | refine bset ?_ (by simp; omega) _ | refine bset ?_ (by simp) _ | refine bstep ?_ (by assumption))))) (bytesR.below (bytesR.ofO oE) (by (repeat (first | exact Below.refl _ _ | assumption | refine Below.drew ?_ | refine balloc ?_ _ | refine bset ?_ (by simp; omega) _ | refine bset ?_ (by simp) _ | refine bstep ?_ (by assumption)))))).mono ?_
  rintro e w8 ⟨rfl, hb8⟩
  have hB8 : Below w.heap.size w w8 := by (repeat (first | exact Below.refl _ _ | assumption | refine Below.drew ?_ | refine balloc ?_ _ | refine bset ?_ (by simp; omega) _ | refine bset ?_ (by simp) _ | refine bstep ?_ (by assumption)))
  have s8 := hb8.size
  try simp only [World.size_alloc] at s8
  replace q_0 := cell_keep hb8 (cell_keep (by (repeat (first | exact Below.refl _ _ | assumption | refine Below.drew ?_ | refine balloc ?_ _ | refine bset ?_ (by simp; omega) _ | refine bset ?_ (by simp) _ | refine bstep ?_ (by assumption)))) q_0)
  replace q_1 := cell_keep hb8 (cell_keep (by (repeat (first | exact Below.refl _ _ | assumption | refine Below.drew ?_ | refine balloc ?_ _ | refine bset ?_ (by simp; omega) _ | refine bset ?_ (by simp) _ | refine bstep ?_ (by assumption)))) q_1)
  replace q_2 := cell_keep hb8 (cell_keep (by (repeat (first | exact Below.refl _ _ | assumption | refine Below.drew ?_ | refine balloc ?_ _ | refine bset ?_ (by simp; omega) _ | refine bset ?_ (by simp) _ | refine bstep ?_ (by assumption)))) q_2)
  replace q_3 := cell_keep hb8 (cell_keep (by (repeat (first | exact Below.refl _ _ | assumption | refine Below.drew ?_ | refine balloc ?_ _ | refine bset ?_ (by simp; omega) _ | refine bset ?_ (by simp) _ | refine bstep ?_ (by assumption)))) q_3)
  replace q_4 := cell_keep hb8 (cell_keep (by (repeat (first | exact Below.refl _ _ | assumption | refine Below.drew ?_ | refine balloc ?_ _ | refine bset ?_ (by simp; omega) _ | refine bset ?_ (by simp) _ | refine bstep ?_ (by assumption)))) q_4)
  replace g_0 := cell_keep hb8 (cell_keep (by (repeat (first | exact Below.refl _ _ | assumption | refine Below.drew ?_ | refine balloc ?_ _ | refine bset ?_ (by simp; omega) _ | refine bset ?_ (by simp) _ | refine bstep ?_ (by assumption)))) g_0)
  replace g_1 := cell_keep hb8 (cell_keep (by (repeat (first | exact Below.refl _ _ | assumption | refine Below.drew ?_ | refine balloc ?_ _ | refine bset ?_ (by simp; omega) _ | refine bset ?_ (by simp) _ | refine bstep ?_ (by assumption)))) g_1)
  replace g_2 := cell_keep hb8 (cell_keep (by (repeat (first | exact Below.refl _ _ | assumption | refine Below.drew ?_ | refine balloc ?_ _ | refine bset ?_ (by simp; omega) _ | refine bset ?_ (by simp) _ | refine bstep ?_ (by assumption)))) g_2)
  replace g_3 := cell_keep hb8 (cell_keep (by (repeat (first | exact Below.refl _ _ | assumption | refine Below.drew ?_ | refine balloc ?_ _ | refine bset ?_ (by simp; omega) _ | refine bset ?_ (by simp) _ | refine bstep ?_ (by assumption)))) g_3)
  replace g_4 := cell_keep hb8 (cell_keep (by (repeat (first | exact Below.refl _ _ | assumption | refine Below.drew ?_ | refine balloc ?_ _ | refine bset ?_ (by simp; omega) _ | refine bset ?_ (by simp) _ | refine bstep ?_ (by assumption)))) g_4)
  replace oW := evtRR.keep2 oW (by (repeat (first | exact Below.refl _ _ | assumption | refine Below.drew ?_ | refine balloc ?_ _ | refine bset ?_ (by simp; omega) _ | refine bset ?_ (by simp) _ | refine bstep ?_ (by assumption)))) hb8
  replace oC := bytesR.keep2 oC (by (repeat (first | exact Below.refl _ _ | assumption | refine Below.drew ?_ | refine balloc ?_ _ | refine bset ?_ (by simp; omega) _ | refine bset ?_ (by simp) _ | refine bstep ?_ (by assumption)))) hb8
  replace oG := evtRR.keep2 oG (by (repeat (first | exact Below.refl _ _ | assumption | refine Below.drew ?_ | refine balloc ?_ _ | refine bset ?_ (by simp; omega) _ | refine bset ?_ (by simp) _ | refine bstep ?_ (by assumption)))) hb8
  clear hB7
  clear hb8
  clear oE
  clear z0 z5
  have z0 := World.block_lt_of_cell? _ _ q_0
  dsimp only at z0
  have z5 := World.block_lt_of_cell? _ _ g_0
  dsimp only at z5
  go_wp2_with fail
  refine (markByteS_u _ d0 _ FC 1 _ oC (by omega) hkA (by omega)).mono ?_
  rintro e w9 ⟨rfl, oCm, m9⟩
  have hB9 : Below w.heap.size w w9 := m9.below hB8 hB8.size (fun b hb => by have := roC b hb; omega)
  have s9 := m9.size
  replace q_0 := m9.cell q_0 (fun hf => by have := roC _ hf; dsimp only at this; omega)
  replace q_1 := m9.cell q_1 (fun hf => by have := roC _ hf; dsimp only at this; omega)
  replace q_2 := m9.cell q_2 (fun hf => by have := roC _ hf; dsimp only at this; omega)
  replace q_3 := m9.cell q_3 (fun hf => by have := roC _ hf; dsimp only at this; omega)
  replace q_4 := m9.cell q_4 (fun hf => by have := roC _ hf; dsimp only at this; omega)
  replace g_0 := m9.cell g_0 (fun hf => by have := roC _ hf; dsimp only at this; omega)
  replace g_1 := m9.cell g_1 (fun hf => by have := roC _ hf; dsimp only at this; omega)
  replace g_2 := m9.cell g_2 (fun hf => by have := roC _ hf; dsimp only at this; omega)
  replace g_3 := m9.cell g_3 (fun hf => by have := roC _ hf; dsimp only at this; omega)
  replace g_4 := m9.cell g_4 (fun hf => by have := roC _ hf; dsimp only at this; omega)
  replace oW := evtRR.mod oW m9 (fun b p q => by have := roW b p; have := roC b q; omega)
  replace oG := evtRR.mod oG m9 (fun b p q => by have := roG b p; have := roC b q; omega)
  clear hB8 oC m9
  clear z0 z5
  have z0 := World.block_lt_of_cell? _ _ q_0
  dsimp only at z0
  have z5 := World.block_lt_of_cell? _ _ g_0
  dsimp only at z5
  go_wp2_with fail
  refine (eqEventResult_u _ _ (unpE d0) (unpE d0) _ (evtRR.below (evtRR.ofO oG) (by (repeat (first | exact Below.refl _ _ | assumption | refine Below.drew ?_ | refine balloc ?_ _ | refine bset ?_ (by simp; omega) _ | refine bset ?_ (by simp) _ | refine bstep ?_ (by assumption))))) (evtRR.below (evtRR.ofO oW) (by (repeat (first | exact Below.refl _ _ | assumption | refine Below.drew ?_ | refine balloc ?_ _ | refine bset ?_ (by simp; omega) _ | refine bset ?_ (by simp) _ | refine bstep ?_ (by assumption)))))).mono ?_
  rintro e w10 ⟨rfl, hb10⟩
  have hB10 : Below w.heap.size w w10 := by (repeat (first | exact Below.refl _ _ | assumption | refine Below.drew ?_ | refine balloc ?_ _ | refine bset ?_ (by simp; omega) _ | refine bset ?_ (by simp) _ | refine bstep ?_ (by assumption)))
  have s10 := hb10.size
  try simp only [World.size_alloc] at s10
  replace q_0 := cell_keep hb10 (cell_keep (by (repeat (first | exact Below.refl _ _ | assumption | refine Below.drew ?_ | refine balloc ?_ _ | refine bset ?_ (by simp; omega) _ | refine bset ?_ (by simp) _ | refine bstep ?_ (by assumption)))) q_0)
  replace q_1 := cell_keep hb10 (cell_keep (by (repeat (first | exact Below.refl _ _ | assumption | refine Below.drew ?_ | refine balloc ?_ _ | refine bset ?_ (by simp; omega) _ | refine bset ?_ (by simp) _ | refine bstep ?_ (by assumption)))) q_1)
  replace q_2 := cell_keep hb10 (cell_keep (by (repeat (first | exact Below.refl _ _ | assumption | refine Below.drew ?_ | refine balloc ?_ _ | refine bset ?_ (by simp; omega) _ | refine bset ?_ (by simp) _ | refine bstep ?_ (by assumption)))) q_2)
  replace q_3 := cell_keep hb10 (cell_keep (by (repeat (first | exact Below.refl _ _ | assumption | refine Below.drew ?_ | refine balloc ?_ _ | refine bset ?_ (by simp; omega) _ | refine bset ?_ (by simp) _ | refine bstep ?_ (by assumption)))) q_3)
  replace q_4 := cell_keep hb10 (cell_keep (by (repeat (first | exact Below.refl _ _ | assumption | refine Below.drew ?_ | refine balloc ?_ _ | refine bset ?_ (by simp; omega) _ | refine bset ?_ (by simp) _ | refine bstep ?_ (by assumption)))) q_4)
  replace g_0 := cell_keep hb10 (cell_keep (by (repeat (first | exact Below.refl _ _ | assumption | refine Below.drew ?_ | refine balloc ?_ _ | refine bset ?_ (by simp; omega) _ | refine bset ?_ (by simp) _ | refine bstep ?_ (by assumption)))) g_0)
  replace g_1 := cell_keep hb10 (cell_keep (by (repeat (first | exact Below.refl _ _ | assumption | refine Below.drew ?_ | refine balloc ?_ _ | refine bset ?_ (by simp; omega) _ | refine bset ?_ (by simp) _ | refine bstep ?_ (by assumption)))) g_1)
  replace g_2 := cell_keep hb10 (cell_keep (by (repeat (first | exact Below.refl _ _ | assumption | refine Below.drew ?_ | refine balloc ?_ _ | refine bset ?_ (by simp; omega) _ | refine bset ?_ (by simp) _ | refine bstep ?_ (by assumption)))) g_2)
  replace g_3 := cell_keep hb10 (cell_keep (by (repeat (first | exact Below.refl _ _ | assumption | refine Below.drew ?_ | refine balloc ?_ _ | refine bset ?_ (by simp; omega) _ | refine bset ?_ (by simp) _ | refine bstep ?_ (by assumption)))) g_3)
  replace g_4 := cell_keep hb10 (cell_keep (by (repeat (first | exact Below.refl _ _ | assumption | refine Below.drew ?_ | refine balloc ?_ _ | refine bset ?_ (by simp; omega) _ | refine bset ?_ (by simp) _ | refine bstep ?_ (by assumption)))) g_4)
  replace oW := evtRR.keep2 oW (by (repeat (first | exact Below.refl _ _ | assumption | refine Below.drew ?_ | refine balloc ?_ _ | refine bset ?_ (by simp; omega) _ | refine bset ?_ (by simp) _ | refine bstep ?_ (by assumption)))) hb10
  replace oG := evtRR.keep2 oG (by (repeat (first | exact Below.refl _ _ | assumption | refine Below.drew ?_ | refine balloc ?_ _ | refine bset ?_ (by simp; omega) _ | refine bset ?_ (by simp) _ | refine bstep ?_ (by assumption)))) hb10
  replace oCm := bytesR.keep2 oCm (by (repeat (first | exact Below.refl _ _ | assumption | refine Below.drew ?_ | refine balloc ?_ _ | refine bset ?_ (by simp; omega) _ | refine bset ?_ (by simp) _ | refine bstep ?_ (by assumption)))) hb10
  clear hB9
  clear hb10
  clear z0 z5
  have z0 := World.block_lt_of_cell? _ _ q_0
  dsimp only at z0
  have z5 := World.block_lt_of_cell? _ _ g_0
  dsimp only at z5
  go_wp2_with fail
  refine (markEventResult_u _ (unpE d0) _ FG 1 _ oG hwR hcR (by omega)).mono ?_
  rintro e w11 ⟨rfl, oGm, m11⟩
  have hB11 : Below w.heap.size w w11 := m11.below hB10 hB10.size (fun b hb => by have := roG b hb; omega)
  have s11 := m11.size
  replace q_0 := m11.cell q_0 (fun hf => by have := roG _ hf; dsimp only at this; omega)
  replace q_1 := m11.cell q_1 (fun hf => by have := roG _ hf; dsimp only at this; omega)
  replace q_2 := m11.cell q_2 (fun hf => by have := roG _ hf; dsimp only at this; omega)
  replace q_3 := m11.cell q_3 (fun hf => by have := roG _ hf; dsimp only at this; omega)
  replace q_4 := m11.cell q_4 (fun hf => by have := roG _ hf; dsimp only at this; omega)
  replace g_0 := m11.cell g_0 (fun hf => by have := roG _ hf; dsimp only at this; omega)
  replace g_1 := m11.cell g_1 (fun hf => by have := roG _ hf; dsimp only at this; omega)
  replace g_2 := m11.cell g_2 (fun hf => by have := roG _ hf; dsimp only at this; omega)
  replace g_3 := m11.cell g_3 (fun hf => by have := roG _ hf; dsimp only at this; omega)
  replace g_4 := m11.cell g_4 (fun hf => by have := roG _ hf; dsimp only at this; omega)
  replace oW := evtRR.mod oW m11 (fun b p q => by have := roW b p; have := roG b q; omega)
  replace oCm := bytesR.mod oCm m11 (fun b p q => by have := roC b p; have := roG b q; omega)
  clear hB10 oG m11
  clear z0 z5
  have z0 := World.block_lt_of_cell? _ _ q_0
  dsimp only at z0
  have z5 := World.block_lt_of_cell? _ _ g_0
  dsimp only at z5
  go_wp2_with fail
  refine (heldEventResult_u _ (unpE d0) 1 _ (evtRR.below (evtRR.ofO oGm) (by (repeat (first | exact Below.refl _ _ | assumption | refine Below.drew ?_ | refine balloc ?_ _ | refine bset ?_ (by simp; omega) _ | refine bset ?_ (by simp) _ | refine bstep ?_ (by assumption))))) hwR hcR (by omega)).mono ?_
  rintro e w12 ⟨rfl, hb12⟩
  have hB12 : Below w.heap.size w w12 := by (repeat (first | exact Below.refl _ _ | assumption | refine Below.drew ?_ | refine balloc ?_ _ | refine bset ?_ (by simp; omega) _ | refine bset ?_ (by simp) _ | refine bstep ?_ (by assumption)))
  have s12 := hb12.size
  try simp only [World.size_alloc] at s12
  replace q_0 := cell_keep hb12 (cell_keep (by (repeat (first | exact Below.refl _ _ | assumption | refine Below.drew ?_ | refine balloc ?_ _ | refine bset ?_ (by simp; omega) _ | refine bset ?_ (by simp) _ | refine bstep ?_ (by assumption)))) q_0)
  replace q_1 := cell_keep hb12 (cell_keep (by (repeat (first | exact Below.refl _ _ | assumption | refine Below.drew ?_ | refine balloc ?_ _ | refine bset ?_ (by simp; omega) _ | refine bset ?_ (by simp) _ | refine bstep ?_ (by assumption)))) q_1)
  replace q_2 := cell_keep hb12 (cell_keep (by (repeat (first | exact Below.refl _ _ | assumption | refine Below.drew ?_ | refine balloc ?_ _ | refine bset ?_ (by simp; omega) _ | refine bset ?_ (by simp) _ | refine bstep ?_ (by assumption)))) q_2)
  replace q_3 := cell_keep hb12 (cell_keep (by (repeat (first | exact Below.refl _ _ | assumption | refine Below.drew ?_ | refine balloc ?_ _ | refine bset ?_ (by simp; omega) _ | refine bset ?_ (by simp) _ | refine bstep ?_ (by assumption)))) q_3)
  replace q_4 := cell_keep hb12 (cell_keep (by (repeat (first | exact Below.refl _ _ | assumption | refine Below.drew ?_ | refine balloc ?_ _ | refine bset ?_ (by simp; omega) _ | refine bset ?_ (by simp) _ | refine bstep ?_ (by assumption)))) q_4)
  replace g_0 := cell_keep hb12 (cell_keep (by (repeat (first | exact Below.refl _ _ | assumption | refine Below.drew ?_ | refine balloc ?_ _ | refine bset ?_ (by simp; omega) _ | refine bset ?_ (by simp) _ | refine bstep ?_ (by assumption)))) g_0)
  replace g_1 := cell_keep hb12 (cell_keep (by (repeat (first | exact Below.refl _ _ | assumption | refine Below.drew ?_ | refine balloc ?_ _ | refine bset ?_ (by simp; omega) _ | refine bset ?_ (by simp) _ | refine bstep ?_ (by assumption)))) g_1)
  replace g_2 := cell_keep hb12 (cell_keep (by (repeat (first | exact Below.refl _ _ | assumption | refine Below.drew ?_ | refine balloc ?_ _ | refine bset ?_ (by simp; omega) _ | refine bset ?_ (by simp) _ | refine bstep ?_ (by assumption)))) g_2)
  replace g_3 := cell_keep hb12 (cell_keep (by (repeat (first | exact Below.refl _ _ | assumption | refine Below.drew ?_ | refine balloc ?_ _ | refine bset ?_ (by simp; omega) _ | refine bset ?_ (by simp) _ | refine bstep ?_ (by assumption)))) g_3)
  replace g_4 := cell_keep hb12 (cell_keep (by (repeat (first | exact Below.refl _ _ | assumption | refine Below.drew ?_ | refine balloc ?_ _ | refine bset ?_ (by simp; omega) _ | refine bset ?_ (by simp) _ | refine bstep ?_ (by assumption)))) g_4)
  replace oW := evtRR.keep2 oW (by (repeat (first | exact Below.refl _ _ | assumption | refine Below.drew ?_ | refine balloc ?_ _ | refine bset ?_ (by simp; omega) _ | refine bset ?_ (by simp) _ | refine bstep ?_ (by assumption)))) hb12
  replace oCm := bytesR.keep2 oCm (by (repeat (first | exact Below.refl _ _ | assumption | refine Below.drew ?_ | refine balloc ?_ _ | refine bset ?_ (by simp; omega) _ | refine bset ?_ (by simp) _ | refine bstep ?_ (by assumption)))) hb12
  replace oGm := evtRR.keep2 oGm (by (repeat (first | exact Below.refl _ _ | assumption | refine Below.drew ?_ | refine balloc ?_ _ | refine bset ?_ (by simp; omega) _ | refine bset ?_ (by simp) _ | refine bstep ?_ (by assumption)))) hb12
  clear hB11
  clear hb12
  clear z0 z5
  have z0 := World.block_lt_of_cell? _ _ q_0
  dsimp only at z0
  have z5 := World.block_lt_of_cell? _ _ g_0
  dsimp only at z5
  go_wp2_with fail
  refine (toByteS_u _ d0 _ (bytesR.below hX0 (by (repeat (first | exact Below.refl _ _ | assumption | refine Below.drew ?_ | refine balloc ?_ _ | refine bset ?_ (by simp; omega) _ | refine bset ?_ (by simp) _ | refine bstep ?_ (by assumption))))) (by omega)).mono ?_
  rintro e w13 ⟨vH, FH, rfl, oH, hb13⟩
  have hB13 : Below w.heap.size w w13 := by (repeat (first | exact Below.refl _ _ | assumption | refine Below.drew ?_ | refine balloc ?_ _ | refine bset ?_ (by simp; omega) _ | refine bset ?_ (by simp) _ | refine bstep ?_ (by assumption)))
  have s13 := hb13.size
  try simp only [World.size_alloc] at s13
  replace q_0 := cell_keep hb13 (cell_keep (by (repeat (first | exact Below.refl _ _ | assumption | refine Below.drew ?_ | refine balloc ?_ _ | refine bset ?_ (by simp; omega) _ | refine bset ?_ (by simp) _ | refine bstep ?_ (by assumption)))) q_0)
  replace q_1 := cell_keep hb13 (cell_keep (by (repeat (first | exact Below.refl _ _ | assumption | refine Below.drew ?_ | refine balloc ?_ _ | refine bset ?_ (by simp; omega) _ | refine bset ?_ (by simp) _ | refine bstep ?_ (by assumption)))) q_1)
  replace q_2 := cell_keep hb13 (cell_keep (by (repeat (first | exact Below.refl _ _ | assumption | refine Below.drew ?_ | refine balloc ?_ _ | refine bset ?_ (by simp; omega) _ | refine bset ?_ (by simp) _ | refine bstep ?_ (by assumption)))) q_2)
  replace q_3 := cell_keep hb13 (cell_keep (by (repeat (first | exact Below.refl _ _ | assumption | refine Below.drew ?_ | refine balloc ?_ _ | refine bset ?_ (by simp; omega) _ | refine bset ?_ (by simp) _ | refine bstep ?_ (by assumption)))) q_3)
  replace q_4 := cell_keep hb13 (cell_keep (by (repeat (first | exact Below.refl _ _ | assumption | refine Below.drew ?_ | refine balloc ?_ _ | refine bset ?_ (by simp; omega) _ | refine bset ?_ (by simp) _ | refine bstep ?_ (by assumption)))) q_4)
  replace g_0 := cell_keep hb13 (cell_keep (by (repeat (first | exact Below.refl _ _ | assumption | refine Below.drew ?_ | refine balloc ?_ _ | refine bset ?_ (by simp; omega) _ | refine bset ?_ (by simp) _ | refine bstep ?_ (by assumption)))) g_0)
  replace g_1 := cell_keep hb13 (cell_keep (by (repeat (first | exact Below.refl _ _ | assumption | refine Below.drew ?_ | refine balloc ?_ _ | refine bset ?_ (by simp; omega) _ | refine bset ?_ (by simp) _ | refine bstep ?_ (by assumption)))) g_1)
  replace g_2 := cell_keep hb13 (cell_keep (by (repeat (first | exact Below.refl _ _ | assumption | refine Below.drew ?_ | refine balloc ?_ _ | refine bset ?_ (by simp; omega) _ | refine bset ?_ (by simp) _ | refine bstep ?_ (by assumption)))) g_2)
  replace g_3 := cell_keep hb13 (cell_keep (by (repeat (first | exact Below.refl _ _ | assumption | refine Below.drew ?_ | refine balloc ?_ _ | refine bset ?_ (by simp; omega) _ | refine bset ?_ (by simp) _ | refine bstep ?_ (by assumption)))) g_3)
  replace g_4 := cell_keep hb13 (cell_keep (by (repeat (first | exact Below.refl _ _ | assumption | refine Below.drew ?_ | refine balloc ?_ _ | refine bset ?_ (by simp; omega) _ | refine bset ?_ (by simp) _ | refine bstep ?_ (by assumption)))) g_4)
  replace oW := evtRR.keep2 oW (by (repeat (first | exact Below.refl _ _ | assumption | refine Below.drew ?_ | refine balloc ?_ _ | refine bset ?_ (by simp; omega) _ | refine bset ?_ (by simp) _ | refine bstep ?_ (by assumption)))) hb13
  replace oCm := bytesR.keep2 oCm (by (repeat (first | exact Below.refl _ _ | assumption | refine Below.drew ?_ | refine balloc ?_ _ | refine bset ?_ (by simp; omega) _ | refine bset ?_ (by simp) _ | refine bstep ?_ (by assumption)))) hb13
  replace oGm := evtRR.keep2 oGm (by (repeat (first | exact Below.refl _ _ | assumption | refine Below.drew ?_ | refine balloc ?_ _ | refine bset ?_ (by simp; omega) _ | refine bset ?_ (by simp) _ | refine bstep ?_ (by assumption)))) hb13
  clear hB12
  clear hb13
  have fH := bytesR.ofO oH
  obtain ⟨ah, ch, rfl⟩ := bytes_form fH
  clear z0 z5
  have z0 := World.block_lt_of_cell? _ _ q_0
  dsimp only at z0
  have z5 := World.block_lt_of_cell? _ _ g_0
  dsimp only at z5
  go_wp2_with fail
  refine (implUnpE_u _ d0 _ (bytesR.below (bytesR.ofO oH) (by (repeat (first | exact Below.refl _ _ | assumption | refine Below.drew ?_ | refine balloc ?_ _ | refine bset ?_ (by simp; omega) _ | refine bset ?_ (by simp) _ | refine bstep ?_ (by assumption)))))).mono ?_
  rintro e w14 ⟨vI, FI, rfl, oI, hb14⟩
  have hB14 : Below w.heap.size w w14 := by (repeat (first | exact Below.refl _ _ | assumption | refine Below.drew ?_ | refine balloc ?_ _ | refine bset ?_ (by simp; omega) _ | refine bset ?_ (by simp) _ | refine bstep ?_ (by assumption)))
  have s14 := hb14.size
  try simp only [World.size_alloc] at s14
  replace q_0 := cell_keep hb14 (cell_keep (by (repeat (first | exact Below.refl _ _ | assumption | refine Below.drew ?_ | refine balloc ?_ _ | refine bset ?_ (by simp; omega) _ | refine bset ?_ (by simp) _ | refine bstep ?_ (by assumption)))) q_0)
  replace q_1 := cell_keep hb14 (cell_keep (by (repeat (first | exact Below.refl _ _ | assumption | refine Below.drew ?_ | refine balloc ?_ _ | refine bset ?_ (by simp; omega) _ | refine bset ?_ (by simp) _ | refine bstep ?_ (by assumption)))) q_1)
  replace q_2 := cell_keep hb14 (cell_keep (by (repeat (first | exact Below.refl _ _ | assumption | refine Below.drew ?_ | refine balloc ?_ _ | refine bset ?_ (by simp; omega) _ | refine bset ?_ (by simp) _ | refine bstep ?_ (by assumption)))) q_2)
  replace q_3 := cell_keep hb14 (cell_keep (by (repeat (first | exact Below.refl _ _ | assumption | refine Below.drew ?_ | refine balloc ?_ _ | refine bset ?_ (by simp; omega) _ | refine bset ?_ (by simp) _ | refine bstep ?_ (by assumption)))) q_3)
  replace q_4 := cell_keep hb14 (cell_keep (by (repeat (first | exact Below.refl _ _ | assumption | refine Below.drew ?_ | refine balloc ?_ _ | refine bset ?_ (by simp; omega) _ | refine bset ?_ (by simp) _ | refine bstep ?_ (by assumption)))) q_4)
  replace g_0 := cell_keep hb14 (cell_keep (by (repeat (first | exact Below.refl _ _ | assumption | refine Below.drew ?_ | refine balloc ?_ _ | refine bset ?_ (by simp; omega) _ | refine bset ?_ (by simp) _ | refine bstep ?_ (by assumption)))) g_0)
  replace g_1 := cell_keep hb14 (cell_keep (by (repeat (first | exact Below.refl _ _ | assumption | refine Below.drew ?_ | refine balloc ?_ _ | refine bset ?_ (by simp; omega) _ | refine bset ?_ (by simp) _ | refine bstep ?_ (by assumption)))) g_1)
  replace g_2 := cell_keep hb14 (cell_keep (by (repeat (first | exact Below.refl _ _ | assumption | refine Below.drew ?_ | refine balloc ?_ _ | refine bset ?_ (by simp; omega) _ | refine bset ?_ (by simp) _ | refine bstep ?_ (by assumption)))) g_2)
  replace g_3 := cell_keep hb14 (cell_keep (by (repeat (first | exact Below.refl _ _ | assumption | refine Below.drew ?_ | refine balloc ?_ _ | refine bset ?_ (by simp; omega) _ | refine bset ?_ (by simp) _ | refine bstep ?_ (by assumption)))) g_3)
  replace g_4 := cell_keep hb14 (cell_keep (by (repeat (first | exact Below.refl _ _ | assumption | refine Below.drew ?_ | refine balloc ?_ _ | refine bset ?_ (by simp; omega) _ | refine bset ?_ (by simp) _ | refine bstep ?_ (by assumption)))) g_4)
  replace oW := evtRR.keep2 oW (by (repeat (first | exact Below.refl _ _ | assumption | refine Below.drew ?_ | refine balloc ?_ _ | refine bset ?_ (by simp; omega) _ | refine bset ?_ (by simp) _ | refine bstep ?_ (by assumption)))) hb14
  replace oCm := bytesR.keep2 oCm (by (repeat (first | exact Below.refl _ _ | assumption | refine Below.drew ?_ | refine balloc ?_ _ | refine bset ?_ (by simp; omega) _ | refine bset ?_ (by simp) _ | refine bstep ?_ (by assumption)))) hb14
  replace oGm := evtRR.keep2 oGm (by (repeat (first | exact Below.refl _ _ | assumption | refine Below.drew ?_ | refine balloc ?_ _ | refine bset ?_ (by simp; omega) _ | refine bset ?_ (by simp) _ | refine bstep ?_ (by assumption)))) hb14
  clear hB13
  clear hb14
  have fI := evtRR.ofO oI
  obtain ⟨ai1_1_1, ci1_1_1, rfl⟩ := evtR_form fI
  clear z0 z5
  have z0 := World.block_lt_of_cell? _ _ q_0
  dsimp only at z0
  have z5 := World.block_lt_of_cell? _ _ g_0
  dsimp only at z5
  go_wp2_with fail
  refine (eqEventResult_u _ _ (unpE d0) (unpE d0) _ (evtRR.below (evtRR.ofO oI) (by (repeat (first | exact Below.refl _ _ | assumption | refine Below.drew ?_ | refine balloc ?_ _ | refine bset ?_ (by simp; omega) _ | refine bset ?_ (by simp) _ | refine bstep ?_ (by assumption))))) (evtRR.below (evtRR.ofO oW) (by (repeat (first | exact Below.refl _ _ | assumption | refine Below.drew ?_ | refine balloc ?_ _ | refine bset ?_ (by simp; omega) _ | refine bset ?_ (by simp) _ | refine bstep ?_ (by assumption)))))).mono ?_
  rintro e w15 ⟨rfl, hb15⟩
  have hB15 : Below w.heap.size w w15 := by (repeat (first | exact Below.refl _ _ | assumption | refine Below.drew ?_ | refine balloc ?_ _ | refine bset ?_ (by simp; omega) _ | refine bset ?_ (by simp) _ | refine bstep ?_ (by assumption)))
  have s15 := hb15.size
  try simp only [World.size_alloc] at s15
  replace q_0 := cell_keep hb15 (cell_keep (by (repeat (first | exact Below.refl _ _ | assumption | refine Below.drew ?_ | refine balloc ?_ _ | refine bset ?_ (by simp; omega) _ | refine bset ?_ (by simp) _ | refine bstep ?_ (by assumption)))) q_0)
  replace q_1 := cell_keep hb15 (cell_keep (by (repeat (first | exact Below.refl _ _ | assumption | refine Below.drew ?_ | refine balloc ?_ _ | refine bset ?_ (by simp; omega) _ | refine bset ?_ (by simp) _ | refine bstep ?_ (by assumption)))) q_1)
  replace q_2 := cell_keep hb15 (cell_keep (by (repeat (first | exact Below.refl _ _ | assumption | refine Below.drew ?_ | refine balloc ?_ _ | refine bset ?_ (by simp; omega) _ | refine bset ?_ (by simp) _ | refine bstep ?_ (by assumption)))) q_2)
  replace q_3 := cell_keep hb15 (cell_keep (by (repeat (first | exact Below.refl _ _ | assumption | refine Below.drew ?_ | refine balloc ?_ _ | refine bset ?_ (by simp; omega) _ | refine bset ?_ (by simp) _ | refine bstep ?_ (by assumption)))) q_3)
  replace q_4 := cell_keep hb15 (cell_keep (by (repeat (first | exact Below.refl _ _ | assumption | refine Below.drew ?_ | refine balloc ?_ _ | refine bset ?_ (by simp; omega) _ | refine bset ?_ (by simp) _ | refine bstep ?_ (by assumption)))) q_4)
  replace g_0 := cell_keep hb15 (cell_keep (by (repeat (first | exact Below.refl _ _ | assumption | refine Below.drew ?_ | refine balloc ?_ _ | refine bset ?_ (by simp; omega) _ | refine bset ?_ (by simp) _ | refine bstep ?_ (by assumption)))) g_0)
  replace g_1 := cell_keep hb15 (cell_keep (by (repeat (first | exact Below.refl _ _ | assumption | refine Below.drew ?_ | refine balloc ?_ _ | refine bset ?_ (by simp; omega) _ | refine bset ?_ (by simp) _ | refine bstep ?_ (by assumption)))) g_1)
  replace g_2 := cell_keep hb15 (cell_keep (by (repeat (first | exact Below.refl _ _ | assumption | refine Below.drew ?_ | refine balloc ?_ _ | refine bset ?_ (by simp; omega) _ | refine bset ?_ (by simp) _ | refine bstep ?_ (by assumption)))) g_2)
  replace g_3 := cell_keep hb15 (cell_keep (by (repeat (first | exact Below.refl _ _ | assumption | refine Below.drew ?_ | refine balloc ?_ _ | refine bset ?_ (by simp; omega) _ | refine bset ?_ (by simp) _ | refine bstep ?_ (by assumption)))) g_3)
  replace g_4 := cell_keep hb15 (cell_keep (by (repeat (first | exact Below.refl _ _ | assumption | refine Below.drew ?_ | refine balloc ?_ _ | refine bset ?_ (by simp; omega) _ | refine bset ?_ (by simp) _ | refine bstep ?_ (by assumption)))) g_4)
  replace oW := evtRR.keep2 oW (by (repeat (first | exact Below.refl _ _ | assumption | refine Below.drew ?_ | refine balloc ?_ _ | refine bset ?_ (by simp; omega) _ | refine bset ?_ (by simp) _ | refine bstep ?_ (by assumption)))) hb15
  replace oCm := bytesR.keep2 oCm (by (repeat (first | exact Below.refl _ _ | assumption | refine Below.drew ?_ | refine balloc ?_ _ | refine bset ?_ (by simp; omega) _ | refine bset ?_ (by simp) _ | refine bstep ?_ (by assumption)))) hb15
  replace oGm := evtRR.keep2 oGm (by (repeat (first | exact Below.refl _ _ | assumption | refine Below.drew ?_ | refine balloc ?_ _ | refine bset ?_ (by simp; omega) _ | refine bset ?_ (by simp) _ | refine bstep ?_ (by assumption)))) hb15
  clear hB14
  clear hb15
  clear oH oI
  clear z0 z5
  have z0 := World.block_lt_of_cell? _ _ q_0
  dsimp only at z0
  have z5 := World.block_lt_of_cell? _ _ g_0
  dsimp only at z5
  go_wp2_with fail
  refine (heldEventResult_u _ (unpE d0) 1 _ (evtRR.below (evtRR.ofO oGm) (by (repeat (first | exact Below.refl _ _ | assumption | refine Below.drew ?_ | refine balloc ?_ _ | refine bset ?_ (by simp; omega) _ | refine bset ?_ (by simp) _ | refine bstep ?_ (by assumption))))) hwR hcR (by omega)).mono ?_
  rintro e w16 ⟨rfl, hb16⟩
  have hB16 : Below w.heap.size w w16 := by (repeat (first | exact Below.refl _ _ | assumption | refine Below.drew ?_ | refine balloc ?_ _ | refine bset ?_ (by simp; omega) _ | refine bset ?_ (by simp) _ | refine bstep ?_ (by assumption)))
  have s16 := hb16.size
  try simp only [World.size_alloc] at s16
  replace q_0 := cell_keep hb16 (cell_keep (by (repeat (first | exact Below.refl _ _ | assumption | refine Below.drew ?_ | refine balloc ?_ _ | refine bset ?_ (by simp; omega) _ | refine bset ?_ (by simp) _ | refine bstep ?_ (by assumption)))) q_0)
  replace q_1 := cell_keep hb16 (cell_keep (by (repeat (first | exact Below.refl _ _ | assumption | refine Below.drew ?_ | refine balloc ?_ _ | refine bset ?_ (by simp; omega) _ | refine bset ?_ (by simp) _ | refine bstep ?_ (by assumption)))) q_1)
  replace q_2 := cell_keep hb16 (cell_keep (by (repeat (first | exact Below.refl _ _ | assumption | refine Below.drew ?_ | refine balloc ?_ _ | refine bset ?_ (by simp; omega) _ | refine bset ?_ (by simp) _ | refine bstep ?_ (by assumption)))) q_2)
  replace q_3 := cell_keep hb16 (cell_keep (by (repeat (first | exact Below.refl _ _ | assumption | refine Below.drew ?_ | refine balloc ?_ _ | refine bset ?_ (by simp; omega) _ | refine bset ?_ (by simp) _ | refine bstep ?_ (by assumption)))) q_3)
  replace q_4 := cell_keep hb16 (cell_keep (by (repeat (first | exact Below.refl _ _ | assumption | refine Below.drew ?_ | refine balloc ?_ _ | refine bset ?_ (by simp; omega) _ | refine bset ?_ (by simp) _ | refine bstep ?_ (by assumption)))) q_4)
  replace g_0 := cell_keep hb16 (cell_keep (by (repeat (first | exact Below.refl _ _ | assumption | refine Below.drew ?_ | refine balloc ?_ _ | refine bset ?_ (by simp; omega) _ | refine bset ?_ (by simp) _ | refine bstep ?_ (by assumption)))) g_0)
  replace g_1 := cell_keep hb16 (cell_keep (by (repeat (first | exact Below.refl _ _ | assumption | refine Below.drew ?_ | refine balloc ?_ _ | refine bset ?_ (by simp; omega) _ | refine bset ?_ (by simp) _ | refine bstep ?_ (by assumption)))) g_1)
  replace g_2 := cell_keep hb16 (cell_keep (by (repeat (first | exact Below.refl _ _ | assumption | refine Below.drew ?_ | refine balloc ?_ _ | refine bset ?_ (by simp; omega) _ | refine bset ?_ (by simp) _ | refine bstep ?_ (by assumption)))) g_2)
  replace g_3 := cell_keep hb16 (cell_keep (by (repeat (first | exact Below.refl _ _ | assumption | refine Below.drew ?_ | refine balloc ?_ _ | refine bset ?_ (by simp; omega) _ | refine bset ?_ (by simp) _ | refine bstep ?_ (by assumption)))) g_3)
  replace g_4 := cell_keep hb16 (cell_keep (by (repeat (first | exact Below.refl _ _ | assumption | refine Below.drew ?_ | refine balloc ?_ _ | refine bset ?_ (by simp; omega) _ | refine bset ?_ (by simp) _ | refine bstep ?_ (by assumption)))) g_4)
  replace oW := evtRR.keep2 oW (by (repeat (first | exact Below.refl _ _ | assumption | refine Below.drew ?_ | refine balloc ?_ _ | refine bset ?_ (by simp; omega) _ | refine bset ?_ (by simp) _ | refine bstep ?_ (by assumption)))) hb16
  replace oCm := bytesR.keep2 oCm (by (repeat (first | exact Below.refl _ _ | assumption | refine Below.drew ?_ | refine balloc ?_ _ | refine bset ?_ (by simp; omega) _ | refine bset ?_ (by simp) _ | refine bstep ?_ (by assumption)))) hb16
  replace oGm := evtRR.keep2 oGm (by (repeat (first | exact Below.refl _ _ | assumption | refine Below.drew ?_ | refine balloc ?_ _ | refine bset ?_ (by simp; omega) _ | refine bset ?_ (by simp) _ | refine bstep ?_ (by assumption)))) hb16
  clear hB15
  go_wp2
  go_ret
  exact ⟨rfl, hB16⟩
end Go.Proofs.YtecfelacdapdgaaGreat.unpackEventLaw

