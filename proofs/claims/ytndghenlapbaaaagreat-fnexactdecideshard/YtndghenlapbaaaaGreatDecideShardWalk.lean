import Derived.Test.YtndghenlapbaaaaGreatPrnDecideShardLaw32
import Derived.Test.YtndghenlapbaaaaGreatPrnDecideShardLaw33
import Derived.Test.YtndghenlapbaaaaGreatPrnDecideShardLaw1
import Derived.Test.YtndghenlapbaaaaGreatPrnDecideShardLaw6
import Derived.Deep.RegionHeld3
import Derived.Deep.DrawnRows
set_option linter.unusedSectionVars false

/-
 Proved: laws.FnExactDecideShard answers true at every argument, and its arguments read behind the call as they read before. No condition. (The walk.)
-/
namespace Go.Proofs.YtndghenlapbaaaaGreat.decideShardLaw
open Go.RowKit
variable [DecidableEq Rw] [Inhabited Rw] [DecidableEq Bal] [Inhabited Bal] [DecidableEq Ledg] [Inhabited Ledg] [DecidableEq Leg] [Inhabited Leg] [DecidableEq Cont] [Inhabited Cont] [DecidableEq LedgR] [Inhabited LedgR] [DecidableEq OutcR] [Inhabited OutcR] [DecidableEq Mrk] [Inhabited Mrk] [DecidableEq Shd] [Inhabited Shd] [DecidableEq ShdR] [Inhabited ShdR]
attribute [local go_sem ↓] Go.wp_at_zero Go.wp_at_succ

set_option maxHeartbeats 4000000 in
theorem walk (x0 : Value) (d0 : Shd) (k1 : Int) (k2 : Int) (w : World) (hx0 : shdR.V w x0 d0) :
  Calls Tryz.prog 4 #[x0, .int .i64 k1, .int .i64 k2] w fun e w' => e = .returned (.bool true) ∧ Below w.heap.size w w' := by
 have hX0 := hx0
 obtain ⟨ax1, ax2, ax3, ax4, ax5, cx1, cx2, cx3, cx4, cx5, rfl⟩ := shd_form hx0
 go_enter Tryz.func4, Tryz.ntmps4
 go_wp2_with fail
 refine (szShard_u _ d0 1048576 _ (shdR.below hX0 (qBq)) (by omega) (by omega)).mono ?_
 rintro e w1 ⟨rfl, hb1⟩
 have hB1 : Below w.heap.size w w1 := qBq
 have s1 := hb1.size
 try simp only [World.size_alloc] at s1
 have b_0 : w1.cell? ⟨w.heap.size, 0, none⟩ = some (.int .i64 d0.idx) := cK hb1 (by simp [go_sem])
 have b_1 : w1.cell? ⟨w.heap.size, 1, none⟩ = some (.slice ax1 d0.bals.length cx1) := cK hb1 (by simp [go_sem])
 have b_2 : w1.cell? ⟨w.heap.size, 2, none⟩ = some (.slice ax2 d0.votes.length cx2) := cK hb1 (by simp [go_sem])
 have b_3 : w1.cell? ⟨w.heap.size, 3, none⟩ = some (.slice ax3 d0.held.length cx3) := cK hb1 (by simp [go_sem])
 have b_4 : w1.cell? ⟨w.heap.size, 4, none⟩ = some (.slice ax4 d0.done.length cx4) := cK hb1 (by simp [go_sem])
 have b_5 : w1.cell? ⟨w.heap.size, 5, none⟩ = some (.slice ax5 d0.appl.length cx5) := cK hb1 (by simp [go_sem])
 clear hb1
 by_cases hsz : 1048576 < wtShd d0
 ·
  rw [show szLen 1048576 ((wtShd d0 : Nat) : Int) = -1 by unfold szLen; rw [if_pos (by omega)]]
  go_wp2
  go_ret
  exact ⟨rfl, qBq⟩
 have e1 : szLen 1048576 ((wtShd d0 : Nat) : Int) = 1048576 - ((wtShd d0 : Nat) : Int) := by unfold szLen; rw [if_neg (by omega)]
 have e2 : ¬ (1048576 : Int) - ((wtShd d0 : Nat) : Int) < 0 := by omega
 rw [e1]
 clear e1
 have hcA := shd_cnt d0
 have hwR : wtShdR (decideD d0 k1 k2) ≤ 1048576 := by have := decideD_wt d0 k1 k2; omega
 have hcR : (1 : Int) + cntShdR (decideD d0 k1 k2) ≤ 1073741824 := by have := decideD_wt d0 k1 k2; have := shdR_cnt (decideD d0 k1 k2); omega
 have hk1 : ¬ (1 : Int) + cntShd d0 < 0 := by omega
 have hk2 : ¬ (1 : Int) + cntShdR (decideD d0 k1 k2) < 0 := by omega
 have hkA : (1 : Int) + cntShd d0 ≤ 1073741824 := by omega
 go_wp2_with fail
 refine (toShard_u _ d0 _ (shdR.below hX0 (qBq)) (by omega)).mono ?_
 rintro e w2 ⟨vS, FS, rfl, oS, hb2⟩
 have hB2 : Below w.heap.size w w2 := qBq
 have s2 := hb2.size
 try simp only [World.size_alloc] at s2
 replace b_0 := cK hb2 (cK (qBq) b_0)
 replace b_1 := cK hb2 (cK (qBq) b_1)
 replace b_2 := cK hb2 (cK (qBq) b_2)
 replace b_3 := cK hb2 (cK (qBq) b_3)
 replace b_4 := cK hb2 (cK (qBq) b_4)
 replace b_5 := cK hb2 (cK (qBq) b_5)
 clear hB1
 clear hb2
 have fS := shdR.ofO oS
 obtain ⟨asv1, asv2, asv3, asv4, asv5, csv1, csv2, csv3, csv4, csv5, rfl⟩ := shd_form fS
 have z0 := wL _ _ b_0
 dsimp only at z0
 go_wp2_with fail
 refine (specDecide_w _ d0 k1 k2 _ (shdR.below (shdR.ofO oS) (qBq))).mono ?_
 rintro e w3 ⟨vW, FW, rfl, oW, hb3⟩
 have hB3 : Below w.heap.size w w3 := qBq
 have s3 := hb3.size
 try simp only [World.size_alloc] at s3
 replace b_0 := cK hb3 (cK (qBq) b_0)
 replace b_1 := cK hb3 (cK (qBq) b_1)
 replace b_2 := cK hb3 (cK (qBq) b_2)
 replace b_3 := cK hb3 (cK (qBq) b_3)
 replace b_4 := cK hb3 (cK (qBq) b_4)
 replace b_5 := cK hb3 (cK (qBq) b_5)
 clear hB2
 have roW : ∀ b, FW b → w2.heap.size ≤ b ∧ b < w3.heap.size := fun b hb => by
  have := shdRR.rng oW b hb
  try simp only [World.size_alloc] at this
  omega
 clear hb3
 have fW := shdRR.ofO oW
 obtain ⟨aw1_1, aw1_2, aw1_3, aw1_4, aw1_5, cw1_1, cw1_2, cw1_3, cw1_4, cw1_5, rfl⟩ := shdR_form fW
 clear oS
 clear z0
 have z0 := wL _ _ b_0
 dsimp only at z0
 go_wp2_with fail
 refine (toShard_u _ d0 _ (shdR.below hX0 (qBq)) (by omega)).mono ?_
 rintro e w4 ⟨vC, FC, rfl, oC, hb4⟩
 have hB4 : Below w.heap.size w w4 := qBq
 have s4 := hb4.size
 try simp only [World.size_alloc] at s4
 replace b_0 := cK hb4 (cK (qBq) b_0)
 replace b_1 := cK hb4 (cK (qBq) b_1)
 replace b_2 := cK hb4 (cK (qBq) b_2)
 replace b_3 := cK hb4 (cK (qBq) b_3)
 replace b_4 := cK hb4 (cK (qBq) b_4)
 replace b_5 := cK hb4 (cK (qBq) b_5)
 have q_0 : w4.cell? ⟨w3.heap.size, 0, none⟩ = some (.int .i64 (decideD d0 k1 k2).code) := cK hb4 (by simp [go_sem])
 have q_1 : w4.cell? ⟨w3.heap.size, 1, none⟩ = some (.int .i64 (decideD d0 k1 k2).vote) := cK hb4 (by simp [go_sem])
 have q_2 : w4.cell? ⟨w3.heap.size, 2, none⟩ = some (.int .i64 (decideD d0 k1 k2).shard.idx) := cK hb4 (by simp [go_sem])
 have q_3 : w4.cell? ⟨w3.heap.size, 3, none⟩ = some (.slice aw1_1 (decideD d0 k1 k2).shard.bals.length cw1_1) := cK hb4 (by simp [go_sem])
 have q_4 : w4.cell? ⟨w3.heap.size, 4, none⟩ = some (.slice aw1_2 (decideD d0 k1 k2).shard.votes.length cw1_2) := cK hb4 (by simp [go_sem])
 have q_5 : w4.cell? ⟨w3.heap.size, 5, none⟩ = some (.slice aw1_3 (decideD d0 k1 k2).shard.held.length cw1_3) := cK hb4 (by simp [go_sem])
 have q_6 : w4.cell? ⟨w3.heap.size, 6, none⟩ = some (.slice aw1_4 (decideD d0 k1 k2).shard.done.length cw1_4) := cK hb4 (by simp [go_sem])
 have q_7 : w4.cell? ⟨w3.heap.size, 7, none⟩ = some (.slice aw1_5 (decideD d0 k1 k2).shard.appl.length cw1_5) := cK hb4 (by simp [go_sem])
 replace oW := shdRR.keep2 oW (qBq) hb4
 clear hB3
 have roC : ∀ b, FC b → w3.heap.size + 1 ≤ b ∧ b < w4.heap.size := fun b hb => by
  have := shdR.rng oC b hb
  try simp only [World.size_alloc] at this
  omega
 clear hb4
 have fC := shdR.ofO oC
 obtain ⟨ay1, ay2, ay3, ay4, ay5, cy1, cy2, cy3, cy4, cy5, rfl⟩ := shd_form fC
 clear z0
 have z0 := wL _ _ b_0
 dsimp only at z0
 have z6 := wL _ _ q_0
 dsimp only at z6
 go_wp2_with fail
 refine (implDecide_w _ d0 k1 k2 _ (shdR.below (shdR.ofO oC) (qBq))).mono ?_
 rintro e w5 ⟨vG, FG, rfl, oG, hb5⟩
 have hB5 : Below w.heap.size w w5 := qBq
 have s5 := hb5.size
 try simp only [World.size_alloc] at s5
 replace b_0 := cK hb5 (cK (qBq) b_0)
 replace b_1 := cK hb5 (cK (qBq) b_1)
 replace b_2 := cK hb5 (cK (qBq) b_2)
 replace b_3 := cK hb5 (cK (qBq) b_3)
 replace b_4 := cK hb5 (cK (qBq) b_4)
 replace b_5 := cK hb5 (cK (qBq) b_5)
 replace q_0 := cK hb5 (cK (qBq) q_0)
 replace q_1 := cK hb5 (cK (qBq) q_1)
 replace q_2 := cK hb5 (cK (qBq) q_2)
 replace q_3 := cK hb5 (cK (qBq) q_3)
 replace q_4 := cK hb5 (cK (qBq) q_4)
 replace q_5 := cK hb5 (cK (qBq) q_5)
 replace q_6 := cK hb5 (cK (qBq) q_6)
 replace q_7 := cK hb5 (cK (qBq) q_7)
 have y_0 : w5.cell? ⟨w4.heap.size, 0, none⟩ = some (.int .i64 d0.idx) := cK hb5 (by simp [go_sem])
 have y_1 : w5.cell? ⟨w4.heap.size, 1, none⟩ = some (.slice ay1 d0.bals.length cy1) := cK hb5 (by simp [go_sem])
 have y_2 : w5.cell? ⟨w4.heap.size, 2, none⟩ = some (.slice ay2 d0.votes.length cy2) := cK hb5 (by simp [go_sem])
 have y_3 : w5.cell? ⟨w4.heap.size, 3, none⟩ = some (.slice ay3 d0.held.length cy3) := cK hb5 (by simp [go_sem])
 have y_4 : w5.cell? ⟨w4.heap.size, 4, none⟩ = some (.slice ay4 d0.done.length cy4) := cK hb5 (by simp [go_sem])
 have y_5 : w5.cell? ⟨w4.heap.size, 5, none⟩ = some (.slice ay5 d0.appl.length cy5) := cK hb5 (by simp [go_sem])
 replace oW := shdRR.keep2 oW (qBq) hb5
 replace oC := shdR.keep2 oC (qBq) hb5
 clear hB4
 have roG : ∀ b, FG b → w4.heap.size + 1 ≤ b ∧ b < w5.heap.size := fun b hb => by
  have := shdRR.rng oG b hb
  try simp only [World.size_alloc] at this
  omega
 clear hb5
 have fG := shdRR.ofO oG
 obtain ⟨ag1_1, ag1_2, ag1_3, ag1_4, ag1_5, cg1_1, cg1_2, cg1_3, cg1_4, cg1_5, rfl⟩ := shdR_form fG
 clear z0 z6
 have z0 := wL _ _ b_0
 dsimp only at z0
 have z6 := wL _ _ q_0
 dsimp only at z6
 have z14 := wL _ _ y_0
 dsimp only at z14
 go_wp2_with fail
 refine (eqShardResult_u _ _ (decideD d0 k1 k2) (decideD d0 k1 k2) _ (shdRR.below (shdRR.ofO oG) (qBq)) (shdRR.below (shdRR.ofO oW) (qBq))).mono ?_
 rintro e w6 ⟨rfl, hb6⟩
 have hB6 : Below w.heap.size w w6 := qBq
 have s6 := hb6.size
 try simp only [World.size_alloc] at s6
 replace b_0 := cK hb6 (cK (qBq) b_0)
 replace b_1 := cK hb6 (cK (qBq) b_1)
 replace b_2 := cK hb6 (cK (qBq) b_2)
 replace b_3 := cK hb6 (cK (qBq) b_3)
 replace b_4 := cK hb6 (cK (qBq) b_4)
 replace b_5 := cK hb6 (cK (qBq) b_5)
 replace q_0 := cK hb6 (cK (qBq) q_0)
 replace q_1 := cK hb6 (cK (qBq) q_1)
 replace q_2 := cK hb6 (cK (qBq) q_2)
 replace q_3 := cK hb6 (cK (qBq) q_3)
 replace q_4 := cK hb6 (cK (qBq) q_4)
 replace q_5 := cK hb6 (cK (qBq) q_5)
 replace q_6 := cK hb6 (cK (qBq) q_6)
 replace q_7 := cK hb6 (cK (qBq) q_7)
 replace y_0 := cK hb6 (cK (qBq) y_0)
 replace y_1 := cK hb6 (cK (qBq) y_1)
 replace y_2 := cK hb6 (cK (qBq) y_2)
 replace y_3 := cK hb6 (cK (qBq) y_3)
 replace y_4 := cK hb6 (cK (qBq) y_4)
 replace y_5 := cK hb6 (cK (qBq) y_5)
 have g_0 : w6.cell? ⟨w5.heap.size, 0, none⟩ = some (.int .i64 (decideD d0 k1 k2).code) := cK hb6 (by simp [go_sem])
 have g_1 : w6.cell? ⟨w5.heap.size, 1, none⟩ = some (.int .i64 (decideD d0 k1 k2).vote) := cK hb6 (by simp [go_sem])
 have g_2 : w6.cell? ⟨w5.heap.size, 2, none⟩ = some (.int .i64 (decideD d0 k1 k2).shard.idx) := cK hb6 (by simp [go_sem])
 have g_3 : w6.cell? ⟨w5.heap.size, 3, none⟩ = some (.slice ag1_1 (decideD d0 k1 k2).shard.bals.length cg1_1) := cK hb6 (by simp [go_sem])
 have g_4 : w6.cell? ⟨w5.heap.size, 4, none⟩ = some (.slice ag1_2 (decideD d0 k1 k2).shard.votes.length cg1_2) := cK hb6 (by simp [go_sem])
 have g_5 : w6.cell? ⟨w5.heap.size, 5, none⟩ = some (.slice ag1_3 (decideD d0 k1 k2).shard.held.length cg1_3) := cK hb6 (by simp [go_sem])
 have g_6 : w6.cell? ⟨w5.heap.size, 6, none⟩ = some (.slice ag1_4 (decideD d0 k1 k2).shard.done.length cg1_4) := cK hb6 (by simp [go_sem])
 have g_7 : w6.cell? ⟨w5.heap.size, 7, none⟩ = some (.slice ag1_5 (decideD d0 k1 k2).shard.appl.length cg1_5) := cK hb6 (by simp [go_sem])
 replace oW := shdRR.keep2 oW (qBq) hb6
 replace oC := shdR.keep2 oC (qBq) hb6
 replace oG := shdRR.keep2 oG (qBq) hb6
 clear hB5
 clear hb6
 clear z0 z6 z14
 have z0 := wL _ _ b_0
 dsimp only at z0
 have z6 := wL _ _ q_0
 dsimp only at z6
 have z14 := wL _ _ y_0
 dsimp only at z14
 have z20 := wL _ _ g_0
 dsimp only at z20
 go_wp2
 have VC : shdR.V w6 _ d0 := shdR.ofO oC
 go_region_held3 (fun w' => Below w6.heap.size w6 w' ∧ w'.cell? ⟨w.heap.size, 0, none⟩ = some (.int .i64 d0.idx) ∧ w'.cell? ⟨w.heap.size, 1, none⟩ = some (.slice ax1 d0.bals.length cx1) ∧ w'.cell? ⟨w.heap.size, 2, none⟩ = some (.slice ax2 d0.votes.length cx2) ∧ w'.cell? ⟨w.heap.size, 3, none⟩ = some (.slice ax3 d0.held.length cx3) ∧ w'.cell? ⟨w.heap.size, 4, none⟩ = some (.slice ax4 d0.done.length cx4) ∧ w'.cell? ⟨w.heap.size, 5, none⟩ = some (.slice ax5 d0.appl.length cx5) ∧ w'.cell? ⟨w3.heap.size, 0, none⟩ = some (.int .i64 (decideD d0 k1 k2).code) ∧ w'.cell? ⟨w3.heap.size, 1, none⟩ = some (.int .i64 (decideD d0 k1 k2).vote) ∧ w'.cell? ⟨w3.heap.size, 2, none⟩ = some (.int .i64 (decideD d0 k1 k2).shard.idx) ∧ w'.cell? ⟨w3.heap.size, 3, none⟩ = some (.slice aw1_1 (decideD d0 k1 k2).shard.bals.length cw1_1) ∧ w'.cell? ⟨w3.heap.size, 4, none⟩ = some (.slice aw1_2 (decideD d0 k1 k2).shard.votes.length cw1_2) ∧ w'.cell? ⟨w3.heap.size, 5, none⟩ = some (.slice aw1_3 (decideD d0 k1 k2).shard.held.length cw1_3) ∧ w'.cell? ⟨w3.heap.size, 6, none⟩ = some (.slice aw1_4 (decideD d0 k1 k2).shard.done.length cw1_4) ∧ w'.cell? ⟨w3.heap.size, 7, none⟩ = some (.slice aw1_5 (decideD d0 k1 k2).shard.appl.length cw1_5) ∧ w'.cell? ⟨w4.heap.size, 0, none⟩ = some (.int .i64 d0.idx) ∧ w'.cell? ⟨w4.heap.size, 1, none⟩ = some (.slice ay1 d0.bals.length cy1) ∧ w'.cell? ⟨w4.heap.size, 2, none⟩ = some (.slice ay2 d0.votes.length cy2) ∧ w'.cell? ⟨w4.heap.size, 3, none⟩ = some (.slice ay3 d0.held.length cy3) ∧ w'.cell? ⟨w4.heap.size, 4, none⟩ = some (.slice ay4 d0.done.length cy4) ∧ w'.cell? ⟨w4.heap.size, 5, none⟩ = some (.slice ay5 d0.appl.length cy5) ∧ w'.cell? ⟨w5.heap.size, 0, none⟩ = some (.int .i64 (decideD d0 k1 k2).code) ∧ w'.cell? ⟨w5.heap.size, 1, none⟩ = some (.int .i64 (decideD d0 k1 k2).vote) ∧ w'.cell? ⟨w5.heap.size, 2, none⟩ = some (.int .i64 (decideD d0 k1 k2).shard.idx) ∧ w'.cell? ⟨w5.heap.size, 3, none⟩ = some (.slice ag1_1 (decideD d0 k1 k2).shard.bals.length cg1_1) ∧ w'.cell? ⟨w5.heap.size, 4, none⟩ = some (.slice ag1_2 (decideD d0 k1 k2).shard.votes.length cg1_2) ∧ w'.cell? ⟨w5.heap.size, 5, none⟩ = some (.slice ag1_3 (decideD d0 k1 k2).shard.held.length cg1_3) ∧ w'.cell? ⟨w5.heap.size, 6, none⟩ = some (.slice ag1_4 (decideD d0 k1 k2).shard.done.length cg1_4) ∧ w'.cell? ⟨w5.heap.size, 7, none⟩ = some (.slice ag1_5 (decideD d0 k1 k2).shard.appl.length cg1_5))
  ((refine keepN28 ?_ b_0 b_1 b_2 b_3 b_4 b_5 q_0 q_1 q_2 q_3 q_4 q_5 q_6 q_7 y_0 y_1 y_2 y_3 y_4 y_5 g_0 g_1 g_2 g_3 g_4 g_5 g_6 g_7; repeat (first | exact bR _ _ | assumption | refine bD ?_ | refine bA ?_ _ | refine bS ?_ (by assumption))))
  (first | (go_at_call 8; refine (toShard_u _ d0 _ (shdR.below hX0 (qBq)) (by omega)).mono ?_; rintro e wD ⟨vE, FE, rfl, oE, hbD⟩; have fE := shdR.ofO oE; obtain ⟨ae1, ae2, ae3, ae4, ae5, ce1, ce2, ce3, ce4, ce5, rfl⟩ := shd_form fE) | (go_at_call 12; refine (eqShard_u _ _ d0 d0 _ (shdR.below VC (qBq)) (shdR.below (shdR.ofO oE) (qBq))).mono ?_; rintro e wE ⟨rfl, hbE⟩))
 rename_i hH
 have hBE : Below w.heap.size w wE := bS hB6 hH.1
 have sE := hH.1.size
 replace oW := shdRR.keep oW hH.1
 replace oC := shdR.keep oC hH.1
 replace oG := shdRR.keep oG hH.1
 obtain ⟨_, rb_0, rb_1, rb_2, rb_3, rb_4, rb_5, rq_0, rq_1, rq_2, rq_3, rq_4, rq_5, rq_6, rq_7, ry_0, ry_1, ry_2, ry_3, ry_4, ry_5, rg_0, rg_1, rg_2, rg_3, rg_4, rg_5, rg_6, rg_7⟩ := hH
 replace b_0 := rb_0
 replace b_1 := rb_1
 replace b_2 := rb_2
 replace b_3 := rb_3
 replace b_4 := rb_4
 replace b_5 := rb_5
 replace q_0 := rq_0
 replace q_1 := rq_1
 replace q_2 := rq_2
 replace q_3 := rq_3
 replace q_4 := rq_4
 replace q_5 := rq_5
 replace q_6 := rq_6
 replace q_7 := rq_7
 replace y_0 := ry_0
 replace y_1 := ry_1
 replace y_2 := ry_2
 replace y_3 := ry_3
 replace y_4 := ry_4
 replace y_5 := ry_5
 replace g_0 := rg_0
 replace g_1 := rg_1
 replace g_2 := rg_2
 replace g_3 := rg_3
 replace g_4 := rg_4
 replace g_5 := rg_5
 replace g_6 := rg_6
 replace g_7 := rg_7
 clear rb_0 rb_1 rb_2 rb_3 rb_4 rb_5 rq_0 rq_1 rq_2 rq_3 rq_4 rq_5 rq_6 rq_7 ry_0 ry_1 ry_2 ry_3 ry_4 ry_5 rg_0 rg_1 rg_2 rg_3 rg_4 rg_5 rg_6 rg_7 hB6 oE hbD hbE VC
 clear z0 z6 z14 z20
 have z0 := wL _ _ b_0
 dsimp only at z0
 have z6 := wL _ _ q_0
 dsimp only at z6
 have z14 := wL _ _ y_0
 dsimp only at z14
 have z20 := wL _ _ g_0
 dsimp only at z20
 go_wp2_with fail
 refine (markShard_u _ d0 _ FC 1 _ oC (by omega) hkA (by omega)).mono ?_
 rintro e w7 ⟨rfl, oCm, m7⟩
 have hB7 : Below w.heap.size w w7 := m7.below hBE hBE.size (fun b hb => by have := roC b hb; omega)
 have s7 := m7.size
 replace b_0 := m7.cell b_0 (fun hf => by have := roC _ hf; dsimp only at this; omega)
 replace b_1 := m7.cell b_1 (fun hf => by have := roC _ hf; dsimp only at this; omega)
 replace b_2 := m7.cell b_2 (fun hf => by have := roC _ hf; dsimp only at this; omega)
 replace b_3 := m7.cell b_3 (fun hf => by have := roC _ hf; dsimp only at this; omega)
 replace b_4 := m7.cell b_4 (fun hf => by have := roC _ hf; dsimp only at this; omega)
 replace b_5 := m7.cell b_5 (fun hf => by have := roC _ hf; dsimp only at this; omega)
 replace q_0 := m7.cell q_0 (fun hf => by have := roC _ hf; dsimp only at this; omega)
 replace q_1 := m7.cell q_1 (fun hf => by have := roC _ hf; dsimp only at this; omega)
 replace q_2 := m7.cell q_2 (fun hf => by have := roC _ hf; dsimp only at this; omega)
 replace q_3 := m7.cell q_3 (fun hf => by have := roC _ hf; dsimp only at this; omega)
 replace q_4 := m7.cell q_4 (fun hf => by have := roC _ hf; dsimp only at this; omega)
 replace q_5 := m7.cell q_5 (fun hf => by have := roC _ hf; dsimp only at this; omega)
 replace q_6 := m7.cell q_6 (fun hf => by have := roC _ hf; dsimp only at this; omega)
 replace q_7 := m7.cell q_7 (fun hf => by have := roC _ hf; dsimp only at this; omega)
 replace y_0 := m7.cell y_0 (fun hf => by have := roC _ hf; dsimp only at this; omega)
 replace y_1 := m7.cell y_1 (fun hf => by have := roC _ hf; dsimp only at this; omega)
 replace y_2 := m7.cell y_2 (fun hf => by have := roC _ hf; dsimp only at this; omega)
 replace y_3 := m7.cell y_3 (fun hf => by have := roC _ hf; dsimp only at this; omega)
 replace y_4 := m7.cell y_4 (fun hf => by have := roC _ hf; dsimp only at this; omega)
 replace y_5 := m7.cell y_5 (fun hf => by have := roC _ hf; dsimp only at this; omega)
 replace g_0 := m7.cell g_0 (fun hf => by have := roC _ hf; dsimp only at this; omega)
 replace g_1 := m7.cell g_1 (fun hf => by have := roC _ hf; dsimp only at this; omega)
 replace g_2 := m7.cell g_2 (fun hf => by have := roC _ hf; dsimp only at this; omega)
 replace g_3 := m7.cell g_3 (fun hf => by have := roC _ hf; dsimp only at this; omega)
 replace g_4 := m7.cell g_4 (fun hf => by have := roC _ hf; dsimp only at this; omega)
 replace g_5 := m7.cell g_5 (fun hf => by have := roC _ hf; dsimp only at this; omega)
 replace g_6 := m7.cell g_6 (fun hf => by have := roC _ hf; dsimp only at this; omega)
 replace g_7 := m7.cell g_7 (fun hf => by have := roC _ hf; dsimp only at this; omega)
 replace oW := shdRR.mod oW m7 (fun b p q => by have := roW b p; have := roC b q; omega)
 replace oG := shdRR.mod oG m7 (fun b p q => by have := roG b p; have := roC b q; omega)
 clear hBE oC m7
 clear z0 z6 z14 z20
 have z0 := wL _ _ b_0
 dsimp only at z0
 have z6 := wL _ _ q_0
 dsimp only at z6
 have z14 := wL _ _ y_0
 dsimp only at z14
 have z20 := wL _ _ g_0
 dsimp only at z20
 go_wp2_with fail
 refine (eqShardResult_u _ _ (decideD d0 k1 k2) (decideD d0 k1 k2) _ (shdRR.below (shdRR.ofO oG) (qBq)) (shdRR.below (shdRR.ofO oW) (qBq))).mono ?_
 rintro e w8 ⟨rfl, hb8⟩
 have hB8 : Below w.heap.size w w8 := qBq
 have s8 := hb8.size
 try simp only [World.size_alloc] at s8
 replace b_0 := cK hb8 (cK (qBq) b_0)
 replace b_1 := cK hb8 (cK (qBq) b_1)
 replace b_2 := cK hb8 (cK (qBq) b_2)
 replace b_3 := cK hb8 (cK (qBq) b_3)
 replace b_4 := cK hb8 (cK (qBq) b_4)
 replace b_5 := cK hb8 (cK (qBq) b_5)
 replace q_0 := cK hb8 (cK (qBq) q_0)
 replace q_1 := cK hb8 (cK (qBq) q_1)
 replace q_2 := cK hb8 (cK (qBq) q_2)
 replace q_3 := cK hb8 (cK (qBq) q_3)
 replace q_4 := cK hb8 (cK (qBq) q_4)
 replace q_5 := cK hb8 (cK (qBq) q_5)
 replace q_6 := cK hb8 (cK (qBq) q_6)
 replace q_7 := cK hb8 (cK (qBq) q_7)
 replace y_0 := cK hb8 (cK (qBq) y_0)
 replace y_1 := cK hb8 (cK (qBq) y_1)
 replace y_2 := cK hb8 (cK (qBq) y_2)
 replace y_3 := cK hb8 (cK (qBq) y_3)
 replace y_4 := cK hb8 (cK (qBq) y_4)
 replace y_5 := cK hb8 (cK (qBq) y_5)
 replace g_0 := cK hb8 (cK (qBq) g_0)
 replace g_1 := cK hb8 (cK (qBq) g_1)
 replace g_2 := cK hb8 (cK (qBq) g_2)
 replace g_3 := cK hb8 (cK (qBq) g_3)
 replace g_4 := cK hb8 (cK (qBq) g_4)
 replace g_5 := cK hb8 (cK (qBq) g_5)
 replace g_6 := cK hb8 (cK (qBq) g_6)
 replace g_7 := cK hb8 (cK (qBq) g_7)
 replace oW := shdRR.keep2 oW (qBq) hb8
 replace oG := shdRR.keep2 oG (qBq) hb8
 replace oCm := shdR.keep2 oCm (qBq) hb8
 clear hB7
 clear hb8
 clear z0 z6 z14 z20
 have z0 := wL _ _ b_0
 dsimp only at z0
 have z6 := wL _ _ q_0
 dsimp only at z6
 have z14 := wL _ _ y_0
 dsimp only at z14
 have z20 := wL _ _ g_0
 dsimp only at z20
 go_wp2_with fail
 refine (markShardResult_u _ (decideD d0 k1 k2) _ FG 1 _ oG hwR hcR (by omega)).mono ?_
 rintro e w9 ⟨rfl, oGm, m9⟩
 have hB9 : Below w.heap.size w w9 := m9.below hB8 hB8.size (fun b hb => by have := roG b hb; omega)
 have s9 := m9.size
 replace b_0 := m9.cell b_0 (fun hf => by have := roG _ hf; dsimp only at this; omega)
 replace b_1 := m9.cell b_1 (fun hf => by have := roG _ hf; dsimp only at this; omega)
 replace b_2 := m9.cell b_2 (fun hf => by have := roG _ hf; dsimp only at this; omega)
 replace b_3 := m9.cell b_3 (fun hf => by have := roG _ hf; dsimp only at this; omega)
 replace b_4 := m9.cell b_4 (fun hf => by have := roG _ hf; dsimp only at this; omega)
 replace b_5 := m9.cell b_5 (fun hf => by have := roG _ hf; dsimp only at this; omega)
 replace q_0 := m9.cell q_0 (fun hf => by have := roG _ hf; dsimp only at this; omega)
 replace q_1 := m9.cell q_1 (fun hf => by have := roG _ hf; dsimp only at this; omega)
 replace q_2 := m9.cell q_2 (fun hf => by have := roG _ hf; dsimp only at this; omega)
 replace q_3 := m9.cell q_3 (fun hf => by have := roG _ hf; dsimp only at this; omega)
 replace q_4 := m9.cell q_4 (fun hf => by have := roG _ hf; dsimp only at this; omega)
 replace q_5 := m9.cell q_5 (fun hf => by have := roG _ hf; dsimp only at this; omega)
 replace q_6 := m9.cell q_6 (fun hf => by have := roG _ hf; dsimp only at this; omega)
 replace q_7 := m9.cell q_7 (fun hf => by have := roG _ hf; dsimp only at this; omega)
 replace y_0 := m9.cell y_0 (fun hf => by have := roG _ hf; dsimp only at this; omega)
 replace y_1 := m9.cell y_1 (fun hf => by have := roG _ hf; dsimp only at this; omega)
 replace y_2 := m9.cell y_2 (fun hf => by have := roG _ hf; dsimp only at this; omega)
 replace y_3 := m9.cell y_3 (fun hf => by have := roG _ hf; dsimp only at this; omega)
 replace y_4 := m9.cell y_4 (fun hf => by have := roG _ hf; dsimp only at this; omega)
 replace y_5 := m9.cell y_5 (fun hf => by have := roG _ hf; dsimp only at this; omega)
 replace g_0 := m9.cell g_0 (fun hf => by have := roG _ hf; dsimp only at this; omega)
 replace g_1 := m9.cell g_1 (fun hf => by have := roG _ hf; dsimp only at this; omega)
 replace g_2 := m9.cell g_2 (fun hf => by have := roG _ hf; dsimp only at this; omega)
 replace g_3 := m9.cell g_3 (fun hf => by have := roG _ hf; dsimp only at this; omega)
 replace g_4 := m9.cell g_4 (fun hf => by have := roG _ hf; dsimp only at this; omega)
 replace g_5 := m9.cell g_5 (fun hf => by have := roG _ hf; dsimp only at this; omega)
 replace g_6 := m9.cell g_6 (fun hf => by have := roG _ hf; dsimp only at this; omega)
 replace g_7 := m9.cell g_7 (fun hf => by have := roG _ hf; dsimp only at this; omega)
 replace oW := shdRR.mod oW m9 (fun b p q => by have := roW b p; have := roG b q; omega)
 replace oCm := shdR.mod oCm m9 (fun b p q => by have := roC b p; have := roG b q; omega)
 clear hB8 oG m9
 clear z0 z6 z14 z20
 have z0 := wL _ _ b_0
 dsimp only at z0
 have z6 := wL _ _ q_0
 dsimp only at z6
 have z14 := wL _ _ y_0
 dsimp only at z14
 have z20 := wL _ _ g_0
 dsimp only at z20
 go_wp2_with fail
 refine (heldShardResult_u _ (decideD d0 k1 k2) 1 _ (shdRR.below (shdRR.ofO oGm) (qBq)) hwR hcR (by omega)).mono ?_
 rintro e w10 ⟨rfl, hb10⟩
 have hB10 : Below w.heap.size w w10 := qBq
 have s10 := hb10.size
 try simp only [World.size_alloc] at s10
 replace b_0 := cK hb10 (cK (qBq) b_0)
 replace b_1 := cK hb10 (cK (qBq) b_1)
 replace b_2 := cK hb10 (cK (qBq) b_2)
 replace b_3 := cK hb10 (cK (qBq) b_3)
 replace b_4 := cK hb10 (cK (qBq) b_4)
 replace b_5 := cK hb10 (cK (qBq) b_5)
 replace q_0 := cK hb10 (cK (qBq) q_0)
 replace q_1 := cK hb10 (cK (qBq) q_1)
 replace q_2 := cK hb10 (cK (qBq) q_2)
 replace q_3 := cK hb10 (cK (qBq) q_3)
 replace q_4 := cK hb10 (cK (qBq) q_4)
 replace q_5 := cK hb10 (cK (qBq) q_5)
 replace q_6 := cK hb10 (cK (qBq) q_6)
 replace q_7 := cK hb10 (cK (qBq) q_7)
 replace y_0 := cK hb10 (cK (qBq) y_0)
 replace y_1 := cK hb10 (cK (qBq) y_1)
 replace y_2 := cK hb10 (cK (qBq) y_2)
 replace y_3 := cK hb10 (cK (qBq) y_3)
 replace y_4 := cK hb10 (cK (qBq) y_4)
 replace y_5 := cK hb10 (cK (qBq) y_5)
 replace g_0 := cK hb10 (cK (qBq) g_0)
 replace g_1 := cK hb10 (cK (qBq) g_1)
 replace g_2 := cK hb10 (cK (qBq) g_2)
 replace g_3 := cK hb10 (cK (qBq) g_3)
 replace g_4 := cK hb10 (cK (qBq) g_4)
 replace g_5 := cK hb10 (cK (qBq) g_5)
 replace g_6 := cK hb10 (cK (qBq) g_6)
 replace g_7 := cK hb10 (cK (qBq) g_7)
 replace oW := shdRR.keep2 oW (qBq) hb10
 replace oCm := shdR.keep2 oCm (qBq) hb10
 replace oGm := shdRR.keep2 oGm (qBq) hb10
 clear hB9
 clear hb10
 clear z0 z6 z14 z20
 have z0 := wL _ _ b_0
 dsimp only at z0
 have z6 := wL _ _ q_0
 dsimp only at z6
 have z14 := wL _ _ y_0
 dsimp only at z14
 have z20 := wL _ _ g_0
 dsimp only at z20
 go_wp2_with fail
 refine (toShard_u _ d0 _ (shdR.below hX0 (qBq)) (by omega)).mono ?_
 rintro e w11 ⟨vH, FH, rfl, oH, hb11⟩
 have hB11 : Below w.heap.size w w11 := qBq
 have s11 := hb11.size
 try simp only [World.size_alloc] at s11
 replace b_0 := cK hb11 (cK (qBq) b_0)
 replace b_1 := cK hb11 (cK (qBq) b_1)
 replace b_2 := cK hb11 (cK (qBq) b_2)
 replace b_3 := cK hb11 (cK (qBq) b_3)
 replace b_4 := cK hb11 (cK (qBq) b_4)
 replace b_5 := cK hb11 (cK (qBq) b_5)
 replace q_0 := cK hb11 (cK (qBq) q_0)
 replace q_1 := cK hb11 (cK (qBq) q_1)
 replace q_2 := cK hb11 (cK (qBq) q_2)
 replace q_3 := cK hb11 (cK (qBq) q_3)
 replace q_4 := cK hb11 (cK (qBq) q_4)
 replace q_5 := cK hb11 (cK (qBq) q_5)
 replace q_6 := cK hb11 (cK (qBq) q_6)
 replace q_7 := cK hb11 (cK (qBq) q_7)
 replace y_0 := cK hb11 (cK (qBq) y_0)
 replace y_1 := cK hb11 (cK (qBq) y_1)
 replace y_2 := cK hb11 (cK (qBq) y_2)
 replace y_3 := cK hb11 (cK (qBq) y_3)
 replace y_4 := cK hb11 (cK (qBq) y_4)
 replace y_5 := cK hb11 (cK (qBq) y_5)
 replace g_0 := cK hb11 (cK (qBq) g_0)
 replace g_1 := cK hb11 (cK (qBq) g_1)
 replace g_2 := cK hb11 (cK (qBq) g_2)
 replace g_3 := cK hb11 (cK (qBq) g_3)
 replace g_4 := cK hb11 (cK (qBq) g_4)
 replace g_5 := cK hb11 (cK (qBq) g_5)
 replace g_6 := cK hb11 (cK (qBq) g_6)
 replace g_7 := cK hb11 (cK (qBq) g_7)
 replace oW := shdRR.keep2 oW (qBq) hb11
 replace oCm := shdR.keep2 oCm (qBq) hb11
 replace oGm := shdRR.keep2 oGm (qBq) hb11
 clear hB10
 clear hb11
 have fH := shdR.ofO oH
 obtain ⟨ah1, ah2, ah3, ah4, ah5, ch1, ch2, ch3, ch4, ch5, rfl⟩ := shd_form fH
 clear z0 z6 z14 z20
 have z0 := wL _ _ b_0
 dsimp only at z0
 have z6 := wL _ _ q_0
 dsimp only at z6
 have z14 := wL _ _ y_0
 dsimp only at z14
 have z20 := wL _ _ g_0
 dsimp only at z20
 go_wp2_with fail
 refine (implDecide_w _ d0 k1 k2 _ (shdR.below (shdR.ofO oH) (qBq))).mono ?_
 rintro e w12 ⟨vI, FI, rfl, oI, hb12⟩
 have hB12 : Below w.heap.size w w12 := qBq
 have s12 := hb12.size
 try simp only [World.size_alloc] at s12
 replace b_0 := cK hb12 (cK (qBq) b_0)
 replace b_1 := cK hb12 (cK (qBq) b_1)
 replace b_2 := cK hb12 (cK (qBq) b_2)
 replace b_3 := cK hb12 (cK (qBq) b_3)
 replace b_4 := cK hb12 (cK (qBq) b_4)
 replace b_5 := cK hb12 (cK (qBq) b_5)
 replace q_0 := cK hb12 (cK (qBq) q_0)
 replace q_1 := cK hb12 (cK (qBq) q_1)
 replace q_2 := cK hb12 (cK (qBq) q_2)
 replace q_3 := cK hb12 (cK (qBq) q_3)
 replace q_4 := cK hb12 (cK (qBq) q_4)
 replace q_5 := cK hb12 (cK (qBq) q_5)
 replace q_6 := cK hb12 (cK (qBq) q_6)
 replace q_7 := cK hb12 (cK (qBq) q_7)
 replace y_0 := cK hb12 (cK (qBq) y_0)
 replace y_1 := cK hb12 (cK (qBq) y_1)
 replace y_2 := cK hb12 (cK (qBq) y_2)
 replace y_3 := cK hb12 (cK (qBq) y_3)
 replace y_4 := cK hb12 (cK (qBq) y_4)
 replace y_5 := cK hb12 (cK (qBq) y_5)
 replace g_0 := cK hb12 (cK (qBq) g_0)
 replace g_1 := cK hb12 (cK (qBq) g_1)
 replace g_2 := cK hb12 (cK (qBq) g_2)
 replace g_3 := cK hb12 (cK (qBq) g_3)
 replace g_4 := cK hb12 (cK (qBq) g_4)
 replace g_5 := cK hb12 (cK (qBq) g_5)
 replace g_6 := cK hb12 (cK (qBq) g_6)
 replace g_7 := cK hb12 (cK (qBq) g_7)
 replace oW := shdRR.keep2 oW (qBq) hb12
 replace oCm := shdR.keep2 oCm (qBq) hb12
 replace oGm := shdRR.keep2 oGm (qBq) hb12
 clear hB11
 clear hb12
 have fI := shdRR.ofO oI
 obtain ⟨ai1_1, ai1_2, ai1_3, ai1_4, ai1_5, ci1_1, ci1_2, ci1_3, ci1_4, ci1_5, rfl⟩ := shdR_form fI
 clear z0 z6 z14 z20
 have z0 := wL _ _ b_0
 dsimp only at z0
 have z6 := wL _ _ q_0
 dsimp only at z6
 have z14 := wL _ _ y_0
 dsimp only at z14
 have z20 := wL _ _ g_0
 dsimp only at z20
 go_wp2_with fail
 refine (eqShardResult_u _ _ (decideD d0 k1 k2) (decideD d0 k1 k2) _ (shdRR.below (shdRR.ofO oI) (qBq)) (shdRR.below (shdRR.ofO oW) (qBq))).mono ?_
 rintro e w13 ⟨rfl, hb13⟩
 have hB13 : Below w.heap.size w w13 := qBq
 have s13 := hb13.size
 try simp only [World.size_alloc] at s13
 replace b_0 := cK hb13 (cK (qBq) b_0)
 replace b_1 := cK hb13 (cK (qBq) b_1)
 replace b_2 := cK hb13 (cK (qBq) b_2)
 replace b_3 := cK hb13 (cK (qBq) b_3)
 replace b_4 := cK hb13 (cK (qBq) b_4)
 replace b_5 := cK hb13 (cK (qBq) b_5)
 replace q_0 := cK hb13 (cK (qBq) q_0)
 replace q_1 := cK hb13 (cK (qBq) q_1)
 replace q_2 := cK hb13 (cK (qBq) q_2)
 replace q_3 := cK hb13 (cK (qBq) q_3)
 replace q_4 := cK hb13 (cK (qBq) q_4)
 replace q_5 := cK hb13 (cK (qBq) q_5)
 replace q_6 := cK hb13 (cK (qBq) q_6)
 replace q_7 := cK hb13 (cK (qBq) q_7)
 replace y_0 := cK hb13 (cK (qBq) y_0)
 replace y_1 := cK hb13 (cK (qBq) y_1)
 replace y_2 := cK hb13 (cK (qBq) y_2)
 replace y_3 := cK hb13 (cK (qBq) y_3)
 replace y_4 := cK hb13 (cK (qBq) y_4)
 replace y_5 := cK hb13 (cK (qBq) y_5)
 replace g_0 := cK hb13 (cK (qBq) g_0)
 replace g_1 := cK hb13 (cK (qBq) g_1)
 replace g_2 := cK hb13 (cK (qBq) g_2)
 replace g_3 := cK hb13 (cK (qBq) g_3)
 replace g_4 := cK hb13 (cK (qBq) g_4)
 replace g_5 := cK hb13 (cK (qBq) g_5)
 replace g_6 := cK hb13 (cK (qBq) g_6)
 replace g_7 := cK hb13 (cK (qBq) g_7)
 replace oW := shdRR.keep2 oW (qBq) hb13
 replace oCm := shdR.keep2 oCm (qBq) hb13
 replace oGm := shdRR.keep2 oGm (qBq) hb13
 clear hB12
 clear hb13
 clear oH oI
 clear z0 z6 z14 z20
 have z0 := wL _ _ b_0
 dsimp only at z0
 have z6 := wL _ _ q_0
 dsimp only at z6
 have z14 := wL _ _ y_0
 dsimp only at z14
 have z20 := wL _ _ g_0
 dsimp only at z20
 go_wp2_with fail
 refine (heldShardResult_u _ (decideD d0 k1 k2) 1 _ (shdRR.below (shdRR.ofO oGm) (qBq)) hwR hcR (by omega)).mono ?_
 rintro e w14 ⟨rfl, hb14⟩
 have hB14 : Below w.heap.size w w14 := qBq
 have s14 := hb14.size
 try simp only [World.size_alloc] at s14
 replace b_0 := cK hb14 (cK (qBq) b_0)
 replace b_1 := cK hb14 (cK (qBq) b_1)
 replace b_2 := cK hb14 (cK (qBq) b_2)
 replace b_3 := cK hb14 (cK (qBq) b_3)
 replace b_4 := cK hb14 (cK (qBq) b_4)
 replace b_5 := cK hb14 (cK (qBq) b_5)
 replace q_0 := cK hb14 (cK (qBq) q_0)
 replace q_1 := cK hb14 (cK (qBq) q_1)
 replace q_2 := cK hb14 (cK (qBq) q_2)
 replace q_3 := cK hb14 (cK (qBq) q_3)
 replace q_4 := cK hb14 (cK (qBq) q_4)
 replace q_5 := cK hb14 (cK (qBq) q_5)
 replace q_6 := cK hb14 (cK (qBq) q_6)
 replace q_7 := cK hb14 (cK (qBq) q_7)
 replace y_0 := cK hb14 (cK (qBq) y_0)
 replace y_1 := cK hb14 (cK (qBq) y_1)
 replace y_2 := cK hb14 (cK (qBq) y_2)
 replace y_3 := cK hb14 (cK (qBq) y_3)
 replace y_4 := cK hb14 (cK (qBq) y_4)
 replace y_5 := cK hb14 (cK (qBq) y_5)
 replace g_0 := cK hb14 (cK (qBq) g_0)
 replace g_1 := cK hb14 (cK (qBq) g_1)
 replace g_2 := cK hb14 (cK (qBq) g_2)
 replace g_3 := cK hb14 (cK (qBq) g_3)
 replace g_4 := cK hb14 (cK (qBq) g_4)
 replace g_5 := cK hb14 (cK (qBq) g_5)
 replace g_6 := cK hb14 (cK (qBq) g_6)
 replace g_7 := cK hb14 (cK (qBq) g_7)
 replace oW := shdRR.keep2 oW (qBq) hb14
 replace oCm := shdR.keep2 oCm (qBq) hb14
 replace oGm := shdRR.keep2 oGm (qBq) hb14
 clear hB13
 go_wp2
 go_ret
 exact ⟨rfl, hB14⟩
end Go.Proofs.YtndghenlapbaaaaGreat.decideShardLaw

