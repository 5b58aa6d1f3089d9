import Derived.Test.YtnefocpgjcmocaaPrnSettleOneLaw17
import Derived.Test.YtnefocpgjcmocaaPrnSettleOneLaw14
import Derived.Test.YtnefocpgjcmocaaPrnSettleOneLaw6
import Derived.Deep.RegionHeld3
import Derived.Deep.DrawnRows
import Derived.Deep.DeepCutAuto

/-
  Proved: laws.FnExactSettleOne answers true at every argument, and its arguments read behind the call as they read before. No condition. (The walk.)
-/
namespace Go.Proofs.Ytnefocpgjcmocaa.settleOneLaw
open Go.RowKit
set_option linter.unusedSectionVars false
variable [DecidableEq Rw] [Inhabited Rw] [DecidableEq Bal] [Inhabited Bal] [DecidableEq Ledg] [Inhabited Ledg] [DecidableEq Leg] [Inhabited Leg] [DecidableEq Cont] [Inhabited Cont] [DecidableEq LedgR] [Inhabited LedgR]
attribute [local go_sem ↓] Go.wp_at_zero Go.wp_at_succ

set_option maxHeartbeats 8000000 in
set_option maxRecDepth 20000 in
theorem walk (x0 : Value) (d0 : Ledg) (x1 : Value) (d1 : Cont) (w : World) (hx0 : ledgR.V w x0 d0) (hx1 : contR.V w x1 d1) :
    Calls Try.prog 3 #[x0, x1] w fun e w' => e = .returned (.bool true) ∧ Below w.heap.size w w' := by
  have hX0 := hx0
  obtain ⟨ax01, cx01, rfl⟩ := ledg_form hx0
  have hX1 := hx1
  obtain ⟨ax11, cx11, rfl⟩ := cont_form hx1
  go_enter Try.func3, Try.ntmps3
  go_wp2_with fail
  refine (szLedger_u _ d0 1048576 _ (ledgR.below hX0 (by (repeat (first | exact Below.refl _ _ | assumption | refine Below.drew ?_ | refine balloc ?_ _ | refine bset ?_ (by simp; omega) _ | refine bset ?_ (by simp) _ | refine bstep ?_ (by assumption))))) (by omega) (by omega)).mono ?_
  rintro e w1 ⟨rfl, hb1⟩
  have hB1 : Below w.heap.size w w1 := by (repeat (first | exact Below.refl _ _ | assumption | refine Below.drew ?_ | refine balloc ?_ _ | refine bset ?_ (by simp; omega) _ | refine bset ?_ (by simp) _ | refine bstep ?_ (by assumption)))
  have s1 := hb1.size
  try simp only [World.size_alloc] at s1
  have b0_0 : w1.cell? ⟨w.heap.size, 0, none⟩ = some (.slice ax01 d0.shards.length cx01) := cell_keep hb1 (by simp [go_sem])
  have b1_0 : w1.cell? ⟨w.heap.size + 1, 0, none⟩ = some (.int .i64 d1.id) := cell_keep hb1 (by simp [go_sem])
  have b1_1 : w1.cell? ⟨w.heap.size + 1, 1, none⟩ = some (.slice ax11 d1.legs.length cx11) := cell_keep hb1 (by simp [go_sem])
  clear hb1
  by_cases hs0 : szLen 1048576 ((wtLedg d0 : Nat) : Int) < 0
  · go_wp2
    go_ret
    exact ⟨rfl, by (repeat (first | exact Below.refl _ _ | assumption | refine Below.drew ?_ | refine balloc ?_ _ | refine bset ?_ (by simp; omega) _ | refine bset ?_ (by simp) _ | refine bstep ?_ (by assumption)))⟩
  go_wp2_with fail
  refine (szContract_u _ d1 (szLen 1048576 (wtLedg d0 : Nat)) _ (contR.below hX1 (by (repeat (first | exact Below.refl _ _ | assumption | refine Below.drew ?_ | refine balloc ?_ _ | refine bset ?_ (by simp; omega) _ | refine bset ?_ (by simp) _ | refine bstep ?_ (by assumption))))) (by omega) (by have := szLen_le (left := 1048576) (n := wtLedg d0) (by omega); omega)).mono ?_
  rintro e w2 ⟨rfl, hb2⟩
  have hB2 : Below w.heap.size w w2 := by (repeat (first | exact Below.refl _ _ | assumption | refine Below.drew ?_ | refine balloc ?_ _ | refine bset ?_ (by simp; omega) _ | refine bset ?_ (by simp) _ | refine bstep ?_ (by assumption)))
  have s2 := hb2.size
  try simp only [World.size_alloc] at s2
  replace b0_0 := cell_keep hb2 (cell_keep (by (repeat (first | exact Below.refl _ _ | assumption | refine Below.drew ?_ | refine balloc ?_ _ | refine bset ?_ (by simp; omega) _ | refine bset ?_ (by simp) _ | refine bstep ?_ (by assumption)))) b0_0)
  replace b1_0 := cell_keep hb2 (cell_keep (by (repeat (first | exact Below.refl _ _ | assumption | refine Below.drew ?_ | refine balloc ?_ _ | refine bset ?_ (by simp; omega) _ | refine bset ?_ (by simp) _ | refine bstep ?_ (by assumption)))) b1_0)
  replace b1_1 := cell_keep hb2 (cell_keep (by (repeat (first | exact Below.refl _ _ | assumption | refine Below.drew ?_ | refine balloc ?_ _ | refine bset ?_ (by simp; omega) _ | refine bset ?_ (by simp) _ | refine bstep ?_ (by assumption)))) b1_1)
  clear hB1
  rw [szLen_add (n := wtLedg d0) (by omega)]
  clear hb2
  by_cases hsz : 1048576 < wtLedg d0 + wtCont d1
  · rw [show szLen 1048576 ((wtLedg d0 + wtCont d1 : Nat) : Int) = -1 by unfold szLen; rw [if_pos (by omega)]]
    go_wp2
    go_ret
    exact ⟨rfl, by (repeat (first | exact Below.refl _ _ | assumption | refine Below.drew ?_ | refine balloc ?_ _ | refine bset ?_ (by simp; omega) _ | refine bset ?_ (by simp) _ | refine bstep ?_ (by assumption)))⟩
  have e1 : szLen 1048576 ((wtLedg d0 + wtCont d1 : Nat) : Int) = 1048576 - ((wtLedg d0 + wtCont d1 : Nat) : Int) := by unfold szLen; rw [if_neg (by omega)]
  have e2 : ¬ (1048576 : Int) - ((wtLedg d0 + wtCont d1 : Nat) : Int) < 0 := by omega
  rw [e1]
  clear e1
  have hcA0 := ledg_cnt d0
  have hcA1 := cont_cnt d1
  have hwR : wtLedgR (settleD d0 d1) ≤ 1048576 := by have := settleD_le d0 d1; omega
  have hcR : (1 : Int) + cntLedgR (settleD d0 d1) ≤ 1073741824 := by have := settleD_le d0 d1; have := ledgR_cnt (settleD d0 d1); omega
  have hkA0 : (1 : Int) + cntLedg d0 ≤ 1073741824 := by omega
  have hkA1 : (1 : Int) + cntLedg d0 + cntCont d1 ≤ 1073741824 := by omega
  have hk1 : ¬ (1 : Int) + cntLedg d0 + cntCont d1 < 0 := by omega
  have hk2 : ¬ (1 : Int) + cntLedgR (settleD d0 d1) < 0 := by omega
  go_wp2_with fail
  go_cut [6] (fun p wx => ∃ B aW1_1 cW1_1 F, p = .pointer (some ⟨B, 0, none⟩) ∧ wx.cell? ⟨B, 0, none⟩ = some (.int .i64 (settleD d0 d1).code) ∧ wx.cell? ⟨B, 1, none⟩ = some (.slice aW1_1 (settleD d0 d1).ledger.shards.length cW1_1) ∧ ledgRR.O wx w2.heap.size F (.agg #[.int .i64 (settleD d0 d1).code, .slice aW1_1 (settleD d0 d1).ledger.shards.length cW1_1]) (settleD d0 d1) ∧ ¬ F B ∧ w2.heap.size ≤ B ∧ B < wx.heap.size ∧ Below w2.heap.size w2 wx)
  case first =>
    go_region_held3 (fun w' => Below w2.heap.size w2 w' ∧ w'.cell? ⟨w.heap.size, 0, none⟩ = some (.slice ax01 d0.shards.length cx01) ∧ w'.cell? ⟨w.heap.size + 1, 0, none⟩ = some (.int .i64 d1.id) ∧ w'.cell? ⟨w.heap.size + 1, 1, none⟩ = some (.slice ax11 d1.legs.length cx11))
      ((refine keepN3 ?_ b0_0 b1_0 b1_1; (repeat (first | exact Below.refl _ _ | assumption | refine Below.drew ?_ | refine balloc ?_ _ | refine bset ?_ (by simp; omega) _ | refine bset ?_ (by simp) _ | refine bstep ?_ (by assumption)))))
      (first | (go_at_call_of 7 (ax01); refine (toLedger_u _ d0 _ (ledgR.below hX0 (by (repeat (first | exact Below.refl _ _ | assumption | refine Below.drew ?_ | refine balloc ?_ _ | refine bset ?_ (by simp; omega) _ | refine bset ?_ (by simp) _ | refine bstep ?_ (by assumption))))) (by omega)).mono ?_; rintro e wS0 ⟨vS0, FS0, rfl, oS0, hbS0⟩; have foS0 := ledgR.ofO oS0; obtain ⟨as01, cs01, rfl⟩ := ledg_form foS0; (first | (have sS0 := (bstep (Below.drew (Below.refl _ w2)) hbS0).size) | (have sS0 := (bstep (balloc (Below.drew (Below.refl _ w2)) _) hbS0).size) | (have sS0 := (bstep (Below.drew (balloc (Below.refl _ w2) _)) hbS0).size)); (first | (have kk := boxNew2 (B := w2.heap.size) hbS0 rfl; obtain ⟨k1, k2, kf⟩ := kk) | (have kk := boxNew2 (B := w2.heap.size) (bstep (Below.drew (Below.refl _ _)) hbS0) rfl; obtain ⟨k1, k2, kf⟩ := kk) | skip)) | (go_at_call_of 8 (ax11); refine (toContract_u _ d1 _ (contR.below hX1 (by (repeat (first | exact Below.refl _ _ | assumption | refine Below.drew ?_ | refine balloc ?_ _ | refine bset ?_ (by simp; omega) _ | refine bset ?_ (by simp) _ | refine bstep ?_ (by assumption))))) (by omega)).mono ?_; rintro e wS1 ⟨vS1, FS1, rfl, oS1, hbS1⟩; have foS1 := contR.ofO oS1; obtain ⟨as11, cs11, rfl⟩ := cont_form foS1; (first | (have sS1 := (bstep (Below.refl _ wS0) hbS1).size) | (have sS1 := (bstep (balloc (Below.refl _ wS0) _) hbS1).size)); (first | (replace k1 := cell_keep hbS1 k1; replace k2 := cell_keep hbS1 k2; replace kf := boxKeep kf hbS1) | (have kk := boxNew2 (B := wS0.heap.size) hbS1 rfl; obtain ⟨k1, k2, kf⟩ := kk) | skip)) | (go_at_call 6; refine (specSettle_u _ _ d0 d1 _ (ledgR.below (ledgR.ofO oS0) (by (repeat (first | exact Below.refl _ _ | assumption | refine Below.drew ?_ | refine balloc ?_ _ | refine bset ?_ (by simp; omega) _ | refine bset ?_ (by simp) _ | refine bstep ?_ (by assumption))))) (contR.below (contR.ofO oS1) (by (repeat (first | exact Below.refl _ _ | assumption | refine Below.drew ?_ | refine balloc ?_ _ | refine bset ?_ (by simp; omega) _ | refine bset ?_ (by simp) _ | refine bstep ?_ (by assumption)))))).mono ?_; rintro e wT ⟨vT, FT, rfl, oT, hbT⟩; have fT := ledgRR.ofO oT; obtain ⟨aW1_1, cW1_1, rfl⟩ := ledgR_form fT; (first | (have sT := (bstep (Below.refl _ wS1) hbT).size) | (have sT := (bstep (balloc (Below.refl _ wS1) _) hbT).size)); (first | (have kb := kf.2; replace k1 := cell_keep hbT k1; replace k2 := cell_keep hbT k2; have kk := boxKeep kf hbT; obtain ⟨kf, kl⟩ := kk) | (have kk := boxNew2 (B := wS1.heap.size) hbT rfl; obtain ⟨k1, k2, kf, kl⟩ := kk) | skip)))
    all_goals
      rename_i hH
      have hHB := hH.1
      clear hH
      go_wp2_with fail
      go_meet
      case rel =>
        refine ⟨_, aW1_1, cW1_1, FT, rfl, ?_, ?_, ?_, ?_, ?_, ?_, hHB⟩
        · first | (simp [go_sem]; done) | (simp [go_sem, k1]; done)
        · first | (simp [go_sem]; done) | (simp [go_sem, k2]; done)
        · first | exact ledgRR.base (ledgRR.alloc oT _) (by omega) | exact ledgRR.base (ledgRR.set (ledgRR.set oT _ (by simp; omega)) _ (by simp; omega)) (by omega) | exact ledgRR.base (ledgRR.set (ledgRR.set oT _ (by simp)) _ (by simp)) (by simp; omega)
        · intro hf
          have := ledgRR.rng oT _ hf
          try simp only [World.size_alloc] at this
          omega
        · try simp only [World.size_alloc]
          omega
        · first | (simp; done) | (simp; omega)
  case rest =>
    obtain ⟨BW, aW1_1, cW1_1, FW, rfl, W_0, W_1, oW, nbW, loW, hiW, hbx⟩ := hcut
    generalize hwc : wc = wW at *
    clear hwc
    have hBW : Below w.heap.size w wW := bstep hB2 hbx
    have sW := hbx.size
    replace b0_0 := cell_keep hbx b0_0
    replace b1_0 := cell_keep hbx b1_0
    replace b1_1 := cell_keep hbx b1_1
    have rW : ∀ b, FW b → w2.heap.size ≤ b ∧ b < wW.heap.size := fun b hb => ledgRR.rng oW b hb
    clear hB2 hbx
    have z0 := World.block_lt_of_cell? _ _ b0_0
    dsimp only at z0
    have z1 := World.block_lt_of_cell? _ _ b1_0
    dsimp only at z1
    have z3 := World.block_lt_of_cell? _ _ W_0
    dsimp only at z3
    go_wp2_with fail
    refine (toLedger_u _ d0 _ (ledgR.below hX0 (by (repeat (first | exact Below.refl _ _ | assumption | refine Below.drew ?_ | refine balloc ?_ _ | refine bset ?_ (by simp; omega) _ | refine bset ?_ (by simp) _ | refine bstep ?_ (by assumption))))) (by omega)).mono ?_
    rintro e w3 ⟨vC0, FC0, rfl, oC0, hb3⟩
    have hB3 : Below w.heap.size w w3 := by (repeat (first | exact Below.refl _ _ | assumption | refine Below.drew ?_ | refine balloc ?_ _ | refine bset ?_ (by simp; omega) _ | refine bset ?_ (by simp) _ | refine bstep ?_ (by assumption)))
    have s3 := hb3.size
    try simp only [World.size_alloc] at s3
    replace b0_0 := cell_keep hb3 (cell_keep (by (repeat (first | exact Below.refl _ _ | assumption | refine Below.drew ?_ | refine balloc ?_ _ | refine bset ?_ (by simp; omega) _ | refine bset ?_ (by simp) _ | refine bstep ?_ (by assumption)))) b0_0)
    replace b1_0 := cell_keep hb3 (cell_keep (by (repeat (first | exact Below.refl _ _ | assumption | refine Below.drew ?_ | refine balloc ?_ _ | refine bset ?_ (by simp; omega) _ | refine bset ?_ (by simp) _ | refine bstep ?_ (by assumption)))) b1_0)
    replace b1_1 := cell_keep hb3 (cell_keep (by (repeat (first | exact Below.refl _ _ | assumption | refine Below.drew ?_ | refine balloc ?_ _ | refine bset ?_ (by simp; omega) _ | refine bset ?_ (by simp) _ | refine bstep ?_ (by assumption)))) b1_1)
    replace W_0 := cell_keep hb3 (cell_keep (by (repeat (first | exact Below.refl _ _ | assumption | refine Below.drew ?_ | refine balloc ?_ _ | refine bset ?_ (by simp; omega) _ | refine bset ?_ (by simp) _ | refine bstep ?_ (by assumption)))) W_0)
    replace W_1 := cell_keep hb3 (cell_keep (by (repeat (first | exact Below.refl _ _ | assumption | refine Below.drew ?_ | refine balloc ?_ _ | refine bset ?_ (by simp; omega) _ | refine bset ?_ (by simp) _ | refine bstep ?_ (by assumption)))) W_1)
    replace oW := ledgRR.keep2 oW (by (repeat (first | exact Below.refl _ _ | assumption | refine Below.drew ?_ | refine balloc ?_ _ | refine bset ?_ (by simp; omega) _ | refine bset ?_ (by simp) _ | refine bstep ?_ (by assumption)))) hb3
    clear hBW
    have roC0 : ∀ b, FC0 b → wW.heap.size ≤ b ∧ b < w3.heap.size := fun b hb => by
      have := ledgR.rng oC0 b hb
      try simp only [World.size_alloc] at this
      omega
    clear hb3
    have fC0 := ledgR.ofO oC0
    obtain ⟨ay01, cy01, rfl⟩ := ledg_form fC0
    clear z0 z1 z3
    have z0 := World.block_lt_of_cell? _ _ b0_0
    dsimp only at z0
    have z1 := World.block_lt_of_cell? _ _ b1_0
    dsimp only at z1
    have z3 := World.block_lt_of_cell? _ _ W_0
    dsimp only at z3
    go_wp2_with fail
    refine (toContract_u _ d1 _ (contR.below hX1 (by (repeat (first | exact Below.refl _ _ | assumption | refine Below.drew ?_ | refine balloc ?_ _ | refine bset ?_ (by simp; omega) _ | refine bset ?_ (by simp) _ | refine bstep ?_ (by assumption))))) (by omega)).mono ?_
    rintro e w4 ⟨vC1, FC1, rfl, oC1, hb4⟩
    have hB4 : Below w.heap.size w w4 := by (repeat (first | exact Below.refl _ _ | assumption | refine Below.drew ?_ | refine balloc ?_ _ | refine bset ?_ (by simp; omega) _ | refine bset ?_ (by simp) _ | refine bstep ?_ (by assumption)))
    have s4 := hb4.size
    try simp only [World.size_alloc] at s4
    replace b0_0 := cell_keep hb4 (cell_keep (by (repeat (first | exact Below.refl _ _ | assumption | refine Below.drew ?_ | refine balloc ?_ _ | refine bset ?_ (by simp; omega) _ | refine bset ?_ (by simp) _ | refine bstep ?_ (by assumption)))) b0_0)
    replace b1_0 := cell_keep hb4 (cell_keep (by (repeat (first | exact Below.refl _ _ | assumption | refine Below.drew ?_ | refine balloc ?_ _ | refine bset ?_ (by simp; omega) _ | refine bset ?_ (by simp) _ | refine bstep ?_ (by assumption)))) b1_0)
    replace b1_1 := cell_keep hb4 (cell_keep (by (repeat (first | exact Below.refl _ _ | assumption | refine Below.drew ?_ | refine balloc ?_ _ | refine bset ?_ (by simp; omega) _ | refine bset ?_ (by simp) _ | refine bstep ?_ (by assumption)))) b1_1)
    replace W_0 := cell_keep hb4 (cell_keep (by (repeat (first | exact Below.refl _ _ | assumption | refine Below.drew ?_ | refine balloc ?_ _ | refine bset ?_ (by simp; omega) _ | refine bset ?_ (by simp) _ | refine bstep ?_ (by assumption)))) W_0)
    replace W_1 := cell_keep hb4 (cell_keep (by (repeat (first | exact Below.refl _ _ | assumption | refine Below.drew ?_ | refine balloc ?_ _ | refine bset ?_ (by simp; omega) _ | refine bset ?_ (by simp) _ | refine bstep ?_ (by assumption)))) W_1)
    have y0_0 : w4.cell? ⟨w3.heap.size, 0, none⟩ = some (.slice ay01 d0.shards.length cy01) := cell_keep hb4 (by simp [go_sem])
    replace oW := ledgRR.keep2 oW (by (repeat (first | exact Below.refl _ _ | assumption | refine Below.drew ?_ | refine balloc ?_ _ | refine bset ?_ (by simp; omega) _ | refine bset ?_ (by simp) _ | refine bstep ?_ (by assumption)))) hb4
    replace oC0 := ledgR.keep2 oC0 (by (repeat (first | exact Below.refl _ _ | assumption | refine Below.drew ?_ | refine balloc ?_ _ | refine bset ?_ (by simp; omega) _ | refine bset ?_ (by simp) _ | refine bstep ?_ (by assumption)))) hb4
    clear hB3
    have roC1 : ∀ b, FC1 b → w3.heap.size + 1 ≤ b ∧ b < w4.heap.size := fun b hb => by
      have := contR.rng oC1 b hb
      try simp only [World.size_alloc] at this
      omega
    clear hb4
    have fC1 := contR.ofO oC1
    obtain ⟨ay11, cy11, rfl⟩ := cont_form fC1
    clear z0 z1 z3
    have z0 := World.block_lt_of_cell? _ _ b0_0
    dsimp only at z0
    have z1 := World.block_lt_of_cell? _ _ b1_0
    dsimp only at z1
    have z3 := World.block_lt_of_cell? _ _ W_0
    dsimp only at z3
    have z5 := World.block_lt_of_cell? _ _ y0_0
    dsimp only at z5
    go_wp2_with fail
    refine (implSettle_u _ _ d0 d1 _ (ledgR.below (ledgR.ofO oC0) (by (repeat (first | exact Below.refl _ _ | assumption | refine Below.drew ?_ | refine balloc ?_ _ | refine bset ?_ (by simp; omega) _ | refine bset ?_ (by simp) _ | refine bstep ?_ (by assumption))))) (contR.below (contR.ofO oC1) (by (repeat (first | exact Below.refl _ _ | assumption | refine Below.drew ?_ | refine balloc ?_ _ | refine bset ?_ (by simp; omega) _ | refine bset ?_ (by simp) _ | refine bstep ?_ (by assumption)))))).mono ?_
    rintro e w5 ⟨vG, FG, rfl, oG, hb5⟩
    have hB5 : Below w.heap.size w w5 := by (repeat (first | exact Below.refl _ _ | assumption | refine Below.drew ?_ | refine balloc ?_ _ | refine bset ?_ (by simp; omega) _ | refine bset ?_ (by simp) _ | refine bstep ?_ (by assumption)))
    have s5 := hb5.size
    try simp only [World.size_alloc] at s5
    replace b0_0 := cell_keep hb5 (cell_keep (by (repeat (first | exact Below.refl _ _ | assumption | refine Below.drew ?_ | refine balloc ?_ _ | refine bset ?_ (by simp; omega) _ | refine bset ?_ (by simp) _ | refine bstep ?_ (by assumption)))) b0_0)
    replace b1_0 := cell_keep hb5 (cell_keep (by (repeat (first | exact Below.refl _ _ | assumption | refine Below.drew ?_ | refine balloc ?_ _ | refine bset ?_ (by simp; omega) _ | refine bset ?_ (by simp) _ | refine bstep ?_ (by assumption)))) b1_0)
    replace b1_1 := cell_keep hb5 (cell_keep (by (repeat (first | exact Below.refl _ _ | assumption | refine Below.drew ?_ | refine balloc ?_ _ | refine bset ?_ (by simp; omega) _ | refine bset ?_ (by simp) _ | refine bstep ?_ (by assumption)))) b1_1)
    replace W_0 := cell_keep hb5 (cell_keep (by (repeat (first | exact Below.refl _ _ | assumption | refine Below.drew ?_ | refine balloc ?_ _ | refine bset ?_ (by simp; omega) _ | refine bset ?_ (by simp) _ | refine bstep ?_ (by assumption)))) W_0)
    replace W_1 := cell_keep hb5 (cell_keep (by (repeat (first | exact Below.refl _ _ | assumption | refine Below.drew ?_ | refine balloc ?_ _ | refine bset ?_ (by simp; omega) _ | refine bset ?_ (by simp) _ | refine bstep ?_ (by assumption)))) W_1)
    replace y0_0 := cell_keep hb5 (cell_keep (by (repeat (first | exact Below.refl _ _ | assumption | refine Below.drew ?_ | refine balloc ?_ _ | refine bset ?_ (by simp; omega) _ | refine bset ?_ (by simp) _ | refine bstep ?_ (by assumption)))) y0_0)
    have y1_0 : w5.cell? ⟨w4.heap.size, 0, none⟩ = some (.int .i64 d1.id) := cell_keep hb5 (by simp [go_sem])
    have y1_1 : w5.cell? ⟨w4.heap.size, 1, none⟩ = some (.slice ay11 d1.legs.length cy11) := cell_keep hb5 (by simp [go_sem])
    replace oW := ledgRR.keep2 oW (by (repeat (first | exact Below.refl _ _ | assumption | refine Below.drew ?_ | refine balloc ?_ _ | refine bset ?_ (by simp; omega) _ | refine bset ?_ (by simp) _ | refine bstep ?_ (by assumption)))) hb5
    replace oC0 := ledgR.keep2 oC0 (by (repeat (first | exact Below.refl _ _ | assumption | refine Below.drew ?_ | refine balloc ?_ _ | refine bset ?_ (by simp; omega) _ | refine bset ?_ (by simp) _ | refine bstep ?_ (by assumption)))) hb5
    replace oC1 := contR.keep2 oC1 (by (repeat (first | exact Below.refl _ _ | assumption | refine Below.drew ?_ | refine balloc ?_ _ | refine bset ?_ (by simp; omega) _ | refine bset ?_ (by simp) _ | refine bstep ?_ (by assumption)))) hb5
    clear hB4
    have roG : ∀ b, FG b → w4.heap.size + 1 ≤ b ∧ b < w5.heap.size := fun b hb => by
      have := ledgRR.rng oG b hb
      try simp only [World.size_alloc] at this
      omega
    clear hb5
    have fG := ledgRR.ofO oG
    obtain ⟨ag1_1, cg1_1, rfl⟩ := ledgR_form fG
    clear z0 z1 z3 z5
    have z0 := World.block_lt_of_cell? _ _ b0_0
    dsimp only at z0
    have z1 := World.block_lt_of_cell? _ _ b1_0
    dsimp only at z1
    have z3 := World.block_lt_of_cell? _ _ W_0
    dsimp only at z3
    have z5 := World.block_lt_of_cell? _ _ y0_0
    dsimp only at z5
    have z6 := World.block_lt_of_cell? _ _ y1_0
    dsimp only at z6
    go_wp2_with fail
    refine (eqLedgerResult_u _ _ (settleD d0 d1) (settleD d0 d1) _ (ledgRR.below (ledgRR.ofO oG) (by (repeat (first | exact Below.refl _ _ | assumption | refine Below.drew ?_ | refine balloc ?_ _ | refine bset ?_ (by simp; omega) _ | refine bset ?_ (by simp) _ | refine bstep ?_ (by assumption))))) (ledgRR.below (ledgRR.ofO oW) (by (repeat (first | exact Below.refl _ _ | assumption | refine Below.drew ?_ | refine balloc ?_ _ | refine bset ?_ (by simp; omega) _ | refine bset ?_ (by simp) _ | refine bstep ?_ (by assumption)))))).mono ?_
    rintro e w6 ⟨rfl, hb6⟩
    have hB6 : Below w.heap.size w w6 := by (repeat (first | exact Below.refl _ _ | assumption | refine Below.drew ?_ | refine balloc ?_ _ | refine bset ?_ (by simp; omega) _ | refine bset ?_ (by simp) _ | refine bstep ?_ (by assumption)))
    have s6 := hb6.size
    try simp only [World.size_alloc] at s6
    replace b0_0 := cell_keep hb6 (cell_keep (by (repeat (first | exact Below.refl _ _ | assumption | refine Below.drew ?_ | refine balloc ?_ _ | refine bset ?_ (by simp; omega) _ | refine bset ?_ (by simp) _ | refine bstep ?_ (by assumption)))) b0_0)
    replace b1_0 := cell_keep hb6 (cell_keep (by (repeat (first | exact Below.refl _ _ | assumption | refine Below.drew ?_ | refine balloc ?_ _ | refine bset ?_ (by simp; omega) _ | refine bset ?_ (by simp) _ | refine bstep ?_ (by assumption)))) b1_0)
    replace b1_1 := cell_keep hb6 (cell_keep (by (repeat (first | exact Below.refl _ _ | assumption | refine Below.drew ?_ | refine balloc ?_ _ | refine bset ?_ (by simp; omega) _ | refine bset ?_ (by simp) _ | refine bstep ?_ (by assumption)))) b1_1)
    replace W_0 := cell_keep hb6 (cell_keep (by (repeat (first | exact Below.refl _ _ | assumption | refine Below.drew ?_ | refine balloc ?_ _ | refine bset ?_ (by simp; omega) _ | refine bset ?_ (by simp) _ | refine bstep ?_ (by assumption)))) W_0)
    replace W_1 := cell_keep hb6 (cell_keep (by (repeat (first | exact Below.refl _ _ | assumption | refine Below.drew ?_ | refine balloc ?_ _ | refine bset ?_ (by simp; omega) _ | refine bset ?_ (by simp) _ | refine bstep ?_ (by assumption)))) W_1)
    replace y0_0 := cell_keep hb6 (cell_keep (by (repeat (first | exact Below.refl _ _ | assumption | refine Below.drew ?_ | refine balloc ?_ _ | refine bset ?_ (by simp; omega) _ | refine bset ?_ (by simp) _ | refine bstep ?_ (by assumption)))) y0_0)
    replace y1_0 := cell_keep hb6 (cell_keep (by (repeat (first | exact Below.refl _ _ | assumption | refine Below.drew ?_ | refine balloc ?_ _ | refine bset ?_ (by simp; omega) _ | refine bset ?_ (by simp) _ | refine bstep ?_ (by assumption)))) y1_0)
    replace y1_1 := cell_keep hb6 (cell_keep (by (repeat (first | exact Below.refl _ _ | assumption | refine Below.drew ?_ | refine balloc ?_ _ | refine bset ?_ (by simp; omega) _ | refine bset ?_ (by simp) _ | refine bstep ?_ (by assumption)))) y1_1)
    have g_0 : w6.cell? ⟨w5.heap.size, 0, none⟩ = some (.int .i64 (settleD d0 d1).code) := cell_keep hb6 (by simp [go_sem])
    have g_1 : w6.cell? ⟨w5.heap.size, 1, none⟩ = some (.slice ag1_1 (settleD d0 d1).ledger.shards.length cg1_1) := cell_keep hb6 (by simp [go_sem])
    replace oW := ledgRR.keep2 oW (by (repeat (first | exact Below.refl _ _ | assumption | refine Below.drew ?_ | refine balloc ?_ _ | refine bset ?_ (by simp; omega) _ | refine bset ?_ (by simp) _ | refine bstep ?_ (by assumption)))) hb6
    replace oC0 := ledgR.keep2 oC0 (by (repeat (first | exact Below.refl _ _ | assumption | refine Below.drew ?_ | refine balloc ?_ _ | refine bset ?_ (by simp; omega) _ | refine bset ?_ (by simp) _ | refine bstep ?_ (by assumption)))) hb6
    replace oC1 := contR.keep2 oC1 (by (repeat (first | exact Below.refl _ _ | assumption | refine Below.drew ?_ | refine balloc ?_ _ | refine bset ?_ (by simp; omega) _ | refine bset ?_ (by simp) _ | refine bstep ?_ (by assumption)))) hb6
    replace oG := ledgRR.keep2 oG (by (repeat (first | exact Below.refl _ _ | assumption | refine Below.drew ?_ | refine balloc ?_ _ | refine bset ?_ (by simp; omega) _ | refine bset ?_ (by simp) _ | refine bstep ?_ (by assumption)))) hb6
    clear hB5
    clear hb6
    clear z0 z1 z3 z5 z6
    have z0 := World.block_lt_of_cell? _ _ b0_0
    dsimp only at z0
    have z1 := World.block_lt_of_cell? _ _ b1_0
    dsimp only at z1
    have z3 := World.block_lt_of_cell? _ _ W_0
    dsimp only at z3
    have z5 := World.block_lt_of_cell? _ _ y0_0
    dsimp only at z5
    have z6 := World.block_lt_of_cell? _ _ y1_0
    dsimp only at z6
    have z8 := World.block_lt_of_cell? _ _ g_0
    dsimp only at z8
    go_wp2
    have VC : ledgR.V w6 _ d0 := ledgR.ofO oC0
    go_region_held3 (fun w' => Below w6.heap.size w6 w' ∧ w'.cell? ⟨w.heap.size, 0, none⟩ = some (.slice ax01 d0.shards.length cx01) ∧ w'.cell? ⟨w.heap.size + 1, 0, none⟩ = some (.int .i64 d1.id) ∧ w'.cell? ⟨w.heap.size + 1, 1, none⟩ = some (.slice ax11 d1.legs.length cx11) ∧ w'.cell? ⟨BW, 0, none⟩ = some (.int .i64 (settleD d0 d1).code) ∧ w'.cell? ⟨BW, 1, none⟩ = some (.slice aW1_1 (settleD d0 d1).ledger.shards.length cW1_1) ∧ w'.cell? ⟨w3.heap.size, 0, none⟩ = some (.slice ay01 d0.shards.length cy01) ∧ w'.cell? ⟨w4.heap.size, 0, none⟩ = some (.int .i64 d1.id) ∧ w'.cell? ⟨w4.heap.size, 1, none⟩ = some (.slice ay11 d1.legs.length cy11) ∧ w'.cell? ⟨w5.heap.size, 0, none⟩ = some (.int .i64 (settleD d0 d1).code) ∧ w'.cell? ⟨w5.heap.size, 1, none⟩ = some (.slice ag1_1 (settleD d0 d1).ledger.shards.length cg1_1))
      ((refine keepN10 ?_ b0_0 b1_0 b1_1 W_0 W_1 y0_0 y1_0 y1_1 g_0 g_1; repeat (first | exact Below.refl _ _ | assumption | refine Below.drew ?_ | refine balloc ?_ _ | refine bstep ?_ (by assumption))))
      (first | (go_at_call 7; refine (toLedger_u _ d0 _ (ledgR.below hX0 (by (repeat (first | exact Below.refl _ _ | assumption | refine Below.drew ?_ | refine balloc ?_ _ | refine bset ?_ (by simp; omega) _ | refine bset ?_ (by simp) _ | refine bstep ?_ (by assumption))))) (by omega)).mono ?_; rintro e wD0 ⟨vE, FE, rfl, oE, hbD⟩; have fE := ledgR.ofO oE; obtain ⟨ae1, ce1, rfl⟩ := ledg_form fE) | (go_at_call 11; refine (eqLedger_u _ _ d0 d0 _ (ledgR.below VC (by (repeat (first | exact Below.refl _ _ | assumption | refine Below.drew ?_ | refine balloc ?_ _ | refine bset ?_ (by simp; omega) _ | refine bset ?_ (by simp) _ | refine bstep ?_ (by assumption))))) (ledgR.below (ledgR.ofO oE) (by (repeat (first | exact Below.refl _ _ | assumption | refine Below.drew ?_ | refine balloc ?_ _ | refine bset ?_ (by simp; omega) _ | refine bset ?_ (by simp) _ | refine bstep ?_ (by assumption)))))).mono ?_; rintro e wE0 ⟨rfl, hbE⟩))
    rename_i hH
    have hBE0 : Below w.heap.size w wE0 := bstep hB6 hH.1
    have sE0 := hH.1.size
    replace oW := ledgRR.keep oW hH.1
    replace oC0 := ledgR.keep oC0 hH.1
    replace oC1 := contR.keep oC1 hH.1
    replace oG := ledgRR.keep oG hH.1
    obtain ⟨_, rb0_0, rb1_0, rb1_1, rW_0, rW_1, ry0_0, ry1_0, ry1_1, rg_0, rg_1⟩ := hH
    replace b0_0 := rb0_0
    replace b1_0 := rb1_0
    replace b1_1 := rb1_1
    replace W_0 := rW_0
    replace W_1 := rW_1
    replace y0_0 := ry0_0
    replace y1_0 := ry1_0
    replace y1_1 := ry1_1
    replace g_0 := rg_0
    replace g_1 := rg_1
    clear rb0_0 rb1_0 rb1_1 rW_0 rW_1 ry0_0 ry1_0 ry1_1 rg_0 rg_1 hB6 oE hbD hbE VC
    clear z0 z1 z3 z5 z6 z8
    have z0 := World.block_lt_of_cell? _ _ b0_0
    dsimp only at z0
    have z1 := World.block_lt_of_cell? _ _ b1_0
    dsimp only at z1
    have z3 := World.block_lt_of_cell? _ _ W_0
    dsimp only at z3
    have z5 := World.block_lt_of_cell? _ _ y0_0
    dsimp only at z5
    have z6 := World.block_lt_of_cell? _ _ y1_0
    dsimp only at z6
    have z8 := World.block_lt_of_cell? _ _ g_0
    dsimp only at z8
    go_wp2
    have VC : contR.V wE0 _ d1 := contR.ofO oC1
    go_region_held3 (fun w' => Below wE0.heap.size wE0 w' ∧ w'.cell? ⟨w.heap.size, 0, none⟩ = some (.slice ax01 d0.shards.length cx01) ∧ w'.cell? ⟨w.heap.size + 1, 0, none⟩ = some (.int .i64 d1.id) ∧ w'.cell? ⟨w.heap.size + 1, 1, none⟩ = some (.slice ax11 d1.legs.length cx11) ∧ w'.cell? ⟨BW, 0, none⟩ = some (.int .i64 (settleD d0 d1).code) ∧ w'.cell? ⟨BW, 1, none⟩ = some (.slice aW1_1 (settleD d0 d1).ledger.shards.length cW1_1) ∧ w'.cell? ⟨w3.heap.size, 0, none⟩ = some (.slice ay01 d0.shards.length cy01) ∧ w'.cell? ⟨w4.heap.size, 0, none⟩ = some (.int .i64 d1.id) ∧ w'.cell? ⟨w4.heap.size, 1, none⟩ = some (.slice ay11 d1.legs.length cy11) ∧ w'.cell? ⟨w5.heap.size, 0, none⟩ = some (.int .i64 (settleD d0 d1).code) ∧ w'.cell? ⟨w5.heap.size, 1, none⟩ = some (.slice ag1_1 (settleD d0 d1).ledger.shards.length cg1_1))
      ((refine keepN10 ?_ b0_0 b1_0 b1_1 W_0 W_1 y0_0 y1_0 y1_1 g_0 g_1; repeat (first | exact Below.refl _ _ | assumption | refine Below.drew ?_ | refine balloc ?_ _ | refine bstep ?_ (by assumption))))
      (first | (go_at_call 8; refine (toContract_u _ d1 _ (contR.below hX1 (by (repeat (first | exact Below.refl _ _ | assumption | refine Below.drew ?_ | refine balloc ?_ _ | refine bset ?_ (by simp; omega) _ | refine bset ?_ (by simp) _ | refine bstep ?_ (by assumption))))) (by omega)).mono ?_; rintro e wD1 ⟨vE, FE, rfl, oE, hbD⟩; have fE := contR.ofO oE; obtain ⟨ae1, ce1, rfl⟩ := cont_form fE) | (go_at_call 12; refine (eqContract_u _ _ d1 d1 _ (contR.below VC (by (repeat (first | exact Below.refl _ _ | assumption | refine Below.drew ?_ | refine balloc ?_ _ | refine bset ?_ (by simp; omega) _ | refine bset ?_ (by simp) _ | refine bstep ?_ (by assumption))))) (contR.below (contR.ofO oE) (by (repeat (first | exact Below.refl _ _ | assumption | refine Below.drew ?_ | refine balloc ?_ _ | refine bset ?_ (by simp; omega) _ | refine bset ?_ (by simp) _ | refine bstep ?_ (by assumption)))))).mono ?_; rintro e wE1 ⟨rfl, hbE⟩))
    rename_i hH
    have hBE1 : Below w.heap.size w wE1 := bstep hBE0 hH.1
    have sE1 := hH.1.size
    replace oW := ledgRR.keep oW hH.1
    replace oC0 := ledgR.keep oC0 hH.1
    replace oC1 := contR.keep oC1 hH.1
    replace oG := ledgRR.keep oG hH.1
    obtain ⟨_, rb0_0, rb1_0, rb1_1, rW_0, rW_1, ry0_0, ry1_0, ry1_1, rg_0, rg_1⟩ := hH
    replace b0_0 := rb0_0
    replace b1_0 := rb1_0
    replace b1_1 := rb1_1
    replace W_0 := rW_0
    replace W_1 := rW_1
    replace y0_0 := ry0_0
    replace y1_0 := ry1_0
    replace y1_1 := ry1_1
    replace g_0 := rg_0
    replace g_1 := rg_1
    clear rb0_0 rb1_0 rb1_1 rW_0 rW_1 ry0_0 ry1_0 ry1_1 rg_0 rg_1 hBE0 oE hbD hbE VC
    clear z0 z1 z3 z5 z6 z8
    have z0 := World.block_lt_of_cell? _ _ b0_0
    dsimp only at z0
    have z1 := World.block_lt_of_cell? _ _ b1_0
    dsimp only at z1
    have z3 := World.block_lt_of_cell? _ _ W_0
    dsimp only at z3
    have z5 := World.block_lt_of_cell? _ _ y0_0
    dsimp only at z5
    have z6 := World.block_lt_of_cell? _ _ y1_0
    dsimp only at z6
    have z8 := World.block_lt_of_cell? _ _ g_0
    dsimp only at z8
    go_wp2_with fail
    refine (markLedger_u _ d0 _ FC0 1 _ oC0 (by omega) hkA0 (by omega)).mono ?_
    rintro e w7 ⟨rfl, oC0m, m7⟩
    have hB7 : Below w.heap.size w w7 := m7.below hBE1 hBE1.size (fun b hb => by have := roC0 b hb; omega)
    have s7 := m7.size
    replace b0_0 := m7.cell b0_0 (fun hf => by have := roC0 _ hf; dsimp only at this; omega)
    replace b1_0 := m7.cell b1_0 (fun hf => by have := roC0 _ hf; dsimp only at this; omega)
    replace b1_1 := m7.cell b1_1 (fun hf => by have := roC0 _ hf; dsimp only at this; omega)
    replace W_0 := m7.cell W_0 (fun hf => by have := roC0 _ hf; dsimp only at this; omega)
    replace W_1 := m7.cell W_1 (fun hf => by have := roC0 _ hf; dsimp only at this; omega)
    replace y0_0 := m7.cell y0_0 (fun hf => by have := roC0 _ hf; dsimp only at this; omega)
    replace y1_0 := m7.cell y1_0 (fun hf => by have := roC0 _ hf; dsimp only at this; omega)
    replace y1_1 := m7.cell y1_1 (fun hf => by have := roC0 _ hf; dsimp only at this; omega)
    replace g_0 := m7.cell g_0 (fun hf => by have := roC0 _ hf; dsimp only at this; omega)
    replace g_1 := m7.cell g_1 (fun hf => by have := roC0 _ hf; dsimp only at this; omega)
    replace oW := ledgRR.mod oW m7 (fun b p q => by have := rW b p; have := roC0 b q; omega)
    replace oC1 := contR.mod oC1 m7 (fun b p q => by have := roC1 b p; have := roC0 b q; omega)
    replace oG := ledgRR.mod oG m7 (fun b p q => by have := roG b p; have := roC0 b q; omega)
    clear hBE1 oC0 m7
    clear z0 z1 z3 z5 z6 z8
    have z0 := World.block_lt_of_cell? _ _ b0_0
    dsimp only at z0
    have z1 := World.block_lt_of_cell? _ _ b1_0
    dsimp only at z1
    have z3 := World.block_lt_of_cell? _ _ W_0
    dsimp only at z3
    have z5 := World.block_lt_of_cell? _ _ y0_0
    dsimp only at z5
    have z6 := World.block_lt_of_cell? _ _ y1_0
    dsimp only at z6
    have z8 := World.block_lt_of_cell? _ _ g_0
    dsimp only at z8
    go_wp2_with fail
    refine (markContract_u _ d1 _ FC1 ((1 : Int) + cntLedg d0) _ oC1 (by omega) hkA1 (by omega)).mono ?_
    rintro e w8 ⟨rfl, oC1m, m8⟩
    have hB8 : Below w.heap.size w w8 := m8.below hB7 hB7.size (fun b hb => by have := roC1 b hb; omega)
    have s8 := m8.size
    replace b0_0 := m8.cell b0_0 (fun hf => by have := roC1 _ hf; dsimp only at this; omega)
    replace b1_0 := m8.cell b1_0 (fun hf => by have := roC1 _ hf; dsimp only at this; omega)
    replace b1_1 := m8.cell b1_1 (fun hf => by have := roC1 _ hf; dsimp only at this; omega)
    replace W_0 := m8.cell W_0 (fun hf => by have := roC1 _ hf; dsimp only at this; omega)
    replace W_1 := m8.cell W_1 (fun hf => by have := roC1 _ hf; dsimp only at this; omega)
    replace y0_0 := m8.cell y0_0 (fun hf => by have := roC1 _ hf; dsimp only at this; omega)
    replace y1_0 := m8.cell y1_0 (fun hf => by have := roC1 _ hf; dsimp only at this; omega)
    replace y1_1 := m8.cell y1_1 (fun hf => by have := roC1 _ hf; dsimp only at this; omega)
    replace g_0 := m8.cell g_0 (fun hf => by have := roC1 _ hf; dsimp only at this; omega)
    replace g_1 := m8.cell g_1 (fun hf => by have := roC1 _ hf; dsimp only at this; omega)
    replace oW := ledgRR.mod oW m8 (fun b p q => by have := rW b p; have := roC1 b q; omega)
    replace oG := ledgRR.mod oG m8 (fun b p q => by have := roG b p; have := roC1 b q; omega)
    replace oC0m := ledgR.mod oC0m m8 (fun b p q => by have := roC0 b p; have := roC1 b q; omega)
    clear hB7 oC1 m8
    clear z0 z1 z3 z5 z6 z8
    have z0 := World.block_lt_of_cell? _ _ b0_0
    dsimp only at z0
    have z1 := World.block_lt_of_cell? _ _ b1_0
    dsimp only at z1
    have z3 := World.block_lt_of_cell? _ _ W_0
    dsimp only at z3
    have z5 := World.block_lt_of_cell? _ _ y0_0
    dsimp only at z5
    have z6 := World.block_lt_of_cell? _ _ y1_0
    dsimp only at z6
    have z8 := World.block_lt_of_cell? _ _ g_0
    dsimp only at z8
    go_wp2_with fail
    refine (eqLedgerResult_u _ _ (settleD d0 d1) (settleD d0 d1) _ (ledgRR.below (ledgRR.ofO oG) (by (repeat (first | exact Below.refl _ _ | assumption | refine Below.drew ?_ | refine balloc ?_ _ | refine bset ?_ (by simp; omega) _ | refine bset ?_ (by simp) _ | refine bstep ?_ (by assumption))))) (ledgRR.below (ledgRR.ofO oW) (by (repeat (first | exact Below.refl _ _ | assumption | refine Below.drew ?_ | refine balloc ?_ _ | refine bset ?_ (by simp; omega) _ | refine bset ?_ (by simp) _ | refine bstep ?_ (by assumption)))))).mono ?_
    rintro e w9 ⟨rfl, hb9⟩
    have hB9 : Below w.heap.size w w9 := by (repeat (first | exact Below.refl _ _ | assumption | refine Below.drew ?_ | refine balloc ?_ _ | refine bset ?_ (by simp; omega) _ | refine bset ?_ (by simp) _ | refine bstep ?_ (by assumption)))
    have s9 := hb9.size
    try simp only [World.size_alloc] at s9
    replace b0_0 := cell_keep hb9 (cell_keep (by (repeat (first | exact Below.refl _ _ | assumption | refine Below.drew ?_ | refine balloc ?_ _ | refine bset ?_ (by simp; omega) _ | refine bset ?_ (by simp) _ | refine bstep ?_ (by assumption)))) b0_0)
    replace b1_0 := cell_keep hb9 (cell_keep (by (repeat (first | exact Below.refl _ _ | assumption | refine Below.drew ?_ | refine balloc ?_ _ | refine bset ?_ (by simp; omega) _ | refine bset ?_ (by simp) _ | refine bstep ?_ (by assumption)))) b1_0)
    replace b1_1 := cell_keep hb9 (cell_keep (by (repeat (first | exact Below.refl _ _ | assumption | refine Below.drew ?_ | refine balloc ?_ _ | refine bset ?_ (by simp; omega) _ | refine bset ?_ (by simp) _ | refine bstep ?_ (by assumption)))) b1_1)
    replace W_0 := cell_keep hb9 (cell_keep (by (repeat (first | exact Below.refl _ _ | assumption | refine Below.drew ?_ | refine balloc ?_ _ | refine bset ?_ (by simp; omega) _ | refine bset ?_ (by simp) _ | refine bstep ?_ (by assumption)))) W_0)
    replace W_1 := cell_keep hb9 (cell_keep (by (repeat (first | exact Below.refl _ _ | assumption | refine Below.drew ?_ | refine balloc ?_ _ | refine bset ?_ (by simp; omega) _ | refine bset ?_ (by simp) _ | refine bstep ?_ (by assumption)))) W_1)
    replace y0_0 := cell_keep hb9 (cell_keep (by (repeat (first | exact Below.refl _ _ | assumption | refine Below.drew ?_ | refine balloc ?_ _ | refine bset ?_ (by simp; omega) _ | refine bset ?_ (by simp) _ | refine bstep ?_ (by assumption)))) y0_0)
    replace y1_0 := cell_keep hb9 (cell_keep (by (repeat (first | exact Below.refl _ _ | assumption | refine Below.drew ?_ | refine balloc ?_ _ | refine bset ?_ (by simp; omega) _ | refine bset ?_ (by simp) _ | refine bstep ?_ (by assumption)))) y1_0)
    replace y1_1 := cell_keep hb9 (cell_keep (by (repeat (first | exact Below.refl _ _ | assumption | refine Below.drew ?_ | refine balloc ?_ _ | refine bset ?_ (by simp; omega) _ | refine bset ?_ (by simp) _ | refine bstep ?_ (by assumption)))) y1_1)
    replace g_0 := cell_keep hb9 (cell_keep (by (repeat (first | exact Below.refl _ _ | assumption | refine Below.drew ?_ | refine balloc ?_ _ | refine bset ?_ (by simp; omega) _ | refine bset ?_ (by simp) _ | refine bstep ?_ (by assumption)))) g_0)
    replace g_1 := cell_keep hb9 (cell_keep (by (repeat (first | exact Below.refl _ _ | assumption | refine Below.drew ?_ | refine balloc ?_ _ | refine bset ?_ (by simp; omega) _ | refine bset ?_ (by simp) _ | refine bstep ?_ (by assumption)))) g_1)
    replace oW := ledgRR.keep2 oW (by (repeat (first | exact Below.refl _ _ | assumption | refine Below.drew ?_ | refine balloc ?_ _ | refine bset ?_ (by simp; omega) _ | refine bset ?_ (by simp) _ | refine bstep ?_ (by assumption)))) hb9
    replace oG := ledgRR.keep2 oG (by (repeat (first | exact Below.refl _ _ | assumption | refine Below.drew ?_ | refine balloc ?_ _ | refine bset ?_ (by simp; omega) _ | refine bset ?_ (by simp) _ | refine bstep ?_ (by assumption)))) hb9
    replace oC0m := ledgR.keep2 oC0m (by (repeat (first | exact Below.refl _ _ | assumption | refine Below.drew ?_ | refine balloc ?_ _ | refine bset ?_ (by simp; omega) _ | refine bset ?_ (by simp) _ | refine bstep ?_ (by assumption)))) hb9
    replace oC1m := contR.keep2 oC1m (by (repeat (first | exact Below.refl _ _ | assumption | refine Below.drew ?_ | refine balloc ?_ _ | refine bset ?_ (by simp; omega) _ | refine bset ?_ (by simp) _ | refine bstep ?_ (by assumption)))) hb9
    clear hB8
    clear hb9
    clear z0 z1 z3 z5 z6 z8
    have z0 := World.block_lt_of_cell? _ _ b0_0
    dsimp only at z0
    have z1 := World.block_lt_of_cell? _ _ b1_0
    dsimp only at z1
    have z3 := World.block_lt_of_cell? _ _ W_0
    dsimp only at z3
    have z5 := World.block_lt_of_cell? _ _ y0_0
    dsimp only at z5
    have z6 := World.block_lt_of_cell? _ _ y1_0
    dsimp only at z6
    have z8 := World.block_lt_of_cell? _ _ g_0
    dsimp only at z8
    go_wp2_with fail
    refine (markLedgerResult_u _ (settleD d0 d1) _ FG 1 _ oG hwR hcR (by omega)).mono ?_
    rintro e w10 ⟨rfl, oGm, m10⟩
    have hB10 : Below w.heap.size w w10 := m10.below hB9 hB9.size (fun b hb => by have := roG b hb; omega)
    have s10 := m10.size
    replace b0_0 := m10.cell b0_0 (fun hf => by have := roG _ hf; dsimp only at this; omega)
    replace b1_0 := m10.cell b1_0 (fun hf => by have := roG _ hf; dsimp only at this; omega)
    replace b1_1 := m10.cell b1_1 (fun hf => by have := roG _ hf; dsimp only at this; omega)
    replace W_0 := m10.cell W_0 (fun hf => by have := roG _ hf; dsimp only at this; omega)
    replace W_1 := m10.cell W_1 (fun hf => by have := roG _ hf; dsimp only at this; omega)
    replace y0_0 := m10.cell y0_0 (fun hf => by have := roG _ hf; dsimp only at this; omega)
    replace y1_0 := m10.cell y1_0 (fun hf => by have := roG _ hf; dsimp only at this; omega)
    replace y1_1 := m10.cell y1_1 (fun hf => by have := roG _ hf; dsimp only at this; omega)
    replace g_0 := m10.cell g_0 (fun hf => by have := roG _ hf; dsimp only at this; omega)
    replace g_1 := m10.cell g_1 (fun hf => by have := roG _ hf; dsimp only at this; omega)
    replace oW := ledgRR.mod oW m10 (fun b p q => by have := rW b p; have := roG b q; omega)
    replace oC0m := ledgR.mod oC0m m10 (fun b p q => by have := roC0 b p; have := roG b q; omega)
    replace oC1m := contR.mod oC1m m10 (fun b p q => by have := roC1 b p; have := roG b q; omega)
    clear hB9 oG m10
    clear z0 z1 z3 z5 z6 z8
    have z0 := World.block_lt_of_cell? _ _ b0_0
    dsimp only at z0
    have z1 := World.block_lt_of_cell? _ _ b1_0
    dsimp only at z1
    have z3 := World.block_lt_of_cell? _ _ W_0
    dsimp only at z3
    have z5 := World.block_lt_of_cell? _ _ y0_0
    dsimp only at z5
    have z6 := World.block_lt_of_cell? _ _ y1_0
    dsimp only at z6
    have z8 := World.block_lt_of_cell? _ _ g_0
    dsimp only at z8
    go_wp2_with fail
    refine (heldLedgerResult_u _ (settleD d0 d1) 1 _ (ledgRR.below (ledgRR.ofO oGm) (by (repeat (first | exact Below.refl _ _ | assumption | refine Below.drew ?_ | refine balloc ?_ _ | refine bset ?_ (by simp; omega) _ | refine bset ?_ (by simp) _ | refine bstep ?_ (by assumption))))) hwR hcR (by omega)).mono ?_
    rintro e w11 ⟨rfl, hb11⟩
    have hB11 : Below w.heap.size w w11 := by (repeat (first | exact Below.refl _ _ | assumption | refine Below.drew ?_ | refine balloc ?_ _ | refine bset ?_ (by simp; omega) _ | refine bset ?_ (by simp) _ | refine bstep ?_ (by assumption)))
    have s11 := hb11.size
    try simp only [World.size_alloc] at s11
    replace b0_0 := cell_keep hb11 (cell_keep (by (repeat (first | exact Below.refl _ _ | assumption | refine Below.drew ?_ | refine balloc ?_ _ | refine bset ?_ (by simp; omega) _ | refine bset ?_ (by simp) _ | refine bstep ?_ (by assumption)))) b0_0)
    replace b1_0 := cell_keep hb11 (cell_keep (by (repeat (first | exact Below.refl _ _ | assumption | refine Below.drew ?_ | refine balloc ?_ _ | refine bset ?_ (by simp; omega) _ | refine bset ?_ (by simp) _ | refine bstep ?_ (by assumption)))) b1_0)
    replace b1_1 := cell_keep hb11 (cell_keep (by (repeat (first | exact Below.refl _ _ | assumption | refine Below.drew ?_ | refine balloc ?_ _ | refine bset ?_ (by simp; omega) _ | refine bset ?_ (by simp) _ | refine bstep ?_ (by assumption)))) b1_1)
    replace W_0 := cell_keep hb11 (cell_keep (by (repeat (first | exact Below.refl _ _ | assumption | refine Below.drew ?_ | refine balloc ?_ _ | refine bset ?_ (by simp; omega) _ | refine bset ?_ (by simp) _ | refine bstep ?_ (by assumption)))) W_0)
    replace W_1 := cell_keep hb11 (cell_keep (by (repeat (first | exact Below.refl _ _ | assumption | refine Below.drew ?_ | refine balloc ?_ _ | refine bset ?_ (by simp; omega) _ | refine bset ?_ (by simp) _ | refine bstep ?_ (by assumption)))) W_1)
    replace y0_0 := cell_keep hb11 (cell_keep (by (repeat (first | exact Below.refl _ _ | assumption | refine Below.drew ?_ | refine balloc ?_ _ | refine bset ?_ (by simp; omega) _ | refine bset ?_ (by simp) _ | refine bstep ?_ (by assumption)))) y0_0)
    replace y1_0 := cell_keep hb11 (cell_keep (by (repeat (first | exact Below.refl _ _ | assumption | refine Below.drew ?_ | refine balloc ?_ _ | refine bset ?_ (by simp; omega) _ | refine bset ?_ (by simp) _ | refine bstep ?_ (by assumption)))) y1_0)
    replace y1_1 := cell_keep hb11 (cell_keep (by (repeat (first | exact Below.refl _ _ | assumption | refine Below.drew ?_ | refine balloc ?_ _ | refine bset ?_ (by simp; omega) _ | refine bset ?_ (by simp) _ | refine bstep ?_ (by assumption)))) y1_1)
    replace g_0 := cell_keep hb11 (cell_keep (by (repeat (first | exact Below.refl _ _ | assumption | refine Below.drew ?_ | refine balloc ?_ _ | refine bset ?_ (by simp; omega) _ | refine bset ?_ (by simp) _ | refine bstep ?_ (by assumption)))) g_0)
    replace g_1 := cell_keep hb11 (cell_keep (by (repeat (first | exact Below.refl _ _ | assumption | refine Below.drew ?_ | refine balloc ?_ _ | refine bset ?_ (by simp; omega) _ | refine bset ?_ (by simp) _ | refine bstep ?_ (by assumption)))) g_1)
    replace oW := ledgRR.keep2 oW (by (repeat (first | exact Below.refl _ _ | assumption | refine Below.drew ?_ | refine balloc ?_ _ | refine bset ?_ (by simp; omega) _ | refine bset ?_ (by simp) _ | refine bstep ?_ (by assumption)))) hb11
    replace oC0m := ledgR.keep2 oC0m (by (repeat (first | exact Below.refl _ _ | assumption | refine Below.drew ?_ | refine balloc ?_ _ | refine bset ?_ (by simp; omega) _ | refine bset ?_ (by simp) _ | refine bstep ?_ (by assumption)))) hb11
    replace oC1m := contR.keep2 oC1m (by (repeat (first | exact Below.refl _ _ | assumption | refine Below.drew ?_ | refine balloc ?_ _ | refine bset ?_ (by simp; omega) _ | refine bset ?_ (by simp) _ | refine bstep ?_ (by assumption)))) hb11
    replace oGm := ledgRR.keep2 oGm (by (repeat (first | exact Below.refl _ _ | assumption | refine Below.drew ?_ | refine balloc ?_ _ | refine bset ?_ (by simp; omega) _ | refine bset ?_ (by simp) _ | refine bstep ?_ (by assumption)))) hb11
    clear hB10
    clear hb11
    clear z0 z1 z3 z5 z6 z8
    have z0 := World.block_lt_of_cell? _ _ b0_0
    dsimp only at z0
    have z1 := World.block_lt_of_cell? _ _ b1_0
    dsimp only at z1
    have z3 := World.block_lt_of_cell? _ _ W_0
    dsimp only at z3
    have z5 := World.block_lt_of_cell? _ _ y0_0
    dsimp only at z5
    have z6 := World.block_lt_of_cell? _ _ y1_0
    dsimp only at z6
    have z8 := World.block_lt_of_cell? _ _ g_0
    dsimp only at z8
    go_wp2_with fail
    go_cut [13] (fun p wx => ∃ B aH1_1 cH1_1 F, p = .pointer (some ⟨B, 0, none⟩) ∧ wx.cell? ⟨B, 0, none⟩ = some (.int .i64 (settleD d0 d1).code) ∧ wx.cell? ⟨B, 1, none⟩ = some (.slice aH1_1 (settleD d0 d1).ledger.shards.length cH1_1) ∧ ledgRR.O wx w11.heap.size F (.agg #[.int .i64 (settleD d0 d1).code, .slice aH1_1 (settleD d0 d1).ledger.shards.length cH1_1]) (settleD d0 d1) ∧ ¬ F B ∧ w11.heap.size ≤ B ∧ B < wx.heap.size ∧ Below w11.heap.size w11 wx)
    case first =>
      go_region_held3 (fun w' => Below w11.heap.size w11 w' ∧ w'.cell? ⟨w.heap.size, 0, none⟩ = some (.slice ax01 d0.shards.length cx01) ∧ w'.cell? ⟨w.heap.size + 1, 0, none⟩ = some (.int .i64 d1.id) ∧ w'.cell? ⟨w.heap.size + 1, 1, none⟩ = some (.slice ax11 d1.legs.length cx11) ∧ w'.cell? ⟨BW, 0, none⟩ = some (.int .i64 (settleD d0 d1).code) ∧ w'.cell? ⟨BW, 1, none⟩ = some (.slice aW1_1 (settleD d0 d1).ledger.shards.length cW1_1) ∧ w'.cell? ⟨w3.heap.size, 0, none⟩ = some (.slice ay01 d0.shards.length cy01) ∧ w'.cell? ⟨w4.heap.size, 0, none⟩ = some (.int .i64 d1.id) ∧ w'.cell? ⟨w4.heap.size, 1, none⟩ = some (.slice ay11 d1.legs.length cy11) ∧ w'.cell? ⟨w5.heap.size, 0, none⟩ = some (.int .i64 (settleD d0 d1).code) ∧ w'.cell? ⟨w5.heap.size, 1, none⟩ = some (.slice ag1_1 (settleD d0 d1).ledger.shards.length cg1_1))
        ((refine keepN10 ?_ b0_0 b1_0 b1_1 W_0 W_1 y0_0 y1_0 y1_1 g_0 g_1; (repeat (first | exact Below.refl _ _ | assumption | refine Below.drew ?_ | refine balloc ?_ _ | refine bset ?_ (by simp; omega) _ | refine bset ?_ (by simp) _ | refine bstep ?_ (by assumption)))))
        (first | (go_at_call_of 7 (ax01); refine (toLedger_u _ d0 _ (ledgR.below hX0 (by (repeat (first | exact Below.refl _ _ | assumption | refine Below.drew ?_ | refine balloc ?_ _ | refine bset ?_ (by simp; omega) _ | refine bset ?_ (by simp) _ | refine bstep ?_ (by assumption))))) (by omega)).mono ?_; rintro e wS0 ⟨vS0, FS0, rfl, oS0, hbS0⟩; have foS0 := ledgR.ofO oS0; obtain ⟨as01, cs01, rfl⟩ := ledg_form foS0; (first | (have sS0 := (bstep (Below.drew (Below.refl _ w11)) hbS0).size) | (have sS0 := (bstep (balloc (Below.drew (Below.refl _ w11)) _) hbS0).size) | (have sS0 := (bstep (Below.drew (balloc (Below.refl _ w11) _)) hbS0).size)); (first | (have kk := boxNew2 (B := w11.heap.size) hbS0 rfl; obtain ⟨k1, k2, kf⟩ := kk) | (have kk := boxNew2 (B := w11.heap.size) (bstep (Below.drew (Below.refl _ _)) hbS0) rfl; obtain ⟨k1, k2, kf⟩ := kk) | skip)) | (go_at_call_of 8 (ax11); refine (toContract_u _ d1 _ (contR.below hX1 (by (repeat (first | exact Below.refl _ _ | assumption | refine Below.drew ?_ | refine balloc ?_ _ | refine bset ?_ (by simp; omega) _ | refine bset ?_ (by simp) _ | refine bstep ?_ (by assumption))))) (by omega)).mono ?_; rintro e wS1 ⟨vS1, FS1, rfl, oS1, hbS1⟩; have foS1 := contR.ofO oS1; obtain ⟨as11, cs11, rfl⟩ := cont_form foS1; (first | (have sS1 := (bstep (Below.refl _ wS0) hbS1).size) | (have sS1 := (bstep (balloc (Below.refl _ wS0) _) hbS1).size)); (first | (replace k1 := cell_keep hbS1 k1; replace k2 := cell_keep hbS1 k2; replace kf := boxKeep kf hbS1) | (have kk := boxNew2 (B := wS0.heap.size) hbS1 rfl; obtain ⟨k1, k2, kf⟩ := kk) | skip)) | (go_at_call 9; refine (implSettle_u _ _ d0 d1 _ (ledgR.below (ledgR.ofO oS0) (by (repeat (first | exact Below.refl _ _ | assumption | refine Below.drew ?_ | refine balloc ?_ _ | refine bset ?_ (by simp; omega) _ | refine bset ?_ (by simp) _ | refine bstep ?_ (by assumption))))) (contR.below (contR.ofO oS1) (by (repeat (first | exact Below.refl _ _ | assumption | refine Below.drew ?_ | refine balloc ?_ _ | refine bset ?_ (by simp; omega) _ | refine bset ?_ (by simp) _ | refine bstep ?_ (by assumption)))))).mono ?_; rintro e wT ⟨vT, FT, rfl, oT, hbT⟩; have fT := ledgRR.ofO oT; obtain ⟨aH1_1, cH1_1, rfl⟩ := ledgR_form fT; (first | (have sT := (bstep (Below.refl _ wS1) hbT).size) | (have sT := (bstep (balloc (Below.refl _ wS1) _) hbT).size)); (first | (have kb := kf.2; replace k1 := cell_keep hbT k1; replace k2 := cell_keep hbT k2; have kk := boxKeep kf hbT; obtain ⟨kf, kl⟩ := kk) | (have kk := boxNew2 (B := wS1.heap.size) hbT rfl; obtain ⟨k1, k2, kf, kl⟩ := kk) | skip)))
      all_goals
        rename_i hH
        have hHB := hH.1
        clear hH
        go_wp2_with fail
        go_meet
        case rel =>
          refine ⟨_, aH1_1, cH1_1, FT, rfl, ?_, ?_, ?_, ?_, ?_, ?_, hHB⟩
          · first | (simp [go_sem]; done) | (simp [go_sem, k1]; done)
          · first | (simp [go_sem]; done) | (simp [go_sem, k2]; done)
          · first | exact ledgRR.base (ledgRR.alloc oT _) (by omega) | exact ledgRR.base (ledgRR.set (ledgRR.set oT _ (by simp; omega)) _ (by simp; omega)) (by omega) | exact ledgRR.base (ledgRR.set (ledgRR.set oT _ (by simp)) _ (by simp)) (by simp; omega)
          · intro hf
            have := ledgRR.rng oT _ hf
            try simp only [World.size_alloc] at this
            omega
          · try simp only [World.size_alloc]
            omega
          · first | (simp; done) | (simp; omega)
    case rest =>
      obtain ⟨BH, aH1_1, cH1_1, FH, rfl, H_0, H_1, oH, nbH, loH, hiH, hbx⟩ := hcut
      generalize hwc : wc = wH at *
      clear hwc
      have hBH : Below w.heap.size w wH := bstep hB11 hbx
      have sH := hbx.size
      replace b0_0 := cell_keep hbx b0_0
      replace b1_0 := cell_keep hbx b1_0
      replace b1_1 := cell_keep hbx b1_1
      replace W_0 := cell_keep hbx W_0
      replace W_1 := cell_keep hbx W_1
      replace y0_0 := cell_keep hbx y0_0
      replace y1_0 := cell_keep hbx y1_0
      replace y1_1 := cell_keep hbx y1_1
      replace g_0 := cell_keep hbx g_0
      replace g_1 := cell_keep hbx g_1
      replace oW := ledgRR.keep oW hbx
      replace oC0m := ledgR.keep oC0m hbx
      replace oC1m := contR.keep oC1m hbx
      replace oGm := ledgRR.keep oGm hbx
      have rH : ∀ b, FH b → w11.heap.size ≤ b ∧ b < wH.heap.size := fun b hb => ledgRR.rng oH b hb
      clear hB11 hbx
      clear z0 z1 z3 z5 z6 z8
      have z0 := World.block_lt_of_cell? _ _ b0_0
      dsimp only at z0
      have z1 := World.block_lt_of_cell? _ _ b1_0
      dsimp only at z1
      have z3 := World.block_lt_of_cell? _ _ W_0
      dsimp only at z3
      have z5 := World.block_lt_of_cell? _ _ y0_0
      dsimp only at z5
      have z6 := World.block_lt_of_cell? _ _ y1_0
      dsimp only at z6
      have z8 := World.block_lt_of_cell? _ _ g_0
      dsimp only at z8
      have z10 := World.block_lt_of_cell? _ _ H_0
      dsimp only at z10
      go_wp2_with fail
      refine (eqLedgerResult_u _ _ (settleD d0 d1) (settleD d0 d1) _ (ledgRR.below (ledgRR.ofO oH) (by (repeat (first | exact Below.refl _ _ | assumption | refine Below.drew ?_ | refine balloc ?_ _ | refine bset ?_ (by simp; omega) _ | refine bset ?_ (by simp) _ | refine bstep ?_ (by assumption))))) (ledgRR.below (ledgRR.ofO oW) (by (repeat (first | exact Below.refl _ _ | assumption | refine Below.drew ?_ | refine balloc ?_ _ | refine bset ?_ (by simp; omega) _ | refine bset ?_ (by simp) _ | refine bstep ?_ (by assumption)))))).mono ?_
      rintro e w12 ⟨rfl, hb12⟩
      have hB12 : Below w.heap.size w w12 := by (repeat (first | exact Below.refl _ _ | assumption | refine Below.drew ?_ | refine balloc ?_ _ | refine bset ?_ (by simp; omega) _ | refine bset ?_ (by simp) _ | refine bstep ?_ (by assumption)))
      have s12 := hb12.size
      try simp only [World.size_alloc] at s12
      replace b0_0 := cell_keep hb12 (cell_keep (by (repeat (first | exact Below.refl _ _ | assumption | refine Below.drew ?_ | refine balloc ?_ _ | refine bset ?_ (by simp; omega) _ | refine bset ?_ (by simp) _ | refine bstep ?_ (by assumption)))) b0_0)
      replace b1_0 := cell_keep hb12 (cell_keep (by (repeat (first | exact Below.refl _ _ | assumption | refine Below.drew ?_ | refine balloc ?_ _ | refine bset ?_ (by simp; omega) _ | refine bset ?_ (by simp) _ | refine bstep ?_ (by assumption)))) b1_0)
      replace b1_1 := cell_keep hb12 (cell_keep (by (repeat (first | exact Below.refl _ _ | assumption | refine Below.drew ?_ | refine balloc ?_ _ | refine bset ?_ (by simp; omega) _ | refine bset ?_ (by simp) _ | refine bstep ?_ (by assumption)))) b1_1)
      replace W_0 := cell_keep hb12 (cell_keep (by (repeat (first | exact Below.refl _ _ | assumption | refine Below.drew ?_ | refine balloc ?_ _ | refine bset ?_ (by simp; omega) _ | refine bset ?_ (by simp) _ | refine bstep ?_ (by assumption)))) W_0)
      replace W_1 := cell_keep hb12 (cell_keep (by (repeat (first | exact Below.refl _ _ | assumption | refine Below.drew ?_ | refine balloc ?_ _ | refine bset ?_ (by simp; omega) _ | refine bset ?_ (by simp) _ | refine bstep ?_ (by assumption)))) W_1)
      replace y0_0 := cell_keep hb12 (cell_keep (by (repeat (first | exact Below.refl _ _ | assumption | refine Below.drew ?_ | refine balloc ?_ _ | refine bset ?_ (by simp; omega) _ | refine bset ?_ (by simp) _ | refine bstep ?_ (by assumption)))) y0_0)
      replace y1_0 := cell_keep hb12 (cell_keep (by (repeat (first | exact Below.refl _ _ | assumption | refine Below.drew ?_ | refine balloc ?_ _ | refine bset ?_ (by simp; omega) _ | refine bset ?_ (by simp) _ | refine bstep ?_ (by assumption)))) y1_0)
      replace y1_1 := cell_keep hb12 (cell_keep (by (repeat (first | exact Below.refl _ _ | assumption | refine Below.drew ?_ | refine balloc ?_ _ | refine bset ?_ (by simp; omega) _ | refine bset ?_ (by simp) _ | refine bstep ?_ (by assumption)))) y1_1)
      replace g_0 := cell_keep hb12 (cell_keep (by (repeat (first | exact Below.refl _ _ | assumption | refine Below.drew ?_ | refine balloc ?_ _ | refine bset ?_ (by simp; omega) _ | refine bset ?_ (by simp) _ | refine bstep ?_ (by assumption)))) g_0)
      replace g_1 := cell_keep hb12 (cell_keep (by (repeat (first | exact Below.refl _ _ | assumption | refine Below.drew ?_ | refine balloc ?_ _ | refine bset ?_ (by simp; omega) _ | refine bset ?_ (by simp) _ | refine bstep ?_ (by assumption)))) g_1)
      replace H_0 := cell_keep hb12 (cell_keep (by (repeat (first | exact Below.refl _ _ | assumption | refine Below.drew ?_ | refine balloc ?_ _ | refine bset ?_ (by simp; omega) _ | refine bset ?_ (by simp) _ | refine bstep ?_ (by assumption)))) H_0)
      replace H_1 := cell_keep hb12 (cell_keep (by (repeat (first | exact Below.refl _ _ | assumption | refine Below.drew ?_ | refine balloc ?_ _ | refine bset ?_ (by simp; omega) _ | refine bset ?_ (by simp) _ | refine bstep ?_ (by assumption)))) H_1)
      replace oW := ledgRR.keep2 oW (by (repeat (first | exact Below.refl _ _ | assumption | refine Below.drew ?_ | refine balloc ?_ _ | refine bset ?_ (by simp; omega) _ | refine bset ?_ (by simp) _ | refine bstep ?_ (by assumption)))) hb12
      replace oC0m := ledgR.keep2 oC0m (by (repeat (first | exact Below.refl _ _ | assumption | refine Below.drew ?_ | refine balloc ?_ _ | refine bset ?_ (by simp; omega) _ | refine bset ?_ (by simp) _ | refine bstep ?_ (by assumption)))) hb12
      replace oC1m := contR.keep2 oC1m (by (repeat (first | exact Below.refl _ _ | assumption | refine Below.drew ?_ | refine balloc ?_ _ | refine bset ?_ (by simp; omega) _ | refine bset ?_ (by simp) _ | refine bstep ?_ (by assumption)))) hb12
      replace oGm := ledgRR.keep2 oGm (by (repeat (first | exact Below.refl _ _ | assumption | refine Below.drew ?_ | refine balloc ?_ _ | refine bset ?_ (by simp; omega) _ | refine bset ?_ (by simp) _ | refine bstep ?_ (by assumption)))) hb12
      replace oH := ledgRR.keep2 oH (by (repeat (first | exact Below.refl _ _ | assumption | refine Below.drew ?_ | refine balloc ?_ _ | refine bset ?_ (by simp; omega) _ | refine bset ?_ (by simp) _ | refine bstep ?_ (by assumption)))) hb12
      clear hBH
      clear hb12
      clear z0 z1 z3 z5 z6 z8 z10
      have z0 := World.block_lt_of_cell? _ _ b0_0
      dsimp only at z0
      have z1 := World.block_lt_of_cell? _ _ b1_0
      dsimp only at z1
      have z3 := World.block_lt_of_cell? _ _ W_0
      dsimp only at z3
      have z5 := World.block_lt_of_cell? _ _ y0_0
      dsimp only at z5
      have z6 := World.block_lt_of_cell? _ _ y1_0
      dsimp only at z6
      have z8 := World.block_lt_of_cell? _ _ g_0
      dsimp only at z8
      have z10 := World.block_lt_of_cell? _ _ H_0
      dsimp only at z10
      go_wp2_with fail
      refine (heldLedgerResult_u _ (settleD d0 d1) 1 _ (ledgRR.below (ledgRR.ofO oGm) (by (repeat (first | exact Below.refl _ _ | assumption | refine Below.drew ?_ | refine balloc ?_ _ | refine bset ?_ (by simp; omega) _ | refine bset ?_ (by simp) _ | refine bstep ?_ (by assumption))))) hwR hcR (by omega)).mono ?_
      rintro e w13 ⟨rfl, hb13⟩
      have hB13 : Below w.heap.size w w13 := by (repeat (first | exact Below.refl _ _ | assumption | refine Below.drew ?_ | refine balloc ?_ _ | refine bset ?_ (by simp; omega) _ | refine bset ?_ (by simp) _ | refine bstep ?_ (by assumption)))
      have s13 := hb13.size
      try simp only [World.size_alloc] at s13
      replace b0_0 := cell_keep hb13 (cell_keep (by (repeat (first | exact Below.refl _ _ | assumption | refine Below.drew ?_ | refine balloc ?_ _ | refine bset ?_ (by simp; omega) _ | refine bset ?_ (by simp) _ | refine bstep ?_ (by assumption)))) b0_0)
      replace b1_0 := cell_keep hb13 (cell_keep (by (repeat (first | exact Below.refl _ _ | assumption | refine Below.drew ?_ | refine balloc ?_ _ | refine bset ?_ (by simp; omega) _ | refine bset ?_ (by simp) _ | refine bstep ?_ (by assumption)))) b1_0)
      replace b1_1 := cell_keep hb13 (cell_keep (by (repeat (first | exact Below.refl _ _ | assumption | refine Below.drew ?_ | refine balloc ?_ _ | refine bset ?_ (by simp; omega) _ | refine bset ?_ (by simp) _ | refine bstep ?_ (by assumption)))) b1_1)
      replace W_0 := cell_keep hb13 (cell_keep (by (repeat (first | exact Below.refl _ _ | assumption | refine Below.drew ?_ | refine balloc ?_ _ | refine bset ?_ (by simp; omega) _ | refine bset ?_ (by simp) _ | refine bstep ?_ (by assumption)))) W_0)
      replace W_1 := cell_keep hb13 (cell_keep (by (repeat (first | exact Below.refl _ _ | assumption | refine Below.drew ?_ | refine balloc ?_ _ | refine bset ?_ (by simp; omega) _ | refine bset ?_ (by simp) _ | refine bstep ?_ (by assumption)))) W_1)
      replace y0_0 := cell_keep hb13 (cell_keep (by (repeat (first | exact Below.refl _ _ | assumption | refine Below.drew ?_ | refine balloc ?_ _ | refine bset ?_ (by simp; omega) _ | refine bset ?_ (by simp) _ | refine bstep ?_ (by assumption)))) y0_0)
      replace y1_0 := cell_keep hb13 (cell_keep (by (repeat (first | exact Below.refl _ _ | assumption | refine Below.drew ?_ | refine balloc ?_ _ | refine bset ?_ (by simp; omega) _ | refine bset ?_ (by simp) _ | refine bstep ?_ (by assumption)))) y1_0)
      replace y1_1 := cell_keep hb13 (cell_keep (by (repeat (first | exact Below.refl _ _ | assumption | refine Below.drew ?_ | refine balloc ?_ _ | refine bset ?_ (by simp; omega) _ | refine bset ?_ (by simp) _ | refine bstep ?_ (by assumption)))) y1_1)
      replace g_0 := cell_keep hb13 (cell_keep (by (repeat (first | exact Below.refl _ _ | assumption | refine Below.drew ?_ | refine balloc ?_ _ | refine bset ?_ (by simp; omega) _ | refine bset ?_ (by simp) _ | refine bstep ?_ (by assumption)))) g_0)
      replace g_1 := cell_keep hb13 (cell_keep (by (repeat (first | exact Below.refl _ _ | assumption | refine Below.drew ?_ | refine balloc ?_ _ | refine bset ?_ (by simp; omega) _ | refine bset ?_ (by simp) _ | refine bstep ?_ (by assumption)))) g_1)
      replace H_0 := cell_keep hb13 (cell_keep (by (repeat (first | exact Below.refl _ _ | assumption | refine Below.drew ?_ | refine balloc ?_ _ | refine bset ?_ (by simp; omega) _ | refine bset ?_ (by simp) _ | refine bstep ?_ (by assumption)))) H_0)
      replace H_1 := cell_keep hb13 (cell_keep (by (repeat (first | exact Below.refl _ _ | assumption | refine Below.drew ?_ | refine balloc ?_ _ | refine bset ?_ (by simp; omega) _ | refine bset ?_ (by simp) _ | refine bstep ?_ (by assumption)))) H_1)
      replace oW := ledgRR.keep2 oW (by (repeat (first | exact Below.refl _ _ | assumption | refine Below.drew ?_ | refine balloc ?_ _ | refine bset ?_ (by simp; omega) _ | refine bset ?_ (by simp) _ | refine bstep ?_ (by assumption)))) hb13
      replace oC0m := ledgR.keep2 oC0m (by (repeat (first | exact Below.refl _ _ | assumption | refine Below.drew ?_ | refine balloc ?_ _ | refine bset ?_ (by simp; omega) _ | refine bset ?_ (by simp) _ | refine bstep ?_ (by assumption)))) hb13
      replace oC1m := contR.keep2 oC1m (by (repeat (first | exact Below.refl _ _ | assumption | refine Below.drew ?_ | refine balloc ?_ _ | refine bset ?_ (by simp; omega) _ | refine bset ?_ (by simp) _ | refine bstep ?_ (by assumption)))) hb13
      replace oGm := ledgRR.keep2 oGm (by (repeat (first | exact Below.refl _ _ | assumption | refine Below.drew ?_ | refine balloc ?_ _ | refine bset ?_ (by simp; omega) _ | refine bset ?_ (by simp) _ | refine bstep ?_ (by assumption)))) hb13
      replace oH := ledgRR.keep2 oH (by (repeat (first | exact Below.refl _ _ | assumption | refine Below.drew ?_ | refine balloc ?_ _ | refine bset ?_ (by simp; omega) _ | refine bset ?_ (by simp) _ | refine bstep ?_ (by assumption)))) hb13
      clear hB12
      go_wp2
      go_ret
      exact ⟨rfl, hB13⟩
end Go.Proofs.Ytnefocpgjcmocaa.settleOneLaw

