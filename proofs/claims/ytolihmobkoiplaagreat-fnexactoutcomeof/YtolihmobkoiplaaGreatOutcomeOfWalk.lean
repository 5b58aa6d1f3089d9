import Derived.Test.YtolihmobkoiplaaGreatPrnOutcomeOfLaw18
import Derived.Test.YtolihmobkoiplaaGreatPrnOutcomeOfLaw20
import Derived.Test.YtolihmobkoiplaaGreatPrnOutcomeOfLaw13
import Derived.Test.YtolihmobkoiplaaGreatPrnOutcomeOfLaw7
import Derived.Deep.RegionHeld3
import Derived.Deep.DrawnRows
import Derived.Deep.DeepCutAuto

/-
  Proved: laws.FnExactOutcomeOf answers true at every argument, and its arguments read behind the call as they read before. No condition. (The walk.)
-/
namespace Go.Proofs.YtolihmobkoiplaaGreat.outcomeOfLaw
open Go.RowKit
set_option linter.unusedSectionVars false
variable [DecidableEq Vot] [Inhabited Vot] [DecidableEq Slt] [Inhabited Slt] [DecidableEq SltR] [Inhabited SltR] [DecidableEq Bal] [Inhabited Bal] [DecidableEq Ledg] [Inhabited Ledg] [DecidableEq Leg] [Inhabited Leg] [DecidableEq Acc] [Inhabited Acc] [DecidableEq AccR] [Inhabited AccR] [DecidableEq AccsR] [Inhabited AccsR] [DecidableEq SltsR] [Inhabited SltsR] [DecidableEq Cont] [Inhabited Cont]
attribute [local go_sem ↓] Go.wp_at_zero Go.wp_at_succ

set_option maxHeartbeats 2000000 in
theorem walk (x0 : Value) (d0 : List Acc) (x1 : Value) (d1 : Cont) (w : World) (hx0 : accsR.V w x0 d0) (hx1 : contR.V w x1 d1) :
    Calls Tryz.prog 3 #[x0, x1] w fun e w' => e = .returned (.bool true) ∧ Below w.heap.size w w' := by
  obtain ⟨ysf, hys⟩ := out_ex d0 d1
  have HYS : Hid (outC d0 d1 = 0 → ∀ s, s ∈ shardsL d1.legs → Chs (slotsL d0 d1.id s) (ysf s)) := hys
  clear hys
  have hX0 := hx0
  obtain ⟨ax00, cx00, rfl⟩ := accs_form hx0
  have hX1 := hx1
  obtain ⟨ux11, rfl, hux11⟩ := hx1
  obtain ⟨ax11, cx11, rfl⟩ := legs_form hux11
  go_enter Tryz.func3, Tryz.ntmps3
  go_wp2_with fail
  refine (szAcceptorS_u _ d0 1048576 _ (accsR.below hX0 (by (repeat (first | exact Below.refl _ _ | assumption | refine Below.drew ?_ | refine balloc ?_ _ | refine bset ?_ (by simp; omega) _ | refine bset ?_ (by simp) _ | refine bstep ?_ (by assumption))))) (by omega) (by omega)).mono ?_
  rintro e w1 ⟨rfl, hb1⟩
  have hB1 : Below w.heap.size w w1 := by (repeat (first | exact Below.refl _ _ | assumption | refine Below.drew ?_ | refine balloc ?_ _ | refine bset ?_ (by simp; omega) _ | refine bset ?_ (by simp) _ | refine bstep ?_ (by assumption)))
  have b1_0 : w1.cell? ⟨w.heap.size, 0, none⟩ = some (.int .i64 d1.id) := cell_keep hb1 (by simp [go_sem])
  have b1_1 : w1.cell? ⟨w.heap.size, 1, none⟩ = some (.slice ax11 d1.legs.length cx11) := cell_keep hb1 (by simp [go_sem])
  clear hb1
  by_cases hs0 : szLen 1048576 ((wtAccs d0 : Nat) : Int) < 0
  · go_wp2
    go_ret
    exact ⟨rfl, by (repeat (first | exact Below.refl _ _ | assumption | refine Below.drew ?_ | refine balloc ?_ _ | refine bset ?_ (by simp; omega) _ | refine bset ?_ (by simp) _ | refine bstep ?_ (by assumption)))⟩
  go_wp2_with fail
  refine (szContract_u _ d1 (szLen 1048576 (wtAccs d0 : Nat)) _ (contR.below hX1 (by (repeat (first | exact Below.refl _ _ | assumption | refine Below.drew ?_ | refine balloc ?_ _ | refine bset ?_ (by simp; omega) _ | refine bset ?_ (by simp) _ | refine bstep ?_ (by assumption))))) (by omega) (by have := szLen_le (left := 1048576) (n := wtAccs d0) (by omega); omega)).mono ?_
  rintro e w2 ⟨rfl, hb2⟩
  have hB2 : Below w.heap.size w w2 := by (repeat (first | exact Below.refl _ _ | assumption | refine Below.drew ?_ | refine balloc ?_ _ | refine bset ?_ (by simp; omega) _ | refine bset ?_ (by simp) _ | refine bstep ?_ (by assumption)))
  replace b1_0 := cell_keep hb2 (cell_keep (by (repeat (first | exact Below.refl _ _ | assumption | refine Below.drew ?_ | refine balloc ?_ _ | refine bset ?_ (by simp; omega) _ | refine bset ?_ (by simp) _ | refine bstep ?_ (by assumption)))) b1_0)
  replace b1_1 := cell_keep hb2 (cell_keep (by (repeat (first | exact Below.refl _ _ | assumption | refine Below.drew ?_ | refine balloc ?_ _ | refine bset ?_ (by simp; omega) _ | refine bset ?_ (by simp) _ | refine bstep ?_ (by assumption)))) b1_1)
  rw [szLen_add (n := wtAccs d0) (by omega)]
  clear hb2 hB1
  by_cases hsz : 1048576 < wtAccs d0 + wtCont d1
  · rw [show szLen 1048576 ((wtAccs d0 + wtCont d1 : Nat) : Int) = -1 by unfold szLen; rw [if_pos (by omega)]]
    go_wp2
    go_ret
    exact ⟨rfl, by (repeat (first | exact Below.refl _ _ | assumption | refine Below.drew ?_ | refine balloc ?_ _ | refine bset ?_ (by simp; omega) _ | refine bset ?_ (by simp) _ | refine bstep ?_ (by assumption)))⟩
  have e1 : szLen 1048576 ((wtAccs d0 + wtCont d1 : Nat) : Int) = 1048576 - ((wtAccs d0 + wtCont d1 : Nat) : Int) := by unfold szLen; rw [if_neg (by omega)]
  have e2 : ¬ (1048576 : Int) - ((wtAccs d0 + wtCont d1 : Nat) : Int) < 0 := by omega
  rw [e1]
  clear e1
  go_wp2_with fail
  go_cut [6] (fun p wx => ∃ B, p = .pointer (some ⟨B, 0, none⟩) ∧ wx.cell? ⟨B, 0, none⟩ = some (.int .i64 (outC d0 d1)) ∧ wx.cell? ⟨B, 1, none⟩ = some (.int .i64 (outR d0 d1 ysf)) ∧ w2.heap.size ≤ B ∧ B < wx.heap.size ∧ Below w2.heap.size w2 wx)
  case first =>
    go_region_held3 (fun w' => Below w2.heap.size w2 w' ∧ w'.cell? ⟨w.heap.size, 0, none⟩ = some (.int .i64 d1.id) ∧ w'.cell? ⟨w.heap.size, 1, none⟩ = some (.slice ax11 d1.legs.length cx11))
      ((refine keepN2 ?_ b1_0 b1_1; (repeat (first | exact Below.refl _ _ | assumption | refine Below.drew ?_ | refine balloc ?_ _ | refine bset ?_ (by simp; omega) _ | refine bset ?_ (by simp) _ | refine bstep ?_ (by assumption)))))
      (first | (go_at_call_of 7 (ax00); refine (toAcceptorS_u _ d0 _ (accsR.below hX0 (by (repeat (first | exact Below.refl _ _ | assumption | refine Below.drew ?_ | refine balloc ?_ _ | refine bset ?_ (by simp; omega) _ | refine bset ?_ (by simp) _ | refine bstep ?_ (by assumption))))) (by omega)).mono ?_; rintro e wS0 ⟨vS0, FS0, rfl, oS0, hbS0⟩; have foS0 := accsR.ofO oS0; obtain ⟨as00, cs00, rfl⟩ := accs_form foS0; (first | (have sS0 := (bstep (Below.drew (Below.refl _ w2)) hbS0).size) | (have sS0 := (bstep (balloc (Below.drew (Below.refl _ w2)) _) hbS0).size) | (have sS0 := (bstep (Below.drew (balloc (Below.refl _ w2) _)) hbS0).size)); (first | (have kk := boxNew2 (B := w2.heap.size) hbS0 rfl; obtain ⟨k1, k2, kf⟩ := kk) | (have kk := boxNew2 (B := w2.heap.size) (bstep (Below.drew (Below.refl _ _)) hbS0) rfl; obtain ⟨k1, k2, kf⟩ := kk) | skip)) | (go_at_call_of 8 (ax11); refine (toContract_u _ d1 _ (contR.below hX1 (by (repeat (first | exact Below.refl _ _ | assumption | refine Below.drew ?_ | refine balloc ?_ _ | refine bset ?_ (by simp; omega) _ | refine bset ?_ (by simp) _ | refine bstep ?_ (by assumption))))) (by omega)).mono ?_; rintro e wS1 ⟨vS1, FS1, rfl, oS1, hbS1⟩; have foS1 := contR.ofO oS1; obtain ⟨as11, cs11, rfl⟩ := cont_form foS1; (first | (have sS1 := (bstep (Below.refl _ wS0) hbS1).size) | (have sS1 := (bstep (balloc (Below.refl _ wS0) _) hbS1).size)); (first | (replace k1 := cell_keep hbS1 k1; replace k2 := cell_keep hbS1 k2; replace kf := boxKeep kf hbS1) | (have kk := boxNew2 (B := wS0.heap.size) hbS1 rfl; obtain ⟨k1, k2, kf⟩ := kk) | skip)) | (go_at_call 6; refine (specOutcome_any _ _ d0 d1 ysf _ (accsR.below (accsR.ofO oS0) (by (repeat (first | exact Below.refl _ _ | assumption | refine Below.drew ?_ | refine balloc ?_ _ | refine bset ?_ (by simp; omega) _ | refine bset ?_ (by simp) _ | refine bstep ?_ (by assumption))))) (contR.below (contR.ofO oS1) (by (repeat (first | exact Below.refl _ _ | assumption | refine Below.drew ?_ | refine balloc ?_ _ | refine bset ?_ (by simp; omega) _ | refine bset ?_ (by simp) _ | refine bstep ?_ (by assumption))))) HYS.out).mono ?_; rintro e wT ⟨rfl, hbT⟩; (first | (have sT := (bstep (Below.refl _ wS1) hbT).size) | (have sT := (bstep (balloc (Below.refl _ wS1) _) hbT).size)); (first | (have kb := kf.2; replace k1 := cell_keep hbT k1; replace k2 := cell_keep hbT k2; have kk := boxKeep kf hbT; obtain ⟨kf, kl⟩ := kk) | (have kk := boxNew2 (B := wS1.heap.size) hbT rfl; obtain ⟨k1, k2, kf, kl⟩ := kk) | skip)))
    all_goals
      rename_i hH
      have hHB := hH.1
      clear hH
      go_wp2_with fail
      go_meet
      case rel =>
        refine ⟨_, rfl, ?_, ?_, ?_, ?_, hHB⟩
        · first | (simp [go_sem]; done) | (simp [go_sem, k1]; done) | (simp [go_sem, k1, k2, kf]; done)
        · first | (simp [go_sem]; done) | (simp [go_sem, k2]; done) | (simp [go_sem, k1, k2, kf]; done)
        · try simp only [World.size_alloc]
          omega
        · first | (simp; done) | (simp; omega)
  case rest =>
    obtain ⟨BW, rfl, q_0, q_1, loW, hiW, hbx⟩ := hcut
    generalize hwc : wc = wT at *
    clear hwc
    have hBT : Below w.heap.size w wT := bstep hB2 hbx
    replace b1_0 := cell_keep hbx b1_0
    replace b1_1 := cell_keep hbx b1_1
    clear hB2 hbx
    have z0 := World.block_lt_of_cell? _ _ b1_0
    dsimp only at z0
    go_wp2_with fail
    refine (toAcceptorS_u _ d0 _ (accsR.below hX0 (by (repeat (first | exact Below.refl _ _ | assumption | refine Below.drew ?_ | refine balloc ?_ _ | refine bset ?_ (by simp; omega) _ | refine bset ?_ (by simp) _ | refine bstep ?_ (by assumption))))) (by omega)).mono ?_
    rintro e w3 ⟨vC0, FC0, rfl, oC0, hb3⟩
    have hB3 : Below w.heap.size w w3 := by (repeat (first | exact Below.refl _ _ | assumption | refine Below.drew ?_ | refine balloc ?_ _ | refine bset ?_ (by simp; omega) _ | refine bset ?_ (by simp) _ | refine bstep ?_ (by assumption)))
    have VC0 := accsR.ofO oC0
    have fC0 := VC0
    obtain ⟨ay00, cy00, rfl⟩ := accs_form fC0
    replace b1_0 := cell_keep hb3 (cell_keep (by (repeat (first | exact Below.refl _ _ | assumption | refine Below.drew ?_ | refine balloc ?_ _ | refine bset ?_ (by simp; omega) _ | refine bset ?_ (by simp) _ | refine bstep ?_ (by assumption)))) b1_0)
    replace b1_1 := cell_keep hb3 (cell_keep (by (repeat (first | exact Below.refl _ _ | assumption | refine Below.drew ?_ | refine balloc ?_ _ | refine bset ?_ (by simp; omega) _ | refine bset ?_ (by simp) _ | refine bstep ?_ (by assumption)))) b1_1)
    replace q_0 := cell_keep hb3 (cell_keep (by (repeat (first | exact Below.refl _ _ | assumption | refine Below.drew ?_ | refine balloc ?_ _ | refine bset ?_ (by simp; omega) _ | refine bset ?_ (by simp) _ | refine bstep ?_ (by assumption)))) q_0)
    replace q_1 := cell_keep hb3 (cell_keep (by (repeat (first | exact Below.refl _ _ | assumption | refine Below.drew ?_ | refine balloc ?_ _ | refine bset ?_ (by simp; omega) _ | refine bset ?_ (by simp) _ | refine bstep ?_ (by assumption)))) q_1)
    clear hb3 hBT oC0
    clear z0
    have z0 := World.block_lt_of_cell? _ _ b1_0
    dsimp only at z0
    have z2 := World.block_lt_of_cell? _ _ q_0
    dsimp only at z2
    go_wp2_with fail
    refine (toContract_u _ d1 _ (contR.below hX1 (by (repeat (first | exact Below.refl _ _ | assumption | refine Below.drew ?_ | refine balloc ?_ _ | refine bset ?_ (by simp; omega) _ | refine bset ?_ (by simp) _ | refine bstep ?_ (by assumption))))) (by omega)).mono ?_
    rintro e w4 ⟨vC1, FC1, rfl, oC1, hb4⟩
    have hB4 : Below w.heap.size w w4 := by (repeat (first | exact Below.refl _ _ | assumption | refine Below.drew ?_ | refine balloc ?_ _ | refine bset ?_ (by simp; omega) _ | refine bset ?_ (by simp) _ | refine bstep ?_ (by assumption)))
    have VC1 := contR.ofO oC1
    have fC1 := VC1
    obtain ⟨uy11, rfl, huy11⟩ := fC1
    obtain ⟨ay11, cy11, rfl⟩ := legs_form huy11
    replace b1_0 := cell_keep hb4 (cell_keep (by (repeat (first | exact Below.refl _ _ | assumption | refine Below.drew ?_ | refine balloc ?_ _ | refine bset ?_ (by simp; omega) _ | refine bset ?_ (by simp) _ | refine bstep ?_ (by assumption)))) b1_0)
    replace b1_1 := cell_keep hb4 (cell_keep (by (repeat (first | exact Below.refl _ _ | assumption | refine Below.drew ?_ | refine balloc ?_ _ | refine bset ?_ (by simp; omega) _ | refine bset ?_ (by simp) _ | refine bstep ?_ (by assumption)))) b1_1)
    replace q_0 := cell_keep hb4 (cell_keep (by (repeat (first | exact Below.refl _ _ | assumption | refine Below.drew ?_ | refine balloc ?_ _ | refine bset ?_ (by simp; omega) _ | refine bset ?_ (by simp) _ | refine bstep ?_ (by assumption)))) q_0)
    replace q_1 := cell_keep hb4 (cell_keep (by (repeat (first | exact Below.refl _ _ | assumption | refine Below.drew ?_ | refine balloc ?_ _ | refine bset ?_ (by simp; omega) _ | refine bset ?_ (by simp) _ | refine bstep ?_ (by assumption)))) q_1)
    replace VC0 := accsR.below (accsR.below VC0 (by (repeat (first | exact Below.refl _ _ | assumption | refine Below.drew ?_ | refine balloc ?_ _ | refine bset ?_ (by simp; omega) _ | refine bset ?_ (by simp) _ | refine bstep ?_ (by assumption))))) hb4
    clear hb4 hB3 oC1
    clear z0 z2
    have z0 := World.block_lt_of_cell? _ _ b1_0
    dsimp only at z0
    have z2 := World.block_lt_of_cell? _ _ q_0
    dsimp only at z2
    go_wp2_with fail
    refine (implOutcome_any sortsV _ _ d0 d1 ysf _ (accsR.below VC0 (by (repeat (first | exact Below.refl _ _ | assumption | refine Below.drew ?_ | refine balloc ?_ _ | refine bset ?_ (by simp; omega) _ | refine bset ?_ (by simp) _ | refine bstep ?_ (by assumption))))) (contR.below VC1 (by (repeat (first | exact Below.refl _ _ | assumption | refine Below.drew ?_ | refine balloc ?_ _ | refine bset ?_ (by simp; omega) _ | refine bset ?_ (by simp) _ | refine bstep ?_ (by assumption))))) HYS.out).mono ?_
    rintro e w5 ⟨rfl, hb5⟩
    have hB5 : Below w.heap.size w w5 := by (repeat (first | exact Below.refl _ _ | assumption | refine Below.drew ?_ | refine balloc ?_ _ | refine bset ?_ (by simp; omega) _ | refine bset ?_ (by simp) _ | refine bstep ?_ (by assumption)))
    replace b1_0 := cell_keep hb5 (cell_keep (by (repeat (first | exact Below.refl _ _ | assumption | refine Below.drew ?_ | refine balloc ?_ _ | refine bset ?_ (by simp; omega) _ | refine bset ?_ (by simp) _ | refine bstep ?_ (by assumption)))) b1_0)
    replace b1_1 := cell_keep hb5 (cell_keep (by (repeat (first | exact Below.refl _ _ | assumption | refine Below.drew ?_ | refine balloc ?_ _ | refine bset ?_ (by simp; omega) _ | refine bset ?_ (by simp) _ | refine bstep ?_ (by assumption)))) b1_1)
    replace q_0 := cell_keep hb5 (cell_keep (by (repeat (first | exact Below.refl _ _ | assumption | refine Below.drew ?_ | refine balloc ?_ _ | refine bset ?_ (by simp; omega) _ | refine bset ?_ (by simp) _ | refine bstep ?_ (by assumption)))) q_0)
    replace q_1 := cell_keep hb5 (cell_keep (by (repeat (first | exact Below.refl _ _ | assumption | refine Below.drew ?_ | refine balloc ?_ _ | refine bset ?_ (by simp; omega) _ | refine bset ?_ (by simp) _ | refine bstep ?_ (by assumption)))) q_1)
    have y1_0 : w5.cell? ⟨w4.heap.size, 0, none⟩ = some (.int .i64 d1.id) := cell_keep hb5 (by simp [go_sem])
    have y1_1 : w5.cell? ⟨w4.heap.size, 1, none⟩ = some (.slice ay11 d1.legs.length cy11) := cell_keep hb5 (by simp [go_sem])
    replace VC0 := accsR.below (accsR.below VC0 (by (repeat (first | exact Below.refl _ _ | assumption | refine Below.drew ?_ | refine balloc ?_ _ | refine bset ?_ (by simp; omega) _ | refine bset ?_ (by simp) _ | refine bstep ?_ (by assumption))))) hb5
    replace VC1 := contR.below (contR.below VC1 (by (repeat (first | exact Below.refl _ _ | assumption | refine Below.drew ?_ | refine balloc ?_ _ | refine bset ?_ (by simp; omega) _ | refine bset ?_ (by simp) _ | refine bstep ?_ (by assumption))))) hb5
    clear hb5 hB4
    clear z0 z2
    have z0 := World.block_lt_of_cell? _ _ b1_0
    dsimp only at z0
    have z2 := World.block_lt_of_cell? _ _ q_0
    dsimp only at z2
    have z4 := World.block_lt_of_cell? _ _ y1_0
    dsimp only at z4
    go_wp2_with fail
    refine (eqIntResult_any _ _ _ _ _).mono ?_
    rintro e w6 ⟨rfl, hb6⟩
    have hB6 : Below w.heap.size w w6 := by (repeat (first | exact Below.refl _ _ | assumption | refine Below.drew ?_ | refine balloc ?_ _ | refine bset ?_ (by simp; omega) _ | refine bset ?_ (by simp) _ | refine bstep ?_ (by assumption)))
    replace b1_0 := cell_keep hb6 (cell_keep (by (repeat (first | exact Below.refl _ _ | assumption | refine Below.drew ?_ | refine balloc ?_ _ | refine bset ?_ (by simp; omega) _ | refine bset ?_ (by simp) _ | refine bstep ?_ (by assumption)))) b1_0)
    replace b1_1 := cell_keep hb6 (cell_keep (by (repeat (first | exact Below.refl _ _ | assumption | refine Below.drew ?_ | refine balloc ?_ _ | refine bset ?_ (by simp; omega) _ | refine bset ?_ (by simp) _ | refine bstep ?_ (by assumption)))) b1_1)
    replace q_0 := cell_keep hb6 (cell_keep (by (repeat (first | exact Below.refl _ _ | assumption | refine Below.drew ?_ | refine balloc ?_ _ | refine bset ?_ (by simp; omega) _ | refine bset ?_ (by simp) _ | refine bstep ?_ (by assumption)))) q_0)
    replace q_1 := cell_keep hb6 (cell_keep (by (repeat (first | exact Below.refl _ _ | assumption | refine Below.drew ?_ | refine balloc ?_ _ | refine bset ?_ (by simp; omega) _ | refine bset ?_ (by simp) _ | refine bstep ?_ (by assumption)))) q_1)
    replace y1_0 := cell_keep hb6 (cell_keep (by (repeat (first | exact Below.refl _ _ | assumption | refine Below.drew ?_ | refine balloc ?_ _ | refine bset ?_ (by simp; omega) _ | refine bset ?_ (by simp) _ | refine bstep ?_ (by assumption)))) y1_0)
    replace y1_1 := cell_keep hb6 (cell_keep (by (repeat (first | exact Below.refl _ _ | assumption | refine Below.drew ?_ | refine balloc ?_ _ | refine bset ?_ (by simp; omega) _ | refine bset ?_ (by simp) _ | refine bstep ?_ (by assumption)))) y1_1)
    replace VC0 := accsR.below (accsR.below VC0 (by (repeat (first | exact Below.refl _ _ | assumption | refine Below.drew ?_ | refine balloc ?_ _ | refine bset ?_ (by simp; omega) _ | refine bset ?_ (by simp) _ | refine bstep ?_ (by assumption))))) hb6
    replace VC1 := contR.below (contR.below VC1 (by (repeat (first | exact Below.refl _ _ | assumption | refine Below.drew ?_ | refine balloc ?_ _ | refine bset ?_ (by simp; omega) _ | refine bset ?_ (by simp) _ | refine bstep ?_ (by assumption))))) hb6
    clear hb6 hB5
    clear z0 z2 z4
    have z0 := World.block_lt_of_cell? _ _ b1_0
    dsimp only at z0
    have z2 := World.block_lt_of_cell? _ _ q_0
    dsimp only at z2
    have z4 := World.block_lt_of_cell? _ _ y1_0
    dsimp only at z4
    go_wp2_with fail
    refine (toAcceptorS_u _ d0 _ (accsR.below hX0 (by (repeat (first | exact Below.refl _ _ | assumption | refine Below.drew ?_ | refine balloc ?_ _ | refine bset ?_ (by simp; omega) _ | refine bset ?_ (by simp) _ | refine bstep ?_ (by assumption))))) (by omega)).mono ?_
    rintro e w7 ⟨vD0, FD0, rfl, oD0, hb7⟩
    have hB7 : Below w.heap.size w w7 := by (repeat (first | exact Below.refl _ _ | assumption | refine Below.drew ?_ | refine balloc ?_ _ | refine bset ?_ (by simp; omega) _ | refine bset ?_ (by simp) _ | refine bstep ?_ (by assumption)))
    have fD0 := accsR.ofO oD0
    obtain ⟨az00, cz00, rfl⟩ := accs_form fD0
    replace VC0 := accsR.below (accsR.below VC0 (by (repeat (first | exact Below.refl _ _ | assumption | refine Below.drew ?_ | refine balloc ?_ _ | refine bset ?_ (by simp; omega) _ | refine bset ?_ (by simp) _ | refine bstep ?_ (by assumption))))) hb7
    replace VC1 := contR.below (contR.below VC1 (by (repeat (first | exact Below.refl _ _ | assumption | refine Below.drew ?_ | refine balloc ?_ _ | refine bset ?_ (by simp; omega) _ | refine bset ?_ (by simp) _ | refine bstep ?_ (by assumption))))) hb7
    replace b1_0 := cell_keep hb7 (cell_keep (by (repeat (first | exact Below.refl _ _ | assumption | refine Below.drew ?_ | refine balloc ?_ _ | refine bset ?_ (by simp; omega) _ | refine bset ?_ (by simp) _ | refine bstep ?_ (by assumption)))) b1_0)
    replace b1_1 := cell_keep hb7 (cell_keep (by (repeat (first | exact Below.refl _ _ | assumption | refine Below.drew ?_ | refine balloc ?_ _ | refine bset ?_ (by simp; omega) _ | refine bset ?_ (by simp) _ | refine bstep ?_ (by assumption)))) b1_1)
    replace q_0 := cell_keep hb7 (cell_keep (by (repeat (first | exact Below.refl _ _ | assumption | refine Below.drew ?_ | refine balloc ?_ _ | refine bset ?_ (by simp; omega) _ | refine bset ?_ (by simp) _ | refine bstep ?_ (by assumption)))) q_0)
    replace q_1 := cell_keep hb7 (cell_keep (by (repeat (first | exact Below.refl _ _ | assumption | refine Below.drew ?_ | refine balloc ?_ _ | refine bset ?_ (by simp; omega) _ | refine bset ?_ (by simp) _ | refine bstep ?_ (by assumption)))) q_1)
    replace y1_0 := cell_keep hb7 (cell_keep (by (repeat (first | exact Below.refl _ _ | assumption | refine Below.drew ?_ | refine balloc ?_ _ | refine bset ?_ (by simp; omega) _ | refine bset ?_ (by simp) _ | refine bstep ?_ (by assumption)))) y1_0)
    replace y1_1 := cell_keep hb7 (cell_keep (by (repeat (first | exact Below.refl _ _ | assumption | refine Below.drew ?_ | refine balloc ?_ _ | refine bset ?_ (by simp; omega) _ | refine bset ?_ (by simp) _ | refine bstep ?_ (by assumption)))) y1_1)
    clear hb7
    go_wp2_with fail
    refine (eqAcceptorS_u _ _ d0 d0 _ (accsR.below VC0 (by (repeat (first | exact Below.refl _ _ | assumption | refine Below.drew ?_ | refine balloc ?_ _ | refine bset ?_ (by simp; omega) _ | refine bset ?_ (by simp) _ | refine bstep ?_ (by assumption))))) (accsR.below (accsR.ofO oD0) (by (repeat (first | exact Below.refl _ _ | assumption | refine Below.drew ?_ | refine balloc ?_ _ | refine bset ?_ (by simp; omega) _ | refine bset ?_ (by simp) _ | refine bstep ?_ (by assumption)))))).mono ?_
    rintro e w8 ⟨rfl, hb8⟩
    have hB8 : Below w.heap.size w w8 := by (repeat (first | exact Below.refl _ _ | assumption | refine Below.drew ?_ | refine balloc ?_ _ | refine bset ?_ (by simp; omega) _ | refine bset ?_ (by simp) _ | refine bstep ?_ (by assumption)))
    replace VC1 := contR.below (contR.below VC1 (by (repeat (first | exact Below.refl _ _ | assumption | refine Below.drew ?_ | refine balloc ?_ _ | refine bset ?_ (by simp; omega) _ | refine bset ?_ (by simp) _ | refine bstep ?_ (by assumption))))) hb8
    replace b1_0 := cell_keep hb8 (cell_keep (by (repeat (first | exact Below.refl _ _ | assumption | refine Below.drew ?_ | refine balloc ?_ _ | refine bset ?_ (by simp; omega) _ | refine bset ?_ (by simp) _ | refine bstep ?_ (by assumption)))) b1_0)
    replace b1_1 := cell_keep hb8 (cell_keep (by (repeat (first | exact Below.refl _ _ | assumption | refine Below.drew ?_ | refine balloc ?_ _ | refine bset ?_ (by simp; omega) _ | refine bset ?_ (by simp) _ | refine bstep ?_ (by assumption)))) b1_1)
    replace q_0 := cell_keep hb8 (cell_keep (by (repeat (first | exact Below.refl _ _ | assumption | refine Below.drew ?_ | refine balloc ?_ _ | refine bset ?_ (by simp; omega) _ | refine bset ?_ (by simp) _ | refine bstep ?_ (by assumption)))) q_0)
    replace q_1 := cell_keep hb8 (cell_keep (by (repeat (first | exact Below.refl _ _ | assumption | refine Below.drew ?_ | refine balloc ?_ _ | refine bset ?_ (by simp; omega) _ | refine bset ?_ (by simp) _ | refine bstep ?_ (by assumption)))) q_1)
    replace y1_0 := cell_keep hb8 (cell_keep (by (repeat (first | exact Below.refl _ _ | assumption | refine Below.drew ?_ | refine balloc ?_ _ | refine bset ?_ (by simp; omega) _ | refine bset ?_ (by simp) _ | refine bstep ?_ (by assumption)))) y1_0)
    replace y1_1 := cell_keep hb8 (cell_keep (by (repeat (first | exact Below.refl _ _ | assumption | refine Below.drew ?_ | refine balloc ?_ _ | refine bset ?_ (by simp; omega) _ | refine bset ?_ (by simp) _ | refine bstep ?_ (by assumption)))) y1_1)
    clear hb8 z0 z2 z4
    have z0 := World.block_lt_of_cell? _ _ b1_0
    have z2 := World.block_lt_of_cell? _ _ q_0
    have z4 := World.block_lt_of_cell? _ _ y1_0
    dsimp only at z0 z2 z4
    go_wp2
    go_region_held3 (fun w' => Below w8.heap.size w8 w' ∧ w'.cell? ⟨w.heap.size, 0, none⟩ = some (.int .i64 d1.id) ∧ w'.cell? ⟨w.heap.size, 1, none⟩ = some (.slice ax11 d1.legs.length cx11) ∧ w'.cell? ⟨BW, 0, none⟩ = some (.int .i64 (outC d0 d1)) ∧ w'.cell? ⟨BW, 1, none⟩ = some (.int .i64 (outR d0 d1 ysf)) ∧ w'.cell? ⟨w4.heap.size, 0, none⟩ = some (.int .i64 d1.id) ∧ w'.cell? ⟨w4.heap.size, 1, none⟩ = some (.slice ay11 d1.legs.length cy11))
      ((refine keepN6 ?_ b1_0 b1_1 q_0 q_1 y1_0 y1_1; repeat (first | exact Below.refl _ _ | assumption | refine Below.drew ?_ | refine balloc ?_ _ | refine bstep ?_ (by assumption))))
      (first | (go_at_call 8; refine (toContract_u _ d1 _ (contR.below hX1 (by (repeat (first | exact Below.refl _ _ | assumption | refine Below.drew ?_ | refine balloc ?_ _ | refine bset ?_ (by simp; omega) _ | refine bset ?_ (by simp) _ | refine bstep ?_ (by assumption))))) (by omega)).mono ?_; rintro e wD1 ⟨vD1, FD1, rfl, oD1, hbD1⟩; have fD1 := contR.ofO oD1; obtain ⟨uz11, rfl, huz11⟩ := fD1; obtain ⟨az11, cz11, rfl⟩ := legs_form huz11) | (go_at_call 12; refine (eqContract_u _ _ d1 d1 _ (contR.below VC1 (by (repeat (first | exact Below.refl _ _ | assumption | refine Below.drew ?_ | refine balloc ?_ _ | refine bset ?_ (by simp; omega) _ | refine bset ?_ (by simp) _ | refine bstep ?_ (by assumption))))) (contR.below (contR.ofO oD1) (by (repeat (first | exact Below.refl _ _ | assumption | refine Below.drew ?_ | refine balloc ?_ _ | refine bset ?_ (by simp; omega) _ | refine bset ?_ (by simp) _ | refine bstep ?_ (by assumption)))))).mono ?_; rintro e wE1 ⟨rfl, hbE1⟩))
    rename_i hH
    have hBE1 : Below w.heap.size w wE1 := bstep hB8 hH.1
    go_wp2
    go_ret
    exact ⟨rfl, hBE1⟩
end Go.Proofs.YtolihmobkoiplaaGreat.outcomeOfLaw

