import Derived.Test.YtndghenlapbaaaaGreatDoorPrnShardTextLaw3
import Derived.Test.YtndghenlapbaaaaGreatDoorPrnShardTextLaw23
import Derived.Test.YtndghenlapbaaaaGreatDoorPrnShardTextLaw24
import Derived.Test.YtndghenlapbaaaaGreatDoorPrnShardTextLaw13
import Derived.Test.YtndghenlapbaaaaGreatDoorPrnShardTextLaw1
import Derived.Deep.RegionHeld3
import Derived.Deep.DrawnRows

/-
  Proved: laws.FnExactShardText answers true at every argument, and its arguments read behind the call as they read before. No condition. (The walk.)
-/
namespace Go.Proofs.YtndghenlapbaaaaGreatDoor.shardTextLaw
open Go.RowKit
set_option linter.unusedSectionVars false
variable [DecidableEq Leg] [Inhabited Leg] [DecidableEq Bal] [Inhabited Bal] [DecidableEq Mrk] [Inhabited Mrk] [DecidableEq Cont] [Inhabited Cont] [DecidableEq Shd] [Inhabited Shd] [DecidableEq Rw] [Inhabited Rw] [DecidableEq Ledg] [Inhabited Ledg] [DecidableEq LedgR] [Inhabited LedgR] [DecidableEq OutcR] [Inhabited OutcR] [DecidableEq ShdR] [Inhabited ShdR]
attribute [local go_sem ↓] Go.wp_at_zero Go.wp_at_succ

set_option maxHeartbeats 2000000 in
theorem walk (x0 : Value) (d0 : Shd) (w : World) (hx0 : shdR.V w x0 d0) (ht : TabW w) :
    Calls Tryz.prog 3 #[x0] w fun e w' => e = .returned (.bool true) ∧ Below w.heap.size w w' := by
  have HTab : Hid (TabW w) := ht
  clear ht
  have hX0 := hx0
  obtain ⟨ux01, ux02, ux03, ux04, ux05, rfl, hux01, hux02, hux03, hux04, hux05⟩ := hx0
  obtain ⟨ax01, cx01, rfl⟩ := bals_form hux01
  obtain ⟨ax02, cx02, rfl⟩ := mrks_form hux02
  obtain ⟨ax03, cx03, rfl⟩ := conts_form hux03
  obtain ⟨ax04, cx04, rfl⟩ := mrks_form hux04
  obtain ⟨ax05, cx05, rfl⟩ := ints_form hux05
  go_enter Tryz.func3, Tryz.ntmps3
  go_wp2_with fail
  refine (szShard_u _ d0 1048576 _ (shdR.below hX0 (by (repeat (first | exact Below.refl _ _ | assumption | refine Below.drew ?_ | refine balloc ?_ _ | refine bset ?_ (by simp; omega) _ | refine bset ?_ (by simp) _ | refine bstep ?_ (by assumption))))) (by omega) (by omega)).mono ?_
  rintro e w1 ⟨rfl, hb1⟩
  have hB1 : Below w.heap.size w w1 := by (repeat (first | exact Below.refl _ _ | assumption | refine Below.drew ?_ | refine balloc ?_ _ | refine bset ?_ (by simp; omega) _ | refine bset ?_ (by simp) _ | refine bstep ?_ (by assumption)))
  have b0_0 : w1.cell? ⟨w.heap.size, 0, none⟩ = some (.int .i64 d0.idx) := cell_keep hb1 (by simp [go_sem])
  have b0_1 : w1.cell? ⟨w.heap.size, 1, none⟩ = some (.slice ax01 d0.bals.length cx01) := cell_keep hb1 (by simp [go_sem])
  have b0_2 : w1.cell? ⟨w.heap.size, 2, none⟩ = some (.slice ax02 d0.votes.length cx02) := cell_keep hb1 (by simp [go_sem])
  have b0_3 : w1.cell? ⟨w.heap.size, 3, none⟩ = some (.slice ax03 d0.held.length cx03) := cell_keep hb1 (by simp [go_sem])
  have b0_4 : w1.cell? ⟨w.heap.size, 4, none⟩ = some (.slice ax04 d0.done.length cx04) := cell_keep hb1 (by simp [go_sem])
  have b0_5 : w1.cell? ⟨w.heap.size, 5, none⟩ = some (.slice ax05 d0.appl.length cx05) := cell_keep hb1 (by simp [go_sem])
  clear hb1
  by_cases hsz : 1048576 < wtShd d0
  · rw [show szLen 1048576 ((wtShd d0 : Nat) : Int) = -1 by unfold szLen; rw [if_pos (by omega)]]
    go_wp2
    go_ret
    exact ⟨rfl, by (repeat (first | exact Below.refl _ _ | assumption | refine Below.drew ?_ | refine balloc ?_ _ | refine bset ?_ (by simp; omega) _ | refine bset ?_ (by simp) _ | refine bstep ?_ (by assumption)))⟩
  have e1 : szLen 1048576 ((wtShd d0 : Nat) : Int) = 1048576 - ((wtShd d0 : Nat) : Int) := by unfold szLen; rw [if_neg (by omega)]
  have e2 : ¬ (1048576 : Int) - ((wtShd d0 : Nat) : Int) < 0 := by omega
  rw [e1]
  clear e1
  go_wp2_with fail
  refine (toShard_u _ d0 _ (shdR.below hX0 (by (repeat (first | exact Below.refl _ _ | assumption | refine Below.drew ?_ | refine balloc ?_ _ | refine bset ?_ (by simp; omega) _ | refine bset ?_ (by simp) _ | refine bstep ?_ (by assumption))))) (by omega)).mono ?_
  rintro e w2 ⟨vS0, FS0, rfl, oS0, hb2⟩
  have hB2 : Below w.heap.size w w2 := by (repeat (first | exact Below.refl _ _ | assumption | refine Below.drew ?_ | refine balloc ?_ _ | refine bset ?_ (by simp; omega) _ | refine bset ?_ (by simp) _ | refine bstep ?_ (by assumption)))
  have foS0 := shdR.ofO oS0
  obtain ⟨us01, us02, us03, us04, us05, rfl, hus01, hus02, hus03, hus04, hus05⟩ := foS0
  obtain ⟨as01, cs01, rfl⟩ := bals_form hus01
  obtain ⟨as02, cs02, rfl⟩ := mrks_form hus02
  obtain ⟨as03, cs03, rfl⟩ := conts_form hus03
  obtain ⟨as04, cs04, rfl⟩ := mrks_form hus04
  obtain ⟨as05, cs05, rfl⟩ := ints_form hus05
  replace b0_0 := cell_keep hb2 (cell_keep (by (repeat (first | exact Below.refl _ _ | assumption | refine Below.drew ?_ | refine balloc ?_ _ | refine bset ?_ (by simp; omega) _ | refine bset ?_ (by simp) _ | refine bstep ?_ (by assumption)))) b0_0)
  replace b0_1 := cell_keep hb2 (cell_keep (by (repeat (first | exact Below.refl _ _ | assumption | refine Below.drew ?_ | refine balloc ?_ _ | refine bset ?_ (by simp; omega) _ | refine bset ?_ (by simp) _ | refine bstep ?_ (by assumption)))) b0_1)
  replace b0_2 := cell_keep hb2 (cell_keep (by (repeat (first | exact Below.refl _ _ | assumption | refine Below.drew ?_ | refine balloc ?_ _ | refine bset ?_ (by simp; omega) _ | refine bset ?_ (by simp) _ | refine bstep ?_ (by assumption)))) b0_2)
  replace b0_3 := cell_keep hb2 (cell_keep (by (repeat (first | exact Below.refl _ _ | assumption | refine Below.drew ?_ | refine balloc ?_ _ | refine bset ?_ (by simp; omega) _ | refine bset ?_ (by simp) _ | refine bstep ?_ (by assumption)))) b0_3)
  replace b0_4 := cell_keep hb2 (cell_keep (by (repeat (first | exact Below.refl _ _ | assumption | refine Below.drew ?_ | refine balloc ?_ _ | refine bset ?_ (by simp; omega) _ | refine bset ?_ (by simp) _ | refine bstep ?_ (by assumption)))) b0_4)
  replace b0_5 := cell_keep hb2 (cell_keep (by (repeat (first | exact Below.refl _ _ | assumption | refine Below.drew ?_ | refine balloc ?_ _ | refine bset ?_ (by simp; omega) _ | refine bset ?_ (by simp) _ | refine bstep ?_ (by assumption)))) b0_5)
  clear hb2 hB1
  go_wp2_with fail
  refine (specText_any _ d0 _ (shdR.below (shdR.ofO oS0) (by (repeat (first | exact Below.refl _ _ | assumption | refine Below.drew ?_ | refine balloc ?_ _ | refine bset ?_ (by simp; omega) _ | refine bset ?_ (by simp) _ | refine bstep ?_ (by assumption)))))).mono ?_
  rintro e w3 ⟨rfl, hb3⟩
  have hB3 : Below w.heap.size w w3 := by (repeat (first | exact Below.refl _ _ | assumption | refine Below.drew ?_ | refine balloc ?_ _ | refine bset ?_ (by simp; omega) _ | refine bset ?_ (by simp) _ | refine bstep ?_ (by assumption)))
  replace b0_0 := cell_keep hb3 (cell_keep (by (repeat (first | exact Below.refl _ _ | assumption | refine Below.drew ?_ | refine balloc ?_ _ | refine bset ?_ (by simp; omega) _ | refine bset ?_ (by simp) _ | refine bstep ?_ (by assumption)))) b0_0)
  replace b0_1 := cell_keep hb3 (cell_keep (by (repeat (first | exact Below.refl _ _ | assumption | refine Below.drew ?_ | refine balloc ?_ _ | refine bset ?_ (by simp; omega) _ | refine bset ?_ (by simp) _ | refine bstep ?_ (by assumption)))) b0_1)
  replace b0_2 := cell_keep hb3 (cell_keep (by (repeat (first | exact Below.refl _ _ | assumption | refine Below.drew ?_ | refine balloc ?_ _ | refine bset ?_ (by simp; omega) _ | refine bset ?_ (by simp) _ | refine bstep ?_ (by assumption)))) b0_2)
  replace b0_3 := cell_keep hb3 (cell_keep (by (repeat (first | exact Below.refl _ _ | assumption | refine Below.drew ?_ | refine balloc ?_ _ | refine bset ?_ (by simp; omega) _ | refine bset ?_ (by simp) _ | refine bstep ?_ (by assumption)))) b0_3)
  replace b0_4 := cell_keep hb3 (cell_keep (by (repeat (first | exact Below.refl _ _ | assumption | refine Below.drew ?_ | refine balloc ?_ _ | refine bset ?_ (by simp; omega) _ | refine bset ?_ (by simp) _ | refine bstep ?_ (by assumption)))) b0_4)
  replace b0_5 := cell_keep hb3 (cell_keep (by (repeat (first | exact Below.refl _ _ | assumption | refine Below.drew ?_ | refine balloc ?_ _ | refine bset ?_ (by simp; omega) _ | refine bset ?_ (by simp) _ | refine bstep ?_ (by assumption)))) b0_5)
  clear hb3 hB2 oS0
  have z0 := World.block_lt_of_cell? _ _ b0_0
  dsimp only at z0
  go_wp2_with fail
  refine (toShard_u _ d0 _ (shdR.below hX0 (by (repeat (first | exact Below.refl _ _ | assumption | refine Below.drew ?_ | refine balloc ?_ _ | refine bset ?_ (by simp; omega) _ | refine bset ?_ (by simp) _ | refine bstep ?_ (by assumption))))) (by omega)).mono ?_
  rintro e w4 ⟨vC0, FC0, rfl, oC0, hb4⟩
  have hB4 : Below w.heap.size w w4 := by (repeat (first | exact Below.refl _ _ | assumption | refine Below.drew ?_ | refine balloc ?_ _ | refine bset ?_ (by simp; omega) _ | refine bset ?_ (by simp) _ | refine bstep ?_ (by assumption)))
  have VC0 := shdR.ofO oC0
  have fC0 := VC0
  obtain ⟨uy01, uy02, uy03, uy04, uy05, rfl, huy01, huy02, huy03, huy04, huy05⟩ := fC0
  obtain ⟨ay01, cy01, rfl⟩ := bals_form huy01
  obtain ⟨ay02, cy02, rfl⟩ := mrks_form huy02
  obtain ⟨ay03, cy03, rfl⟩ := conts_form huy03
  obtain ⟨ay04, cy04, rfl⟩ := mrks_form huy04
  obtain ⟨ay05, cy05, rfl⟩ := ints_form huy05
  replace b0_0 := cell_keep hb4 (cell_keep (by (repeat (first | exact Below.refl _ _ | assumption | refine Below.drew ?_ | refine balloc ?_ _ | refine bset ?_ (by simp; omega) _ | refine bset ?_ (by simp) _ | refine bstep ?_ (by assumption)))) b0_0)
  replace b0_1 := cell_keep hb4 (cell_keep (by (repeat (first | exact Below.refl _ _ | assumption | refine Below.drew ?_ | refine balloc ?_ _ | refine bset ?_ (by simp; omega) _ | refine bset ?_ (by simp) _ | refine bstep ?_ (by assumption)))) b0_1)
  replace b0_2 := cell_keep hb4 (cell_keep (by (repeat (first | exact Below.refl _ _ | assumption | refine Below.drew ?_ | refine balloc ?_ _ | refine bset ?_ (by simp; omega) _ | refine bset ?_ (by simp) _ | refine bstep ?_ (by assumption)))) b0_2)
  replace b0_3 := cell_keep hb4 (cell_keep (by (repeat (first | exact Below.refl _ _ | assumption | refine Below.drew ?_ | refine balloc ?_ _ | refine bset ?_ (by simp; omega) _ | refine bset ?_ (by simp) _ | refine bstep ?_ (by assumption)))) b0_3)
  replace b0_4 := cell_keep hb4 (cell_keep (by (repeat (first | exact Below.refl _ _ | assumption | refine Below.drew ?_ | refine balloc ?_ _ | refine bset ?_ (by simp; omega) _ | refine bset ?_ (by simp) _ | refine bstep ?_ (by assumption)))) b0_4)
  replace b0_5 := cell_keep hb4 (cell_keep (by (repeat (first | exact Below.refl _ _ | assumption | refine Below.drew ?_ | refine balloc ?_ _ | refine bset ?_ (by simp; omega) _ | refine bset ?_ (by simp) _ | refine bstep ?_ (by assumption)))) b0_5)
  have q_0 : w4.cell? ⟨w3.heap.size, 0, none⟩ = some (.int .i64 (txtC d0)) := cell_keep hb4 (by simp [go_sem])
  have q_1 : w4.cell? ⟨w3.heap.size, 1, none⟩ = some (.string (txtT d0)) := cell_keep hb4 (by simp [go_sem])
  clear hb4 hB3 oC0
  clear z0
  have z0 := World.block_lt_of_cell? _ _ b0_0
  dsimp only at z0
  have z6 := World.block_lt_of_cell? _ _ q_0
  dsimp only at z6
  go_wp2_with fail
  refine (implText_any _ d0 _ (shdR.below VC0 (by (repeat (first | exact Below.refl _ _ | assumption | refine Below.drew ?_ | refine balloc ?_ _ | refine bset ?_ (by simp; omega) _ | refine bset ?_ (by simp) _ | refine bstep ?_ (by assumption))))) (fun h => txt_ok h) (HTab.out.below (by (repeat (first | exact Below.refl _ _ | assumption | refine Below.drew ?_ | refine balloc ?_ _ | refine bset ?_ (by simp; omega) _ | refine bset ?_ (by simp) _ | refine bstep ?_ (by assumption)))))).mono ?_
  rintro e w5 ⟨rfl, hb5⟩
  have hB5 : Below w.heap.size w w5 := by (repeat (first | exact Below.refl _ _ | assumption | refine Below.drew ?_ | refine balloc ?_ _ | refine bset ?_ (by simp; omega) _ | refine bset ?_ (by simp) _ | refine bstep ?_ (by assumption)))
  replace b0_0 := cell_keep hb5 (cell_keep (by (repeat (first | exact Below.refl _ _ | assumption | refine Below.drew ?_ | refine balloc ?_ _ | refine bset ?_ (by simp; omega) _ | refine bset ?_ (by simp) _ | refine bstep ?_ (by assumption)))) b0_0)
  replace b0_1 := cell_keep hb5 (cell_keep (by (repeat (first | exact Below.refl _ _ | assumption | refine Below.drew ?_ | refine balloc ?_ _ | refine bset ?_ (by simp; omega) _ | refine bset ?_ (by simp) _ | refine bstep ?_ (by assumption)))) b0_1)
  replace b0_2 := cell_keep hb5 (cell_keep (by (repeat (first | exact Below.refl _ _ | assumption | refine Below.drew ?_ | refine balloc ?_ _ | refine bset ?_ (by simp; omega) _ | refine bset ?_ (by simp) _ | refine bstep ?_ (by assumption)))) b0_2)
  replace b0_3 := cell_keep hb5 (cell_keep (by (repeat (first | exact Below.refl _ _ | assumption | refine Below.drew ?_ | refine balloc ?_ _ | refine bset ?_ (by simp; omega) _ | refine bset ?_ (by simp) _ | refine bstep ?_ (by assumption)))) b0_3)
  replace b0_4 := cell_keep hb5 (cell_keep (by (repeat (first | exact Below.refl _ _ | assumption | refine Below.drew ?_ | refine balloc ?_ _ | refine bset ?_ (by simp; omega) _ | refine bset ?_ (by simp) _ | refine bstep ?_ (by assumption)))) b0_4)
  replace b0_5 := cell_keep hb5 (cell_keep (by (repeat (first | exact Below.refl _ _ | assumption | refine Below.drew ?_ | refine balloc ?_ _ | refine bset ?_ (by simp; omega) _ | refine bset ?_ (by simp) _ | refine bstep ?_ (by assumption)))) b0_5)
  replace q_0 := cell_keep hb5 (cell_keep (by (repeat (first | exact Below.refl _ _ | assumption | refine Below.drew ?_ | refine balloc ?_ _ | refine bset ?_ (by simp; omega) _ | refine bset ?_ (by simp) _ | refine bstep ?_ (by assumption)))) q_0)
  replace q_1 := cell_keep hb5 (cell_keep (by (repeat (first | exact Below.refl _ _ | assumption | refine Below.drew ?_ | refine balloc ?_ _ | refine bset ?_ (by simp; omega) _ | refine bset ?_ (by simp) _ | refine bstep ?_ (by assumption)))) q_1)
  have y0_0 : w5.cell? ⟨w4.heap.size, 0, none⟩ = some (.int .i64 d0.idx) := cell_keep hb5 (by simp [go_sem])
  have y0_1 : w5.cell? ⟨w4.heap.size, 1, none⟩ = some (.slice ay01 d0.bals.length cy01) := cell_keep hb5 (by simp [go_sem])
  have y0_2 : w5.cell? ⟨w4.heap.size, 2, none⟩ = some (.slice ay02 d0.votes.length cy02) := cell_keep hb5 (by simp [go_sem])
  have y0_3 : w5.cell? ⟨w4.heap.size, 3, none⟩ = some (.slice ay03 d0.held.length cy03) := cell_keep hb5 (by simp [go_sem])
  have y0_4 : w5.cell? ⟨w4.heap.size, 4, none⟩ = some (.slice ay04 d0.done.length cy04) := cell_keep hb5 (by simp [go_sem])
  have y0_5 : w5.cell? ⟨w4.heap.size, 5, none⟩ = some (.slice ay05 d0.appl.length cy05) := cell_keep hb5 (by simp [go_sem])
  replace VC0 := shdR.below (shdR.below VC0 (by (repeat (first | exact Below.refl _ _ | assumption | refine Below.drew ?_ | refine balloc ?_ _ | refine bset ?_ (by simp; omega) _ | refine bset ?_ (by simp) _ | refine bstep ?_ (by assumption))))) hb5
  clear hb5 hB4
  clear z0 z6
  have z0 := World.block_lt_of_cell? _ _ b0_0
  dsimp only at z0
  have z6 := World.block_lt_of_cell? _ _ q_0
  dsimp only at z6
  have z8 := World.block_lt_of_cell? _ _ y0_0
  dsimp only at z8
  go_wp2_with fail
  refine (eqTextResult_same _ _ _).mono ?_
  rintro e w6 ⟨rfl, hb6⟩
  have hB6 : Below w.heap.size w w6 := by (repeat (first | exact Below.refl _ _ | assumption | refine Below.drew ?_ | refine balloc ?_ _ | refine bset ?_ (by simp; omega) _ | refine bset ?_ (by simp) _ | refine bstep ?_ (by assumption)))
  replace b0_0 := cell_keep hb6 (cell_keep (by (repeat (first | exact Below.refl _ _ | assumption | refine Below.drew ?_ | refine balloc ?_ _ | refine bset ?_ (by simp; omega) _ | refine bset ?_ (by simp) _ | refine bstep ?_ (by assumption)))) b0_0)
  replace b0_1 := cell_keep hb6 (cell_keep (by (repeat (first | exact Below.refl _ _ | assumption | refine Below.drew ?_ | refine balloc ?_ _ | refine bset ?_ (by simp; omega) _ | refine bset ?_ (by simp) _ | refine bstep ?_ (by assumption)))) b0_1)
  replace b0_2 := cell_keep hb6 (cell_keep (by (repeat (first | exact Below.refl _ _ | assumption | refine Below.drew ?_ | refine balloc ?_ _ | refine bset ?_ (by simp; omega) _ | refine bset ?_ (by simp) _ | refine bstep ?_ (by assumption)))) b0_2)
  replace b0_3 := cell_keep hb6 (cell_keep (by (repeat (first | exact Below.refl _ _ | assumption | refine Below.drew ?_ | refine balloc ?_ _ | refine bset ?_ (by simp; omega) _ | refine bset ?_ (by simp) _ | refine bstep ?_ (by assumption)))) b0_3)
  replace b0_4 := cell_keep hb6 (cell_keep (by (repeat (first | exact Below.refl _ _ | assumption | refine Below.drew ?_ | refine balloc ?_ _ | refine bset ?_ (by simp; omega) _ | refine bset ?_ (by simp) _ | refine bstep ?_ (by assumption)))) b0_4)
  replace b0_5 := cell_keep hb6 (cell_keep (by (repeat (first | exact Below.refl _ _ | assumption | refine Below.drew ?_ | refine balloc ?_ _ | refine bset ?_ (by simp; omega) _ | refine bset ?_ (by simp) _ | refine bstep ?_ (by assumption)))) b0_5)
  replace q_0 := cell_keep hb6 (cell_keep (by (repeat (first | exact Below.refl _ _ | assumption | refine Below.drew ?_ | refine balloc ?_ _ | refine bset ?_ (by simp; omega) _ | refine bset ?_ (by simp) _ | refine bstep ?_ (by assumption)))) q_0)
  replace q_1 := cell_keep hb6 (cell_keep (by (repeat (first | exact Below.refl _ _ | assumption | refine Below.drew ?_ | refine balloc ?_ _ | refine bset ?_ (by simp; omega) _ | refine bset ?_ (by simp) _ | refine bstep ?_ (by assumption)))) q_1)
  replace y0_0 := cell_keep hb6 (cell_keep (by (repeat (first | exact Below.refl _ _ | assumption | refine Below.drew ?_ | refine balloc ?_ _ | refine bset ?_ (by simp; omega) _ | refine bset ?_ (by simp) _ | refine bstep ?_ (by assumption)))) y0_0)
  replace y0_1 := cell_keep hb6 (cell_keep (by (repeat (first | exact Below.refl _ _ | assumption | refine Below.drew ?_ | refine balloc ?_ _ | refine bset ?_ (by simp; omega) _ | refine bset ?_ (by simp) _ | refine bstep ?_ (by assumption)))) y0_1)
  replace y0_2 := cell_keep hb6 (cell_keep (by (repeat (first | exact Below.refl _ _ | assumption | refine Below.drew ?_ | refine balloc ?_ _ | refine bset ?_ (by simp; omega) _ | refine bset ?_ (by simp) _ | refine bstep ?_ (by assumption)))) y0_2)
  replace y0_3 := cell_keep hb6 (cell_keep (by (repeat (first | exact Below.refl _ _ | assumption | refine Below.drew ?_ | refine balloc ?_ _ | refine bset ?_ (by simp; omega) _ | refine bset ?_ (by simp) _ | refine bstep ?_ (by assumption)))) y0_3)
  replace y0_4 := cell_keep hb6 (cell_keep (by (repeat (first | exact Below.refl _ _ | assumption | refine Below.drew ?_ | refine balloc ?_ _ | refine bset ?_ (by simp; omega) _ | refine bset ?_ (by simp) _ | refine bstep ?_ (by assumption)))) y0_4)
  replace y0_5 := cell_keep hb6 (cell_keep (by (repeat (first | exact Below.refl _ _ | assumption | refine Below.drew ?_ | refine balloc ?_ _ | refine bset ?_ (by simp; omega) _ | refine bset ?_ (by simp) _ | refine bstep ?_ (by assumption)))) y0_5)
  replace VC0 := shdR.below (shdR.below VC0 (by (repeat (first | exact Below.refl _ _ | assumption | refine Below.drew ?_ | refine balloc ?_ _ | refine bset ?_ (by simp; omega) _ | refine bset ?_ (by simp) _ | refine bstep ?_ (by assumption))))) hb6
  clear hb6 hB5
  clear z0 z6 z8
  have z0 := World.block_lt_of_cell? _ _ b0_0
  dsimp only at z0
  have z6 := World.block_lt_of_cell? _ _ q_0
  dsimp only at z6
  have z8 := World.block_lt_of_cell? _ _ y0_0
  dsimp only at z8
  go_wp2
  go_region_held3 (fun w' => Below w6.heap.size w6 w' ∧ w'.cell? ⟨w.heap.size, 0, none⟩ = some (.int .i64 d0.idx) ∧ w'.cell? ⟨w.heap.size, 1, none⟩ = some (.slice ax01 d0.bals.length cx01) ∧ w'.cell? ⟨w.heap.size, 2, none⟩ = some (.slice ax02 d0.votes.length cx02) ∧ w'.cell? ⟨w.heap.size, 3, none⟩ = some (.slice ax03 d0.held.length cx03) ∧ w'.cell? ⟨w.heap.size, 4, none⟩ = some (.slice ax04 d0.done.length cx04) ∧ w'.cell? ⟨w.heap.size, 5, none⟩ = some (.slice ax05 d0.appl.length cx05) ∧ w'.cell? ⟨w3.heap.size, 0, none⟩ = some (.int .i64 (txtC d0)) ∧ w'.cell? ⟨w3.heap.size, 1, none⟩ = some (.string (txtT d0)) ∧ w'.cell? ⟨w4.heap.size, 0, none⟩ = some (.int .i64 d0.idx) ∧ w'.cell? ⟨w4.heap.size, 1, none⟩ = some (.slice ay01 d0.bals.length cy01) ∧ w'.cell? ⟨w4.heap.size, 2, none⟩ = some (.slice ay02 d0.votes.length cy02) ∧ w'.cell? ⟨w4.heap.size, 3, none⟩ = some (.slice ay03 d0.held.length cy03) ∧ w'.cell? ⟨w4.heap.size, 4, none⟩ = some (.slice ay04 d0.done.length cy04) ∧ w'.cell? ⟨w4.heap.size, 5, none⟩ = some (.slice ay05 d0.appl.length cy05))
    ((refine keepN14 ?_ b0_0 b0_1 b0_2 b0_3 b0_4 b0_5 q_0 q_1 y0_0 y0_1 y0_2 y0_3 y0_4 y0_5; repeat (first | exact Below.refl _ _ | assumption | refine Below.drew ?_ | refine balloc ?_ _ | refine bstep ?_ (by assumption))))
    (first | (go_at_call 6; refine (toShard_u _ d0 _ (shdR.below hX0 (by (repeat (first | exact Below.refl _ _ | assumption | refine Below.drew ?_ | refine balloc ?_ _ | refine bset ?_ (by simp; omega) _ | refine bset ?_ (by simp) _ | refine bstep ?_ (by assumption))))) (by omega)).mono ?_; rintro e wD0 ⟨vD0, FD0, rfl, oD0, hbD0⟩; have fD0 := shdR.ofO oD0; obtain ⟨uz01, uz02, uz03, uz04, uz05, rfl, huz01, huz02, huz03, huz04, huz05⟩ := fD0; obtain ⟨az01, cz01, rfl⟩ := bals_form huz01; obtain ⟨az02, cz02, rfl⟩ := mrks_form huz02; obtain ⟨az03, cz03, rfl⟩ := conts_form huz03; obtain ⟨az04, cz04, rfl⟩ := mrks_form huz04; obtain ⟨az05, cz05, rfl⟩ := ints_form huz05) | (go_at_call 9; refine (eqShard_u _ _ d0 d0 _ (shdR.below VC0 (by (repeat (first | exact Below.refl _ _ | assumption | refine Below.drew ?_ | refine balloc ?_ _ | refine bset ?_ (by simp; omega) _ | refine bset ?_ (by simp) _ | refine bstep ?_ (by assumption))))) (shdR.below (shdR.ofO oD0) (by (repeat (first | exact Below.refl _ _ | assumption | refine Below.drew ?_ | refine balloc ?_ _ | refine bset ?_ (by simp; omega) _ | refine bset ?_ (by simp) _ | refine bstep ?_ (by assumption)))))).mono ?_; rintro e wE0 ⟨rfl, hbE0⟩))
  rename_i hH
  have hBE0 : Below w.heap.size w wE0 := bstep hB6 hH.1
  go_wp2
  go_ret
  exact ⟨rfl, hBE0⟩
end Go.Proofs.YtndghenlapbaaaaGreatDoor.shardTextLaw

