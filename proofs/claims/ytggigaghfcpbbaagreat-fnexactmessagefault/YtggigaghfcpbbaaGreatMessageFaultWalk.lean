import Derived.Test.YtggigaghfcpbbaaGreatPrnMessageFaultLaw14
import Derived.Test.YtggigaghfcpbbaaGreatPrnMessageFaultLaw8
import Derived.Deep.RegionHeld3

/-
  Proved: laws.FnExactMessageFault answers true at every argument, and its arguments read behind the call as they read before. No condition. (The walk.)
-/
set_option linter.unusedSimpArgs false
set_option linter.unusedVariables false
namespace Go.Proofs.YtggigaghfcpbbaaGreat.messageFaultLaw
open Go.RowKit
set_option linter.unusedSectionVars false
variable [DecidableEq Leg] [Inhabited Leg] [DecidableEq Cont] [Inhabited Cont] [DecidableEq Bal] [Inhabited Bal] [DecidableEq Mrk] [Inhabited Mrk] [DecidableEq Shd] [Inhabited Shd] [DecidableEq Vot] [Inhabited Vot] [DecidableEq Slt] [Inhabited Slt] [DecidableEq Acc] [Inhabited Acc] [DecidableEq Trr] [Inhabited Trr] [DecidableEq Hrd] [Inhabited Hrd] [DecidableEq Ldr] [Inhabited Ldr] [DecidableEq Msg] [Inhabited Msg] [DecidableEq Clu] [Inhabited Clu] [DecidableEq Ledg] [Inhabited Ledg]
attribute [local go_sem ↓] Go.wp_at_zero Go.wp_at_succ

theorem clu_formM {w : World} {v : Value} {d : Clu} (h : cluR.V w v d) : ∃ a0 a1 a2 a3 a4 c0 c1 c2 c3 c4, v = .agg #[.slice a0 d.cons.length c0, .slice a1 d.shards.length c1, .slice a2 d.accs.length c2, .slice a3 d.ldrs.length c3, .slice a4 d.msgs.length c4] := by
  obtain ⟨a0, a1, a2, a3, a4, c0, c1, c2, c3, c4, e⟩ := clu_form h
  exact ⟨a0, a1, a2, a3, a4, c0, c1, c2, c3, c4, e⟩
set_option maxHeartbeats 8000000 in
set_option maxRecDepth 20000 in
theorem walk (x : Value) (d : Clu) (m : Msg) (w : World) (hx : cluR.V w x d) :
    Calls Tryz.prog 3 #[x, msgV m] w fun e w' => e = .returned (.bool true) ∧ Below w.heap.size w w' := by
  have hX := hx
  obtain ⟨ax0, ax1, ax2, ax3, ax4, cx0, cx1, cx2, cx3, cx4, rfl⟩ := clu_formM hx
  have em : msgV m = .agg #[.int .i64 m.kind, .int .i64 m.to, .int .i64 m.frm, .int .i64 m.con, .int .i64 m.sh, .int .i64 m.bal, .int .i64 m.val, .int .i64 m.ob, .int .i64 m.ov] := rfl
  rw [em]
  go_enter Tryz.func3, Tryz.ntmps3
  go_wp2_with fail
  refine (szCluster_u _ d 1048576 _ (cluR.below hX (by (repeat (first | exact Below.refl _ _ | assumption | refine Below.drew ?_ | refine balloc ?_ _ | refine bset ?_ (by simp; omega) _ | refine bset ?_ (by simp) _ | refine bstep ?_ (by assumption))))) (by omega) (by omega)).mono ?_
  rintro e w1 ⟨rfl, hb1⟩
  have hB1 : Below w.heap.size w w1 := by (repeat (first | exact Below.refl _ _ | assumption | refine Below.drew ?_ | refine balloc ?_ _ | refine bset ?_ (by simp; omega) _ | refine bset ?_ (by simp) _ | refine bstep ?_ (by assumption)))
  have y0 : w1.cell? ⟨w.heap.size, 0, none⟩ = some (.slice ax0 d.cons.length cx0) := cell_keep hb1 (by simp [go_sem])
  have y1 : w1.cell? ⟨w.heap.size, 1, none⟩ = some (.slice ax1 d.shards.length cx1) := cell_keep hb1 (by simp [go_sem])
  have y2 : w1.cell? ⟨w.heap.size, 2, none⟩ = some (.slice ax2 d.accs.length cx2) := cell_keep hb1 (by simp [go_sem])
  have y3 : w1.cell? ⟨w.heap.size, 3, none⟩ = some (.slice ax3 d.ldrs.length cx3) := cell_keep hb1 (by simp [go_sem])
  have y4 : w1.cell? ⟨w.heap.size, 4, none⟩ = some (.slice ax4 d.msgs.length cx4) := cell_keep hb1 (by simp [go_sem])
  have m0 : w1.cell? ⟨w.heap.size + 1, 0, none⟩ = some (.int .i64 m.kind) := cell_keep hb1 (by simp [go_sem])
  have m1 : w1.cell? ⟨w.heap.size + 1, 1, none⟩ = some (.int .i64 m.to) := cell_keep hb1 (by simp [go_sem])
  have m2 : w1.cell? ⟨w.heap.size + 1, 2, none⟩ = some (.int .i64 m.frm) := cell_keep hb1 (by simp [go_sem])
  have m3 : w1.cell? ⟨w.heap.size + 1, 3, none⟩ = some (.int .i64 m.con) := cell_keep hb1 (by simp [go_sem])
  have m4 : w1.cell? ⟨w.heap.size + 1, 4, none⟩ = some (.int .i64 m.sh) := cell_keep hb1 (by simp [go_sem])
  have m5 : w1.cell? ⟨w.heap.size + 1, 5, none⟩ = some (.int .i64 m.bal) := cell_keep hb1 (by simp [go_sem])
  have m6 : w1.cell? ⟨w.heap.size + 1, 6, none⟩ = some (.int .i64 m.val) := cell_keep hb1 (by simp [go_sem])
  have m7 : w1.cell? ⟨w.heap.size + 1, 7, none⟩ = some (.int .i64 m.ob) := cell_keep hb1 (by simp [go_sem])
  have m8 : w1.cell? ⟨w.heap.size + 1, 8, none⟩ = some (.int .i64 m.ov) := cell_keep hb1 (by simp [go_sem])
  clear hb1
  have zm : w.heap.size + 1 < w1.heap.size := by have h := World.block_lt_of_cell? _ _ m0; dsimp only at h; exact h
  by_cases hsz : 1048576 < wtClu d
  · rw [show szLen 1048576 ((wtClu d : Nat) : Int) = -1 by unfold szLen; rw [if_pos (by omega)]]
    go_wp2
    go_ret
    exact ⟨rfl, by (repeat (first | exact Below.refl _ _ | assumption | refine Below.drew ?_ | refine balloc ?_ _ | refine bset ?_ (by simp; omega) _ | refine bset ?_ (by simp) _ | refine bstep ?_ (by assumption)))⟩
  have e1 : szLen 1048576 ((wtClu d : Nat) : Int) = 1048576 - ((wtClu d : Nat) : Int) := by unfold szLen; rw [if_neg (by omega)]
  have e2 : ¬ (1048576 : Int) - ((wtClu d : Nat) : Int) < 0 := by omega
  rw [e1]
  clear e1
  have HTo : Hid (∀ W, Below w.heap.size w W → Calls Tryz.prog 6 #[.agg #[.slice ax0 d.cons.length cx0, .slice ax1 d.shards.length cx1, .slice ax2 d.accs.length cx2, .slice ax3 d.ldrs.length cx3, .slice ax4 d.msgs.length cx4]] W fun e w' => ∃ v F, e = .returned v ∧ cluR.O w' W.heap.size F v d ∧ Below W.heap.size W w') := fun W hW => toCluster_u _ d W (cluR.below hX hW) (by omega)
  have HTm : Hid (∀ W, Calls Tryz.prog 7 #[.agg #[.int .i64 m.kind, .int .i64 m.to, .int .i64 m.frm, .int .i64 m.con, .int .i64 m.sh, .int .i64 m.bal, .int .i64 m.val, .int .i64 m.ob, .int .i64 m.ov]] W fun e w' => e = .returned (.agg #[.int .i64 m.kind, .int .i64 m.to, .int .i64 m.frm, .int .i64 m.con, .int .i64 m.sh, .int .i64 m.bal, .int .i64 m.val, .int .i64 m.ob, .int .i64 m.ov]) ∧ Below W.heap.size W w') := fun W => toMessage_any m W
  have HSp : Hid (∀ v W, cluR.V W v d → Calls Tryz.prog 5 #[v, .agg #[.int .i64 m.kind, .int .i64 m.to, .int .i64 m.frm, .int .i64 m.con, .int .i64 m.sh, .int .i64 m.bal, .int .i64 m.val, .int .i64 m.ob, .int .i64 m.ov]] W fun e w' => e = .returned (.int .i64 (msgF d m)) ∧ Below W.heap.size W w') := fun v W hv => specMsg_any v d m W hv (by omega)
  have HIm : Hid (∀ v W, cluR.V W v d → Calls Tryz.prog 8 #[v, .agg #[.int .i64 m.kind, .int .i64 m.to, .int .i64 m.frm, .int .i64 m.con, .int .i64 m.sh, .int .i64 m.bal, .int .i64 m.val, .int .i64 m.ob, .int .i64 m.ov]] W fun e w' => e = .returned (.int .i64 (msgF d m)) ∧ Below W.heap.size W w') := fun v W hv => implMsg_any v d m W hv
  generalize msgF d m = Z at *
  clear hX em
  go_wp2
  refine wp_region_noPanic ?_
  refine region_upto (fun W => Below w1.heap.size w1 W ∧ W.cell? ⟨w.heap.size, 0, none⟩ = some (.slice ax0 d.cons.length cx0) ∧ W.cell? ⟨w.heap.size, 1, none⟩ = some (.slice ax1 d.shards.length cx1) ∧ W.cell? ⟨w.heap.size, 2, none⟩ = some (.slice ax2 d.accs.length cx2) ∧ W.cell? ⟨w.heap.size, 3, none⟩ = some (.slice ax3 d.ldrs.length cx3) ∧ W.cell? ⟨w.heap.size, 4, none⟩ = some (.slice ax4 d.msgs.length cx4) ∧ W.cell? ⟨w.heap.size + 1, 0, none⟩ = some (.int .i64 m.kind) ∧ W.cell? ⟨w.heap.size + 1, 1, none⟩ = some (.int .i64 m.to) ∧ W.cell? ⟨w.heap.size + 1, 2, none⟩ = some (.int .i64 m.frm) ∧ W.cell? ⟨w.heap.size + 1, 3, none⟩ = some (.int .i64 m.con) ∧ W.cell? ⟨w.heap.size + 1, 4, none⟩ = some (.int .i64 m.sh) ∧ W.cell? ⟨w.heap.size + 1, 5, none⟩ = some (.int .i64 m.bal) ∧ W.cell? ⟨w.heap.size + 1, 6, none⟩ = some (.int .i64 m.val) ∧ W.cell? ⟨w.heap.size + 1, 7, none⟩ = some (.int .i64 m.ob) ∧ W.cell? ⟨w.heap.size + 1, 8, none⟩ = some (.int .i64 m.ov)) 6 (by kernel_rfl) ⟨by (repeat (first | exact Below.refl _ _ | assumption | refine Below.drew ?_ | refine balloc ?_ _ | refine bset ?_ (by simp; omega) _ | refine bset ?_ (by simp) _ | refine bstep ?_ (by assumption))), cell_keep (by (repeat (first | exact Below.refl _ _ | assumption | refine Below.drew ?_ | refine balloc ?_ _ | refine bset ?_ (by simp; omega) _ | refine bset ?_ (by simp) _ | refine bstep ?_ (by assumption)))) y0, cell_keep (by (repeat (first | exact Below.refl _ _ | assumption | refine Below.drew ?_ | refine balloc ?_ _ | refine bset ?_ (by simp; omega) _ | refine bset ?_ (by simp) _ | refine bstep ?_ (by assumption)))) y1, cell_keep (by (repeat (first | exact Below.refl _ _ | assumption | refine Below.drew ?_ | refine balloc ?_ _ | refine bset ?_ (by simp; omega) _ | refine bset ?_ (by simp) _ | refine bstep ?_ (by assumption)))) y2, cell_keep (by (repeat (first | exact Below.refl _ _ | assumption | refine Below.drew ?_ | refine balloc ?_ _ | refine bset ?_ (by simp; omega) _ | refine bset ?_ (by simp) _ | refine bstep ?_ (by assumption)))) y3, cell_keep (by (repeat (first | exact Below.refl _ _ | assumption | refine Below.drew ?_ | refine balloc ?_ _ | refine bset ?_ (by simp; omega) _ | refine bset ?_ (by simp) _ | refine bstep ?_ (by assumption)))) y4, cell_keep (by (repeat (first | exact Below.refl _ _ | assumption | refine Below.drew ?_ | refine balloc ?_ _ | refine bset ?_ (by simp; omega) _ | refine bset ?_ (by simp) _ | refine bstep ?_ (by assumption)))) m0, cell_keep (by (repeat (first | exact Below.refl _ _ | assumption | refine Below.drew ?_ | refine balloc ?_ _ | refine bset ?_ (by simp; omega) _ | refine bset ?_ (by simp) _ | refine bstep ?_ (by assumption)))) m1, cell_keep (by (repeat (first | exact Below.refl _ _ | assumption | refine Below.drew ?_ | refine balloc ?_ _ | refine bset ?_ (by simp; omega) _ | refine bset ?_ (by simp) _ | refine bstep ?_ (by assumption)))) m2, cell_keep (by (repeat (first | exact Below.refl _ _ | assumption | refine Below.drew ?_ | refine balloc ?_ _ | refine bset ?_ (by simp; omega) _ | refine bset ?_ (by simp) _ | refine bstep ?_ (by assumption)))) m3, cell_keep (by (repeat (first | exact Below.refl _ _ | assumption | refine Below.drew ?_ | refine balloc ?_ _ | refine bset ?_ (by simp; omega) _ | refine bset ?_ (by simp) _ | refine bstep ?_ (by assumption)))) m4, cell_keep (by (repeat (first | exact Below.refl _ _ | assumption | refine Below.drew ?_ | refine balloc ?_ _ | refine bset ?_ (by simp; omega) _ | refine bset ?_ (by simp) _ | refine bstep ?_ (by assumption)))) m5, cell_keep (by (repeat (first | exact Below.refl _ _ | assumption | refine Below.drew ?_ | refine balloc ?_ _ | refine bset ?_ (by simp; omega) _ | refine bset ?_ (by simp) _ | refine bstep ?_ (by assumption)))) m6, cell_keep (by (repeat (first | exact Below.refl _ _ | assumption | refine Below.drew ?_ | refine balloc ?_ _ | refine bset ?_ (by simp; omega) _ | refine bset ?_ (by simp) _ | refine bstep ?_ (by assumption)))) m7, cell_keep (by (repeat (first | exact Below.refl _ _ | assumption | refine Below.drew ?_ | refine balloc ?_ _ | refine bset ?_ (by simp; omega) _ | refine bset ?_ (by simp) _ | refine bstep ?_ (by assumption)))) m8⟩ (fun hS => ?_)
  refine upto_takeN (i := 0) (v := ?_) rfl (by kernel_rfl) (by kernel_rfl) (by kernel_rfl) (by kernel_rfl) (fun _ _ _ h => h) (by rfl) hS ?_ ?_
  rotate_left
  · intro wS hSw
    try dsimp only at hSw
    first | (go_simp; done) | (go_simp; with_reducible rfl)
  try simp only [Act.put, List.getElem_toArray, List.getElem_cons_zero, List.getElem_cons_succ, List.setIfInBounds_toArray, List.set_cons_zero, List.set_cons_succ]
  refine upto_takeN (i := 2) (v := ?_) rfl (by kernel_rfl) (by kernel_rfl) (by kernel_rfl) (by kernel_rfl) (fun _ _ _ h => h) (by rfl) hS ?_ ?_
  rotate_left
  · intro wS hSw
    try dsimp only at hSw
    first | (go_simp; done) | (go_simp; with_reducible rfl)
  try simp only [Act.put, List.getElem_toArray, List.getElem_cons_zero, List.getElem_cons_succ, List.setIfInBounds_toArray, List.set_cons_zero, List.set_cons_succ]
  refine upto_step (i := 1) (by kernel_rfl) rfl ?_
  intro K hK
  go_simp
  refine (HTo.out _ (bstep hB1 (by (repeat (first | exact Below.refl _ _ | assumption | refine Below.drew ?_ | refine balloc ?_ _ | refine bset ?_ (by simp; omega) _ | refine bset ?_ (by simp) _ | refine bstep ?_ (by assumption)))))).mono ?_
  rintro e w2 ⟨v2, F2, rfl, o2, hb2⟩
  have hB2 : Below w1.heap.size w1 w2 := bstep (by (repeat (first | exact Below.refl _ _ | assumption | refine Below.drew ?_ | refine balloc ?_ _ | refine bset ?_ (by simp; omega) _ | refine bset ?_ (by simp) _ | refine bstep ?_ (by assumption)))) hb2
  have HO2 : Hid (cluR.V w2 v2 d) := cluR.ofO o2
  have o2' := cluR.ofO o2
  obtain ⟨as0, as1, as2, as3, as4, cs0, cs1, cs2, cs3, cs4, rfl⟩ := clu_formM o2'
  have hS2 : (fun W => Below w1.heap.size w1 W ∧ W.cell? ⟨w.heap.size, 0, none⟩ = some (.slice ax0 d.cons.length cx0) ∧ W.cell? ⟨w.heap.size, 1, none⟩ = some (.slice ax1 d.shards.length cx1) ∧ W.cell? ⟨w.heap.size, 2, none⟩ = some (.slice ax2 d.accs.length cx2) ∧ W.cell? ⟨w.heap.size, 3, none⟩ = some (.slice ax3 d.ldrs.length cx3) ∧ W.cell? ⟨w.heap.size, 4, none⟩ = some (.slice ax4 d.msgs.length cx4) ∧ W.cell? ⟨w.heap.size + 1, 0, none⟩ = some (.int .i64 m.kind) ∧ W.cell? ⟨w.heap.size + 1, 1, none⟩ = some (.int .i64 m.to) ∧ W.cell? ⟨w.heap.size + 1, 2, none⟩ = some (.int .i64 m.frm) ∧ W.cell? ⟨w.heap.size + 1, 3, none⟩ = some (.int .i64 m.con) ∧ W.cell? ⟨w.heap.size + 1, 4, none⟩ = some (.int .i64 m.sh) ∧ W.cell? ⟨w.heap.size + 1, 5, none⟩ = some (.int .i64 m.bal) ∧ W.cell? ⟨w.heap.size + 1, 6, none⟩ = some (.int .i64 m.val) ∧ W.cell? ⟨w.heap.size + 1, 7, none⟩ = some (.int .i64 m.ob) ∧ W.cell? ⟨w.heap.size + 1, 8, none⟩ = some (.int .i64 m.ov)) w2 := ⟨hB2, cell_keep hB2 y0, cell_keep hB2 y1, cell_keep hB2 y2, cell_keep hB2 y3, cell_keep hB2 y4, cell_keep hB2 m0, cell_keep hB2 m1, cell_keep hB2 m2, cell_keep hB2 m3, cell_keep hB2 m4, cell_keep hB2 m5, cell_keep hB2 m6, cell_keep hB2 m7, cell_keep hB2 m8⟩
  refine hK _ _ (fun _ => hS2) ?_
  clear hK K o2 hb2
  try simp only [Act.put, List.getElem_toArray, List.getElem_cons_zero, List.getElem_cons_succ, List.setIfInBounds_toArray, List.set_cons_zero, List.set_cons_succ]
  refine upto_step (i := 3) (by kernel_rfl) rfl ?_
  intro K hK
  go_simp
  refine (HTm.out _).mono ?_
  rintro e w3 ⟨rfl, hb3⟩
  have hB3 : Below w1.heap.size w1 w3 := bstep hB2 hb3
  have HO3 : Hid (cluR.V w3 (.agg #[.slice as0 d.cons.length cs0, .slice as1 d.shards.length cs1, .slice as2 d.accs.length cs2, .slice as3 d.ldrs.length cs3, .slice as4 d.msgs.length cs4]) d) := cluR.below HO2.out hb3
  have hS3 : (fun W => Below w1.heap.size w1 W ∧ W.cell? ⟨w.heap.size, 0, none⟩ = some (.slice ax0 d.cons.length cx0) ∧ W.cell? ⟨w.heap.size, 1, none⟩ = some (.slice ax1 d.shards.length cx1) ∧ W.cell? ⟨w.heap.size, 2, none⟩ = some (.slice ax2 d.accs.length cx2) ∧ W.cell? ⟨w.heap.size, 3, none⟩ = some (.slice ax3 d.ldrs.length cx3) ∧ W.cell? ⟨w.heap.size, 4, none⟩ = some (.slice ax4 d.msgs.length cx4) ∧ W.cell? ⟨w.heap.size + 1, 0, none⟩ = some (.int .i64 m.kind) ∧ W.cell? ⟨w.heap.size + 1, 1, none⟩ = some (.int .i64 m.to) ∧ W.cell? ⟨w.heap.size + 1, 2, none⟩ = some (.int .i64 m.frm) ∧ W.cell? ⟨w.heap.size + 1, 3, none⟩ = some (.int .i64 m.con) ∧ W.cell? ⟨w.heap.size + 1, 4, none⟩ = some (.int .i64 m.sh) ∧ W.cell? ⟨w.heap.size + 1, 5, none⟩ = some (.int .i64 m.bal) ∧ W.cell? ⟨w.heap.size + 1, 6, none⟩ = some (.int .i64 m.val) ∧ W.cell? ⟨w.heap.size + 1, 7, none⟩ = some (.int .i64 m.ob) ∧ W.cell? ⟨w.heap.size + 1, 8, none⟩ = some (.int .i64 m.ov)) w3 := ⟨hB3, cell_keep hB3 y0, cell_keep hB3 y1, cell_keep hB3 y2, cell_keep hB3 y3, cell_keep hB3 y4, cell_keep hB3 m0, cell_keep hB3 m1, cell_keep hB3 m2, cell_keep hB3 m3, cell_keep hB3 m4, cell_keep hB3 m5, cell_keep hB3 m6, cell_keep hB3 m7, cell_keep hB3 m8⟩
  refine hK _ _ (fun _ => hS3) ?_
  clear hK K hb3
  try simp only [Act.put, List.getElem_toArray, List.getElem_cons_zero, List.getElem_cons_succ, List.setIfInBounds_toArray, List.set_cons_zero, List.set_cons_succ]
  refine upto_step (i := 4) (by kernel_rfl) rfl ?_
  intro K hK
  go_simp
  refine (HSp.out _ _ HO3.out).mono ?_
  rintro e w4 ⟨rfl, hb4⟩
  have hB4 : Below w1.heap.size w1 w4 := bstep hB3 hb4
  have hS4 : (fun W => Below w1.heap.size w1 W ∧ W.cell? ⟨w.heap.size, 0, none⟩ = some (.slice ax0 d.cons.length cx0) ∧ W.cell? ⟨w.heap.size, 1, none⟩ = some (.slice ax1 d.shards.length cx1) ∧ W.cell? ⟨w.heap.size, 2, none⟩ = some (.slice ax2 d.accs.length cx2) ∧ W.cell? ⟨w.heap.size, 3, none⟩ = some (.slice ax3 d.ldrs.length cx3) ∧ W.cell? ⟨w.heap.size, 4, none⟩ = some (.slice ax4 d.msgs.length cx4) ∧ W.cell? ⟨w.heap.size + 1, 0, none⟩ = some (.int .i64 m.kind) ∧ W.cell? ⟨w.heap.size + 1, 1, none⟩ = some (.int .i64 m.to) ∧ W.cell? ⟨w.heap.size + 1, 2, none⟩ = some (.int .i64 m.frm) ∧ W.cell? ⟨w.heap.size + 1, 3, none⟩ = some (.int .i64 m.con) ∧ W.cell? ⟨w.heap.size + 1, 4, none⟩ = some (.int .i64 m.sh) ∧ W.cell? ⟨w.heap.size + 1, 5, none⟩ = some (.int .i64 m.bal) ∧ W.cell? ⟨w.heap.size + 1, 6, none⟩ = some (.int .i64 m.val) ∧ W.cell? ⟨w.heap.size + 1, 7, none⟩ = some (.int .i64 m.ob) ∧ W.cell? ⟨w.heap.size + 1, 8, none⟩ = some (.int .i64 m.ov)) w4 := ⟨hB4, cell_keep hB4 y0, cell_keep hB4 y1, cell_keep hB4 y2, cell_keep hB4 y3, cell_keep hB4 y4, cell_keep hB4 m0, cell_keep hB4 m1, cell_keep hB4 m2, cell_keep hB4 m3, cell_keep hB4 m4, cell_keep hB4 m5, cell_keep hB4 m6, cell_keep hB4 m7, cell_keep hB4 m8⟩
  refine hK _ _ (fun _ => hS4) ?_
  clear hK K hb4
  try simp only [Act.put, List.getElem_toArray, List.getElem_cons_zero, List.getElem_cons_succ, List.setIfInBounds_toArray, List.set_cons_zero, List.set_cons_succ]
  refine upto_takeN (i := 5) (v := ?_) rfl (by kernel_rfl) (by kernel_rfl) (by kernel_rfl) (by kernel_rfl) (fun _ _ _ h => h) (by rfl) hS4 ?_ ?_
  rotate_left
  · intro wS hSw
    try dsimp only at hSw
    first | (go_simp; done) | (go_simp; with_reducible rfl)
  try simp only [Act.put, List.getElem_toArray, List.getElem_cons_zero, List.getElem_cons_succ, List.setIfInBounds_toArray, List.set_cons_zero, List.set_cons_succ]
  refine upto_done (by kernel_rfl) ?_
  refine NoPanic.normal ?_
  replace y0 := cell_keep hB4 y0
  replace y1 := cell_keep hB4 y1
  replace y2 := cell_keep hB4 y2
  replace y3 := cell_keep hB4 y3
  replace y4 := cell_keep hB4 y4
  replace m0 := cell_keep hB4 m0
  replace m1 := cell_keep hB4 m1
  replace m2 := cell_keep hB4 m2
  replace m3 := cell_keep hB4 m3
  replace m4 := cell_keep hB4 m4
  replace m5 := cell_keep hB4 m5
  replace m6 := cell_keep hB4 m6
  replace m7 := cell_keep hB4 m7
  replace m8 := cell_keep hB4 m8
  have hBw4 : Below w.heap.size w w4 := bstep hB1 hB4
  have zm4 : w.heap.size + 1 < w4.heap.size := by have := hB4.size; omega
  clear hS hS2 hS3 hS4 hB2 hB3 hB4 HO2 HO3 hB1 zm HSp
  go_wp2_with fail
  refine (HTo.out _ hBw4).mono ?_
  rintro e w5 ⟨v5, F5, rfl, o5, hb5⟩
  have hB5 : Below w.heap.size w w5 := bstep hBw4 hb5
  have HO5 : Hid (cluR.V w5 v5 d) := cluR.ofO o5
  have o5' := cluR.ofO o5
  obtain ⟨aq0, aq1, aq2, aq3, aq4, cq0, cq1, cq2, cq3, cq4, rfl⟩ := clu_formM o5'
  replace y0 := cell_keep hb5 y0
  replace y1 := cell_keep hb5 y1
  replace y2 := cell_keep hb5 y2
  replace y3 := cell_keep hb5 y3
  replace y4 := cell_keep hb5 y4
  replace m0 := cell_keep hb5 m0
  replace m1 := cell_keep hb5 m1
  replace m2 := cell_keep hb5 m2
  replace m3 := cell_keep hb5 m3
  replace m4 := cell_keep hb5 m4
  replace m5 := cell_keep hb5 m5
  replace m6 := cell_keep hb5 m6
  replace m7 := cell_keep hb5 m7
  replace m8 := cell_keep hb5 m8
  have zm5 : w.heap.size + 1 < w5.heap.size := by have := hb5.size; omega
  clear o5 hb5 hBw4 zm4
  go_wp2
  refine wp_region_noPanic ?_
  refine region_upto (fun W => Below w5.heap.size w5 W ∧ W.cell? ⟨w5.heap.size, 0, none⟩ = some (.slice aq0 d.cons.length cq0) ∧ W.cell? ⟨w5.heap.size, 1, none⟩ = some (.slice aq1 d.shards.length cq1) ∧ W.cell? ⟨w5.heap.size, 2, none⟩ = some (.slice aq2 d.accs.length cq2) ∧ W.cell? ⟨w5.heap.size, 3, none⟩ = some (.slice aq3 d.ldrs.length cq3) ∧ W.cell? ⟨w5.heap.size, 4, none⟩ = some (.slice aq4 d.msgs.length cq4) ∧ W.cell? ⟨w.heap.size + 1, 0, none⟩ = some (.int .i64 m.kind) ∧ W.cell? ⟨w.heap.size + 1, 1, none⟩ = some (.int .i64 m.to) ∧ W.cell? ⟨w.heap.size + 1, 2, none⟩ = some (.int .i64 m.frm) ∧ W.cell? ⟨w.heap.size + 1, 3, none⟩ = some (.int .i64 m.con) ∧ W.cell? ⟨w.heap.size + 1, 4, none⟩ = some (.int .i64 m.sh) ∧ W.cell? ⟨w.heap.size + 1, 5, none⟩ = some (.int .i64 m.bal) ∧ W.cell? ⟨w.heap.size + 1, 6, none⟩ = some (.int .i64 m.val) ∧ W.cell? ⟨w.heap.size + 1, 7, none⟩ = some (.int .i64 m.ob) ∧ W.cell? ⟨w.heap.size + 1, 8, none⟩ = some (.int .i64 m.ov)) 5 (by kernel_rfl) ⟨by (repeat (first | exact Below.refl _ _ | assumption | refine Below.drew ?_ | refine balloc ?_ _ | refine bset ?_ (by simp; omega) _ | refine bset ?_ (by simp) _ | refine bstep ?_ (by assumption))), by simp [go_sem], by simp [go_sem], by simp [go_sem], by simp [go_sem], by simp [go_sem], cell_keep (by (repeat (first | exact Below.refl _ _ | assumption | refine Below.drew ?_ | refine balloc ?_ _ | refine bset ?_ (by simp; omega) _ | refine bset ?_ (by simp) _ | refine bstep ?_ (by assumption)))) m0, cell_keep (by (repeat (first | exact Below.refl _ _ | assumption | refine Below.drew ?_ | refine balloc ?_ _ | refine bset ?_ (by simp; omega) _ | refine bset ?_ (by simp) _ | refine bstep ?_ (by assumption)))) m1, cell_keep (by (repeat (first | exact Below.refl _ _ | assumption | refine Below.drew ?_ | refine balloc ?_ _ | refine bset ?_ (by simp; omega) _ | refine bset ?_ (by simp) _ | refine bstep ?_ (by assumption)))) m2, cell_keep (by (repeat (first | exact Below.refl _ _ | assumption | refine Below.drew ?_ | refine balloc ?_ _ | refine bset ?_ (by simp; omega) _ | refine bset ?_ (by simp) _ | refine bstep ?_ (by assumption)))) m3, cell_keep (by (repeat (first | exact Below.refl _ _ | assumption | refine Below.drew ?_ | refine balloc ?_ _ | refine bset ?_ (by simp; omega) _ | refine bset ?_ (by simp) _ | refine bstep ?_ (by assumption)))) m4, cell_keep (by (repeat (first | exact Below.refl _ _ | assumption | refine Below.drew ?_ | refine balloc ?_ _ | refine bset ?_ (by simp; omega) _ | refine bset ?_ (by simp) _ | refine bstep ?_ (by assumption)))) m5, cell_keep (by (repeat (first | exact Below.refl _ _ | assumption | refine Below.drew ?_ | refine balloc ?_ _ | refine bset ?_ (by simp; omega) _ | refine bset ?_ (by simp) _ | refine bstep ?_ (by assumption)))) m6, cell_keep (by (repeat (first | exact Below.refl _ _ | assumption | refine Below.drew ?_ | refine balloc ?_ _ | refine bset ?_ (by simp; omega) _ | refine bset ?_ (by simp) _ | refine bstep ?_ (by assumption)))) m7, cell_keep (by (repeat (first | exact Below.refl _ _ | assumption | refine Below.drew ?_ | refine balloc ?_ _ | refine bset ?_ (by simp; omega) _ | refine bset ?_ (by simp) _ | refine bstep ?_ (by assumption)))) m8⟩ (fun hS => ?_)
  refine upto_takeN (i := 0) (v := ?_) rfl (by kernel_rfl) (by kernel_rfl) (by kernel_rfl) (by kernel_rfl) (fun _ _ _ h => h) (by rfl) hS ?_ ?_
  rotate_left
  · intro wS hSw
    try dsimp only at hSw
    first | (go_simp; done) | (go_simp; with_reducible rfl)
  try simp only [Act.put, List.getElem_toArray, List.getElem_cons_zero, List.getElem_cons_succ, List.setIfInBounds_toArray, List.set_cons_zero, List.set_cons_succ]
  refine upto_takeN (i := 1) (v := ?_) rfl (by kernel_rfl) (by kernel_rfl) (by kernel_rfl) (by kernel_rfl) (fun _ _ _ h => h) (by rfl) hS ?_ ?_
  rotate_left
  · intro wS hSw
    try dsimp only at hSw
    first | (go_simp; done) | (go_simp; with_reducible rfl)
  try simp only [Act.put, List.getElem_toArray, List.getElem_cons_zero, List.getElem_cons_succ, List.setIfInBounds_toArray, List.set_cons_zero, List.set_cons_succ]
  have hBa : Below w5.heap.size w5 (w5.alloc (.cells #[.slice aq0 d.cons.length cq0, .slice aq1 d.shards.length cq1, .slice aq2 d.accs.length cq2, .slice aq3 d.ldrs.length cq3, .slice aq4 d.msgs.length cq4] 41)).drew := by (repeat (first | exact Below.refl _ _ | assumption | refine Below.drew ?_ | refine balloc ?_ _ | refine bset ?_ (by simp; omega) _ | refine bset ?_ (by simp) _ | refine bstep ?_ (by assumption)))
  have hSa := hS
  refine upto_step (i := 2) (by kernel_rfl) rfl ?_
  intro K hK
  go_simp
  refine (HTm.out _).mono ?_
  rintro e w6 ⟨rfl, hb6⟩
  have hB6 : Below w5.heap.size w5 w6 := bstep hBa hb6
  have hS6 : (fun W => Below w5.heap.size w5 W ∧ W.cell? ⟨w5.heap.size, 0, none⟩ = some (.slice aq0 d.cons.length cq0) ∧ W.cell? ⟨w5.heap.size, 1, none⟩ = some (.slice aq1 d.shards.length cq1) ∧ W.cell? ⟨w5.heap.size, 2, none⟩ = some (.slice aq2 d.accs.length cq2) ∧ W.cell? ⟨w5.heap.size, 3, none⟩ = some (.slice aq3 d.ldrs.length cq3) ∧ W.cell? ⟨w5.heap.size, 4, none⟩ = some (.slice aq4 d.msgs.length cq4) ∧ W.cell? ⟨w.heap.size + 1, 0, none⟩ = some (.int .i64 m.kind) ∧ W.cell? ⟨w.heap.size + 1, 1, none⟩ = some (.int .i64 m.to) ∧ W.cell? ⟨w.heap.size + 1, 2, none⟩ = some (.int .i64 m.frm) ∧ W.cell? ⟨w.heap.size + 1, 3, none⟩ = some (.int .i64 m.con) ∧ W.cell? ⟨w.heap.size + 1, 4, none⟩ = some (.int .i64 m.sh) ∧ W.cell? ⟨w.heap.size + 1, 5, none⟩ = some (.int .i64 m.bal) ∧ W.cell? ⟨w.heap.size + 1, 6, none⟩ = some (.int .i64 m.val) ∧ W.cell? ⟨w.heap.size + 1, 7, none⟩ = some (.int .i64 m.ob) ∧ W.cell? ⟨w.heap.size + 1, 8, none⟩ = some (.int .i64 m.ov)) w6 := ⟨hB6, cell_keep hb6 (hSa.2.1), cell_keep hb6 (hSa.2.2.1), cell_keep hb6 (hSa.2.2.2.1), cell_keep hb6 (hSa.2.2.2.2.1), cell_keep hb6 (hSa.2.2.2.2.2.1), cell_keep hb6 (hSa.2.2.2.2.2.2.1), cell_keep hb6 (hSa.2.2.2.2.2.2.2.1), cell_keep hb6 (hSa.2.2.2.2.2.2.2.2.1), cell_keep hb6 (hSa.2.2.2.2.2.2.2.2.2.1), cell_keep hb6 (hSa.2.2.2.2.2.2.2.2.2.2.1), cell_keep hb6 (hSa.2.2.2.2.2.2.2.2.2.2.2.1), cell_keep hb6 (hSa.2.2.2.2.2.2.2.2.2.2.2.2.1), cell_keep hb6 (hSa.2.2.2.2.2.2.2.2.2.2.2.2.2.1), cell_keep hb6 (hSa.2.2.2.2.2.2.2.2.2.2.2.2.2.2)⟩
  refine hK _ _ (fun _ => hS6) ?_
  clear hK K hb6
  try simp only [Act.put, List.getElem_toArray, List.getElem_cons_zero, List.getElem_cons_succ, List.setIfInBounds_toArray, List.set_cons_zero, List.set_cons_succ]
  refine upto_step (i := 3) (by kernel_rfl) rfl ?_
  intro K hK
  go_simp
  refine (HIm.out _ _ (cluR.below HO5.out hB6)).mono ?_
  rintro e w7 ⟨rfl, hb7⟩
  have hB7 : Below w5.heap.size w5 w7 := bstep hB6 hb7
  have hS7 : (fun W => Below w5.heap.size w5 W ∧ W.cell? ⟨w5.heap.size, 0, none⟩ = some (.slice aq0 d.cons.length cq0) ∧ W.cell? ⟨w5.heap.size, 1, none⟩ = some (.slice aq1 d.shards.length cq1) ∧ W.cell? ⟨w5.heap.size, 2, none⟩ = some (.slice aq2 d.accs.length cq2) ∧ W.cell? ⟨w5.heap.size, 3, none⟩ = some (.slice aq3 d.ldrs.length cq3) ∧ W.cell? ⟨w5.heap.size, 4, none⟩ = some (.slice aq4 d.msgs.length cq4) ∧ W.cell? ⟨w.heap.size + 1, 0, none⟩ = some (.int .i64 m.kind) ∧ W.cell? ⟨w.heap.size + 1, 1, none⟩ = some (.int .i64 m.to) ∧ W.cell? ⟨w.heap.size + 1, 2, none⟩ = some (.int .i64 m.frm) ∧ W.cell? ⟨w.heap.size + 1, 3, none⟩ = some (.int .i64 m.con) ∧ W.cell? ⟨w.heap.size + 1, 4, none⟩ = some (.int .i64 m.sh) ∧ W.cell? ⟨w.heap.size + 1, 5, none⟩ = some (.int .i64 m.bal) ∧ W.cell? ⟨w.heap.size + 1, 6, none⟩ = some (.int .i64 m.val) ∧ W.cell? ⟨w.heap.size + 1, 7, none⟩ = some (.int .i64 m.ob) ∧ W.cell? ⟨w.heap.size + 1, 8, none⟩ = some (.int .i64 m.ov)) w7 := ⟨hB7, cell_keep hb7 (hS6.2.1), cell_keep hb7 (hS6.2.2.1), cell_keep hb7 (hS6.2.2.2.1), cell_keep hb7 (hS6.2.2.2.2.1), cell_keep hb7 (hS6.2.2.2.2.2.1), cell_keep hb7 (hS6.2.2.2.2.2.2.1), cell_keep hb7 (hS6.2.2.2.2.2.2.2.1), cell_keep hb7 (hS6.2.2.2.2.2.2.2.2.1), cell_keep hb7 (hS6.2.2.2.2.2.2.2.2.2.1), cell_keep hb7 (hS6.2.2.2.2.2.2.2.2.2.2.1), cell_keep hb7 (hS6.2.2.2.2.2.2.2.2.2.2.2.1), cell_keep hb7 (hS6.2.2.2.2.2.2.2.2.2.2.2.2.1), cell_keep hb7 (hS6.2.2.2.2.2.2.2.2.2.2.2.2.2.1), cell_keep hb7 (hS6.2.2.2.2.2.2.2.2.2.2.2.2.2.2)⟩
  refine hK _ _ (fun _ => hS7) ?_
  clear hK K hb7
  try simp only [Act.put, List.getElem_toArray, List.getElem_cons_zero, List.getElem_cons_succ, List.setIfInBounds_toArray, List.set_cons_zero, List.set_cons_succ]
  refine upto_takeN (i := 4) (v := ?_) rfl (by kernel_rfl) (by kernel_rfl) (by kernel_rfl) (by kernel_rfl) (fun _ _ _ h => h) (by rfl) hS7 ?_ ?_
  rotate_left
  · intro wS hSw
    try dsimp only at hSw
    first | (go_simp; done) | (go_simp; with_reducible rfl)
  try simp only [Act.put, List.getElem_toArray, List.getElem_cons_zero, List.getElem_cons_succ, List.setIfInBounds_toArray, List.set_cons_zero, List.set_cons_succ]
  refine upto_done (by kernel_rfl) ?_
  refine NoPanic.normal ?_
  obtain ⟨_, q0, q1, q2, q3, q4, _, _, _, _, _, _, _, _, _⟩ := hS7
  replace y0 := cell_keep hB7 y0
  replace y1 := cell_keep hB7 y1
  replace y2 := cell_keep hB7 y2
  replace y3 := cell_keep hB7 y3
  replace y4 := cell_keep hB7 y4
  have hBw7 : Below w.heap.size w w7 := bstep hB5 hB7
  have HO7 : Hid (cluR.V w7 (.agg #[.slice aq0 d.cons.length cq0, .slice aq1 d.shards.length cq1, .slice aq2 d.accs.length cq2, .slice aq3 d.ldrs.length cq3, .slice aq4 d.msgs.length cq4]) d) := cluR.below HO5.out hB7
  have HZ : Hid (Z = Z) := rfl
  clear hS hSa hS6 hB6 hB7 HO5 hBa hB5 HIm HTm m0 m1 m2 m3 m4 m5 m6 m7 m8
  have hzz : (Z != Z) = false := by simp
  go_wp2
  refine wp_region_noPanic ?_
  refine region_upto (fun W => Below w7.heap.size w7 W ∧ W.cell? ⟨w5.heap.size, 0, none⟩ = some (.slice aq0 d.cons.length cq0) ∧ W.cell? ⟨w5.heap.size, 1, none⟩ = some (.slice aq1 d.shards.length cq1) ∧ W.cell? ⟨w5.heap.size, 2, none⟩ = some (.slice aq2 d.accs.length cq2) ∧ W.cell? ⟨w5.heap.size, 3, none⟩ = some (.slice aq3 d.ldrs.length cq3) ∧ W.cell? ⟨w5.heap.size, 4, none⟩ = some (.slice aq4 d.msgs.length cq4) ∧ W.cell? ⟨w.heap.size, 0, none⟩ = some (.slice ax0 d.cons.length cx0) ∧ W.cell? ⟨w.heap.size, 1, none⟩ = some (.slice ax1 d.shards.length cx1) ∧ W.cell? ⟨w.heap.size, 2, none⟩ = some (.slice ax2 d.accs.length cx2) ∧ W.cell? ⟨w.heap.size, 3, none⟩ = some (.slice ax3 d.ldrs.length cx3) ∧ W.cell? ⟨w.heap.size, 4, none⟩ = some (.slice ax4 d.msgs.length cx4)) 5 (by kernel_rfl) ⟨by (repeat (first | exact Below.refl _ _ | assumption | refine Below.drew ?_ | refine balloc ?_ _ | refine bset ?_ (by simp; omega) _ | refine bset ?_ (by simp) _ | refine bstep ?_ (by assumption))), cell_keep (by (repeat (first | exact Below.refl _ _ | assumption | refine Below.drew ?_ | refine balloc ?_ _ | refine bset ?_ (by simp; omega) _ | refine bset ?_ (by simp) _ | refine bstep ?_ (by assumption)))) q0, cell_keep (by (repeat (first | exact Below.refl _ _ | assumption | refine Below.drew ?_ | refine balloc ?_ _ | refine bset ?_ (by simp; omega) _ | refine bset ?_ (by simp) _ | refine bstep ?_ (by assumption)))) q1, cell_keep (by (repeat (first | exact Below.refl _ _ | assumption | refine Below.drew ?_ | refine balloc ?_ _ | refine bset ?_ (by simp; omega) _ | refine bset ?_ (by simp) _ | refine bstep ?_ (by assumption)))) q2, cell_keep (by (repeat (first | exact Below.refl _ _ | assumption | refine Below.drew ?_ | refine balloc ?_ _ | refine bset ?_ (by simp; omega) _ | refine bset ?_ (by simp) _ | refine bstep ?_ (by assumption)))) q3, cell_keep (by (repeat (first | exact Below.refl _ _ | assumption | refine Below.drew ?_ | refine balloc ?_ _ | refine bset ?_ (by simp; omega) _ | refine bset ?_ (by simp) _ | refine bstep ?_ (by assumption)))) q4, cell_keep (by (repeat (first | exact Below.refl _ _ | assumption | refine Below.drew ?_ | refine balloc ?_ _ | refine bset ?_ (by simp; omega) _ | refine bset ?_ (by simp) _ | refine bstep ?_ (by assumption)))) y0, cell_keep (by (repeat (first | exact Below.refl _ _ | assumption | refine Below.drew ?_ | refine balloc ?_ _ | refine bset ?_ (by simp; omega) _ | refine bset ?_ (by simp) _ | refine bstep ?_ (by assumption)))) y1, cell_keep (by (repeat (first | exact Below.refl _ _ | assumption | refine Below.drew ?_ | refine balloc ?_ _ | refine bset ?_ (by simp; omega) _ | refine bset ?_ (by simp) _ | refine bstep ?_ (by assumption)))) y2, cell_keep (by (repeat (first | exact Below.refl _ _ | assumption | refine Below.drew ?_ | refine balloc ?_ _ | refine bset ?_ (by simp; omega) _ | refine bset ?_ (by simp) _ | refine bstep ?_ (by assumption)))) y3, cell_keep (by (repeat (first | exact Below.refl _ _ | assumption | refine Below.drew ?_ | refine balloc ?_ _ | refine bset ?_ (by simp; omega) _ | refine bset ?_ (by simp) _ | refine bstep ?_ (by assumption)))) y4⟩ (fun hS => ?_)
  refine upto_takeN (i := 0) (v := ?_) rfl (by kernel_rfl) (by kernel_rfl) (by kernel_rfl) (by kernel_rfl) (fun _ _ _ h => h) (by rfl) hS ?_ ?_
  rotate_left
  · intro wS hSw
    try dsimp only at hSw
    first | (go_simp; done) | (go_simp; with_reducible rfl)
  try simp only [Act.put, List.getElem_toArray, List.getElem_cons_zero, List.getElem_cons_succ, List.setIfInBounds_toArray, List.set_cons_zero, List.set_cons_succ]
  refine upto_takeN (i := 1) (v := ?_) rfl (by kernel_rfl) (by kernel_rfl) (by kernel_rfl) (by kernel_rfl) (fun _ _ _ h => h) (by rfl) hS ?_ ?_
  rotate_left
  · intro wS hSw
    try dsimp only at hSw
    first | (go_simp; done) | (go_simp; with_reducible rfl)
  try simp only [Act.put, List.getElem_toArray, List.getElem_cons_zero, List.getElem_cons_succ, List.setIfInBounds_toArray, List.set_cons_zero, List.set_cons_succ]
  refine upto_step (i := 2) (by kernel_rfl) rfl ?_
  intro K hK
  go_simp
  refine (HTo.out _ (bstep hBw7 (by (repeat (first | exact Below.refl _ _ | assumption | refine Below.drew ?_ | refine balloc ?_ _ | refine bset ?_ (by simp; omega) _ | refine bset ?_ (by simp) _ | refine bstep ?_ (by assumption)))))).mono ?_
  rintro e w8 ⟨v8, F8, rfl, o8, hb8⟩
  have hB8 : Below w7.heap.size w7 w8 := bstep (by (repeat (first | exact Below.refl _ _ | assumption | refine Below.drew ?_ | refine balloc ?_ _ | refine bset ?_ (by simp; omega) _ | refine bset ?_ (by simp) _ | refine bstep ?_ (by assumption)))) hb8
  have HO8 : Hid (cluR.V w8 v8 d) := cluR.ofO o8
  have o8' := cluR.ofO o8
  obtain ⟨at0, at1, at2, at3, at4, ct0, ct1, ct2, ct3, ct4, rfl⟩ := clu_formM o8'
  have hS8 : (fun W => Below w7.heap.size w7 W ∧ W.cell? ⟨w5.heap.size, 0, none⟩ = some (.slice aq0 d.cons.length cq0) ∧ W.cell? ⟨w5.heap.size, 1, none⟩ = some (.slice aq1 d.shards.length cq1) ∧ W.cell? ⟨w5.heap.size, 2, none⟩ = some (.slice aq2 d.accs.length cq2) ∧ W.cell? ⟨w5.heap.size, 3, none⟩ = some (.slice aq3 d.ldrs.length cq3) ∧ W.cell? ⟨w5.heap.size, 4, none⟩ = some (.slice aq4 d.msgs.length cq4) ∧ W.cell? ⟨w.heap.size, 0, none⟩ = some (.slice ax0 d.cons.length cx0) ∧ W.cell? ⟨w.heap.size, 1, none⟩ = some (.slice ax1 d.shards.length cx1) ∧ W.cell? ⟨w.heap.size, 2, none⟩ = some (.slice ax2 d.accs.length cx2) ∧ W.cell? ⟨w.heap.size, 3, none⟩ = some (.slice ax3 d.ldrs.length cx3) ∧ W.cell? ⟨w.heap.size, 4, none⟩ = some (.slice ax4 d.msgs.length cx4)) w8 := ⟨hB8, cell_keep hB8 q0, cell_keep hB8 q1, cell_keep hB8 q2, cell_keep hB8 q3, cell_keep hB8 q4, cell_keep hB8 y0, cell_keep hB8 y1, cell_keep hB8 y2, cell_keep hB8 y3, cell_keep hB8 y4⟩
  refine hK _ _ (fun _ => hS8) ?_
  clear hK K o8 hb8
  try simp only [Act.put, List.getElem_toArray, List.getElem_cons_zero, List.getElem_cons_succ, List.setIfInBounds_toArray, List.set_cons_zero, List.set_cons_succ]
  refine upto_step (i := 3) (by kernel_rfl) rfl ?_
  intro K hK
  go_simp
  refine (eqCluster_u _ _ d d _ (cluR.below HO7.out hB8) HO8.out).mono ?_
  rintro e w9 ⟨rfl, hb9⟩
  rw [show decide (d = d) = true by simp]
  have hB9 : Below w7.heap.size w7 w9 := bstep hB8 hb9
  have hS9 : (fun W => Below w7.heap.size w7 W ∧ W.cell? ⟨w5.heap.size, 0, none⟩ = some (.slice aq0 d.cons.length cq0) ∧ W.cell? ⟨w5.heap.size, 1, none⟩ = some (.slice aq1 d.shards.length cq1) ∧ W.cell? ⟨w5.heap.size, 2, none⟩ = some (.slice aq2 d.accs.length cq2) ∧ W.cell? ⟨w5.heap.size, 3, none⟩ = some (.slice aq3 d.ldrs.length cq3) ∧ W.cell? ⟨w5.heap.size, 4, none⟩ = some (.slice aq4 d.msgs.length cq4) ∧ W.cell? ⟨w.heap.size, 0, none⟩ = some (.slice ax0 d.cons.length cx0) ∧ W.cell? ⟨w.heap.size, 1, none⟩ = some (.slice ax1 d.shards.length cx1) ∧ W.cell? ⟨w.heap.size, 2, none⟩ = some (.slice ax2 d.accs.length cx2) ∧ W.cell? ⟨w.heap.size, 3, none⟩ = some (.slice ax3 d.ldrs.length cx3) ∧ W.cell? ⟨w.heap.size, 4, none⟩ = some (.slice ax4 d.msgs.length cx4)) w9 := ⟨hB9, cell_keep hB9 q0, cell_keep hB9 q1, cell_keep hB9 q2, cell_keep hB9 q3, cell_keep hB9 q4, cell_keep hB9 y0, cell_keep hB9 y1, cell_keep hB9 y2, cell_keep hB9 y3, cell_keep hB9 y4⟩
  refine hK _ _ (fun _ => hS9) ?_
  clear hK K hb9
  try simp only [Act.put, List.getElem_toArray, List.getElem_cons_zero, List.getElem_cons_succ, List.setIfInBounds_toArray, List.set_cons_zero, List.set_cons_succ]
  refine upto_takeN (i := 4) (v := (.bool false)) rfl (by kernel_rfl) (by kernel_rfl) (by kernel_rfl) (by kernel_rfl) (fun _ _ _ h => h) (by rfl) hS9 ?_ ?_
  · intro wS hSw
    try dsimp only at hSw
    go_simp
  try simp only [Act.put, List.getElem_toArray, List.getElem_cons_zero, List.getElem_cons_succ, List.setIfInBounds_toArray, List.set_cons_zero, List.set_cons_succ]
  refine upto_done (by kernel_rfl) ?_
  refine NoPanic.normal ?_
  go_wp2
  go_ret
  exact ⟨rfl, bstep hBw7 hB9⟩
end Go.Proofs.YtggigaghfcpbbaaGreat.messageFaultLaw

