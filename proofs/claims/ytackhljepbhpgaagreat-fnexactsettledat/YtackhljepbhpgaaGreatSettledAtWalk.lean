import Derived.Test.YtackhljepbhpgaaGreatPrnSettledAtLaw23
import Derived.Deep.RegionHeld3
set_option maxHeartbeats 8000000
set_option maxRecDepth 20000
set_option linter.unusedSimpArgs false
set_option linter.unusedVariables false
set_option linter.unusedSectionVars false

namespace Go.Proofs.YtackhljepbhpgaaGreat.settledAtLaw
open Go.RowKit
variable [DecidableEq Leg] [Inhabited Leg] [DecidableEq Cont] [Inhabited Cont] [DecidableEq Bal] [Inhabited Bal] [DecidableEq Mrk] [Inhabited Mrk] [DecidableEq Shd] [Inhabited Shd] [DecidableEq Vot] [Inhabited Vot] [DecidableEq Slt] [Inhabited Slt] [DecidableEq Acc] [Inhabited Acc] [DecidableEq Trr] [Inhabited Trr] [DecidableEq Hrd] [Inhabited Hrd] [DecidableEq Ldr] [Inhabited Ldr] [DecidableEq Msg] [Inhabited Msg] [DecidableEq Clu] [Inhabited Clu] [DecidableEq Ledg] [Inhabited Ledg] [DecidableEq SltR] [Inhabited SltR] [DecidableEq AccR] [Inhabited AccR] [DecidableEq AccsR] [Inhabited AccsR] [DecidableEq SltsR] [Inhabited SltsR] [DecidableEq Rw] [Inhabited Rw] [DecidableEq LedgR] [Inhabited LedgR] [DecidableEq OutcR] [Inhabited OutcR] [DecidableEq ShdR] [Inhabited ShdR]
attribute [local go_sem ↓] Go.wp_at_zero Go.wp_at_succ

theorem clu_formM {w : World} {v : Value} {d : Clu} (h : cluR.V w v d) : ∃ a0 a1 a2 a3 a4 c0 c1 c2 c3 c4, v = .agg #[.slice a0 d.cons.length c0, .slice a1 d.shards.length c1, .slice a2 d.accs.length c2, .slice a3 d.ldrs.length c3, .slice a4 d.msgs.length c4] := by
 obtain ⟨a0, a1, a2, a3, a4, c0, c1, c2, c3, c4, e⟩ := clu_form h
 exact ⟨a0, a1, a2, a3, a4, c0, c1, c2, c3, c4, e⟩
theorem wt_cons {d : Clu} (h : wtClu d ≤ 1048576) : ∀ k, k < d.cons.length → (d.cons.getD k default).legs.length ≤ 1048576 := fun k hk => by
 have := (wt_at (f := wtCont) (show wtConts d.cons ≤ 1048576 by unfold wtClu at h; omega) hk).1
 unfold wtCont wtLegs at this
 exact this
theorem wt_shds {d : Clu} (h : wtClu d ≤ 1048576) : ∀ k, k < d.shards.length → (d.shards.getD k default).votes.length ≤ 1048576 ∧ (d.shards.getD k default).done.length ≤ 1048576 := fun k hk => by
 have := (wt_at (f := wtShd) (show wtShds d.shards ≤ 1048576 by unfold wtClu at h; omega) hk).1
 unfold wtShd wtMrks at this
 omega
theorem wt_tries {d : Clu} (h : wtClu d ≤ 1048576) : ∀ k, k < d.ldrs.length → ∀ i, i < (d.ldrs.getD k default).tries.length → ((d.ldrs.getD k default).tries.getD i default).frm.length ≤ 1048576 := fun k hk i hi => by
 have h1 := (wt_at (f := wtLdr) (show wtLdrs d.ldrs ≤ 1048576 by unfold wtClu at h; omega) hk).1
 unfold wtLdr at h1
 have h2 := (wt_at (f := wtTrr) (show wtTrys (d.ldrs.getD k default).tries ≤ 1048576 by omega) hi).1
 unfold wtTrr wtInts at h2
 omega
theorem walk (x : Value) (d : Clu) (id : Int) (w : World) (hx : cluR.V w x d) :
  Calls Tryz.prog 3 #[x, .int .i64 id] w fun e w' => e = .returned (.bool true) ∧ Below w.heap.size w w' := by
 have hX := hx
 obtain ⟨ax0, ax1, ax2, ax3, ax4, cx0, cx1, cx2, cx3, cx4, rfl⟩ := clu_formM hx
 go_enter Tryz.func3, Tryz.ntmps3
 go_wp2_with fail
 refine (szCluster_u _ d 1048576 _ (cluR.below hX (qBq)) (by omega) (by omega)).mono ?_
 rintro e w1 ⟨rfl, hb1⟩
 have hB1 : Below w.heap.size w w1 := qBq
 have y0 : w1.cell? ⟨w.heap.size, 0, none⟩ = some (.slice ax0 d.cons.length cx0) := cK hb1 (by simp [go_sem])
 have y1 : w1.cell? ⟨w.heap.size, 1, none⟩ = some (.slice ax1 d.shards.length cx1) := cK hb1 (by simp [go_sem])
 have y2 : w1.cell? ⟨w.heap.size, 2, none⟩ = some (.slice ax2 d.accs.length cx2) := cK hb1 (by simp [go_sem])
 have y3 : w1.cell? ⟨w.heap.size, 3, none⟩ = some (.slice ax3 d.ldrs.length cx3) := cK hb1 (by simp [go_sem])
 have y4 : w1.cell? ⟨w.heap.size, 4, none⟩ = some (.slice ax4 d.msgs.length cx4) := cK hb1 (by simp [go_sem])
 clear hb1
 have zm : w.heap.size < w1.heap.size := by have h := wL _ _ y0; dsimp only at h; exact h
 by_cases hsz : 1048576 < wtClu d
 ·
  rw [show szLen 1048576 ((wtClu d : Nat) : Int) = -1 by unfold szLen; rw [if_pos (by omega)]]
  go_wp2; go_ret; exact ⟨rfl, qBq⟩
 have e1 : szLen 1048576 ((wtClu d : Nat) : Int) = 1048576 - ((wtClu d : Nat) : Int) := by unfold szLen; rw [if_neg (by omega)]
 have e2 : ¬ (1048576 : Int) - ((wtClu d : Nat) : Int) < 0 := by omega
 rw [e1]
 clear e1
 have hwt : wtClu d ≤ 1048576 := by omega
 have HTo : Hid (∀ W, Below w.heap.size w W → Calls Tryz.prog 6 #[.agg #[.slice ax0 d.cons.length cx0, .slice ax1 d.shards.length cx1, .slice ax2 d.accs.length cx2, .slice ax3 d.ldrs.length cx3, .slice ax4 d.msgs.length cx4]] W fun e w' => ∃ v F, e = .returned v ∧ cluR.O w' W.heap.size F v d ∧ Below W.heap.size W w') := fun W hW => toCluster_u _ d W (cluR.below hX hW) (by omega)
 have HSp : Hid (∀ v W, cluR.V W v d → Calls Tryz.prog 5 #[v, .int .i64 id] W fun e w' => e = .returned (.bool (settD d id)) ∧ Below W.heap.size W w') := fun v W hv => specSettled_any v d id W hv (wt_cons hwt) (wt_shds hwt) (wt_tries hwt)
 have HIm : Hid (∀ v W, cluR.V W v d → Calls Tryz.prog 7 #[v, .int .i64 id] W fun e w' => e = .returned (.bool (settD d id)) ∧ Below W.heap.size W w') := fun v W hv => implSettled_any v d id W hv (wt_tries hwt)
 generalize settD d id = Z at *; clear hX hsz hwt
 go_wp2_with fail
 refine (HTo.out _ (qBq)).mono ?_
 rintro e w2 ⟨v2, F2, rfl, o2, hb2⟩
 have hB2 : Below w.heap.size w w2 := bS (qBq) hb2
 have HO2 : Hid (cluR.V w2 v2 d) := cluR.ofO o2
 have o2' := cluR.ofO o2
 obtain ⟨as0, as1, as2, as3, as4, cs0, cs1, cs2, cs3, cs4, rfl⟩ := clu_formM o2'
 replace y0 := cK hb2 (by first | exact y0 | exact cK (qBq) y0)
 replace y1 := cK hb2 (by first | exact y1 | exact cK (qBq) y1)
 replace y2 := cK hb2 (by first | exact y2 | exact cK (qBq) y2)
 replace y3 := cK hb2 (by first | exact y3 | exact cK (qBq) y3)
 replace y4 := cK hb2 (by first | exact y4 | exact cK (qBq) y4)
 replace zm : w.heap.size < w2.heap.size := by have h := wL _ _ y0; dsimp only at h; exact h
 clear o2 hb2 hB1
 go_wp2_with fail
 refine (HSp.out _ _ (cluR.below HO2.out (qBq))).mono ?_
 rintro e w4 ⟨rfl, hb4⟩
 have hB4 : Below w.heap.size w w4 := bS (qBq) hb4
 replace y0 := cK hb4 (by first | exact y0 | exact cK (qBq) y0)
 replace y1 := cK hb4 (by first | exact y1 | exact cK (qBq) y1)
 replace y2 := cK hb4 (by first | exact y2 | exact cK (qBq) y2)
 replace y3 := cK hb4 (by first | exact y3 | exact cK (qBq) y3)
 replace y4 := cK hb4 (by first | exact y4 | exact cK (qBq) y4)
 replace zm : w.heap.size < w4.heap.size := by have h := wL _ _ y0; dsimp only at h; exact h
 clear hb4 HO2 HSp hB2
 go_wp2_with fail
 refine (HTo.out _ (qBq)).mono ?_
 rintro e w5 ⟨v5, F5, rfl, o5, hb5⟩
 have hB5 : Below w.heap.size w w5 := bS (qBq) hb5
 have HO5 : Hid (cluR.V w5 v5 d) := cluR.ofO o5
 have o5' := cluR.ofO o5
 obtain ⟨aq0, aq1, aq2, aq3, aq4, cq0, cq1, cq2, cq3, cq4, rfl⟩ := clu_formM o5'
 replace y0 := cK hb5 (by first | exact y0 | exact cK (qBq) y0)
 replace y1 := cK hb5 (by first | exact y1 | exact cK (qBq) y1)
 replace y2 := cK hb5 (by first | exact y2 | exact cK (qBq) y2)
 replace y3 := cK hb5 (by first | exact y3 | exact cK (qBq) y3)
 replace y4 := cK hb5 (by first | exact y4 | exact cK (qBq) y4)
 replace zm : w.heap.size < w5.heap.size := by have h := wL _ _ y0; dsimp only at h; exact h
 clear o5 hb5 hB4
 go_wp2_with fail
 refine (HIm.out _ _ (cluR.below HO5.out (qBq))).mono ?_
 rintro e w7 ⟨rfl, hb7⟩
 have hBw7 : Below w.heap.size w w7 := bS (qBq) hb7
 have hB7 : Below w5.heap.size w5 w7 := bS (qBq) hb7
 have q0 : w7.cell? ⟨w5.heap.size, 0, none⟩ = some (.slice aq0 d.cons.length cq0) := cK hb7 (by simp [go_sem])
 have q1 : w7.cell? ⟨w5.heap.size, 1, none⟩ = some (.slice aq1 d.shards.length cq1) := cK hb7 (by simp [go_sem])
 have q2 : w7.cell? ⟨w5.heap.size, 2, none⟩ = some (.slice aq2 d.accs.length cq2) := cK hb7 (by simp [go_sem])
 have q3 : w7.cell? ⟨w5.heap.size, 3, none⟩ = some (.slice aq3 d.ldrs.length cq3) := cK hb7 (by simp [go_sem])
 have q4 : w7.cell? ⟨w5.heap.size, 4, none⟩ = some (.slice aq4 d.msgs.length cq4) := cK hb7 (by simp [go_sem])
 replace y0 := cK hB7 y0; replace y1 := cK hB7 y1; replace y2 := cK hB7 y2; replace y3 := cK hB7 y3; replace y4 := cK hB7 y4
 have HO7 : Hid (cluR.V w7 (.agg #[.slice aq0 d.cons.length cq0, .slice aq1 d.shards.length cq1, .slice aq2 d.accs.length cq2, .slice aq3 d.ldrs.length cq3, .slice aq4 d.msgs.length cq4]) d) := cluR.below HO5.out hB7
 clear hb7 hB7 HO5 hB5 HIm
 have hzz : (Z != Z) = false := by simp
 go_wp2
 refine wp_region_noPanic ?_
 refine region_upto (fun W => Below w7.heap.size w7 W ∧ W.cell? ⟨w5.heap.size, 0, none⟩ = some (.slice aq0 d.cons.length cq0) ∧ W.cell? ⟨w5.heap.size, 1, none⟩ = some (.slice aq1 d.shards.length cq1) ∧ W.cell? ⟨w5.heap.size, 2, none⟩ = some (.slice aq2 d.accs.length cq2) ∧ W.cell? ⟨w5.heap.size, 3, none⟩ = some (.slice aq3 d.ldrs.length cq3) ∧ W.cell? ⟨w5.heap.size, 4, none⟩ = some (.slice aq4 d.msgs.length cq4) ∧ W.cell? ⟨w.heap.size, 0, none⟩ = some (.slice ax0 d.cons.length cx0) ∧ W.cell? ⟨w.heap.size, 1, none⟩ = some (.slice ax1 d.shards.length cx1) ∧ W.cell? ⟨w.heap.size, 2, none⟩ = some (.slice ax2 d.accs.length cx2) ∧ W.cell? ⟨w.heap.size, 3, none⟩ = some (.slice ax3 d.ldrs.length cx3) ∧ W.cell? ⟨w.heap.size, 4, none⟩ = some (.slice ax4 d.msgs.length cx4)) 5 (by kernel_rfl) ⟨qBq, cK (qBq) q0, cK (qBq) q1, cK (qBq) q2, cK (qBq) q3, cK (qBq) q4, cK (qBq) y0, cK (qBq) y1, cK (qBq) y2, cK (qBq) y3, cK (qBq) y4⟩ (fun hS => ?_)
 refine tM 0 rfl hS ?_; try simp only [jX]
 refine tM 1 rfl hS ?_; try simp only [jX]
 refine uS 2 rfl (fun K hK => ?_)
 go_simp
 refine (HTo.out _ (bS hBw7 (qBq))).mono ?_
 rintro e w8 ⟨v8, F8, rfl, o8, hb8⟩
 have hB8 : Below w7.heap.size w7 w8 := bS (qBq) hb8
 have HO8 : Hid (cluR.V w8 v8 d) := cluR.ofO o8
 have o8' := cluR.ofO o8
 obtain ⟨at0, at1, at2, at3, at4, ct0, ct1, ct2, ct3, ct4, rfl⟩ := clu_formM o8'
 have hS8 : (fun W => Below w7.heap.size w7 W ∧ W.cell? ⟨w5.heap.size, 0, none⟩ = some (.slice aq0 d.cons.length cq0) ∧ W.cell? ⟨w5.heap.size, 1, none⟩ = some (.slice aq1 d.shards.length cq1) ∧ W.cell? ⟨w5.heap.size, 2, none⟩ = some (.slice aq2 d.accs.length cq2) ∧ W.cell? ⟨w5.heap.size, 3, none⟩ = some (.slice aq3 d.ldrs.length cq3) ∧ W.cell? ⟨w5.heap.size, 4, none⟩ = some (.slice aq4 d.msgs.length cq4) ∧ W.cell? ⟨w.heap.size, 0, none⟩ = some (.slice ax0 d.cons.length cx0) ∧ W.cell? ⟨w.heap.size, 1, none⟩ = some (.slice ax1 d.shards.length cx1) ∧ W.cell? ⟨w.heap.size, 2, none⟩ = some (.slice ax2 d.accs.length cx2) ∧ W.cell? ⟨w.heap.size, 3, none⟩ = some (.slice ax3 d.ldrs.length cx3) ∧ W.cell? ⟨w.heap.size, 4, none⟩ = some (.slice ax4 d.msgs.length cx4)) w8 := ⟨hB8, cK hB8 q0, cK hB8 q1, cK hB8 q2, cK hB8 q3, cK hB8 q4, cK hB8 y0, cK hB8 y1, cK hB8 y2, cK hB8 y3, cK hB8 y4⟩
 refine hK _ _ (fun _ => hS8) ?_
 clear hK K o8 hb8
 try simp only [jX]
 refine uS 3 rfl (fun K hK => ?_)
 go_simp
 refine (eqCluster_u _ _ d d _ (cluR.below HO7.out hB8) HO8.out).mono ?_
 rintro e w9 ⟨rfl, hb9⟩
 rw [show decide (d = d) = true by simp]
 have hB9 : Below w7.heap.size w7 w9 := bS hB8 hb9
 have hS9 : (fun W => Below w7.heap.size w7 W ∧ W.cell? ⟨w5.heap.size, 0, none⟩ = some (.slice aq0 d.cons.length cq0) ∧ W.cell? ⟨w5.heap.size, 1, none⟩ = some (.slice aq1 d.shards.length cq1) ∧ W.cell? ⟨w5.heap.size, 2, none⟩ = some (.slice aq2 d.accs.length cq2) ∧ W.cell? ⟨w5.heap.size, 3, none⟩ = some (.slice aq3 d.ldrs.length cq3) ∧ W.cell? ⟨w5.heap.size, 4, none⟩ = some (.slice aq4 d.msgs.length cq4) ∧ W.cell? ⟨w.heap.size, 0, none⟩ = some (.slice ax0 d.cons.length cx0) ∧ W.cell? ⟨w.heap.size, 1, none⟩ = some (.slice ax1 d.shards.length cx1) ∧ W.cell? ⟨w.heap.size, 2, none⟩ = some (.slice ax2 d.accs.length cx2) ∧ W.cell? ⟨w.heap.size, 3, none⟩ = some (.slice ax3 d.ldrs.length cx3) ∧ W.cell? ⟨w.heap.size, 4, none⟩ = some (.slice ax4 d.msgs.length cx4)) w9 := ⟨hB9, cK hB9 q0, cK hB9 q1, cK hB9 q2, cK hB9 q3, cK hB9 q4, cK hB9 y0, cK hB9 y1, cK hB9 y2, cK hB9 y3, cK hB9 y4⟩
 refine hK _ _ (fun _ => hS9) ?_
 clear hK K hb9
 try simp only [jX]
 refine tM 4 (v := (.bool false)) rfl hS9 ?_; try simp only [jX]
 refine dN (NoPanic.normal ?_)
 go_wp2; go_ret
 exact ⟨rfl, bS hBw7 hB9⟩
end Go.Proofs.YtackhljepbhpgaaGreat.settledAtLaw

