import Derived.Test.YtdfapehonegeeaaGreatPrnWriteBatchLaw25
import Derived.Test.YtdfapehonegeeaaGreatPrnWriteBatchLaw15
import Derived.Test.YtdfapehonegeeaaGreatPrnWriteBatchLaw19
import Derived.Test.YtdfapehonegeeaaGreatPrnWriteBatchLaw8
import Derived.Test.YtdfapehonegeeaaGreatPrnWriteBatchLaw4
import Derived.Test.YtdfapehonegeeaaGreatPrnWriteBatchLaw11
import Derived.Test.YtdfapehonegeeaaGreatPrnWriteBatchLaw1

/-
  An engine's fault: the program's side.
-/
namespace Go.Proofs.YtdfapehonegeeaaGreat
open Go.RowKit
set_option linter.unusedSectionVars false
variable [DecidableEq Wri] [Inhabited Wri] [DecidableEq BytesR] [Inhabited BytesR] [DecidableEq Rw] [Inhabited Rw] [DecidableEq TabR] [Inhabited TabR] [DecidableEq Logg] [Inhabited Logg] [DecidableEq Engn] [Inhabited Engn] [DecidableEq LoggR] [Inhabited LoggR] [DecidableEq RecsR] [Inhabited RecsR] [DecidableEq Leg] [Inhabited Leg]
set_option linter.unusedVariables false
set_option linter.unusedSimpArgs false
attribute [local go_sem ↓] Go.wp_at_zero Go.wp_at_succ

set_option maxRecDepth 20000 in
set_option maxHeartbeats 16000000 in
theorem implEngF_any (x : Value) (d : Engn) (w : World) (hx : engnR.V w x d) (hn : wtEngn d ≤ 1048576) :
    Calls Tryz.prog 13 #[x] w fun e w' => e = .returned (.int .i64 (engF d)) ∧ Below w.heap.size w w' := by
  have hX := hx
  obtain ⟨u1, u2, u3, u4, rfl, h1, h2, h3⟩ := hx
  have HX : Hid (engnR.V w (.agg #[u1, u2, u3, u4, .int .i64 d.next]) d) := hX
  have HL : Hid (loggR.V w (.agg #[u1, u2]) d.log) := h1
  have HM : Hid (RowsV w u3 d.mem) := h2.1
  have HT : Hid (rowssR.V w u4 d.tables) := h3
  clear hX h1 h2 h3
  go_enter Tryz.func13, Tryz.ntmps13
  go_wp2_with fail
  refine (parts_any _ d _ (engnR.below HX.out (by (repeat (first | exact Below.refl _ _ | assumption | refine Below.drew ?_ | refine balloc ?_ _ | refine bset ?_ (by simp; omega) _ | refine bset ?_ (by simp) _ | refine bstep ?_ (by assumption))))) hn).mono ?_
  rintro e w1 ⟨rfl, b1⟩
  have r0 : w1.cell? ⟨w.heap.size, 0, none⟩ = some (u1) := cell_keep b1 (by simp [go_sem])
  have r1 : w1.cell? ⟨w.heap.size, 1, none⟩ = some (u2) := cell_keep b1 (by simp [go_sem])
  have r2 : w1.cell? ⟨w.heap.size, 2, none⟩ = some (u3) := cell_keep b1 (by simp [go_sem])
  have r3 : w1.cell? ⟨w.heap.size, 3, none⟩ = some (u4) := cell_keep b1 (by simp [go_sem])
  have r4 : w1.cell? ⟨w.heap.size, 4, none⟩ = some (.int .i64 d.next) := cell_keep b1 (by simp [go_sem])
  have hB1 : Below w.heap.size w w1 := by (repeat (first | exact Below.refl _ _ | assumption | refine Below.drew ?_ | refine balloc ?_ _ | refine bset ?_ (by simp; omega) _ | refine bset ?_ (by simp) _ | refine bstep ?_ (by assumption)))
  clear b1 hn
  by_cases hp : partsF d = 0
  rotate_left
  · have HE : Hid (engF d = partsF d) := engF_parts hp
    have hc : (partsF d == 0) = false := by simpa using hp
    generalize partsF d = c at *
    go_wp2
    go_ret
    exact ⟨by rw [HE.out]; rfl, hB1⟩
  rw [hp]
  have HPA : Hid (partsF d = 0) := hp
  clear hp
  obtain ⟨hl0, hm0, ht6, -⟩ := partsF_inv HPA.out
  have HLF : Hid (logF d.log = 0) := hl0
  have HMF : Hid (tabF d.mem = 0) := hm0
  clear hl0 hm0
  have HRG : Hid (rangeE d = (inR d.next 1 1000000 && decide (gvT 0 (d.mem :: d.tables) < d.next))) := range_gv
  have HAB : Hid (aboveE d = aboveV d.mem (gvT 0 d.tables)) := above_gv HMF.out
  cases hin : inR d.next 1 1000000
  · have HE : Hid (engF d = 3) := engF_range HPA.out (range_1 hin)
    have HIN : Hid (inR d.next 1 1000000 = false) := hin
    clear hin HRG HAB
    go_wp2
    refine wp_region_noPanic ?_
    refine region_upto (fun w' => Below w1.heap.size w1 w' ∧ w'.cell? ⟨w.heap.size, 0, none⟩ = some (u1) ∧ w'.cell? ⟨w.heap.size, 1, none⟩ = some (u2) ∧ w'.cell? ⟨w.heap.size, 2, none⟩ = some (u3) ∧ w'.cell? ⟨w.heap.size, 3, none⟩ = some (u4) ∧ w'.cell? ⟨w.heap.size, 4, none⟩ = some (.int .i64 d.next)) 12 (by kernel_rfl) ⟨by (repeat (first | exact Below.refl _ _ | assumption | refine Below.drew ?_ | refine balloc ?_ _ | refine bset ?_ (by simp; omega) _ | refine bset ?_ (by simp) _ | refine bstep ?_ (by assumption))), cell_keep (by (repeat (first | exact Below.refl _ _ | assumption | refine Below.drew ?_ | refine balloc ?_ _ | refine bset ?_ (by simp; omega) _ | refine bset ?_ (by simp) _ | refine bstep ?_ (by assumption)))) r0, cell_keep (by (repeat (first | exact Below.refl _ _ | assumption | refine Below.drew ?_ | refine balloc ?_ _ | refine bset ?_ (by simp; omega) _ | refine bset ?_ (by simp) _ | refine bstep ?_ (by assumption)))) r1, cell_keep (by (repeat (first | exact Below.refl _ _ | assumption | refine Below.drew ?_ | refine balloc ?_ _ | refine bset ?_ (by simp; omega) _ | refine bset ?_ (by simp) _ | refine bstep ?_ (by assumption)))) r2, cell_keep (by (repeat (first | exact Below.refl _ _ | assumption | refine Below.drew ?_ | refine balloc ?_ _ | refine bset ?_ (by simp; omega) _ | refine bset ?_ (by simp) _ | refine bstep ?_ (by assumption)))) r3, cell_keep (by (repeat (first | exact Below.refl _ _ | assumption | refine Below.drew ?_ | refine balloc ?_ _ | refine bset ?_ (by simp; omega) _ | refine bset ?_ (by simp) _ | refine bstep ?_ (by assumption)))) r4⟩ (fun hS => ?_)
    refine upto_takeN (i := 0) (v := ?_) rfl (by kernel_rfl) (by kernel_rfl) (by kernel_rfl) (by kernel_rfl) (fun _ _ _ h => h) (by rfl) hS ?_ ?_
    rotate_left
    · intro wS hSw
      try dsimp only at hSw
      first | (go_simp; done) | (go_simp; with_reducible rfl)
    try simp only [Act.put, List.getElem_toArray, List.getElem_cons_zero, List.getElem_cons_succ, List.setIfInBounds_toArray, List.set_cons_zero, List.set_cons_succ]
    refine upto_takeN (i := 1) (v := ?_) rfl (by kernel_rfl) (by kernel_rfl) (by kernel_rfl) (by kernel_rfl) (fun _ _ _ h => h) (by rfl) hS ?_ ?_
    rotate_left
    · intro wS hSw
      try dsimp only at hSw
      first | (go_simp; done) | (go_simp; with_reducible rfl)
    try simp only [Act.put, List.getElem_toArray, List.getElem_cons_zero, List.getElem_cons_succ, List.setIfInBounds_toArray, List.set_cons_zero, List.set_cons_succ]
    refine upto_step (i := 2) (by kernel_rfl) rfl ?_
    intro K hK
    go_simp
    refine (isVersion_any _ _).mono ?_
    rintro e w' ⟨rfl, hEq⟩
    obtain rfl := hEq.symm
    rw [HIN.out]
    refine hK _ _ (fun _ => hS) ?_
    clear hK K hEq
    try simp only [Act.put, List.getElem_toArray, List.getElem_cons_zero, List.getElem_cons_succ, List.setIfInBounds_toArray, List.set_cons_zero, List.set_cons_succ]
    refine upto_takeN (i := 3) (v := (.bool true)) rfl (by kernel_rfl) (by kernel_rfl) (by kernel_rfl) (by kernel_rfl) (fun _ _ _ h => h) (by rfl) hS ?_ ?_
    · intro wS hSw
      try dsimp only at hSw
      go_simp
    try simp only [Act.put, List.getElem_toArray, List.getElem_cons_zero, List.getElem_cons_succ, List.setIfInBounds_toArray, List.set_cons_zero, List.set_cons_succ]
    refine upto_takeN (i := 4) (v := (.bool true)) rfl (by kernel_rfl) (by kernel_rfl) (by kernel_rfl) (by kernel_rfl) (fun _ _ _ h => h) (by rfl) hS ?_ ?_
    · intro wS hSw
      try dsimp only at hSw
      go_simp
    try simp only [Act.put, List.getElem_toArray, List.getElem_cons_zero, List.getElem_cons_succ, List.setIfInBounds_toArray, List.set_cons_zero, List.set_cons_succ]
    refine upto_skipN (i := 5) rfl (by kernel_rfl) (by kernel_rfl) (by kernel_rfl) (by kernel_rfl) (fun _ _ _ h => h) (by rfl) hS (fun q5 => ?_)
    try simp only [Act.put, List.getElem_toArray, List.getElem_cons_zero, List.getElem_cons_succ, List.setIfInBounds_toArray, List.set_cons_zero, List.set_cons_succ]
    refine upto_skipN (i := 6) rfl (by kernel_rfl) (by kernel_rfl) (by kernel_rfl) (by kernel_rfl) (fun _ _ _ h => h) (by rfl) hS (fun q6 => ?_)
    try simp only [Act.put, List.getElem_toArray, List.getElem_cons_zero, List.getElem_cons_succ, List.setIfInBounds_toArray, List.set_cons_zero, List.set_cons_succ]
    refine upto_skipN (i := 7) rfl (by kernel_rfl) (by kernel_rfl) (by kernel_rfl) (by kernel_rfl) (fun _ _ _ h => h) (by rfl) hS (fun q7 => ?_)
    try simp only [Act.put, List.getElem_toArray, List.getElem_cons_zero, List.getElem_cons_succ, List.setIfInBounds_toArray, List.set_cons_zero, List.set_cons_succ]
    refine upto_skipN (i := 8) rfl (by kernel_rfl) (by kernel_rfl) (by kernel_rfl) (by kernel_rfl) (fun _ _ _ h => h) (by rfl) hS (fun q8 => ?_)
    try simp only [Act.put, List.getElem_toArray, List.getElem_cons_zero, List.getElem_cons_succ, List.setIfInBounds_toArray, List.set_cons_zero, List.set_cons_succ]
    refine upto_skipN (i := 9) rfl (by kernel_rfl) (by kernel_rfl) (by kernel_rfl) (by kernel_rfl) (fun _ _ _ h => h) (by rfl) hS (fun q9 => ?_)
    try simp only [Act.put, List.getElem_toArray, List.getElem_cons_zero, List.getElem_cons_succ, List.setIfInBounds_toArray, List.set_cons_zero, List.set_cons_succ]
    refine upto_skipN (i := 10) rfl (by kernel_rfl) (by kernel_rfl) (by kernel_rfl) (by kernel_rfl) (fun _ _ _ h => h) (by rfl) hS (fun q10 => ?_)
    try simp only [Act.put, List.getElem_toArray, List.getElem_cons_zero, List.getElem_cons_succ, List.setIfInBounds_toArray, List.set_cons_zero, List.set_cons_succ]
    refine upto_takeN (i := 11) (v := (.bool true)) rfl (by kernel_rfl) (by kernel_rfl) (by kernel_rfl) (by kernel_rfl) (fun _ _ _ h => h) (by rfl) hS ?_ ?_
    · intro wS hSw
      try dsimp only at hSw
      go_simp
    try simp only [Act.put, List.getElem_toArray, List.getElem_cons_zero, List.getElem_cons_succ, List.setIfInBounds_toArray, List.set_cons_zero, List.set_cons_succ]
    refine upto_done (by kernel_rfl) ?_
    refine NoPanic.normal ?_
    go_wp2
    go_ret
    exact ⟨by rw [HE.out]; rfl, bstep hB1 hS.1⟩
  have HIN : Hid (inR d.next 1 1000000 = true) := hin
  have HRH : Hid (rangeE d = decide (gvT 0 (d.mem :: d.tables) < d.next)) := by rw [Hid, HRG.out, hin]; rfl
  clear hin HRG
  generalize hgv : gvT 0 (d.mem :: d.tables) = gv at *
  have HGV : Hid (gvT 0 (d.mem :: d.tables) = gv) := hgv
  clear hgv
  by_cases hr : gv < d.next
  rotate_left
  · have HE : Hid (engF d = 3) := engF_range HPA.out (by rw [HRH.out, decide_eq_false hr])
    clear HAB HRH
    go_wp2
    refine wp_region_noPanic ?_
    refine region_upto (fun w' => Below w1.heap.size w1 w' ∧ w'.cell? ⟨w.heap.size, 0, none⟩ = some (u1) ∧ w'.cell? ⟨w.heap.size, 1, none⟩ = some (u2) ∧ w'.cell? ⟨w.heap.size, 2, none⟩ = some (u3) ∧ w'.cell? ⟨w.heap.size, 3, none⟩ = some (u4) ∧ w'.cell? ⟨w.heap.size, 4, none⟩ = some (.int .i64 d.next)) 12 (by kernel_rfl) ⟨by (repeat (first | exact Below.refl _ _ | assumption | refine Below.drew ?_ | refine balloc ?_ _ | refine bset ?_ (by simp; omega) _ | refine bset ?_ (by simp) _ | refine bstep ?_ (by assumption))), cell_keep (by (repeat (first | exact Below.refl _ _ | assumption | refine Below.drew ?_ | refine balloc ?_ _ | refine bset ?_ (by simp; omega) _ | refine bset ?_ (by simp) _ | refine bstep ?_ (by assumption)))) r0, cell_keep (by (repeat (first | exact Below.refl _ _ | assumption | refine Below.drew ?_ | refine balloc ?_ _ | refine bset ?_ (by simp; omega) _ | refine bset ?_ (by simp) _ | refine bstep ?_ (by assumption)))) r1, cell_keep (by (repeat (first | exact Below.refl _ _ | assumption | refine Below.drew ?_ | refine balloc ?_ _ | refine bset ?_ (by simp; omega) _ | refine bset ?_ (by simp) _ | refine bstep ?_ (by assumption)))) r2, cell_keep (by (repeat (first | exact Below.refl _ _ | assumption | refine Below.drew ?_ | refine balloc ?_ _ | refine bset ?_ (by simp; omega) _ | refine bset ?_ (by simp) _ | refine bstep ?_ (by assumption)))) r3, cell_keep (by (repeat (first | exact Below.refl _ _ | assumption | refine Below.drew ?_ | refine balloc ?_ _ | refine bset ?_ (by simp; omega) _ | refine bset ?_ (by simp) _ | refine bstep ?_ (by assumption)))) r4⟩ (fun hS => ?_)
    refine upto_takeN (i := 0) (v := ?_) rfl (by kernel_rfl) (by kernel_rfl) (by kernel_rfl) (by kernel_rfl) (fun _ _ _ h => h) (by rfl) hS ?_ ?_
    rotate_left
    · intro wS hSw
      try dsimp only at hSw
      first | (go_simp; done) | (go_simp; with_reducible rfl)
    try simp only [Act.put, List.getElem_toArray, List.getElem_cons_zero, List.getElem_cons_succ, List.setIfInBounds_toArray, List.set_cons_zero, List.set_cons_succ]
    refine upto_takeN (i := 1) (v := ?_) rfl (by kernel_rfl) (by kernel_rfl) (by kernel_rfl) (by kernel_rfl) (fun _ _ _ h => h) (by rfl) hS ?_ ?_
    rotate_left
    · intro wS hSw
      try dsimp only at hSw
      first | (go_simp; done) | (go_simp; with_reducible rfl)
    try simp only [Act.put, List.getElem_toArray, List.getElem_cons_zero, List.getElem_cons_succ, List.setIfInBounds_toArray, List.set_cons_zero, List.set_cons_succ]
    refine upto_step (i := 2) (by kernel_rfl) rfl ?_
    intro K hK
    go_simp
    refine (isVersion_any _ _).mono ?_
    rintro e w' ⟨rfl, hEq⟩
    obtain rfl := hEq.symm
    rw [HIN.out]
    refine hK _ _ (fun _ => hS) ?_
    clear hK K hEq
    try simp only [Act.put, List.getElem_toArray, List.getElem_cons_zero, List.getElem_cons_succ, List.setIfInBounds_toArray, List.set_cons_zero, List.set_cons_succ]
    refine upto_takeN (i := 3) (v := (.bool false)) rfl (by kernel_rfl) (by kernel_rfl) (by kernel_rfl) (by kernel_rfl) (fun _ _ _ h => h) (by rfl) hS ?_ ?_
    · intro wS hSw
      try dsimp only at hSw
      go_simp
    try simp only [Act.put, List.getElem_toArray, List.getElem_cons_zero, List.getElem_cons_succ, List.setIfInBounds_toArray, List.set_cons_zero, List.set_cons_succ]
    refine upto_takeN (i := 4) (v := (.bool false)) rfl (by kernel_rfl) (by kernel_rfl) (by kernel_rfl) (by kernel_rfl) (fun _ _ _ h => h) (by rfl) hS ?_ ?_
    · intro wS hSw
      try dsimp only at hSw
      go_simp
    try simp only [Act.put, List.getElem_toArray, List.getElem_cons_zero, List.getElem_cons_succ, List.setIfInBounds_toArray, List.set_cons_zero, List.set_cons_succ]
    refine upto_takeN (i := 5) (v := ?_) rfl (by kernel_rfl) (by kernel_rfl) (by kernel_rfl) (by kernel_rfl) (fun _ _ _ h => h) (by rfl) hS ?_ ?_
    rotate_left
    · intro wS hSw
      try dsimp only at hSw
      first | (go_simp; done) | (go_simp; with_reducible rfl)
    try simp only [Act.put, List.getElem_toArray, List.getElem_cons_zero, List.getElem_cons_succ, List.setIfInBounds_toArray, List.set_cons_zero, List.set_cons_succ]
    refine upto_takeN (i := 8) (v := ?_) rfl (by kernel_rfl) (by kernel_rfl) (by kernel_rfl) (by kernel_rfl) (fun _ _ _ h => h) (by rfl) hS ?_ ?_
    rotate_left
    · intro wS hSw
      try dsimp only at hSw
      first | (go_simp; done) | (go_simp; with_reducible rfl)
    try simp only [Act.put, List.getElem_toArray, List.getElem_cons_zero, List.getElem_cons_succ, List.setIfInBounds_toArray, List.set_cons_zero, List.set_cons_succ]
    refine upto_takeN (i := 9) (v := ?_) rfl (by kernel_rfl) (by kernel_rfl) (by kernel_rfl) (by kernel_rfl) (fun _ _ _ h => h) (by rfl) hS ?_ ?_
    rotate_left
    · intro wS hSw
      try dsimp only at hSw
      first | (go_simp; done) | (go_simp; with_reducible rfl)
    try simp only [Act.put, List.getElem_toArray, List.getElem_cons_zero, List.getElem_cons_succ, List.setIfInBounds_toArray, List.set_cons_zero, List.set_cons_succ]
    refine upto_step (i := 6) (by kernel_rfl) rfl ?_
    intro K hK
    go_simp
    refine (layersOf_V _ d _ (engnR.below HX.out (bstep hB1 hS.1)) (by omega)).mono ?_
    rintro e w3 ⟨v3, rfl, hV3, b3⟩
    obtain ⟨a3, c3, rfl⟩ := rowss_form hV3
    have hS3 : (fun w' => Below w1.heap.size w1 w' ∧ w'.cell? ⟨w.heap.size, 0, none⟩ = some (u1) ∧ w'.cell? ⟨w.heap.size, 1, none⟩ = some (u2) ∧ w'.cell? ⟨w.heap.size, 2, none⟩ = some (u3) ∧ w'.cell? ⟨w.heap.size, 3, none⟩ = some (u4) ∧ w'.cell? ⟨w.heap.size, 4, none⟩ = some (.int .i64 d.next)) w3 := ⟨bstep hS.1 b3, cell_keep b3 hS.2.1, cell_keep b3 hS.2.2.1, cell_keep b3 hS.2.2.2.1, cell_keep b3 hS.2.2.2.2.1, cell_keep b3 hS.2.2.2.2.2⟩
    refine hK _ _ (fun _ => hS3) ?_
    clear hK K hS
    try simp only [Act.put, List.getElem_toArray, List.getElem_cons_zero, List.getElem_cons_succ, List.setIfInBounds_toArray, List.set_cons_zero, List.set_cons_succ]
    refine upto_step (i := 7) (by kernel_rfl) rfl ?_
    intro K hK
    go_simp
    refine (greatest_any _ (d.mem :: d.tables) _ hV3).mono ?_
    rintro e w4 ⟨rfl, b4⟩
    have hS4 : (fun w' => Below w1.heap.size w1 w' ∧ w'.cell? ⟨w.heap.size, 0, none⟩ = some (u1) ∧ w'.cell? ⟨w.heap.size, 1, none⟩ = some (u2) ∧ w'.cell? ⟨w.heap.size, 2, none⟩ = some (u3) ∧ w'.cell? ⟨w.heap.size, 3, none⟩ = some (u4) ∧ w'.cell? ⟨w.heap.size, 4, none⟩ = some (.int .i64 d.next)) w4 := ⟨bstep hS3.1 b4, cell_keep b4 hS3.2.1, cell_keep b4 hS3.2.2.1, cell_keep b4 hS3.2.2.2.1, cell_keep b4 hS3.2.2.2.2.1, cell_keep b4 hS3.2.2.2.2.2⟩
    rw [HGV.out]
    refine hK _ _ (fun _ => hS4) ?_
    clear hK K hS3
    try simp only [Act.put, List.getElem_toArray, List.getElem_cons_zero, List.getElem_cons_succ, List.setIfInBounds_toArray, List.set_cons_zero, List.set_cons_succ]
    refine upto_takeN (i := 10) (v := (.bool true)) rfl (by kernel_rfl) (by kernel_rfl) (by kernel_rfl) (by kernel_rfl) (fun _ _ _ h => h) (by rfl) hS4 ?_ ?_
    · intro wS hSw
      try dsimp only at hSw
      go_simp
    try simp only [Act.put, List.getElem_toArray, List.getElem_cons_zero, List.getElem_cons_succ, List.setIfInBounds_toArray, List.set_cons_zero, List.set_cons_succ]
    refine upto_takeN (i := 11) (v := (.bool true)) rfl (by kernel_rfl) (by kernel_rfl) (by kernel_rfl) (by kernel_rfl) (fun _ _ _ h => h) (by rfl) hS4 ?_ ?_
    · intro wS hSw
      try dsimp only at hSw
      go_simp
    try simp only [Act.put, List.getElem_toArray, List.getElem_cons_zero, List.getElem_cons_succ, List.setIfInBounds_toArray, List.set_cons_zero, List.set_cons_succ]
    refine upto_done (by kernel_rfl) ?_
    refine NoPanic.normal ?_
    go_wp2
    go_ret
    exact ⟨by rw [HE.out]; rfl, bstep hB1 hS4.1⟩
  have HRA : Hid (rangeE d = true) := by rw [Hid, HRH.out, decide_eq_true hr]
  have hr2 : ¬ d.next ≤ gv := by omega
  clear HRH
  go_wp2
  refine wp_region_noPanic ?_
  refine region_upto (fun w' => Below w1.heap.size w1 w' ∧ w'.cell? ⟨w.heap.size, 0, none⟩ = some (u1) ∧ w'.cell? ⟨w.heap.size, 1, none⟩ = some (u2) ∧ w'.cell? ⟨w.heap.size, 2, none⟩ = some (u3) ∧ w'.cell? ⟨w.heap.size, 3, none⟩ = some (u4) ∧ w'.cell? ⟨w.heap.size, 4, none⟩ = some (.int .i64 d.next)) 12 (by kernel_rfl) ⟨by (repeat (first | exact Below.refl _ _ | assumption | refine Below.drew ?_ | refine balloc ?_ _ | refine bset ?_ (by simp; omega) _ | refine bset ?_ (by simp) _ | refine bstep ?_ (by assumption))), cell_keep (by (repeat (first | exact Below.refl _ _ | assumption | refine Below.drew ?_ | refine balloc ?_ _ | refine bset ?_ (by simp; omega) _ | refine bset ?_ (by simp) _ | refine bstep ?_ (by assumption)))) r0, cell_keep (by (repeat (first | exact Below.refl _ _ | assumption | refine Below.drew ?_ | refine balloc ?_ _ | refine bset ?_ (by simp; omega) _ | refine bset ?_ (by simp) _ | refine bstep ?_ (by assumption)))) r1, cell_keep (by (repeat (first | exact Below.refl _ _ | assumption | refine Below.drew ?_ | refine balloc ?_ _ | refine bset ?_ (by simp; omega) _ | refine bset ?_ (by simp) _ | refine bstep ?_ (by assumption)))) r2, cell_keep (by (repeat (first | exact Below.refl _ _ | assumption | refine Below.drew ?_ | refine balloc ?_ _ | refine bset ?_ (by simp; omega) _ | refine bset ?_ (by simp) _ | refine bstep ?_ (by assumption)))) r3, cell_keep (by (repeat (first | exact Below.refl _ _ | assumption | refine Below.drew ?_ | refine balloc ?_ _ | refine bset ?_ (by simp; omega) _ | refine bset ?_ (by simp) _ | refine bstep ?_ (by assumption)))) r4⟩ (fun hS => ?_)
  refine upto_takeN (i := 0) (v := ?_) rfl (by kernel_rfl) (by kernel_rfl) (by kernel_rfl) (by kernel_rfl) (fun _ _ _ h => h) (by rfl) hS ?_ ?_
  rotate_left
  · intro wS hSw
    try dsimp only at hSw
    first | (go_simp; done) | (go_simp; with_reducible rfl)
  try simp only [Act.put, List.getElem_toArray, List.getElem_cons_zero, List.getElem_cons_succ, List.setIfInBounds_toArray, List.set_cons_zero, List.set_cons_succ]
  refine upto_takeN (i := 1) (v := ?_) rfl (by kernel_rfl) (by kernel_rfl) (by kernel_rfl) (by kernel_rfl) (fun _ _ _ h => h) (by rfl) hS ?_ ?_
  rotate_left
  · intro wS hSw
    try dsimp only at hSw
    first | (go_simp; done) | (go_simp; with_reducible rfl)
  try simp only [Act.put, List.getElem_toArray, List.getElem_cons_zero, List.getElem_cons_succ, List.setIfInBounds_toArray, List.set_cons_zero, List.set_cons_succ]
  refine upto_step (i := 2) (by kernel_rfl) rfl ?_
  intro K hK
  go_simp
  refine (isVersion_any _ _).mono ?_
  rintro e w' ⟨rfl, hEq⟩
  obtain rfl := hEq.symm
  rw [HIN.out]
  refine hK _ _ (fun _ => hS) ?_
  clear hK K hEq
  try simp only [Act.put, List.getElem_toArray, List.getElem_cons_zero, List.getElem_cons_succ, List.setIfInBounds_toArray, List.set_cons_zero, List.set_cons_succ]
  refine upto_takeN (i := 3) (v := (.bool false)) rfl (by kernel_rfl) (by kernel_rfl) (by kernel_rfl) (by kernel_rfl) (fun _ _ _ h => h) (by rfl) hS ?_ ?_
  · intro wS hSw
    try dsimp only at hSw
    go_simp
  try simp only [Act.put, List.getElem_toArray, List.getElem_cons_zero, List.getElem_cons_succ, List.setIfInBounds_toArray, List.set_cons_zero, List.set_cons_succ]
  refine upto_takeN (i := 4) (v := (.bool false)) rfl (by kernel_rfl) (by kernel_rfl) (by kernel_rfl) (by kernel_rfl) (fun _ _ _ h => h) (by rfl) hS ?_ ?_
  · intro wS hSw
    try dsimp only at hSw
    go_simp
  try simp only [Act.put, List.getElem_toArray, List.getElem_cons_zero, List.getElem_cons_succ, List.setIfInBounds_toArray, List.set_cons_zero, List.set_cons_succ]
  refine upto_takeN (i := 5) (v := ?_) rfl (by kernel_rfl) (by kernel_rfl) (by kernel_rfl) (by kernel_rfl) (fun _ _ _ h => h) (by rfl) hS ?_ ?_
  rotate_left
  · intro wS hSw
    try dsimp only at hSw
    first | (go_simp; done) | (go_simp; with_reducible rfl)
  try simp only [Act.put, List.getElem_toArray, List.getElem_cons_zero, List.getElem_cons_succ, List.setIfInBounds_toArray, List.set_cons_zero, List.set_cons_succ]
  refine upto_takeN (i := 8) (v := ?_) rfl (by kernel_rfl) (by kernel_rfl) (by kernel_rfl) (by kernel_rfl) (fun _ _ _ h => h) (by rfl) hS ?_ ?_
  rotate_left
  · intro wS hSw
    try dsimp only at hSw
    first | (go_simp; done) | (go_simp; with_reducible rfl)
  try simp only [Act.put, List.getElem_toArray, List.getElem_cons_zero, List.getElem_cons_succ, List.setIfInBounds_toArray, List.set_cons_zero, List.set_cons_succ]
  refine upto_takeN (i := 9) (v := ?_) rfl (by kernel_rfl) (by kernel_rfl) (by kernel_rfl) (by kernel_rfl) (fun _ _ _ h => h) (by rfl) hS ?_ ?_
  rotate_left
  · intro wS hSw
    try dsimp only at hSw
    first | (go_simp; done) | (go_simp; with_reducible rfl)
  try simp only [Act.put, List.getElem_toArray, List.getElem_cons_zero, List.getElem_cons_succ, List.setIfInBounds_toArray, List.set_cons_zero, List.set_cons_succ]
  refine upto_step (i := 6) (by kernel_rfl) rfl ?_
  intro K hK
  go_simp
  refine (layersOf_V _ d _ (engnR.below HX.out (bstep hB1 hS.1)) (by omega)).mono ?_
  rintro e w3 ⟨v3, rfl, hV3, b3⟩
  obtain ⟨a3, c3, rfl⟩ := rowss_form hV3
  have hS3 : (fun w' => Below w1.heap.size w1 w' ∧ w'.cell? ⟨w.heap.size, 0, none⟩ = some (u1) ∧ w'.cell? ⟨w.heap.size, 1, none⟩ = some (u2) ∧ w'.cell? ⟨w.heap.size, 2, none⟩ = some (u3) ∧ w'.cell? ⟨w.heap.size, 3, none⟩ = some (u4) ∧ w'.cell? ⟨w.heap.size, 4, none⟩ = some (.int .i64 d.next)) w3 := ⟨bstep hS.1 b3, cell_keep b3 hS.2.1, cell_keep b3 hS.2.2.1, cell_keep b3 hS.2.2.2.1, cell_keep b3 hS.2.2.2.2.1, cell_keep b3 hS.2.2.2.2.2⟩
  refine hK _ _ (fun _ => hS3) ?_
  clear hK K hS
  try simp only [Act.put, List.getElem_toArray, List.getElem_cons_zero, List.getElem_cons_succ, List.setIfInBounds_toArray, List.set_cons_zero, List.set_cons_succ]
  refine upto_step (i := 7) (by kernel_rfl) rfl ?_
  intro K hK
  go_simp
  refine (greatest_any _ (d.mem :: d.tables) _ hV3).mono ?_
  rintro e w4 ⟨rfl, b4⟩
  have hS4 : (fun w' => Below w1.heap.size w1 w' ∧ w'.cell? ⟨w.heap.size, 0, none⟩ = some (u1) ∧ w'.cell? ⟨w.heap.size, 1, none⟩ = some (u2) ∧ w'.cell? ⟨w.heap.size, 2, none⟩ = some (u3) ∧ w'.cell? ⟨w.heap.size, 3, none⟩ = some (u4) ∧ w'.cell? ⟨w.heap.size, 4, none⟩ = some (.int .i64 d.next)) w4 := ⟨bstep hS3.1 b4, cell_keep b4 hS3.2.1, cell_keep b4 hS3.2.2.1, cell_keep b4 hS3.2.2.2.1, cell_keep b4 hS3.2.2.2.2.1, cell_keep b4 hS3.2.2.2.2.2⟩
  rw [HGV.out]
  refine hK _ _ (fun _ => hS4) ?_
  clear hK K hS3
  try simp only [Act.put, List.getElem_toArray, List.getElem_cons_zero, List.getElem_cons_succ, List.setIfInBounds_toArray, List.set_cons_zero, List.set_cons_succ]
  refine upto_takeN (i := 10) (v := (.bool false)) rfl (by kernel_rfl) (by kernel_rfl) (by kernel_rfl) (by kernel_rfl) (fun _ _ _ h => h) (by rfl) hS4 ?_ ?_
  · intro wS hSw
    try dsimp only at hSw
    go_simp
  try simp only [Act.put, List.getElem_toArray, List.getElem_cons_zero, List.getElem_cons_succ, List.setIfInBounds_toArray, List.set_cons_zero, List.set_cons_succ]
  refine upto_takeN (i := 11) (v := (.bool false)) rfl (by kernel_rfl) (by kernel_rfl) (by kernel_rfl) (by kernel_rfl) (fun _ _ _ h => h) (by rfl) hS4 ?_ ?_
  · intro wS hSw
    try dsimp only at hSw
    go_simp
  try simp only [Act.put, List.getElem_toArray, List.getElem_cons_zero, List.getElem_cons_succ, List.setIfInBounds_toArray, List.set_cons_zero, List.set_cons_succ]
  refine upto_done (by kernel_rfl) ?_
  refine NoPanic.normal ?_
  obtain ⟨hb4, q0, q1, q2, q3, q4⟩ := hS4
  have hB4 := bstep hB1 hb4
  clear r0 r1 r2 r3 r4 b3 b4 hV3 hb4 hB1 hr hr2
  go_wp2_with fail
  refine (logged_any _ d.log d.next _ (loggR.below HL.out hB4) HLF.out).mono ?_
  rintro e w5 ⟨v, f, rfl, hP, b5⟩
  have r0 := cell_keep b5 q0
  have r1 := cell_keep b5 q1
  have r2 := cell_keep b5 q2
  have r3 := cell_keep b5 q3
  have r4 := cell_keep b5 q4
  have hB5 := bstep hB4 b5
  clear q0 q1 q2 q3 q4 b5 hB4
  obtain ⟨⟨av, nv, cv, rfl⟩, hPt, hPf⟩ := hP
  have hlm : d.mem.length ≤ 200 := (tabF_all HMF.out).1
  cases f with
  | false =>
    have HE : Hid (engF d = 1) := engF_log HPA.out HRA.out (fun h => by have := hPf rfl _ h; omega)
    clear hPt hPf
    go_wp2
    refine wp_region_noPanic ?_
    refine region_upto (fun w' => Below w5.heap.size w5 w' ∧ w'.cell? ⟨w.heap.size, 0, none⟩ = some (u1) ∧ w'.cell? ⟨w.heap.size, 1, none⟩ = some (u2) ∧ w'.cell? ⟨w.heap.size, 2, none⟩ = some (u3) ∧ w'.cell? ⟨w.heap.size, 3, none⟩ = some (u4) ∧ w'.cell? ⟨w.heap.size, 4, none⟩ = some (.int .i64 d.next)) 18 (by kernel_rfl) ⟨by (repeat (first | exact Below.refl _ _ | assumption | refine Below.drew ?_ | refine balloc ?_ _ | refine bset ?_ (by simp; omega) _ | refine bset ?_ (by simp) _ | refine bstep ?_ (by assumption))), cell_keep (by (repeat (first | exact Below.refl _ _ | assumption | refine Below.drew ?_ | refine balloc ?_ _ | refine bset ?_ (by simp; omega) _ | refine bset ?_ (by simp) _ | refine bstep ?_ (by assumption)))) r0, cell_keep (by (repeat (first | exact Below.refl _ _ | assumption | refine Below.drew ?_ | refine balloc ?_ _ | refine bset ?_ (by simp; omega) _ | refine bset ?_ (by simp) _ | refine bstep ?_ (by assumption)))) r1, cell_keep (by (repeat (first | exact Below.refl _ _ | assumption | refine Below.drew ?_ | refine balloc ?_ _ | refine bset ?_ (by simp; omega) _ | refine bset ?_ (by simp) _ | refine bstep ?_ (by assumption)))) r2, cell_keep (by (repeat (first | exact Below.refl _ _ | assumption | refine Below.drew ?_ | refine balloc ?_ _ | refine bset ?_ (by simp; omega) _ | refine bset ?_ (by simp) _ | refine bstep ?_ (by assumption)))) r3, cell_keep (by (repeat (first | exact Below.refl _ _ | assumption | refine Below.drew ?_ | refine balloc ?_ _ | refine bset ?_ (by simp; omega) _ | refine bset ?_ (by simp) _ | refine bstep ?_ (by assumption)))) r4⟩ (fun hS => ?_)
    refine upto_takeN (i := 0) (v := ?_) rfl (by kernel_rfl) (by kernel_rfl) (by kernel_rfl) (by kernel_rfl) (fun _ _ _ h => h) (by rfl) hS ?_ ?_
    rotate_left
    · intro wS hSw
      try dsimp only at hSw
      first | (go_simp; done) | (go_simp; with_reducible rfl)
    try simp only [Act.put, List.getElem_toArray, List.getElem_cons_zero, List.getElem_cons_succ, List.setIfInBounds_toArray, List.set_cons_zero, List.set_cons_succ]
    refine upto_takeN (i := 1) (v := (.bool true)) rfl (by kernel_rfl) (by kernel_rfl) (by kernel_rfl) (by kernel_rfl) (fun _ _ _ h => h) (by rfl) hS ?_ ?_
    · intro wS hSw
      try dsimp only at hSw
      go_simp
    try simp only [Act.put, List.getElem_toArray, List.getElem_cons_zero, List.getElem_cons_succ, List.setIfInBounds_toArray, List.set_cons_zero, List.set_cons_succ]
    refine upto_takeN (i := 2) (v := (.bool true)) rfl (by kernel_rfl) (by kernel_rfl) (by kernel_rfl) (by kernel_rfl) (fun _ _ _ h => h) (by rfl) hS ?_ ?_
    · intro wS hSw
      try dsimp only at hSw
      go_simp
    try simp only [Act.put, List.getElem_toArray, List.getElem_cons_zero, List.getElem_cons_succ, List.setIfInBounds_toArray, List.set_cons_zero, List.set_cons_succ]
    refine upto_skipN (i := 3) rfl (by kernel_rfl) (by kernel_rfl) (by kernel_rfl) (by kernel_rfl) (fun _ _ _ h => h) (by rfl) hS (fun q3 => ?_)
    try simp only [Act.put, List.getElem_toArray, List.getElem_cons_zero, List.getElem_cons_succ, List.setIfInBounds_toArray, List.set_cons_zero, List.set_cons_succ]
    refine upto_skipN (i := 4) rfl (by kernel_rfl) (by kernel_rfl) (by kernel_rfl) (by kernel_rfl) (fun _ _ _ h => h) (by rfl) hS (fun q4 => ?_)
    try simp only [Act.put, List.getElem_toArray, List.getElem_cons_zero, List.getElem_cons_succ, List.setIfInBounds_toArray, List.set_cons_zero, List.set_cons_succ]
    refine upto_skipN (i := 5) rfl (by kernel_rfl) (by kernel_rfl) (by kernel_rfl) (by kernel_rfl) (fun _ _ _ h => h) (by rfl) hS (fun q5 => ?_)
    try simp only [Act.put, List.getElem_toArray, List.getElem_cons_zero, List.getElem_cons_succ, List.setIfInBounds_toArray, List.set_cons_zero, List.set_cons_succ]
    refine upto_skipN (i := 6) rfl (by kernel_rfl) (by kernel_rfl) (by kernel_rfl) (by kernel_rfl) (fun _ _ _ h => h) (by rfl) hS (fun q6 => ?_)
    try simp only [Act.put, List.getElem_toArray, List.getElem_cons_zero, List.getElem_cons_succ, List.setIfInBounds_toArray, List.set_cons_zero, List.set_cons_succ]
    refine upto_skipN (i := 7) rfl (by kernel_rfl) (by kernel_rfl) (by kernel_rfl) (by kernel_rfl) (fun _ _ _ h => h) (by rfl) hS (fun q7 => ?_)
    try simp only [Act.put, List.getElem_toArray, List.getElem_cons_zero, List.getElem_cons_succ, List.setIfInBounds_toArray, List.set_cons_zero, List.set_cons_succ]
    refine upto_takeN (i := 8) (v := (.bool true)) rfl (by kernel_rfl) (by kernel_rfl) (by kernel_rfl) (by kernel_rfl) (fun _ _ _ h => h) (by rfl) hS ?_ ?_
    · intro wS hSw
      try dsimp only at hSw
      go_simp
    try simp only [Act.put, List.getElem_toArray, List.getElem_cons_zero, List.getElem_cons_succ, List.setIfInBounds_toArray, List.set_cons_zero, List.set_cons_succ]
    refine upto_takeN (i := 9) (v := (.bool true)) rfl (by kernel_rfl) (by kernel_rfl) (by kernel_rfl) (by kernel_rfl) (fun _ _ _ h => h) (by rfl) hS ?_ ?_
    · intro wS hSw
      try dsimp only at hSw
      go_simp
    try simp only [Act.put, List.getElem_toArray, List.getElem_cons_zero, List.getElem_cons_succ, List.setIfInBounds_toArray, List.set_cons_zero, List.set_cons_succ]
    refine upto_skipN (i := 10) rfl (by kernel_rfl) (by kernel_rfl) (by kernel_rfl) (by kernel_rfl) (fun _ _ _ h => h) (by rfl) hS (fun q10 => ?_)
    try simp only [Act.put, List.getElem_toArray, List.getElem_cons_zero, List.getElem_cons_succ, List.setIfInBounds_toArray, List.set_cons_zero, List.set_cons_succ]
    refine upto_skipN (i := 11) rfl (by kernel_rfl) (by kernel_rfl) (by kernel_rfl) (by kernel_rfl) (fun _ _ _ h => h) (by rfl) hS (fun q11 => ?_)
    try simp only [Act.put, List.getElem_toArray, List.getElem_cons_zero, List.getElem_cons_succ, List.setIfInBounds_toArray, List.set_cons_zero, List.set_cons_succ]
    refine upto_skipN (i := 12) rfl (by kernel_rfl) (by kernel_rfl) (by kernel_rfl) (by kernel_rfl) (fun _ _ _ h => h) (by rfl) hS (fun q12 => ?_)
    try simp only [Act.put, List.getElem_toArray, List.getElem_cons_zero, List.getElem_cons_succ, List.setIfInBounds_toArray, List.set_cons_zero, List.set_cons_succ]
    refine upto_skipN (i := 13) rfl (by kernel_rfl) (by kernel_rfl) (by kernel_rfl) (by kernel_rfl) (fun _ _ _ h => h) (by rfl) hS (fun q13 => ?_)
    try simp only [Act.put, List.getElem_toArray, List.getElem_cons_zero, List.getElem_cons_succ, List.setIfInBounds_toArray, List.set_cons_zero, List.set_cons_succ]
    refine upto_skipN (i := 14) rfl (by kernel_rfl) (by kernel_rfl) (by kernel_rfl) (by kernel_rfl) (fun _ _ _ h => h) (by rfl) hS (fun q14 => ?_)
    try simp only [Act.put, List.getElem_toArray, List.getElem_cons_zero, List.getElem_cons_succ, List.setIfInBounds_toArray, List.set_cons_zero, List.set_cons_succ]
    refine upto_skipN (i := 15) rfl (by kernel_rfl) (by kernel_rfl) (by kernel_rfl) (by kernel_rfl) (fun _ _ _ h => h) (by rfl) hS (fun q15 => ?_)
    try simp only [Act.put, List.getElem_toArray, List.getElem_cons_zero, List.getElem_cons_succ, List.setIfInBounds_toArray, List.set_cons_zero, List.set_cons_succ]
    refine upto_skipN (i := 16) rfl (by kernel_rfl) (by kernel_rfl) (by kernel_rfl) (by kernel_rfl) (fun _ _ _ h => h) (by rfl) hS (fun q16 => ?_)
    try simp only [Act.put, List.getElem_toArray, List.getElem_cons_zero, List.getElem_cons_succ, List.setIfInBounds_toArray, List.set_cons_zero, List.set_cons_succ]
    refine upto_takeN (i := 17) (v := (.bool true)) rfl (by kernel_rfl) (by kernel_rfl) (by kernel_rfl) (by kernel_rfl) (fun _ _ _ h => h) (by rfl) hS ?_ ?_
    · intro wS hSw
      try dsimp only at hSw
      go_simp
    try simp only [Act.put, List.getElem_toArray, List.getElem_cons_zero, List.getElem_cons_succ, List.setIfInBounds_toArray, List.set_cons_zero, List.set_cons_succ]
    refine upto_done (by kernel_rfl) ?_
    refine NoPanic.normal ?_
    go_wp2
    go_ret
    exact ⟨by rw [HE.out]; rfl, bstep hB5 hS.1⟩
  | true =>
    obtain ⟨out, hre, hol, ho⟩ := hPt rfl
    have hO := RowsV_of_owns ho
    have HO : Hid (RowsV w5 (.slice av nv cv) out) := hO
    clear hPt hPf ho hO
    by_cases he : out = d.mem
    rotate_left
    · have HE : Hid (engF d = 1) := engF_log HPA.out HRA.out (by rw [hre]; intro h; cases h; exact he rfl)
      have HD : Hid (decide (out = d.mem) = false) := decide_eq_false he
      clear he hre
      go_wp2
      refine wp_region_noPanic ?_
      refine region_upto (fun w' => Below w5.heap.size w5 w' ∧ w'.cell? ⟨w.heap.size, 0, none⟩ = some (u1) ∧ w'.cell? ⟨w.heap.size, 1, none⟩ = some (u2) ∧ w'.cell? ⟨w.heap.size, 2, none⟩ = some (u3) ∧ w'.cell? ⟨w.heap.size, 3, none⟩ = some (u4) ∧ w'.cell? ⟨w.heap.size, 4, none⟩ = some (.int .i64 d.next)) 18 (by kernel_rfl) ⟨by (repeat (first | exact Below.refl _ _ | assumption | refine Below.drew ?_ | refine balloc ?_ _ | refine bset ?_ (by simp; omega) _ | refine bset ?_ (by simp) _ | refine bstep ?_ (by assumption))), cell_keep (by (repeat (first | exact Below.refl _ _ | assumption | refine Below.drew ?_ | refine balloc ?_ _ | refine bset ?_ (by simp; omega) _ | refine bset ?_ (by simp) _ | refine bstep ?_ (by assumption)))) r0, cell_keep (by (repeat (first | exact Below.refl _ _ | assumption | refine Below.drew ?_ | refine balloc ?_ _ | refine bset ?_ (by simp; omega) _ | refine bset ?_ (by simp) _ | refine bstep ?_ (by assumption)))) r1, cell_keep (by (repeat (first | exact Below.refl _ _ | assumption | refine Below.drew ?_ | refine balloc ?_ _ | refine bset ?_ (by simp; omega) _ | refine bset ?_ (by simp) _ | refine bstep ?_ (by assumption)))) r2, cell_keep (by (repeat (first | exact Below.refl _ _ | assumption | refine Below.drew ?_ | refine balloc ?_ _ | refine bset ?_ (by simp; omega) _ | refine bset ?_ (by simp) _ | refine bstep ?_ (by assumption)))) r3, cell_keep (by (repeat (first | exact Below.refl _ _ | assumption | refine Below.drew ?_ | refine balloc ?_ _ | refine bset ?_ (by simp; omega) _ | refine bset ?_ (by simp) _ | refine bstep ?_ (by assumption)))) r4⟩ (fun hS => ?_)
      refine upto_takeN (i := 0) (v := ?_) rfl (by kernel_rfl) (by kernel_rfl) (by kernel_rfl) (by kernel_rfl) (fun _ _ _ h => h) (by rfl) hS ?_ ?_
      rotate_left
      · intro wS hSw
        try dsimp only at hSw
        first | (go_simp; done) | (go_simp; with_reducible rfl)
      try simp only [Act.put, List.getElem_toArray, List.getElem_cons_zero, List.getElem_cons_succ, List.setIfInBounds_toArray, List.set_cons_zero, List.set_cons_succ]
      refine upto_takeN (i := 1) (v := (.bool false)) rfl (by kernel_rfl) (by kernel_rfl) (by kernel_rfl) (by kernel_rfl) (fun _ _ _ h => h) (by rfl) hS ?_ ?_
      · intro wS hSw
        try dsimp only at hSw
        go_simp
      try simp only [Act.put, List.getElem_toArray, List.getElem_cons_zero, List.getElem_cons_succ, List.setIfInBounds_toArray, List.set_cons_zero, List.set_cons_succ]
      refine upto_takeN (i := 2) (v := (.bool false)) rfl (by kernel_rfl) (by kernel_rfl) (by kernel_rfl) (by kernel_rfl) (fun _ _ _ h => h) (by rfl) hS ?_ ?_
      · intro wS hSw
        try dsimp only at hSw
        go_simp
      try simp only [Act.put, List.getElem_toArray, List.getElem_cons_zero, List.getElem_cons_succ, List.setIfInBounds_toArray, List.set_cons_zero, List.set_cons_succ]
      refine upto_takeN (i := 3) (v := ?_) rfl (by kernel_rfl) (by kernel_rfl) (by kernel_rfl) (by kernel_rfl) (fun _ _ _ h => h) (by rfl) hS ?_ ?_
      rotate_left
      · intro wS hSw
        try dsimp only at hSw
        first | (go_simp; done) | (go_simp; with_reducible rfl)
      try simp only [Act.put, List.getElem_toArray, List.getElem_cons_zero, List.getElem_cons_succ, List.setIfInBounds_toArray, List.set_cons_zero, List.set_cons_succ]
      refine upto_takeN (i := 4) (v := ?_) rfl (by kernel_rfl) (by kernel_rfl) (by kernel_rfl) (by kernel_rfl) (fun _ _ _ h => h) (by rfl) hS ?_ ?_
      rotate_left
      · intro wS hSw
        try dsimp only at hSw
        first | (go_simp; done) | (go_simp; with_reducible rfl)
      try simp only [Act.put, List.getElem_toArray, List.getElem_cons_zero, List.getElem_cons_succ, List.setIfInBounds_toArray, List.set_cons_zero, List.set_cons_succ]
      refine upto_takeN (i := 5) (v := ?_) rfl (by kernel_rfl) (by kernel_rfl) (by kernel_rfl) (by kernel_rfl) (fun _ _ _ h => h) (by rfl) hS ?_ ?_
      rotate_left
      · intro wS hSw
        try dsimp only at hSw
        first | (go_simp; done) | (go_simp; with_reducible rfl)
      try simp only [Act.put, List.getElem_toArray, List.getElem_cons_zero, List.getElem_cons_succ, List.setIfInBounds_toArray, List.set_cons_zero, List.set_cons_succ]
      refine upto_step (i := 6) (by kernel_rfl) rfl ?_
      intro K hK
      go_simp
      refine (equalRows_any _ _ out d.mem _ (RowsV_below HO.out hS.1) (RowsV_below HM.out (bstep hB5 hS.1))).mono ?_
      rintro e w6 ⟨rfl, b6⟩
      have hS6 : (fun w' => Below w5.heap.size w5 w' ∧ w'.cell? ⟨w.heap.size, 0, none⟩ = some (u1) ∧ w'.cell? ⟨w.heap.size, 1, none⟩ = some (u2) ∧ w'.cell? ⟨w.heap.size, 2, none⟩ = some (u3) ∧ w'.cell? ⟨w.heap.size, 3, none⟩ = some (u4) ∧ w'.cell? ⟨w.heap.size, 4, none⟩ = some (.int .i64 d.next)) w6 := ⟨bstep hS.1 b6, cell_keep b6 hS.2.1, cell_keep b6 hS.2.2.1, cell_keep b6 hS.2.2.2.1, cell_keep b6 hS.2.2.2.2.1, cell_keep b6 hS.2.2.2.2.2⟩
      rw [HD.out]
      refine hK _ _ (fun _ => hS6) ?_
      clear hK K hS
      try simp only [Act.put, List.getElem_toArray, List.getElem_cons_zero, List.getElem_cons_succ, List.setIfInBounds_toArray, List.set_cons_zero, List.set_cons_succ]
      refine upto_takeN (i := 7) (v := (.bool true)) rfl (by kernel_rfl) (by kernel_rfl) (by kernel_rfl) (by kernel_rfl) (fun _ _ _ h => h) (by rfl) hS6 ?_ ?_
      · intro wS hSw
        try dsimp only at hSw
        go_simp
      try simp only [Act.put, List.getElem_toArray, List.getElem_cons_zero, List.getElem_cons_succ, List.setIfInBounds_toArray, List.set_cons_zero, List.set_cons_succ]
      refine upto_takeN (i := 8) (v := (.bool true)) rfl (by kernel_rfl) (by kernel_rfl) (by kernel_rfl) (by kernel_rfl) (fun _ _ _ h => h) (by rfl) hS6 ?_ ?_
      · intro wS hSw
        try dsimp only at hSw
        go_simp
      try simp only [Act.put, List.getElem_toArray, List.getElem_cons_zero, List.getElem_cons_succ, List.setIfInBounds_toArray, List.set_cons_zero, List.set_cons_succ]
      refine upto_takeN (i := 9) (v := (.bool true)) rfl (by kernel_rfl) (by kernel_rfl) (by kernel_rfl) (by kernel_rfl) (fun _ _ _ h => h) (by rfl) hS6 ?_ ?_
      · intro wS hSw
        try dsimp only at hSw
        go_simp
      try simp only [Act.put, List.getElem_toArray, List.getElem_cons_zero, List.getElem_cons_succ, List.setIfInBounds_toArray, List.set_cons_zero, List.set_cons_succ]
      refine upto_skipN (i := 10) rfl (by kernel_rfl) (by kernel_rfl) (by kernel_rfl) (by kernel_rfl) (fun _ _ _ h => h) (by rfl) hS6 (fun q10 => ?_)
      try simp only [Act.put, List.getElem_toArray, List.getElem_cons_zero, List.getElem_cons_succ, List.setIfInBounds_toArray, List.set_cons_zero, List.set_cons_succ]
      refine upto_skipN (i := 11) rfl (by kernel_rfl) (by kernel_rfl) (by kernel_rfl) (by kernel_rfl) (fun _ _ _ h => h) (by rfl) hS6 (fun q11 => ?_)
      try simp only [Act.put, List.getElem_toArray, List.getElem_cons_zero, List.getElem_cons_succ, List.setIfInBounds_toArray, List.set_cons_zero, List.set_cons_succ]
      refine upto_skipN (i := 12) rfl (by kernel_rfl) (by kernel_rfl) (by kernel_rfl) (by kernel_rfl) (fun _ _ _ h => h) (by rfl) hS6 (fun q12 => ?_)
      try simp only [Act.put, List.getElem_toArray, List.getElem_cons_zero, List.getElem_cons_succ, List.setIfInBounds_toArray, List.set_cons_zero, List.set_cons_succ]
      refine upto_skipN (i := 13) rfl (by kernel_rfl) (by kernel_rfl) (by kernel_rfl) (by kernel_rfl) (fun _ _ _ h => h) (by rfl) hS6 (fun q13 => ?_)
      try simp only [Act.put, List.getElem_toArray, List.getElem_cons_zero, List.getElem_cons_succ, List.setIfInBounds_toArray, List.set_cons_zero, List.set_cons_succ]
      refine upto_skipN (i := 14) rfl (by kernel_rfl) (by kernel_rfl) (by kernel_rfl) (by kernel_rfl) (fun _ _ _ h => h) (by rfl) hS6 (fun q14 => ?_)
      try simp only [Act.put, List.getElem_toArray, List.getElem_cons_zero, List.getElem_cons_succ, List.setIfInBounds_toArray, List.set_cons_zero, List.set_cons_succ]
      refine upto_skipN (i := 15) rfl (by kernel_rfl) (by kernel_rfl) (by kernel_rfl) (by kernel_rfl) (fun _ _ _ h => h) (by rfl) hS6 (fun q15 => ?_)
      try simp only [Act.put, List.getElem_toArray, List.getElem_cons_zero, List.getElem_cons_succ, List.setIfInBounds_toArray, List.set_cons_zero, List.set_cons_succ]
      refine upto_skipN (i := 16) rfl (by kernel_rfl) (by kernel_rfl) (by kernel_rfl) (by kernel_rfl) (fun _ _ _ h => h) (by rfl) hS6 (fun q16 => ?_)
      try simp only [Act.put, List.getElem_toArray, List.getElem_cons_zero, List.getElem_cons_succ, List.setIfInBounds_toArray, List.set_cons_zero, List.set_cons_succ]
      refine upto_takeN (i := 17) (v := (.bool true)) rfl (by kernel_rfl) (by kernel_rfl) (by kernel_rfl) (by kernel_rfl) (fun _ _ _ h => h) (by rfl) hS6 ?_ ?_
      · intro wS hSw
        try dsimp only at hSw
        go_simp
      try simp only [Act.put, List.getElem_toArray, List.getElem_cons_zero, List.getElem_cons_succ, List.setIfInBounds_toArray, List.set_cons_zero, List.set_cons_succ]
      refine upto_done (by kernel_rfl) ?_
      refine NoPanic.normal ?_
      go_wp2
      go_ret
      exact ⟨by rw [HE.out]; rfl, bstep hB5 hS6.1⟩
    have HD : Hid (decide (out = d.mem) = true) := decide_eq_true he
    rw [he] at hre
    have HE1 : Hid (aboveE d = false → engF d = 1) := engF_above HPA.out HRA.out hre
    have HE0 : Hid (aboveE d = true → engF d = 0) := engF_zero HPA.out HRA.out hre
    rw [HAB.out] at HE1 HE0
    clear he hre HAB
    generalize hgt : gvT 0 d.tables = gt at *
    have HGT : Hid (gvT 0 d.tables = gt) := hgt
    clear hgt
    have hIA : ∀ W, Below w5.heap.size w5 W → Calls Tryz.prog 57 #[u3, .int .i64 gt] W fun e w' => e = .returned (.bool (aboveV d.mem gt)) ∧ Below W.heap.size W w' := fun W hW => isAbove_any u3 d.mem gt W (RowsV_below HM.out (bstep hB5 hW))
    generalize aboveV d.mem gt = ab at *
    go_wp2
    refine wp_region_noPanic ?_
    refine region_upto (fun w' => Below w5.heap.size w5 w' ∧ w'.cell? ⟨w.heap.size, 0, none⟩ = some (u1) ∧ w'.cell? ⟨w.heap.size, 1, none⟩ = some (u2) ∧ w'.cell? ⟨w.heap.size, 2, none⟩ = some (u3) ∧ w'.cell? ⟨w.heap.size, 3, none⟩ = some (u4) ∧ w'.cell? ⟨w.heap.size, 4, none⟩ = some (.int .i64 d.next)) 18 (by kernel_rfl) ⟨by (repeat (first | exact Below.refl _ _ | assumption | refine Below.drew ?_ | refine balloc ?_ _ | refine bset ?_ (by simp; omega) _ | refine bset ?_ (by simp) _ | refine bstep ?_ (by assumption))), cell_keep (by (repeat (first | exact Below.refl _ _ | assumption | refine Below.drew ?_ | refine balloc ?_ _ | refine bset ?_ (by simp; omega) _ | refine bset ?_ (by simp) _ | refine bstep ?_ (by assumption)))) r0, cell_keep (by (repeat (first | exact Below.refl _ _ | assumption | refine Below.drew ?_ | refine balloc ?_ _ | refine bset ?_ (by simp; omega) _ | refine bset ?_ (by simp) _ | refine bstep ?_ (by assumption)))) r1, cell_keep (by (repeat (first | exact Below.refl _ _ | assumption | refine Below.drew ?_ | refine balloc ?_ _ | refine bset ?_ (by simp; omega) _ | refine bset ?_ (by simp) _ | refine bstep ?_ (by assumption)))) r2, cell_keep (by (repeat (first | exact Below.refl _ _ | assumption | refine Below.drew ?_ | refine balloc ?_ _ | refine bset ?_ (by simp; omega) _ | refine bset ?_ (by simp) _ | refine bstep ?_ (by assumption)))) r3, cell_keep (by (repeat (first | exact Below.refl _ _ | assumption | refine Below.drew ?_ | refine balloc ?_ _ | refine bset ?_ (by simp; omega) _ | refine bset ?_ (by simp) _ | refine bstep ?_ (by assumption)))) r4⟩ (fun hS => ?_)
    refine upto_takeN (i := 0) (v := ?_) rfl (by kernel_rfl) (by kernel_rfl) (by kernel_rfl) (by kernel_rfl) (fun _ _ _ h => h) (by rfl) hS ?_ ?_
    rotate_left
    · intro wS hSw
      try dsimp only at hSw
      first | (go_simp; done) | (go_simp; with_reducible rfl)
    try simp only [Act.put, List.getElem_toArray, List.getElem_cons_zero, List.getElem_cons_succ, List.setIfInBounds_toArray, List.set_cons_zero, List.set_cons_succ]
    refine upto_takeN (i := 1) (v := (.bool false)) rfl (by kernel_rfl) (by kernel_rfl) (by kernel_rfl) (by kernel_rfl) (fun _ _ _ h => h) (by rfl) hS ?_ ?_
    · intro wS hSw
      try dsimp only at hSw
      go_simp
    try simp only [Act.put, List.getElem_toArray, List.getElem_cons_zero, List.getElem_cons_succ, List.setIfInBounds_toArray, List.set_cons_zero, List.set_cons_succ]
    refine upto_takeN (i := 2) (v := (.bool false)) rfl (by kernel_rfl) (by kernel_rfl) (by kernel_rfl) (by kernel_rfl) (fun _ _ _ h => h) (by rfl) hS ?_ ?_
    · intro wS hSw
      try dsimp only at hSw
      go_simp
    try simp only [Act.put, List.getElem_toArray, List.getElem_cons_zero, List.getElem_cons_succ, List.setIfInBounds_toArray, List.set_cons_zero, List.set_cons_succ]
    refine upto_takeN (i := 3) (v := ?_) rfl (by kernel_rfl) (by kernel_rfl) (by kernel_rfl) (by kernel_rfl) (fun _ _ _ h => h) (by rfl) hS ?_ ?_
    rotate_left
    · intro wS hSw
      try dsimp only at hSw
      first | (go_simp; done) | (go_simp; with_reducible rfl)
    try simp only [Act.put, List.getElem_toArray, List.getElem_cons_zero, List.getElem_cons_succ, List.setIfInBounds_toArray, List.set_cons_zero, List.set_cons_succ]
    refine upto_takeN (i := 4) (v := ?_) rfl (by kernel_rfl) (by kernel_rfl) (by kernel_rfl) (by kernel_rfl) (fun _ _ _ h => h) (by rfl) hS ?_ ?_
    rotate_left
    · intro wS hSw
      try dsimp only at hSw
      first | (go_simp; done) | (go_simp; with_reducible rfl)
    try simp only [Act.put, List.getElem_toArray, List.getElem_cons_zero, List.getElem_cons_succ, List.setIfInBounds_toArray, List.set_cons_zero, List.set_cons_succ]
    refine upto_takeN (i := 5) (v := ?_) rfl (by kernel_rfl) (by kernel_rfl) (by kernel_rfl) (by kernel_rfl) (fun _ _ _ h => h) (by rfl) hS ?_ ?_
    rotate_left
    · intro wS hSw
      try dsimp only at hSw
      first | (go_simp; done) | (go_simp; with_reducible rfl)
    try simp only [Act.put, List.getElem_toArray, List.getElem_cons_zero, List.getElem_cons_succ, List.setIfInBounds_toArray, List.set_cons_zero, List.set_cons_succ]
    refine upto_step (i := 6) (by kernel_rfl) rfl ?_
    intro K hK
    go_simp
    refine (equalRows_any _ _ out d.mem _ (RowsV_below HO.out hS.1) (RowsV_below HM.out (bstep hB5 hS.1))).mono ?_
    rintro e w6 ⟨rfl, b6⟩
    have hS6 : (fun w' => Below w5.heap.size w5 w' ∧ w'.cell? ⟨w.heap.size, 0, none⟩ = some (u1) ∧ w'.cell? ⟨w.heap.size, 1, none⟩ = some (u2) ∧ w'.cell? ⟨w.heap.size, 2, none⟩ = some (u3) ∧ w'.cell? ⟨w.heap.size, 3, none⟩ = some (u4) ∧ w'.cell? ⟨w.heap.size, 4, none⟩ = some (.int .i64 d.next)) w6 := ⟨bstep hS.1 b6, cell_keep b6 hS.2.1, cell_keep b6 hS.2.2.1, cell_keep b6 hS.2.2.2.1, cell_keep b6 hS.2.2.2.2.1, cell_keep b6 hS.2.2.2.2.2⟩
    rw [HD.out]
    refine hK _ _ (fun _ => hS6) ?_
    clear hK K hS
    try simp only [Act.put, List.getElem_toArray, List.getElem_cons_zero, List.getElem_cons_succ, List.setIfInBounds_toArray, List.set_cons_zero, List.set_cons_succ]
    refine upto_takeN (i := 7) (v := (.bool false)) rfl (by kernel_rfl) (by kernel_rfl) (by kernel_rfl) (by kernel_rfl) (fun _ _ _ h => h) (by rfl) hS6 ?_ ?_
    · intro wS hSw
      try dsimp only at hSw
      go_simp
    try simp only [Act.put, List.getElem_toArray, List.getElem_cons_zero, List.getElem_cons_succ, List.setIfInBounds_toArray, List.set_cons_zero, List.set_cons_succ]
    refine upto_takeN (i := 8) (v := (.bool false)) rfl (by kernel_rfl) (by kernel_rfl) (by kernel_rfl) (by kernel_rfl) (fun _ _ _ h => h) (by rfl) hS6 ?_ ?_
    · intro wS hSw
      try dsimp only at hSw
      go_simp
    try simp only [Act.put, List.getElem_toArray, List.getElem_cons_zero, List.getElem_cons_succ, List.setIfInBounds_toArray, List.set_cons_zero, List.set_cons_succ]
    refine upto_takeN (i := 9) (v := (.bool false)) rfl (by kernel_rfl) (by kernel_rfl) (by kernel_rfl) (by kernel_rfl) (fun _ _ _ h => h) (by rfl) hS6 ?_ ?_
    · intro wS hSw
      try dsimp only at hSw
      go_simp
    try simp only [Act.put, List.getElem_toArray, List.getElem_cons_zero, List.getElem_cons_succ, List.setIfInBounds_toArray, List.set_cons_zero, List.set_cons_succ]
    refine upto_takeN (i := 10) (v := ?_) rfl (by kernel_rfl) (by kernel_rfl) (by kernel_rfl) (by kernel_rfl) (fun _ _ _ h => h) (by rfl) hS6 ?_ ?_
    rotate_left
    · intro wS hSw
      try dsimp only at hSw
      first | (go_simp; done) | (go_simp; with_reducible rfl)
    try simp only [Act.put, List.getElem_toArray, List.getElem_cons_zero, List.getElem_cons_succ, List.setIfInBounds_toArray, List.set_cons_zero, List.set_cons_succ]
    refine upto_takeN (i := 11) (v := ?_) rfl (by kernel_rfl) (by kernel_rfl) (by kernel_rfl) (by kernel_rfl) (fun _ _ _ h => h) (by rfl) hS6 ?_ ?_
    rotate_left
    · intro wS hSw
      try dsimp only at hSw
      first | (go_simp; done) | (go_simp; with_reducible rfl)
    try simp only [Act.put, List.getElem_toArray, List.getElem_cons_zero, List.getElem_cons_succ, List.setIfInBounds_toArray, List.set_cons_zero, List.set_cons_succ]
    refine upto_takeN (i := 12) (v := ?_) rfl (by kernel_rfl) (by kernel_rfl) (by kernel_rfl) (by kernel_rfl) (fun _ _ _ h => h) (by rfl) hS6 ?_ ?_
    rotate_left
    · intro wS hSw
      try dsimp only at hSw
      first | (go_simp; done) | (go_simp; with_reducible rfl)
    try simp only [Act.put, List.getElem_toArray, List.getElem_cons_zero, List.getElem_cons_succ, List.setIfInBounds_toArray, List.set_cons_zero, List.set_cons_succ]
    refine upto_takeN (i := 13) (v := ?_) rfl (by kernel_rfl) (by kernel_rfl) (by kernel_rfl) (by kernel_rfl) (fun _ _ _ h => h) (by rfl) hS6 ?_ ?_
    rotate_left
    · intro wS hSw
      try dsimp only at hSw
      first | (go_simp; done) | (go_simp; with_reducible rfl)
    try simp only [Act.put, List.getElem_toArray, List.getElem_cons_zero, List.getElem_cons_succ, List.setIfInBounds_toArray, List.set_cons_zero, List.set_cons_succ]
    refine upto_step (i := 14) (by kernel_rfl) rfl ?_
    intro K hK
    go_simp
    refine (greatest_any _ d.tables _ (rowssR.below HT.out (bstep hB5 hS6.1))).mono ?_
    rintro e w7 ⟨rfl, b7⟩
    have hS7 : (fun w' => Below w5.heap.size w5 w' ∧ w'.cell? ⟨w.heap.size, 0, none⟩ = some (u1) ∧ w'.cell? ⟨w.heap.size, 1, none⟩ = some (u2) ∧ w'.cell? ⟨w.heap.size, 2, none⟩ = some (u3) ∧ w'.cell? ⟨w.heap.size, 3, none⟩ = some (u4) ∧ w'.cell? ⟨w.heap.size, 4, none⟩ = some (.int .i64 d.next)) w7 := ⟨bstep hS6.1 b7, cell_keep b7 hS6.2.1, cell_keep b7 hS6.2.2.1, cell_keep b7 hS6.2.2.2.1, cell_keep b7 hS6.2.2.2.2.1, cell_keep b7 hS6.2.2.2.2.2⟩
    rw [HGT.out]
    refine hK _ _ (fun _ => hS7) ?_
    clear hK K hS6
    try simp only [Act.put, List.getElem_toArray, List.getElem_cons_zero, List.getElem_cons_succ, List.setIfInBounds_toArray, List.set_cons_zero, List.set_cons_succ]
    refine upto_step (i := 15) (by kernel_rfl) rfl ?_
    intro K hK
    go_simp
    refine (hIA _ hS7.1).mono ?_
    rintro e w8 ⟨rfl, b8⟩
    have hS8 : (fun w' => Below w5.heap.size w5 w' ∧ w'.cell? ⟨w.heap.size, 0, none⟩ = some (u1) ∧ w'.cell? ⟨w.heap.size, 1, none⟩ = some (u2) ∧ w'.cell? ⟨w.heap.size, 2, none⟩ = some (u3) ∧ w'.cell? ⟨w.heap.size, 3, none⟩ = some (u4) ∧ w'.cell? ⟨w.heap.size, 4, none⟩ = some (.int .i64 d.next)) w8 := ⟨bstep hS7.1 b8, cell_keep b8 hS7.2.1, cell_keep b8 hS7.2.2.1, cell_keep b8 hS7.2.2.2.1, cell_keep b8 hS7.2.2.2.2.1, cell_keep b8 hS7.2.2.2.2.2⟩
    refine hK _ _ (fun _ => hS8) ?_
    clear hK K hS7 hIA
    try simp only [Act.put, List.getElem_toArray, List.getElem_cons_zero, List.getElem_cons_succ, List.setIfInBounds_toArray, List.set_cons_zero, List.set_cons_succ]
    cases ab with
    | false =>
      have HE : Hid (engF d = 1) := HE1.out rfl
      clear HE1 HE0
      refine upto_takeN (i := 16) (v := (.bool true)) rfl (by kernel_rfl) (by kernel_rfl) (by kernel_rfl) (by kernel_rfl) (fun _ _ _ h => h) (by rfl) hS8 ?_ ?_
      · intro wS hSw
        try dsimp only at hSw
        go_simp
      try simp only [Act.put, List.getElem_toArray, List.getElem_cons_zero, List.getElem_cons_succ, List.setIfInBounds_toArray, List.set_cons_zero, List.set_cons_succ]
      refine upto_takeN (i := 17) (v := (.bool true)) rfl (by kernel_rfl) (by kernel_rfl) (by kernel_rfl) (by kernel_rfl) (fun _ _ _ h => h) (by rfl) hS8 ?_ ?_
      · intro wS hSw
        try dsimp only at hSw
        go_simp
      try simp only [Act.put, List.getElem_toArray, List.getElem_cons_zero, List.getElem_cons_succ, List.setIfInBounds_toArray, List.set_cons_zero, List.set_cons_succ]
      refine upto_done (by kernel_rfl) ?_
      refine NoPanic.normal ?_
      go_wp2
      go_ret
      exact ⟨by rw [HE.out]; rfl, bstep hB5 hS8.1⟩
    | true =>
      have HE : Hid (engF d = 0) := HE0.out rfl
      clear HE1 HE0
      refine upto_takeN (i := 16) (v := (.bool false)) rfl (by kernel_rfl) (by kernel_rfl) (by kernel_rfl) (by kernel_rfl) (fun _ _ _ h => h) (by rfl) hS8 ?_ ?_
      · intro wS hSw
        try dsimp only at hSw
        go_simp
      try simp only [Act.put, List.getElem_toArray, List.getElem_cons_zero, List.getElem_cons_succ, List.setIfInBounds_toArray, List.set_cons_zero, List.set_cons_succ]
      refine upto_takeN (i := 17) (v := (.bool false)) rfl (by kernel_rfl) (by kernel_rfl) (by kernel_rfl) (by kernel_rfl) (fun _ _ _ h => h) (by rfl) hS8 ?_ ?_
      · intro wS hSw
        try dsimp only at hSw
        go_simp
      try simp only [Act.put, List.getElem_toArray, List.getElem_cons_zero, List.getElem_cons_succ, List.setIfInBounds_toArray, List.set_cons_zero, List.set_cons_succ]
      refine upto_done (by kernel_rfl) ?_
      refine NoPanic.normal ?_
      go_wp2
      go_ret
      exact ⟨by rw [HE.out]; rfl, bstep hB5 hS8.1⟩
end Go.Proofs.YtdfapehonegeeaaGreat

/-
  AllRows, ReadKey: both sides.
-/
namespace Go.Proofs.YtdfapehonegeeaaGreat
open Go.RowKit
set_option linter.unusedSectionVars false
variable [DecidableEq Wri] [Inhabited Wri] [DecidableEq BytesR] [Inhabited BytesR] [DecidableEq Rw] [Inhabited Rw] [DecidableEq TabR] [Inhabited TabR] [DecidableEq Logg] [Inhabited Logg] [DecidableEq Engn] [Inhabited Engn] [DecidableEq LoggR] [Inhabited LoggR] [DecidableEq RecsR] [Inhabited RecsR] [DecidableEq Leg] [Inhabited Leg]
set_option linter.unusedVariables false
set_option linter.unusedSimpArgs false
attribute [local go_sem ↓] Go.wp_at_zero Go.wp_at_succ

theorem engF_inv {e : Engn} (h : engF e = 0) : partsF e = 0 ∧ rangeE e = true ∧ replayL e.log e.next = some e.mem ∧ aboveE e = true := by
  by_cases h1 : partsF e = 0
  · cases h2 : rangeE e
    · rw [engF_range h1 h2] at h; cases h
    · by_cases h3 : replayL e.log e.next = some e.mem
      · cases h4 : aboveE e
        · rw [engF_above h1 h2 h3 h4] at h; cases h
        · exact ⟨h1, rfl, h3, rfl⟩
      · rw [engF_log h1 h2 h3] at h; cases h
  · rw [engF_parts h1] at h
    exact absurd h h1
end Go.Proofs.YtdfapehonegeeaaGreat

/-
  EngineResult. (Written by program: nest.py.)
-/
namespace Go.Proofs.YtdfapehonegeeaaGreat
open Go.RowKit
set_option linter.unusedSectionVars false
variable [DecidableEq Logg] [Inhabited Logg] [DecidableEq Rw] [Inhabited Rw] [DecidableEq Engn] [Inhabited Engn]
attribute [local go_sem ↓] Go.wp_at_zero Go.wp_at_succ

set_option linter.unusedSimpArgs false

structure EngR where
  code : Int
  version : Int
  engine : Engn
variable [DecidableEq EngR] [Inhabited EngR]

def engRR : Rep EngR where
  V := fun w v x => ∃ u1_1_1 u1_1_2 u1_2 u1_3, v = .agg #[.int .i64 x.code, .int .i64 x.version, u1_1_1, u1_1_2, u1_2, u1_3, .int .i64 x.engine.next] ∧ engnR.V w (.agg #[u1_1_1, u1_1_2, u1_2, u1_3, .int .i64 x.engine.next]) x.engine
  O := fun w base F v x => ∃ u1_1_1 u1_1_2 u1_2 u1_3 F1, v = .agg #[.int .i64 x.code, .int .i64 x.version, u1_1_1, u1_1_2, u1_2, u1_3, .int .i64 x.engine.next] ∧ engnR.O w base F1 (.agg #[u1_1_1, u1_1_2, u1_2, u1_3, .int .i64 x.engine.next]) x.engine ∧ (∀ b, F b ↔ (F1 b))
  below := fun h hb => by
    obtain ⟨u1_1_1, u1_1_2, u1_2, u1_3, rfl, h1⟩ := h
    exact ⟨u1_1_1, u1_1_2, u1_2, u1_3, rfl, engnR.below h1 hb⟩
  ofO := fun h => by
    obtain ⟨u1_1_1, u1_1_2, u1_2, u1_3, F1, rfl, h1, _⟩ := h
    exact ⟨u1_1_1, u1_1_2, u1_2, u1_3, rfl, engnR.ofO h1⟩
  mod := fun h hm hd => by
    obtain ⟨u1_1_1, u1_1_2, u1_2, u1_3, F1, rfl, h1, hF⟩ := h
    exact ⟨u1_1_1, u1_1_2, u1_2, u1_3, F1, rfl, engnR.mod h1 hm (fun b hb => hd b ((hF b).2 hb)), hF⟩
  rng := fun h b hb => by
    obtain ⟨u1_1_1, u1_1_2, u1_2, u1_3, F1, rfl, h1, hF⟩ := h
    rcases (hF b).1 hb with hb
    · exact engnR.rng h1 b hb
  base := fun h hb => by
    obtain ⟨u1_1_1, u1_1_2, u1_2, u1_3, F1, rfl, h1, hF⟩ := h
    exact ⟨u1_1_1, u1_1_2, u1_2, u1_3, F1, rfl, engnR.base h1 hb, hF⟩
def wtEngR (x : EngR) : Nat := wtEngn x.engine
def cntEngR (x : EngR) : Nat := cntEngn x.engine
def mkEngR (k : Int) (x : EngR) : EngR := { x with engine := mkEngn k x.engine }
theorem engR_form {w : World} {v : Value} {x : EngR} (h : engRR.V w v x) : ∃ a1_1_1 a1_1_2 a1_2 a1_3 c1_1_1 c1_1_2 c1_2 c1_3, v = .agg #[.int .i64 x.code, .int .i64 x.version, .slice a1_1_1 x.engine.log.synced.length c1_1_1, .slice a1_1_2 x.engine.log.loose.length c1_1_2, .slice a1_2 x.engine.mem.length c1_2, .slice a1_3 x.engine.tables.length c1_3, .int .i64 x.engine.next] := by
  obtain ⟨u1_1_1, u1_1_2, u1_2, u1_3, rfl, h1⟩ := h
  obtain ⟨a1_1_1, a1_1_2, a1_2, a1_3, c1_1_1, c1_1_2, c1_2, c1_3, e1⟩ := engn_form h1
  simp only [Value.agg.injEq, Array.mk.injEq, List.cons.injEq, and_true, true_and] at e1
  obtain ⟨rfl, rfl, rfl, rfl⟩ := e1
  exact ⟨_, _, _, _, _, _, _, _, rfl⟩
theorem engR_cnt (d : EngR) : cntEngR d ≤ 4 * wtEngR d := by
  unfold cntEngR wtEngR
  have q1 := engn_cnt d.engine
  omega
set_option maxHeartbeats 1000000 in
theorem eqEngineResult_u (x y : Value) (d d' : EngR) (w : World) (hx : engRR.V w x d) (hy : engRR.V w y d') :
    Calls Tryz.prog 19 #[x, y] w fun e w' => e = .returned (.bool (decide (d = d'))) ∧ Below w.heap.size w w' := by
  obtain ⟨u1_1_1, u1_1_2, u1_2, u1_3, rfl, h1⟩ := hx
  obtain ⟨v1_1_1, v1_1_2, v1_2, v1_3, rfl, k1⟩ := hy
  obtain ⟨code, version, engine⟩ := d
  obtain ⟨code', version', engine'⟩ := d'
  dsimp only at h1 k1
  go_enter Tryz.func19, Tryz.ntmps19
  go_wp2_with fail
  all_goals try (go_ret; exact ⟨by simp_all, by (repeat (first | exact Below.refl _ _ | assumption | refine Below.drew ?_ | refine balloc ?_ _ | refine bset ?_ (by simp; omega) _ | refine bset ?_ (by simp) _ | refine bstep ?_ (by assumption)))⟩)
  refine (eqEngine_u _ _ engine engine' _ (engnR.below h1 (by (repeat (first | exact Below.refl _ _ | assumption | refine Below.drew ?_ | refine balloc ?_ _ | refine bset ?_ (by simp; omega) _ | refine bset ?_ (by simp) _ | refine bstep ?_ (by assumption))))) (engnR.below k1 (by (repeat (first | exact Below.refl _ _ | assumption | refine Below.drew ?_ | refine balloc ?_ _ | refine bset ?_ (by simp; omega) _ | refine bset ?_ (by simp) _ | refine bstep ?_ (by assumption)))))).mono ?_
  rintro e w1 ⟨rfl, b1⟩
  go_wp2
  all_goals
    go_ret
    exact ⟨by simp_all, by (repeat (first | exact Below.refl _ _ | assumption | refine Below.drew ?_ | refine balloc ?_ _ | refine bset ?_ (by simp; omega) _ | refine bset ?_ (by simp) _ | refine bstep ?_ (by assumption)))⟩
set_option maxHeartbeats 1000000 in
theorem markEngineResult_u (v : Value) (d : EngR) (base : Nat) (F : Nat → Prop) (k : Int) (w : World) (ho : engRR.O w base F v d) (hw : wtEngR d ≤ 1048576) (hn : k + cntEngR d ≤ 1073741824) (hk0 : 0 ≤ k) :
    Calls Tryz.prog 23 #[v, .int .i64 k] w fun r w' => r = .returned (.int .i64 (k + cntEngR d)) ∧ engRR.O w' base F v (mkEngR k d) ∧ Mod F w w' := by
  obtain ⟨u1_1_1, u1_1_2, u1_2, u1_3, F1, rfl, h1, hF⟩ := ho
  unfold wtEngR at hw
  unfold cntEngR at hn ⊢
  have HF : Hid (∀ b, F b ↔ (F1 b)) := hF
  clear hF
  go_enter Tryz.func23, Tryz.ntmps23
  go_wp2_with fail
  refine (markEngine_u _ d.engine base F1 k _ (engnR.alloc h1 _) (by omega) (by omega) (by omega)).mono ?_
  rintro e w1 ⟨rfl, r1, m1⟩
  go_wp2
  go_ret
  refine ⟨?_, ⟨_, _, _, _, F1, rfl, r1, HF.out⟩, ((Mod.refl F w).alloc _).trans (m1.mono (fun b hb => (HF.out b).2 hb))⟩
  simp
  try omega
set_option maxHeartbeats 1000000 in
theorem heldEngineResult_u (v : Value) (d : EngR) (k : Int) (w : World) (hv : engRR.V w v (mkEngR k d)) (hw : wtEngR d ≤ 1048576) (hn : k + cntEngR d ≤ 1073741824) (hk0 : 0 ≤ k) :
    Calls Tryz.prog 24 #[v, .int .i64 k] w fun r w' => r = .returned (.int .i64 (k + cntEngR d)) ∧ Below w.heap.size w w' := by
  obtain ⟨u1_1_1, u1_1_2, u1_2, u1_3, rfl, h1⟩ := hv
  unfold wtEngR at hw
  unfold cntEngR at hn ⊢
  go_enter Tryz.func24, Tryz.ntmps24
  go_wp2_with fail
  refine (heldEngine_u _ d.engine k _ (engnR.below h1 (by (repeat (first | exact Below.refl _ _ | assumption | refine Below.drew ?_ | refine balloc ?_ _ | refine bset ?_ (by simp; omega) _ | refine bset ?_ (by simp) _ | refine bstep ?_ (by assumption))))) (by omega) (by omega) (by omega)).mono ?_
  rintro e w1 ⟨rfl, b1⟩
  go_wp2
  go_ret
  refine ⟨?_, by (repeat (first | exact Below.refl _ _ | assumption | refine Below.drew ?_ | refine balloc ?_ _ | refine bset ?_ (by simp; omega) _ | refine bset ?_ (by simp) _ | refine bstep ?_ (by assumption)))⟩
  simp
  try omega
end Go.Proofs.YtdfapehonegeeaaGreat

/-
  NewEngine, on both sides.
-/
namespace Go.Proofs.YtdfapehonegeeaaGreat
open Go.RowKit
set_option linter.unusedSectionVars false
variable [DecidableEq Logg] [Inhabited Logg] [DecidableEq Rw] [Inhabited Rw] [DecidableEq Engn] [Inhabited Engn] [DecidableEq EngR] [Inhabited EngR]
set_option linter.unusedVariables false
set_option linter.unusedSimpArgs false
attribute [local go_sem ↓] Go.wp_at_zero Go.wp_at_succ

theorem nil_own {b : Nat} (h : (Value.slice none 0 0).ownBlock = some b) : False := by simp [Value.ownBlock] at h
theorem logg_nil (w : World) (base : Nat) : loggR.O w base (fun _ => False) (.agg #[.slice none 0 0, .slice none 0 0]) ⟨[], []⟩ :=
  ⟨_, _, fun b => (Value.slice none 0 0).ownBlock = some b, fun b => (Value.slice none 0 0).ownBlock = some b, rfl, ⟨World.ownsRow_nil _ _ _ _, rfl⟩, ⟨World.ownsRow_nil _ _ _ _, rfl⟩, fun _ h => (nil_own h).elim, fun b => ⟨fun h => h.elim, fun h => h.elim nil_own nil_own⟩⟩
theorem rowss_nil (w : World) (base : Nat) : rowssR.O w base (fun _ => False) (.slice none 0 0) [] :=
  ⟨[], fun _ => .nilFunc, fun _ _ => False, ⟨World.ownsRow_nil _ _ _ _, fun i hi => absurd hi (Nat.not_lt_zero _), fun i hi => absurd hi (Nat.not_lt_zero _), fun i hi => absurd hi (Nat.not_lt_zero _), fun i hi => absurd hi (Nat.not_lt_zero _), fun i j hi => absurd hi (Nat.not_lt_zero _)⟩,
    fun b => ⟨fun h => h.elim, fun h => h.elim nil_own (fun ⟨i, hi, _⟩ => absurd hi (Nat.not_lt_zero _))⟩⟩
theorem rows_nilO (w : World) (base : Nat) : rowsR.O w base (fun _ => False) (.slice none 0 0) [] :=
  ⟨⟨World.ownsRow_nil _ _ _ _, by funext b; exact propext ⟨fun h => h.elim, nil_own⟩⟩, fun i hi => absurd hi (Nat.not_lt_zero _)⟩
theorem engn_nil (w : World) (base : Nat) (n : Int) : engnR.O w base (fun _ => False) (.agg #[.slice none 0 0, .slice none 0 0, .slice none 0 0, .slice none 0 0, .int .i64 n]) ⟨⟨[], []⟩, [], [], n⟩ :=
  ⟨_, _, _, _, _, _, _, rfl, logg_nil w base, rows_nilO w base, rowss_nil w base, fun _ h => h.elim, fun _ h => h.elim, fun _ h => h.elim, fun b => ⟨fun h => h.elim, fun h => h.elim id (fun h => h.elim id id)⟩⟩
theorem engR_nil (w : World) (base : Nat) (c v n : Int) : engRR.O w base (fun _ => False) (.agg #[.int .i64 c, .int .i64 v, .slice none 0 0, .slice none 0 0, .slice none 0 0, .slice none 0 0, .int .i64 n]) ⟨c, v, ⟨⟨[], []⟩, [], [], n⟩⟩ :=
  ⟨_, _, _, _, _, rfl, engn_nil w base n, fun _ => Iff.rfl⟩
end Go.Proofs.YtdfapehonegeeaaGreat

