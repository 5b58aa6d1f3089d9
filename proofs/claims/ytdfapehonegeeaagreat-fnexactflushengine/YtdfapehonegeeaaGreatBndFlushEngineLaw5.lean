import Derived.Test.YtdfapehonegeeaaGreatBndFlushEngineLaw4
import Derived.Test.YtdfapehonegeeaaGreatBndEngineFaultLaw5

/-
  FlushEngine: the specification's side.
-/
namespace Go.Proofs.YtdfapehonegeeaaGreat
open Go.RowKit
set_option linter.unusedSectionVars false
variable [DecidableEq Wri] [Inhabited Wri] [DecidableEq BytesR] [Inhabited BytesR] [DecidableEq Rw] [Inhabited Rw] [DecidableEq TabR] [Inhabited TabR] [DecidableEq Logg] [Inhabited Logg] [DecidableEq Engn] [Inhabited Engn] [DecidableEq LoggR] [Inhabited LoggR] [DecidableEq RecsR] [Inhabited RecsR] [DecidableEq Leg] [Inhabited Leg] [DecidableEq EngR] [Inhabited EngR]
set_option linter.unusedVariables false
set_option linter.unusedSimpArgs false
attribute [local go_sem ↓] Go.wp_at_zero Go.wp_at_succ

set_option maxRecDepth 20000 in
set_option maxHeartbeats 8000000 in
theorem specFlush_u (x : Value) (d : Engn) (w : World) (hx : engnR.V w x d) (hn : wtEngn d ≤ 1048576) :
    Calls Tryz.prog 28 #[x] w fun e w' => ∃ v F, e = .returned v ∧ engRR.O w' w.heap.size F v (flushD d) ∧ Below w.heap.size w w' := by
  have HX : Hid (engnR.V w x d) := hx
  obtain ⟨a1, a2, a3, a4, c1, c2, c3, c4, rfl⟩ := engn_form hx
  have HWT : Hid (wtEngn d ≤ 1048576) := hn
  clear hx
  go_enter Tryz.func28, Tryz.ntmps28
  go_wp2_with fail
  refine (specEngF_any _ d _ (engnR.below HX.out (by (repeat (first | exact Below.refl _ _ | assumption | refine Below.drew ?_ | refine balloc ?_ _ | refine bset ?_ (by simp; omega) _ | refine bset ?_ (by simp) _ | refine bstep ?_ (by assumption))))) hn).mono ?_
  rintro e w1 ⟨rfl, b1⟩
  have r0 : w1.cell? ⟨w.heap.size, 0, none⟩ = some (.slice a1 d.log.synced.length c1) := cell_keep b1 (by simp [go_sem])
  have r1 : w1.cell? ⟨w.heap.size, 1, none⟩ = some (.slice a2 d.log.loose.length c2) := cell_keep b1 (by simp [go_sem])
  have r2 : w1.cell? ⟨w.heap.size, 2, none⟩ = some (.slice a3 d.mem.length c3) := cell_keep b1 (by simp [go_sem])
  have r3 : w1.cell? ⟨w.heap.size, 3, none⟩ = some (.slice a4 d.tables.length c4) := cell_keep b1 (by simp [go_sem])
  have r4 : w1.cell? ⟨w.heap.size, 4, none⟩ = some (.int .i64 d.next) := cell_keep b1 (by simp [go_sem])
  have q0 : w1.cell? ⟨w.heap.size + 1, 0, none⟩ = some (.int .i64 0) := cell_keep b1 (by simp [go_sem])
  have q1 : w1.cell? ⟨w.heap.size + 1, 1, none⟩ = some (.int .i64 0) := cell_keep b1 (by simp [go_sem])
  have q2 : w1.cell? ⟨w.heap.size + 1, 2, none⟩ = some (.slice none 0 0) := cell_keep b1 (by simp [go_sem])
  have q3 : w1.cell? ⟨w.heap.size + 1, 3, none⟩ = some (.slice none 0 0) := cell_keep b1 (by simp [go_sem])
  have q4 : w1.cell? ⟨w.heap.size + 1, 4, none⟩ = some (.slice none 0 0) := cell_keep b1 (by simp [go_sem])
  have q5 : w1.cell? ⟨w.heap.size + 1, 5, none⟩ = some (.slice none 0 0) := cell_keep b1 (by simp [go_sem])
  have q6 : w1.cell? ⟨w.heap.size + 1, 6, none⟩ = some (.int .i64 0) := cell_keep b1 (by simp [go_sem])
  obtain ⟨qf, qz⟩ : (∀ o, w1.frozen? ⟨w.heap.size + 1, o, none⟩ = false) ∧ w.heap.size + 1 < w1.heap.size := by
    have h := b1.size
    simp only [World.size_alloc] at h
    exact ⟨fun o => by rw [(bcell b1).2 _ _ (by simp)]; simp [go_sem], by omega⟩
  have hB1 : Below w.heap.size w w1 := by (repeat (first | exact Below.refl _ _ | assumption | refine Below.drew ?_ | refine balloc ?_ _ | refine bset ?_ (by simp; omega) _ | refine bset ?_ (by simp) _ | refine bstep ?_ (by assumption)))
  clear b1 hn
  by_cases h0 : engF d = 0
  rotate_left
  · have HE : Hid (flushD d = codeE (engF d)) := by unfold Hid flushD; rw [if_pos (by simpa using h0)]
    have hc : (engF d == 0) = false := by simpa using h0
    generalize engF d = c at *
    go_wp2
    refine bodyPost_ret (v := .agg #[.int .i64 c, .int .i64 0, .slice none 0 0, .slice none 0 0, .slice none 0 0, .slice none 0 0, .int .i64 0]) (by simp [results, Tryz.results28, go_sem, q0, q1, q2, q3, q4, q5, q6, qf, qz]) rfl ?_
    rw [HE.out]
    first | exact ⟨_, rfl, ⟨_, engR_nil _ _ c 0 0⟩, by (repeat (first | refine bset ?_ (by simp; omega) _ | refine bset ?_ (by simp) _ | refine balloc ?_ _ | assumption))⟩ | exact ⟨_, _, rfl, engR_nil _ _ c 0 0, by (repeat (first | refine bset ?_ (by simp; omega) _ | refine bset ?_ (by simp) _ | refine balloc ?_ _ | assumption))⟩
  rw [h0]
  have HEF : Hid (engF d = 0) := h0
  clear h0
  have h6 : d.tables.length ≤ 6 := (partsF_inv (engF_inv HEF.out).1).2.2.1
  have HM0 : Hid (d.mem.length = 0 → flushD d = codeE 4) := fun h => by unfold flushD; rw [if_neg (by simpa using HEF.out), if_pos h]
  have HT6 : Hid (¬ d.mem.length = 0 → 6 ≤ d.tables.length → flushD d = codeE 2) := fun h h1 => by unfold flushD; rw [if_neg (by simpa using HEF.out), if_neg h, if_pos h1]
  have HOK : Hid (¬ d.mem.length = 0 → ¬ 6 ≤ d.tables.length → flushD d = ⟨0, 0, ⟨⟨[], []⟩, [], d.mem :: d.tables, d.next⟩⟩) := fun h h1 => by unfold flushD; rw [if_neg (by simpa using HEF.out), if_neg h, if_neg h1]
  by_cases hm : d.mem.length = 0
  · have HE : Hid (flushD d = codeE 4) := HM0.out hm
    have hm1 : ((d.mem.length : Int) == 0) = true := by simpa using hm
    have hm2 : (d.mem.length : Int) = 0 := by omega
    clear HM0 HT6 HOK hm
    generalize d.mem.length = lm at *
    generalize d.tables.length = lt at *
    go_wp2
    refine bodyPost_ret (v := .agg #[.int .i64 4, .int .i64 0, .slice none 0 0, .slice none 0 0, .slice none 0 0, .slice none 0 0, .int .i64 0]) (by simp [results, Tryz.results28, go_sem, q0, q1, q2, q3, q4, q5, q6, qf, qz]) rfl ?_
    rw [HE.out]
    first | exact ⟨_, rfl, ⟨_, engR_nil _ _ 4 0 0⟩, by (repeat (first | refine bset ?_ (by simp; omega) _ | refine bset ?_ (by simp) _ | refine balloc ?_ _ | assumption))⟩ | exact ⟨_, _, rfl, engR_nil _ _ 4 0 0, by (repeat (first | refine bset ?_ (by simp; omega) _ | refine bset ?_ (by simp) _ | refine balloc ?_ _ | assumption))⟩
  have hm1 : ((d.mem.length : Int) == 0) = false := by simpa using hm
  by_cases ht : 6 ≤ d.tables.length
  · have HE : Hid (flushD d = codeE 2) := HT6.out hm ht
    have ht1 : ((d.tables.length : Int) == 6) = true := by simp; omega
    have ht2 : (6 : Int) ≤ (d.tables.length : Int) := by omega
    have ht3 : (d.tables.length : Int) = 6 := by omega
    clear HM0 HT6 HOK
    generalize d.mem.length = lm at *
    generalize d.tables.length = lt at *
    go_wp2
    refine bodyPost_ret (v := .agg #[.int .i64 2, .int .i64 0, .slice none 0 0, .slice none 0 0, .slice none 0 0, .slice none 0 0, .int .i64 0]) (by simp [results, Tryz.results28, go_sem, q0, q1, q2, q3, q4, q5, q6, qf, qz]) rfl ?_
    rw [HE.out]
    first | exact ⟨_, rfl, ⟨_, engR_nil _ _ 2 0 0⟩, by (repeat (first | refine bset ?_ (by simp; omega) _ | refine bset ?_ (by simp) _ | refine balloc ?_ _ | assumption))⟩ | exact ⟨_, _, rfl, engR_nil _ _ 2 0 0, by (repeat (first | refine bset ?_ (by simp; omega) _ | refine bset ?_ (by simp) _ | refine balloc ?_ _ | assumption))⟩
  have ht1 : ((d.tables.length : Int) == 6) = false := by simp; omega
  have ht2 : ¬ (6 : Int) ≤ (d.tables.length : Int) := by omega
  have HE : Hid (flushD d = ⟨0, 0, ⟨⟨[], []⟩, [], d.mem :: d.tables, d.next⟩⟩) := HOK.out hm ht
  clear HM0 HT6 HOK
  obtain ⟨i0, hif, hz0, hz1, hz2⟩ := info_parts infoRws
  go_wp2_with fail
  refine (l6Copy_u _ d _ (engnR.below HX.out hB1) HWT.out).mono ?_
  rintro e w2 ⟨v2, F2, rfl, o2, b2⟩
  replace r0 := cell_keep b2 r0
  replace r1 := cell_keep b2 r1
  replace r2 := cell_keep b2 r2
  replace r3 := cell_keep b2 r3
  replace r4 := cell_keep b2 r4
  replace q0 := cell_keep b2 q0
  replace q1 := cell_keep b2 q1
  replace q2 := cell_keep b2 q2
  replace q3 := cell_keep b2 q3
  replace q4 := cell_keep b2 q4
  replace q5 := cell_keep b2 q5
  replace q6 := cell_keep b2 q6
  obtain ⟨qf, qz⟩ := boxKeep ⟨qf, qz⟩ b2
  have hB2 := bstep hB1 b2
  obtain ⟨p1, p2, p3, p4, k1, k2, k3, k4, rfl⟩ := engn_form (engnR.ofO o2)
  obtain ⟨u1, u2, u3, u4, G1, G2, G3, e, o1, oM, oT, d12, d13, d23, hF⟩ := o2
  simp only [Value.agg.injEq, Array.mk.injEq, List.cons.injEq, and_true] at e
  obtain ⟨rfl, rfl, rfl, rfl⟩ := e
  obtain ⟨cs, us, fs, hp, hF3⟩ := oT
  have HM2 : Hid (rowsR.O w2 w1.heap.size G2 (.slice p3 d.mem.length k3) d.mem) := oM
  have HP2 : Hid (PO rowsR 32 1 one w2 w1.heap.size (.slice p4 d.tables.length k4) d.tables.length d.tables.length (fun i => d.tables.getD i default) cs us fs) := hp
  have H23 : Hid (∀ b, G2 b → ∀ i, i < d.tables.length → ¬ fs i b) := fun b hb i hi hf => d23 b hb ((hF3 b).2 (.inr ⟨i, hi, hf⟩))
  have hcl : cs.length = d.tables.length := by simpa using hp.row.1
  have hone := tabs_one hp
  have h12 := b2.size
  clear b2 o1 oM hp d12 d13 d23 hF hF3 r0 r1 r2 r3
  go_wp2
  have hX0 : Below w2.heap.size w2 (w2.alloc (.cells #[.slice p1 d.log.synced.length k1, .slice p2 d.log.loose.length k2, .slice p3 d.mem.length k3, .slice p4 d.tables.length k4, .int .i64 d.next] 35)) := balloc (Below.refl _ _) _
  have x2 : (w2.alloc (.cells #[.slice p1 d.log.synced.length k1, .slice p2 d.log.loose.length k2, .slice p3 d.mem.length k3, .slice p4 d.tables.length k4, .int .i64 d.next] 35)).cell? ⟨w2.heap.size, 2, none⟩ = some (.slice p3 d.mem.length k3) := by simp [go_sem]
  have x3 : (w2.alloc (.cells #[.slice p1 d.log.synced.length k1, .slice p2 d.log.loose.length k2, .slice p3 d.mem.length k3, .slice p4 d.tables.length k4, .int .i64 d.next] 35)).cell? ⟨w2.heap.size, 3, none⟩ = some (.slice p4 d.tables.length k4) := by simp [go_sem]
  generalize (w2.alloc (.cells #[.slice p1 d.log.synced.length k1, .slice p2 d.log.loose.length k2, .slice p3 d.mem.length k3, .slice p4 d.tables.length k4, .int .i64 d.next] 35)) = W0 at *
  replace r4 := cell_keep hX0 r4
  replace q0 := cell_keep hX0 q0
  replace q1 := cell_keep hX0 q1
  replace q2 := cell_keep hX0 q2
  replace q3 := cell_keep hX0 q3
  replace q4 := cell_keep hX0 q4
  replace q5 := cell_keep hX0 q5
  replace q6 := cell_keep hX0 q6
  obtain ⟨qf, qz⟩ := boxKeep ⟨qf, qz⟩ hX0
  have hB3 := bstep hB2 hX0
  have h20 := hX0.size
  refine wp_region_noPanic ?_
  refine region_upto (fun w' => w'.cell? ⟨w2.heap.size, 2, none⟩ = some (.slice p3 d.mem.length k3) ∧ w'.cell? ⟨w2.heap.size, 3, none⟩ = some (.slice p4 d.tables.length k4) ∧ w'.cell? ⟨w.heap.size, 4, none⟩ = some (.int .i64 d.next)) 10 (by kernel_rfl) ⟨cell_keep (by (repeat (first | exact Below.refl _ _ | assumption | refine Below.drew ?_ | refine balloc ?_ _ | refine bset ?_ (by simp; omega) _ | refine bset ?_ (by simp) _ | refine bstep ?_ (by assumption)))) x2, cell_keep (by (repeat (first | exact Below.refl _ _ | assumption | refine Below.drew ?_ | refine balloc ?_ _ | refine bset ?_ (by simp; omega) _ | refine bset ?_ (by simp) _ | refine bstep ?_ (by assumption)))) x3, cell_keep (by (repeat (first | exact Below.refl _ _ | assumption | refine Below.drew ?_ | refine balloc ?_ _ | refine bset ?_ (by simp; omega) _ | refine bset ?_ (by simp) _ | refine bstep ?_ (by assumption)))) r4⟩ (fun hS => ?_)
  refine upto_take (i := 0) (v := ?_) rfl (by kernel_rfl) (by kernel_rfl) (by kernel_rfl) (by kernel_rfl) (fun _ _ _ h => h) (by rfl) hS ?_ ?_
  rotate_left
  · intro wS hSw
    try dsimp only at hSw
    first | (go_simp; done) | (go_simp; with_reducible rfl)
  try simp only [Act.put, List.getElem_toArray, List.getElem_cons_zero, List.getElem_cons_succ, List.setIfInBounds_toArray, List.set_cons_zero, List.set_cons_succ]
  refine upto_take (i := 1) (v := ?_) rfl (by kernel_rfl) (by kernel_rfl) (by kernel_rfl) (by kernel_rfl) (fun _ _ _ h => h) (by rfl) hS ?_ ?_
  rotate_left
  · intro wS hSw
    try dsimp only at hSw
    first | (go_simp; done) | (go_simp; with_reducible rfl)
  try simp only [Act.put, List.getElem_toArray, List.getElem_cons_zero, List.getElem_cons_succ, List.setIfInBounds_toArray, List.set_cons_zero, List.set_cons_succ]
  refine upto_take (i := 3) (v := ?_) rfl (by kernel_rfl) (by kernel_rfl) (by kernel_rfl) (by kernel_rfl) (fun _ _ _ h => h) (by rfl) hS ?_ ?_
  rotate_left
  · intro wS hSw
    try dsimp only at hSw
    first | (go_simp; done) | (go_simp; with_reducible rfl)
  try simp only [Act.put, List.getElem_toArray, List.getElem_cons_zero, List.getElem_cons_succ, List.setIfInBounds_toArray, List.set_cons_zero, List.set_cons_succ]
  refine upto_take (i := 4) (v := ?_) rfl (by kernel_rfl) (by kernel_rfl) (by kernel_rfl) (by kernel_rfl) (fun _ _ _ h => h) (by rfl) hS ?_ ?_
  rotate_left
  · intro wS hSw
    try dsimp only at hSw
    first | (go_simp; done) | (go_simp; with_reducible rfl)
  try simp only [Act.put, List.getElem_toArray, List.getElem_cons_zero, List.getElem_cons_succ, List.setIfInBounds_toArray, List.set_cons_zero, List.set_cons_succ]
  refine upto_take (i := 6) (v := ?_) rfl (by kernel_rfl) (by kernel_rfl) (by kernel_rfl) (by kernel_rfl) (fun _ _ _ h => h) (by rfl) hS ?_ ?_
  rotate_left
  · intro wS hSw
    try dsimp only at hSw
    first | (go_simp; done) | (go_simp; with_reducible rfl)
  try simp only [Act.put, List.getElem_toArray, List.getElem_cons_zero, List.getElem_cons_succ, List.setIfInBounds_toArray, List.set_cons_zero, List.set_cons_succ]
  refine upto_take (i := 7) (v := ?_) rfl (by kernel_rfl) (by kernel_rfl) (by kernel_rfl) (by kernel_rfl) (fun _ _ _ h => h) (by rfl) hS ?_ ?_
  rotate_left
  · intro wS hSw
    try dsimp only at hSw
    first | (go_simp; done) | (go_simp; with_reducible rfl)
  try simp only [Act.put, List.getElem_toArray, List.getElem_cons_zero, List.getElem_cons_succ, List.setIfInBounds_toArray, List.set_cons_zero, List.set_cons_succ]
  refine upto_step (i := 2) (by kernel_rfl) rfl ?_
  intro K hK
  go_simp
  have hb4 : Below W0.heap.size W0 (W0.alloc (.cells #[.slice p3 d.mem.length k3] 32)).drew := by (repeat (first | exact Below.refl _ _ | assumption | refine Below.drew ?_ | refine balloc ?_ _ | refine bset ?_ (by simp; omega) _ | refine bset ?_ (by simp) _ | refine bstep ?_ (by assumption)))
  have hS4 : (fun w' : World => w'.cell? ⟨w2.heap.size, 2, none⟩ = some (.slice p3 d.mem.length k3) ∧ w'.cell? ⟨w2.heap.size, 3, none⟩ = some (.slice p4 d.tables.length k4) ∧ w'.cell? ⟨w.heap.size, 4, none⟩ = some (.int .i64 d.next)) (W0.alloc (.cells #[.slice p3 d.mem.length k3] 32)).drew := ⟨cell_keep (by (repeat (first | exact Below.refl _ _ | assumption | refine Below.drew ?_ | refine balloc ?_ _ | refine bset ?_ (by simp; omega) _ | refine bset ?_ (by simp) _ | refine bstep ?_ (by assumption)))) x2, cell_keep (by (repeat (first | exact Below.refl _ _ | assumption | refine Below.drew ?_ | refine balloc ?_ _ | refine bset ?_ (by simp; omega) _ | refine bset ?_ (by simp) _ | refine bstep ?_ (by assumption)))) x3, cell_keep (by (repeat (first | exact Below.refl _ _ | assumption | refine Below.drew ?_ | refine balloc ?_ _ | refine bset ?_ (by simp; omega) _ | refine bset ?_ (by simp) _ | refine bstep ?_ (by assumption)))) r4⟩
  have ho4 : (W0.alloc (.cells #[.slice p3 d.mem.length k3] 32)).drew.ownsRow W0.heap.size 32 1 (.slice (some ⟨W0.heap.size, 0, none⟩) 1 1) 1 [.slice p3 d.mem.length k3] := owns_below (World.ownsRow_lit (base := W0.heap.size) (e := 32) (size := 1) W0 #[.slice p3 d.mem.length k3] 1 (Nat.le_refl _) (by unfold maxLen; omega) rfl) (Below.drew (Below.refl _ _))
  refine hK _ _ (fun _ => hS4) ?_
  clear hK K
  try simp only [Act.put, List.getElem_toArray, List.getElem_cons_zero, List.getElem_cons_succ, List.setIfInBounds_toArray, List.set_cons_zero, List.set_cons_succ]
  generalize (W0.alloc (.cells #[.slice p3 d.mem.length k3] 32)).drew = W4 at *
  have hs4 := hb4.size
  refine upto_step (i := 5) (by kernel_rfl) rfl ?_
  intro K hK
  refine step_appAny W4 rfl _ _ 33 rfl W0.heap.size 32 i0 _ 1 24 Tryz.underlying33 hif hz0 hz1 hz2 rfl (by decide) _ 1 [.slice p3 d.mem.length k3] rfl _ d.tables.length cs rfl ho4 (appAny_below (rowsAny_own HP2.out.row) (bstep hX0 hb4)) (by omega) hone (by unfold maxLen; omega) (by omega) hs4 ?_
  intro v5 w5 o5 g5 hb5
  have hB05 : Below W0.heap.size W0 w5 := hb5 W0 hb4
  have hB25 : Below w2.heap.size w2 w5 := bstep hX0 hB05
  have hown5 : ∀ b, v5.ownBlock = some b → W0.heap.size ≤ b := fun b e => (o5.lt b e).1
  obtain ⟨F5, h5, -⟩ := layers_O rfl HM2.out HP2.out H23.out (owns_base o5 (by omega)) hB25 (fun b e => by have := hown5 b e; omega)
  have HO5 : Hid (rowssR.O w5 w1.heap.size F5 v5 (d.mem :: d.tables)) := h5
  obtain ⟨a, c, rfl⟩ := rowss_form (rowssR.ofO h5)
  have hS5 : (fun w' : World => w'.cell? ⟨w2.heap.size, 2, none⟩ = some (.slice p3 d.mem.length k3) ∧ w'.cell? ⟨w2.heap.size, 3, none⟩ = some (.slice p4 d.tables.length k4) ∧ w'.cell? ⟨w.heap.size, 4, none⟩ = some (.int .i64 d.next)) w5 := ⟨cell_keep hB05 x2, cell_keep hB05 x3, cell_keep hB05 r4⟩
  refine hK _ _ (fun _ => hS5) ?_
  clear hK K h5 hS hS4
  try simp only [Act.put, List.getElem_toArray, List.getElem_cons_zero, List.getElem_cons_succ, List.setIfInBounds_toArray, List.set_cons_zero, List.set_cons_succ]
  replace q0 := cell_keep hB05 q0
  replace q1 := cell_keep hB05 q1
  replace q2 := cell_keep hB05 q2
  replace q3 := cell_keep hB05 q3
  replace q4 := cell_keep hB05 q4
  replace q5 := cell_keep hB05 q5
  replace q6 := cell_keep hB05 q6
  obtain ⟨qf, qz5⟩ := boxKeep ⟨qf, qz⟩ hB05
  have hB5 := bstep hB3 hB05
  have hz5 : w.heap.size + 1 < w1.heap.size := by assumption
  clear ho4 o5 g5 hb5 hown5 hB25 hB05 hb4 hX0 x2 x3 r4
  generalize (d.mem :: d.tables).length = ln at *
  refine upto_take (i := 8) (v := (.agg #[.slice none 0 0, .slice none 0 0, .slice none 0 0, .slice a ln c, .int .i64 d.next])) rfl (by kernel_rfl) (by kernel_rfl) (by kernel_rfl) (by kernel_rfl) (fun _ _ _ h => h) (by rfl) hS5 ?_ ?_
  · intro wS hSw
    try dsimp only at hSw
    go_simp
  try simp only [Act.put, List.getElem_toArray, List.getElem_cons_zero, List.getElem_cons_succ, List.setIfInBounds_toArray, List.set_cons_zero, List.set_cons_succ]
  refine upto_take (i := 9) (v := (.agg #[.int .i64 0, .int .i64 0, .slice none 0 0, .slice none 0 0, .slice none 0 0, .slice a ln c, .int .i64 d.next])) rfl (by kernel_rfl) (by kernel_rfl) (by kernel_rfl) (by kernel_rfl) (fun _ _ _ h => h) (by rfl) hS5 ?_ ?_
  · intro wS hSw
    try dsimp only at hSw
    go_simp
  try simp only [Act.put, List.getElem_toArray, List.getElem_cons_zero, List.getElem_cons_succ, List.setIfInBounds_toArray, List.set_cons_zero, List.set_cons_succ]
  refine upto_step (i := 10) (by kernel_rfl) rfl ?_
  intro K hK
  go_simp
  refine hK _ _ (fun h => absurd rfl h) ?_
  clear hK K hS5
  refine upto_done (by kernel_rfl) ?_
  refine NoPanic.normal ?_
  go_wp2
  refine bodyPost_ret (v := .agg #[.int .i64 0, .int .i64 0, .slice none 0 0, .slice none 0 0, .slice none 0 0, .slice a ln c, .int .i64 d.next]) (by simp [results, Tryz.results28, go_sem, q0, q1, q2, q3, q4, q5, q6, qf]) rfl ?_
  rw [HE.out]
  have hfin := engR_of (e := ⟨⟨[], []⟩, [], d.mem :: d.tables, d.next⟩) 0 0 (engn_tabs d.next HO5.out)
  first | exact ⟨_, F5, rfl, engRR.base (engRR.set (engRR.set (engRR.set (engRR.set (engRR.set (engRR.set (engRR.set hfin (p := ⟨w.heap.size + 1, 0, none⟩) (.int .i64 0) hz5) (p := ⟨w.heap.size + 1, 1, none⟩) (.int .i64 0) hz5) (p := ⟨w.heap.size + 1, 2, none⟩) (.slice none 0 0) hz5) (p := ⟨w.heap.size + 1, 3, none⟩) (.slice none 0 0) hz5) (p := ⟨w.heap.size + 1, 4, none⟩) (.slice none 0 0) hz5) (p := ⟨w.heap.size + 1, 5, none⟩) (.slice a ln c) hz5) (p := ⟨w.heap.size + 1, 6, none⟩) (.int .i64 d.next) hz5) hB1.size, by (repeat (first | refine bset ?_ (by simp; omega) _ | refine bset ?_ (by simp) _ | refine balloc ?_ _ | assumption))⟩ | exact ⟨_, rfl, ⟨F5, engRR.base (engRR.set (engRR.set (engRR.set (engRR.set (engRR.set (engRR.set (engRR.set hfin (p := ⟨w.heap.size + 1, 0, none⟩) (.int .i64 0) hz5) (p := ⟨w.heap.size + 1, 1, none⟩) (.int .i64 0) hz5) (p := ⟨w.heap.size + 1, 2, none⟩) (.slice none 0 0) hz5) (p := ⟨w.heap.size + 1, 3, none⟩) (.slice none 0 0) hz5) (p := ⟨w.heap.size + 1, 4, none⟩) (.slice none 0 0) hz5) (p := ⟨w.heap.size + 1, 5, none⟩) (.slice a ln c) hz5) (p := ⟨w.heap.size + 1, 6, none⟩) (.int .i64 d.next) hz5) hB1.size⟩, by (repeat (first | refine bset ?_ (by simp; omega) _ | refine bset ?_ (by simp) _ | refine balloc ?_ _ | assumption))⟩

end Go.Proofs.YtdfapehonegeeaaGreat

/-
  How great engines can be.
-/
namespace Go.Proofs.YtdfapehonegeeaaGreat
open Go.RowKit
set_option linter.unusedSectionVars false
variable [DecidableEq Wri] [Inhabited Wri] [DecidableEq BytesR] [Inhabited BytesR] [DecidableEq Rw] [Inhabited Rw] [DecidableEq TabR] [Inhabited TabR] [DecidableEq Logg] [Inhabited Logg] [DecidableEq Engn] [Inhabited Engn] [DecidableEq LoggR] [Inhabited LoggR] [DecidableEq RecsR] [Inhabited RecsR] [DecidableEq Leg] [Inhabited Leg] [DecidableEq EngR] [Inhabited EngR]
set_option linter.unusedVariables false
set_option linter.unusedSimpArgs false

theorem cntTo_max {α : Type} [Inhabited α] {f : α → Nat} {M : Nat} : ∀ (k : Nat) (xs : List α), (∀ i, i < xs.length → f (xs.getD i default) ≤ M) → cntTo f k xs ≤ k * M
  | 0, _, _ => by simp [cntTo]
  | k + 1, [], _ => by simp [cntTo]
  | k + 1, x :: xs, h => by
    have h0 := h 0 (by simp)
    have ih := cntTo_max k xs (fun i hi => by have := h (i + 1) (by simpa using hi); simpa [List.getD] using this)
    simp only [List.getD, List.getElem?_cons_zero, Option.getD_some] at h0
    show f x + cntTo f k xs ≤ _
    rw [Nat.succ_mul]
    omega
theorem wt_tab {xs : List Rw} (h : tabF xs = 0) : wtRows xs ≤ 24200 := by
  have h1 := wt_small (tab_small h)
  have h2 := (tabF_all h).1
  omega
theorem wt_tabs {xss : List (List Rw)} {n : Nat} (hn : xss.length ≤ n) (h : ∀ i, i < xss.length → tabF (xss.getD i default) = 0) : wtRowss xss ≤ n * 24201 := by
  have h1 := cntTo_max (f := wtRows) (M := 24200) xss.length xss (fun i hi => wt_tab (h i hi))
  unfold wtRowss wtL
  have h2 : xss.length * 24200 ≤ n * 24200 := Nat.mul_le_mul_right _ hn
  omega
theorem wt_log {d : Logg} (h : logF d = 0) : wtLogg d ≤ 6000 := by
  have := logF_small h
  unfold wtLogg wtBytes
  omega
theorem codeE_le (c : Int) : wtEngR (codeE c) = 0 := rfl
theorem flushD_le (d : Engn) : wtEngR (flushD d) ≤ 200000 := by
  unfold flushD
  split
  · rw [codeE_le]; omega
  · rename_i h
    split
    · rw [codeE_le]; omega
    · split
      · rw [codeE_le]; omega
      · obtain ⟨h1, h2, h3, h4⟩ := partsF_inv (engF_inv (by simpa using h)).1
        have h5 := wt_tabs (xss := d.mem :: d.tables) (n := 7) (by simp; omega) (fun i hi => by
          cases i with
          | zero => simpa using h2
          | succ i => simpa [List.getD] using h4 i (by simpa using hi))
        show wtLogg ⟨[], []⟩ + wtRows [] + wtRowss (d.mem :: d.tables) ≤ 200000
        have h6 : wtLogg ⟨[], []⟩ = 0 := rfl
        have h7 : wtRows [] = 0 := rfl
        omega
theorem eng_le {d : Engn} (h : engF d = 0) : wtEngn d ≤ 175406 := by
  obtain ⟨h1, h2, h3, h4⟩ := partsF_inv (engF_inv h).1
  have h5 := wt_tabs h3 h4
  have h6 := wt_log h1
  have h7 := wt_tab h2
  unfold wtEngn
  omega

end Go.Proofs.YtdfapehonegeeaaGreat

/-
  Cells that are kept: many. (Written by program.)
-/
namespace Go.Proofs.YtdfapehonegeeaaGreat
open Go.RowKit
theorem keepN24 {w w' : World} {a0 : Addr} {x0 : Value} {a1 : Addr} {x1 : Value} {a2 : Addr} {x2 : Value} {a3 : Addr} {x3 : Value} {a4 : Addr} {x4 : Value} {a5 : Addr} {x5 : Value} {a6 : Addr} {x6 : Value} {a7 : Addr} {x7 : Value} {a8 : Addr} {x8 : Value} {a9 : Addr} {x9 : Value} {a10 : Addr} {x10 : Value} {a11 : Addr} {x11 : Value} {a12 : Addr} {x12 : Value} {a13 : Addr} {x13 : Value} {a14 : Addr} {x14 : Value} {a15 : Addr} {x15 : Value} {a16 : Addr} {x16 : Value} {a17 : Addr} {x17 : Value} {a18 : Addr} {x18 : Value} {a19 : Addr} {x19 : Value} {a20 : Addr} {x20 : Value} {a21 : Addr} {x21 : Value} {a22 : Addr} {x22 : Value} {a23 : Addr} {x23 : Value} (hb : Below w.heap.size w w') (g0 : w.cell? a0 = some x0) (g1 : w.cell? a1 = some x1) (g2 : w.cell? a2 = some x2) (g3 : w.cell? a3 = some x3) (g4 : w.cell? a4 = some x4) (g5 : w.cell? a5 = some x5) (g6 : w.cell? a6 = some x6) (g7 : w.cell? a7 = some x7) (g8 : w.cell? a8 = some x8) (g9 : w.cell? a9 = some x9) (g10 : w.cell? a10 = some x10) (g11 : w.cell? a11 = some x11) (g12 : w.cell? a12 = some x12) (g13 : w.cell? a13 = some x13) (g14 : w.cell? a14 = some x14) (g15 : w.cell? a15 = some x15) (g16 : w.cell? a16 = some x16) (g17 : w.cell? a17 = some x17) (g18 : w.cell? a18 = some x18) (g19 : w.cell? a19 = some x19) (g20 : w.cell? a20 = some x20) (g21 : w.cell? a21 = some x21) (g22 : w.cell? a22 = some x22) (g23 : w.cell? a23 = some x23) : Below w.heap.size w w' ∧ w'.cell? a0 = some x0 ∧ w'.cell? a1 = some x1 ∧ w'.cell? a2 = some x2 ∧ w'.cell? a3 = some x3 ∧ w'.cell? a4 = some x4 ∧ w'.cell? a5 = some x5 ∧ w'.cell? a6 = some x6 ∧ w'.cell? a7 = some x7 ∧ w'.cell? a8 = some x8 ∧ w'.cell? a9 = some x9 ∧ w'.cell? a10 = some x10 ∧ w'.cell? a11 = some x11 ∧ w'.cell? a12 = some x12 ∧ w'.cell? a13 = some x13 ∧ w'.cell? a14 = some x14 ∧ w'.cell? a15 = some x15 ∧ w'.cell? a16 = some x16 ∧ w'.cell? a17 = some x17 ∧ w'.cell? a18 = some x18 ∧ w'.cell? a19 = some x19 ∧ w'.cell? a20 = some x20 ∧ w'.cell? a21 = some x21 ∧ w'.cell? a22 = some x22 ∧ w'.cell? a23 = some x23 :=
  ⟨hb, cell_keep hb g0, cell_keep hb g1, cell_keep hb g2, cell_keep hb g3, cell_keep hb g4, cell_keep hb g5, cell_keep hb g6, cell_keep hb g7, cell_keep hb g8, cell_keep hb g9, cell_keep hb g10, cell_keep hb g11, cell_keep hb g12, cell_keep hb g13, cell_keep hb g14, cell_keep hb g15, cell_keep hb g16, cell_keep hb g17, cell_keep hb g18, cell_keep hb g19, cell_keep hb g20, cell_keep hb g21, cell_keep hb g22, cell_keep hb g23⟩

end Go.Proofs.YtdfapehonegeeaaGreat

