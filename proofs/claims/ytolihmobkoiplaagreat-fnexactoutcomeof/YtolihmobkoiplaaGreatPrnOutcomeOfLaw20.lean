import Derived.Test.YtolihmobkoiplaaGreatPrnOutcomeOfLaw19
import Derived.Test.YtolihmobkoiplaaGreatPrnOutcomeOfLaw7
import Derived.Test.YtolihmobkoiplaaGreatPrnOutcomeOfLaw15
import Derived.BigQuiet
import Derived.Deep.QuietTactic
import Derived.Deep.RegionHeld3
import Derived.Shelf.SlSortCmp.WholeK
import Derived.Ground.SlsfProg
import Derived.Test.YtolihmobkoiplaaGreatProg
import Derived.Test.YtolihmobkoiplaaGreatPrnOutcomeOfLaw18
import Derived.Shelf.SlSortCmp.NoneTotal

/-
  The function value that OutcomeOf makes: one shard told.
-/
set_option linter.unusedSimpArgs false
set_option linter.unusedVariables false
namespace Go.Proofs.YtolihmobkoiplaaGreat
open Go.RowKit Go.Maps
set_option linter.unusedSectionVars false
variable [DecidableEq Vot] [Inhabited Vot] [DecidableEq Slt] [Inhabited Slt] [DecidableEq SltR] [Inhabited SltR] [DecidableEq Bal] [Inhabited Bal] [DecidableEq Ledg] [Inhabited Ledg] [DecidableEq Leg] [Inhabited Leg] [DecidableEq Acc] [Inhabited Acc] [DecidableEq AccR] [Inhabited AccR] [DecidableEq AccsR] [Inhabited AccsR] [DecidableEq SltsR] [Inhabited SltsR] [DecidableEq Cont] [Inhabited Cont]
attribute [local go_sem ↓] Go.wp_at_zero Go.wp_at_succ

def OcInv (w2 : World) (B G : Nat) (W : World) : Prop := Below w2.heap.size w2 W ∧ (∃ m f, m ≤ 600 ∧ Bkv W B m f) ∧ W.cell? ⟨G, 0, none⟩ = some (.map (some B))
set_option maxRecDepth 20000 in
set_option maxHeartbeats 8000000 in
theorem ocClo_any (w2 : World) (B G Lb Cb n cx : Nat) (a : Option Addr) (ci s : Int) (ys : List Vot)
    (hMo : ∀ W p2 q2, Below w2.heap.size w2 W → sltR.V w2 (.agg #[.int .i64 ci, .int .i64 s, .int .i64 (-1), .int .i64 (-1), .int .i64 0, .slice p2 0 q2]) (freS ci s) → Bkv W B 0 (fun _ => none) → Calls Tryz.prog 24 #[.map (some B), .slice a n cx, .agg #[.int .i64 ci, .int .i64 s, .int .i64 (-1), .int .i64 (-1), .int .i64 0, .slice p2 0 q2]] W (MostE B ys W))
    (hid : idOk ci s = true) (hL : w2.cell? ⟨Lb, 0, none⟩ = some (.slice a n cx)) (hC : w2.cell? ⟨Cb, 0, none⟩ = some (.int .i64 ci)) (hB : w2.heap.size ≤ B) (hG : ¬ G = B) (W : World) (hI : OcInv w2 B G W) :
    Calls Tryz.prog 23 #[.int .i64 s, .pointer (some ⟨G, 0, none⟩), .pointer (some ⟨Lb, 0, none⟩), .pointer (some ⟨Cb, 0, none⟩)] W fun e w' => e = .returned (.int .i64 (hdV ys)) ∧ OcInv w2 B G w' := by
  obtain ⟨hb, ⟨mm, ff, hmm, hBk⟩, hg⟩ := hI
  have zL := World.block_lt_of_cell? w2 _ hL
  have zC := World.block_lt_of_cell? w2 _ hC
  dsimp only at zL zC
  obtain ⟨w3, hr3, hB3, hm3⟩ := bkv_clear2 hBk
  have hb3 : Below w2.heap.size w2 w3 := hm3.below hb hb.size (fun b hb => by omega)
  have g3 : w3.cell? ⟨G, 0, none⟩ = some (.map (some B)) := hm3.cell hg (by dsimp only; exact hG)
  have l3 := cell_keep hb3 hL
  have c3 := cell_keep hb3 hC
  have HB3 : Hid (Bkv w3 B 0 (fun _ => none)) := hB3
  have HNw : Hid (∀ W, Calls Tryz.prog 25 #[.int .i64 ci, .int .i64 s] W (NewE ci s W)) := fun W => implNew_ok ci s W hid
  have HMo : Hid (∀ W p2 q2, Below w2.heap.size w2 W → sltR.V w2 (.agg #[.int .i64 ci, .int .i64 s, .int .i64 (-1), .int .i64 (-1), .int .i64 0, .slice p2 0 q2]) (freS ci s) → Bkv W B 0 (fun _ => none) → Calls Tryz.prog 24 #[.map (some B), .slice a n cx, .agg #[.int .i64 ci, .int .i64 s, .int .i64 (-1), .int .i64 (-1), .int .i64 0, .slice p2 0 q2]] W (MostE B ys W)) := hMo
  have hslot := slotField
  clear hMo hB3 hm3 hBk hid hb
  go_enter Tryz.func23, Tryz.ntmps23
  go_wp2_with (first | (at_builtin; refine wpl_clear rfl _ 59 rfl _ rfl (hr3 _) ?_) | fail)
  clear hg hr3
  refine wp_region_noPanic ?_
  refine region_upto (fun w' : World => w'.cell? ⟨G, 0, none⟩ = some (.map (some B)) ∧ w'.cell? ⟨Lb, 0, none⟩ = some (.slice a n cx) ∧ w'.cell? ⟨Cb, 0, none⟩ = some (.int .i64 ci)) 8 (by kernel_rfl) ⟨cell_keep (Below.drew (Below.refl _ _)) g3, cell_keep (Below.drew (Below.refl _ _)) l3, cell_keep (Below.drew (Below.refl _ _)) c3⟩ (fun hS => ?_)
  refine upto_take (i := 0) (v := ?_) rfl (by kernel_rfl) (by kernel_rfl) (by kernel_rfl) (by kernel_rfl) (fun _ _ _ h => h) (by rfl) hS ?_ ?_
  rotate_left
  · intro wS hSw
    try dsimp only at hSw
    first | (go_simp; done) | (go_simp; with_reducible rfl)
  try simp only [Act.put, List.getElem_toArray, List.getElem_cons_zero, List.getElem_cons_succ, List.setIfInBounds_toArray, List.set_cons_zero, List.set_cons_succ]
  refine upto_take (i := 1) (v := ?_) rfl (by kernel_rfl) (by kernel_rfl) (by kernel_rfl) (by kernel_rfl) (fun _ _ _ h => h) (by rfl) hS ?_ ?_
  rotate_left
  · intro wS hSw
    try dsimp only at hSw
    first | (go_simp; done) | (go_simp; with_reducible rfl)
  try simp only [Act.put, List.getElem_toArray, List.getElem_cons_zero, List.getElem_cons_succ, List.setIfInBounds_toArray, List.set_cons_zero, List.set_cons_succ]
  refine upto_take (i := 2) (v := ?_) rfl (by kernel_rfl) (by kernel_rfl) (by kernel_rfl) (by kernel_rfl) (fun _ _ _ h => h) (by rfl) hS ?_ ?_
  rotate_left
  · intro wS hSw
    try dsimp only at hSw
    first | (go_simp; done) | (go_simp; with_reducible rfl)
  try simp only [Act.put, List.getElem_toArray, List.getElem_cons_zero, List.getElem_cons_succ, List.setIfInBounds_toArray, List.set_cons_zero, List.set_cons_succ]
  refine upto_take (i := 3) (v := ?_) rfl (by kernel_rfl) (by kernel_rfl) (by kernel_rfl) (by kernel_rfl) (fun _ _ _ h => h) (by rfl) hS ?_ ?_
  rotate_left
  · intro wS hSw
    try dsimp only at hSw
    first | (go_simp; done) | (go_simp; with_reducible rfl)
  try simp only [Act.put, List.getElem_toArray, List.getElem_cons_zero, List.getElem_cons_succ, List.setIfInBounds_toArray, List.set_cons_zero, List.set_cons_succ]
  refine upto_take (i := 4) (v := ?_) rfl (by kernel_rfl) (by kernel_rfl) (by kernel_rfl) (by kernel_rfl) (fun _ _ _ h => h) (by rfl) hS ?_ ?_
  rotate_left
  · intro wS hSw
    try dsimp only at hSw
    first | (go_simp; done) | (go_simp; with_reducible rfl)
  try simp only [Act.put, List.getElem_toArray, List.getElem_cons_zero, List.getElem_cons_succ, List.setIfInBounds_toArray, List.set_cons_zero, List.set_cons_succ]
  refine upto_step (i := 5) (by kernel_rfl) rfl ?_
  intro K hK
  go_simp
  have hbd : Below w3.heap.size w3 w3.drew := Below.drew (Below.refl _ _)
  refine (HNw.out _).mono ?_
  rintro e w4 ⟨p4, q4, F4, rfl, o4, hb4⟩
  have hb4' : Below w3.heap.size w3 w4 := bstep hbd hb4
  have hS4 : (fun w' : World => w'.cell? ⟨G, 0, none⟩ = some (.map (some B)) ∧ w'.cell? ⟨Lb, 0, none⟩ = some (.slice a n cx) ∧ w'.cell? ⟨Cb, 0, none⟩ = some (.int .i64 ci)) w4 := ⟨cell_keep hb4 hS.1, cell_keep hb4 hS.2.1, cell_keep hb4 hS.2.2⟩
  refine hK _ _ (fun _ => hS4) ?_
  clear hK K
  have HM4 : Hid (Calls Tryz.prog 24 #[.map (some B), .slice a n cx, .agg #[.int .i64 ci, .int .i64 s, .int .i64 (-1), .int .i64 (-1), .int .i64 0, .slice p4 0 q4]] w4 (MostE B ys w4)) := HMo.out w4 p4 q4 (bstep hb3 hb4') (freS_V (sltR.ofO o4) w2) (HB3.out.below hb4')
  clear HMo HNw o4 HB3
  try simp only [Act.put, List.getElem_toArray, List.getElem_cons_zero, List.getElem_cons_succ, List.setIfInBounds_toArray, List.set_cons_zero, List.set_cons_succ]
  refine upto_step (i := 6) (by kernel_rfl) rfl ?_
  intro K hK
  go_simp
  refine hK _ _ (fun _ => hS4) ?_
  clear hK K
  try simp only [Act.put, List.getElem_toArray, List.getElem_cons_zero, List.getElem_cons_succ, List.setIfInBounds_toArray, List.set_cons_zero, List.set_cons_succ]
  refine upto_step (i := 7) (by kernel_rfl) rfl ?_
  intro K hK
  go_simp
  refine HM4.out.mono ?_
  rintro e w5 ⟨rfl, hB5, hm5⟩
  have hz4 := (bstep hb3 hb4').size
  have hI5 : OcInv w2 B G w5 := ⟨hm5.below (bstep hb3 hb4') hz4 (fun b hb => by omega), hB5, hm5.cell hS4.1 (by dsimp only; exact hG)⟩
  have HI5 : Hid (OcInv w2 B G w5) := hI5
  have hS5 : (fun w' : World => w'.cell? ⟨G, 0, none⟩ = some (.map (some B)) ∧ w'.cell? ⟨Lb, 0, none⟩ = some (.slice a n cx) ∧ w'.cell? ⟨Cb, 0, none⟩ = some (.int .i64 ci)) w5 := ⟨hm5.cell hS4.1 (by dsimp only; exact hG), hm5.cell hS4.2.1 (by dsimp only; omega), hm5.cell hS4.2.2 (by dsimp only; omega)⟩
  refine hK _ _ (fun _ => hS5) ?_
  clear hK K HM4
  clear hI5 hB5 hm5 hS4 hS hb4 hb4' hbd
  try simp only [Act.put, List.getElem_toArray, List.getElem_cons_zero, List.getElem_cons_succ, List.setIfInBounds_toArray, List.set_cons_zero, List.set_cons_succ]
  refine upto_step (i := 8) (by kernel_rfl) rfl ?_
  intro K hK
  go_simp
  refine hK _ _ (fun h => absurd rfl h) ?_
  clear hK K
  refine upto_done (by kernel_rfl) ?_
  refine NoPanic.normal ?_
  go_wp2
  go_ret
  exact ⟨rfl, HI5.out⟩
end Go.Proofs.YtolihmobkoiplaaGreat

/-
  OutcomeOf, the program's.
-/
set_option linter.unusedSimpArgs false
set_option linter.unusedVariables false
namespace Go.Proofs.YtolihmobkoiplaaGreat
open Go.RowKit Go.Maps
set_option linter.unusedSectionVars false
variable [DecidableEq Vot] [Inhabited Vot] [DecidableEq Slt] [Inhabited Slt] [DecidableEq SltR] [Inhabited SltR] [DecidableEq Bal] [Inhabited Bal] [DecidableEq Ledg] [Inhabited Ledg] [DecidableEq Leg] [Inhabited Leg] [DecidableEq Acc] [Inhabited Acc] [DecidableEq AccR] [Inhabited AccR] [DecidableEq AccsR] [Inhabited AccsR] [DecidableEq SltsR] [Inhabited SltsR] [DecidableEq Cont] [Inhabited Cont]
attribute [local go_sem ↓] Go.wp_at_zero Go.wp_at_succ

set_option maxRecDepth 20000 in
set_option maxHeartbeats 8000000 in
theorem implOutcome_any (hSV : SortsV) (x y : Value) (l : List Acc) (c : Cont) (ysf : Int → List Vot) (w : World) (hx : accsR.V w x l) (hy : contR.V w y c) (hys : outC l c = 0 → ∀ s, s ∈ shardsL c.legs → Chs (slotsL l c.id s) (ysf s)) :
    Calls Tryz.prog 9 #[x, y] w fun e w' => e = .returned (.agg #[.int .i64 (outC l c), .int .i64 (outR l c ysf)]) ∧ Below w.heap.size w w' := by
  obtain ⟨uy, rfl, hy⟩ := hy
  have HLf : Hid (∀ W, Below w.heap.size w W → Calls Tryz.prog 20 #[x] W fun e w' => e = .returned (.int .i64 (listF l)) ∧ Below W.heap.size W w') := fun W hW => implListF_any x l W (accsR.below hx hW)
  have HSh : Hid (∀ W, Below w.heap.size w W → Calls Tryz.prog 21 #[.agg #[.int .i64 c.id, uy]] W fun e w' => ∃ v, e = .returned (.agg #[.int .i64 (shCode c.id c.legs), v]) ∧ w'.ownsRow W.heap.size 2 1 v (shList c.id c.legs).length (intsC (shList c.id c.legs)) ∧ Below W.heap.size W w') := fun W hW => implShardsOf_any c.id uy c.legs W (legsR.below hy hW)
  have HMo : Hid (∀ B W0 W p2 q2 s, Below w.heap.size w W0 → Below W0.heap.size W0 W → W0.heap.size ≤ B → outC l c = 0 → s ∈ shardsL c.legs → sltR.V W0 (.agg #[.int .i64 c.id, .int .i64 s, .int .i64 (-1), .int .i64 (-1), .int .i64 0, .slice p2 0 q2]) (freS c.id s) → Bkv W B 0 (fun _ => none) → Calls Tryz.prog 24 #[.map (some B), x, .agg #[.int .i64 c.id, .int .i64 s, .int .i64 (-1), .int .i64 (-1), .int .i64 0, .slice p2 0 q2]] W (MostE B (ysf s) W)) := fun B W0 W p2 q2 s h0 h1 h2 h3 hs h4 h5 => most_any hSV B x p2 q2 l c.id s (ysf s) W0 W (accsR.below hx h0) h1 h2 (listOk_of (outC_ok h3).1) (cf_id (outC_ok h3).2 hs) (hys h3 s hs) h4 h5
  obtain ⟨a, cx, rfl⟩ := accs_form hx
  obtain ⟨ay, cy, rfl⟩ := legs_form hy
  clear hx hy hys hSV
  generalize l.length = n at *
  have hK0 : Hid (∀ e, listF l = e → ¬ e = 0 → outC l c = e ∧ outR l c ysf = 0) := fun e h h0 => by
    have h1 : outC l c = e := by unfold outC; rw [if_neg (by rw [h]; exact h0), h]
    exact ⟨h1, by unfold outR; rw [h1, if_neg h0]⟩
  have hK1 : Hid (∀ e, listF l = 0 → contractFault c.id c.legs = e → ¬ e = 0 → outC l c = e ∧ outR l c ysf = 0) := fun e h h2 h0 => by
    have h1 : outC l c = e := by unfold outC; rw [if_pos h, h2]
    exact ⟨h1, by unfold outR; rw [h1, if_neg h0]⟩
  have hK2 : Hid (listF l = 0 → contractFault c.id c.legs = 0 → outC l c = 0 ∧ outR l c ysf = outV (fun s => hdV (ysf s)) (shardsL c.legs)) := fun h h2 => by
    have h1 : outC l c = 0 := by unfold outC; rw [if_pos h, h2]
    exact ⟨h1, by unfold outR; rw [if_pos h1]⟩
  generalize c.legs.length = ny at *
  go_enter Tryz.func9, Tryz.ntmps9
  go_wp2_with fail
  refine (HLf.out _ (by (repeat (first | exact Below.refl _ _ | assumption | refine Below.drew ?_ | refine balloc ?_ _ | refine bset ?_ (by simp; omega) _ | refine bset ?_ (by simp) _ | refine bstep ?_ (by assumption))))).mono ?_
  rintro e w1 ⟨rfl, hb1⟩
  have hB1 : Below w.heap.size w w1 := by (repeat (first | exact Below.refl _ _ | assumption | refine Below.drew ?_ | refine balloc ?_ _ | refine bset ?_ (by simp; omega) _ | refine bset ?_ (by simp) _ | refine bstep ?_ (by assumption)))
  have hz1 := hb1.size
  simp at hz1
  obtain ⟨c1, f1⟩ := bcell hb1
  have l0 : w1.cell? ⟨w.heap.size, 0, none⟩ = some (.slice a n cx) := cell_keep hb1 (by simp [go_sem])
  have y0 : w1.cell? ⟨w.heap.size + 1, 0, none⟩ = some (.int .i64 c.id) := cell_keep hb1 (by simp [go_sem])
  have y1 : w1.cell? ⟨w.heap.size + 1, 1, none⟩ = some (.slice ay ny cy) := cell_keep hb1 (by simp [go_sem])
  have r0 : w1.cell? ⟨w.heap.size + 2, 0, none⟩ = some (.int .i64 0) := cell_keep hb1 (by simp [go_sem])
  have r1 : w1.cell? ⟨w.heap.size + 2, 1, none⟩ = some (.int .i64 0) := cell_keep hb1 (by simp [go_sem])
  have rf : ∀ o, w1.frozen? ⟨w.heap.size + 2, o, none⟩ = false := fun o => by rw [f1 _ _ (by simp; try omega)]; simp [go_sem]
  clear hb1 c1 f1 HLf
  have zr : w.heap.size + 2 < w1.heap.size := World.block_lt_of_cell? w1 _ r0
  by_cases hf : listF l = 0
  rotate_left
  · obtain ⟨HC1, HC2⟩ := hK0.out _ rfl hf
    have H1 : Hid (outC l c = listF l) := HC1
    have H2 : Hid (outR l c ysf = 0) := HC2
    clear HC1 HC2 hK0 hK1 hK2 HSh HMo
    generalize listF l = g at *
    have hg' : (g != 0) = true := by simp [hf]
    go_wp2
    exact bodyPost_ret (v := .agg #[.int .i64 g, .int .i64 0]) (by simp [results, Tryz.results9, go_sem, r0, r1, rf]) rfl ⟨by rw [H1.out, H2.out], by (repeat (first | refine bset ?_ (by simp; omega) _ | refine bset ?_ (by simp) _ | refine balloc ?_ _ | assumption))⟩
  rw [hf]
  go_wp2_with fail
  refine (HSh.out _ hB1).mono ?_
  rintro e w2 ⟨v2, rfl, ho2, hb2⟩
  have hB2 : Below w.heap.size w w2 := bstep hB1 hb2
  have hz2 := hb2.size
  replace l0 := cell_keep hb2 l0
  replace y0 := cell_keep hb2 y0
  replace y1 := cell_keep hb2 y1
  replace r0 := cell_keep hb2 r0
  replace r1 := cell_keep hb2 r1
  replace rf : ∀ o, w2.frozen? ⟨w.heap.size + 2, o, none⟩ = false := fun o => by rw [(bcell hb2).2 _ _ zr]; exact rf o
  clear hb2 HSh
  have zr2 : w.heap.size + 2 < w2.heap.size := World.block_lt_of_cell? w2 _ r0
  have zy2 : w.heap.size + 1 < w2.heap.size := World.block_lt_of_cell? w2 _ y0
  by_cases hcf : contractFault c.id c.legs = 0
  rotate_left
  · obtain ⟨HC1, HC2⟩ := hK1.out _ hf rfl hcf
    have H1 : Hid (outC l c = contractFault c.id c.legs) := HC1
    have H2 : Hid (outR l c ysf = 0) := HC2
    have e1 : shCode c.id c.legs = contractFault c.id c.legs := rfl
    rw [e1]
    obtain ⟨a2, c2, rfl⟩ := owns_form ho2
    clear HC1 HC2 hK0 hK1 hK2 HMo ho2 e1
    generalize (shList c.id c.legs).length = m at *
    generalize contractFault c.id c.legs = g at *
    have hg' : (g != 0) = true := by simp [hcf]
    go_wp2
    exact bodyPost_ret (v := .agg #[.int .i64 g, .int .i64 0]) (by simp [results, Tryz.results9, go_sem, r0, r1, rf, zr2, Nat.ne_of_lt zr2]) rfl ⟨by rw [H1.out, H2.out], by (repeat (first | refine bset ?_ (by simp; omega) _ | refine bset ?_ (by simp) _ | refine balloc ?_ _ | assumption))⟩
  have e1 : shCode c.id c.legs = 0 := hcf
  have e2 : shList c.id c.legs = shardsL c.legs := if_pos hcf
  rw [e1]
  rw [e2] at ho2
  obtain ⟨HC1, HC2⟩ := hK2.out hf hcf
  have H1 : Hid (outC l c = 0) := HC1
  have H2 : Hid (outR l c ysf = outV (fun s => hdV (ysf s)) (shardsL c.legs)) := HC2
  have HID : Hid (∀ s, s ∈ shardsL c.legs → idOk c.id s = true) := fun s hs => cf_id hcf hs
  clear HC1 HC2 hK0 hK1 hK2 e1 e2 hf hcf
  obtain ⟨a2, c2, rfl, hc2, hm2, hi2⟩ := IntsV_of_owns ho2
  unfold maxLen at hm2
  have HI : Hid (∀ i, i < (shardsL c.legs).length → ∃ b o, a2 = some ⟨b, o, none⟩ ∧ w2.cell? ⟨b, o + i, none⟩ = some (.int .i64 ((shardsL c.legs).getD i 0))) := hi2
  have HMem : Hid (∀ i, i < (shardsL c.legs).length → (shardsL c.legs).getD i 0 ∈ shardsL c.legs) := fun i hi => sh_mem hi
  have HHit : Hid (∀ k, k < (shardsL c.legs).length → hdV (ysf ((shardsL c.legs).getD k 0)) = 2 → outR l c ysf = 2) := fun k hk h => by rw [H2.out]; exact outV_hit (f := fun s => hdV (ysf s)) hk h
  have HEnd : Hid ((∀ k, k < (shardsL c.legs).length → ¬ hdV (ysf ((shardsL c.legs).getD k 0)) = 2) → outR l c ysf = outA (fun s => hdV (ysf s)) (shardsL c.legs) (shardsL c.legs).length) := fun h => by rw [H2.out]; exact outV_end (f := fun s => hdV (ysf s)) h
  have hlen3 : (shardsL c.legs).length ≤ 3 := sl_le _ _ _
  have HM1 : Hid (∀ B W0 W p2 q2 s, Below w.heap.size w W0 → Below W0.heap.size W0 W → W0.heap.size ≤ B → s ∈ shardsL c.legs → sltR.V W0 (.agg #[.int .i64 c.id, .int .i64 s, .int .i64 (-1), .int .i64 (-1), .int .i64 0, .slice p2 0 q2]) (freS c.id s) → Bkv W B 0 (fun _ => none) → Calls Tryz.prog 24 #[.map (some B), .slice a n cx, .agg #[.int .i64 c.id, .int .i64 s, .int .i64 (-1), .int .i64 (-1), .int .i64 0, .slice p2 0 q2]] W (MostE B (ysf s) W)) := fun B W0 W p2 q2 s h0 h1 h2 hs h4 h5 => HMo.out B W0 W p2 q2 s h0 h1 h2 H1.out hs h4 h5
  clear ho2 hi2 HMo
  generalize shardsL c.legs = shs at *
  obtain ⟨m, hm'⟩ : ∃ m, m = shs.length := ⟨_, rfl⟩
  rw [← hm'] at hc2 HI HMem HHit HEnd hlen3 ⊢
  have HML : Hid (m = shs.length) := hm'
  clear hm'
  have hmm := @run_makeMap Tryz.prog
  have hmf : ∀ (fn : Fn) (first cap : Array Value) (w : World), (Instr.makeFunc fn first cap).run Tryz.prog w = .ok (.func fn first cap) w := fun _ _ _ _ => rfl
  have hBm := bkv_made (w2.alloc (.cells #[.int .i64 0, .slice a2 m c2] 56))
  simp only [World.size_alloc] at hBm
  go_wp2_with fail
  clear hmm hmf
  have hI0 : OcInv w2 (w2.heap.size + 1) (w2.heap.size + 1 + 1) (((w2.alloc (.cells #[.int .i64 0, .slice a2 m c2] 56)).alloc (.map #[] 0)).alloc (.cells #[.map (some (w2.heap.size + 1))] 59)) :=
    ⟨by (repeat (first | exact Below.refl _ _ | assumption | refine Below.drew ?_ | refine balloc ?_ _ | refine bset ?_ (by simp; omega) _ | refine bset ?_ (by simp) _ | refine bstep ?_ (by assumption))), ⟨0, _, by omega, hBm.below (balloc (Below.refl _ _) _)⟩, by simp [go_sem]⟩
  obtain rfl := HML.out
  refine (outcomeBy_any a2 c2 shs (fun s => hdV (ysf s)) _ _ _ (OcInv w2 (w2.heap.size + 1) (w2.heap.size + 1 + 1)) _ hI0 hlen3 (fun W hW i hi => ?hc) (fun W s hW hs => ocClo_any w2 _ _ _ _ n cx a c.id s (ysf s) (fun W p2 q2 h1 h2 h3 => HM1.out _ w2 W p2 q2 s hB2 h1 (by omega) hs h2 h3) (HID.out s hs) l0 y0 (by omega) (by omega) W hW)).mono ?_
  case hc =>
    obtain ⟨b, o, e, h⟩ := HI.out i hi
    exact ⟨b, o, e, cell_keep hW.1 h⟩
  rintro e w5 ⟨rfl, hI5⟩
  have hb5 := hI5.1
  replace r0 := cell_keep hb5 r0
  replace r1 := cell_keep hb5 r1
  replace rf : ∀ o, w5.frozen? ⟨w.heap.size + 2, o, none⟩ = false := fun o => by rw [(bcell hb5).2 _ _ zr2]; exact rf o
  have hB5 : Below w.heap.size w w5 := bstep hB2 hb5
  have HR : Hid (outR l c ysf = outV (fun s => hdV (ysf s)) shs) := H2
  clear hI0 hI5 hBm HI HM1 HID HHit HEnd HMem H2 l0 y0 y1
  generalize outV (fun s => hdV (ysf s)) shs = T at *
  go_wp2
  exact bodyPost_ret (v := .agg #[.int .i64 0, .int .i64 T]) (by simp [results, Tryz.results9, go_sem, r0, r1, rf]) rfl ⟨by rw [H1.out, HR.out], by (repeat (first | refine bset ?_ (by simp; omega) _ | refine bset ?_ (by simp) _ | refine balloc ?_ _ | assumption))⟩
end Go.Proofs.YtolihmobkoiplaaGreat

/-
  slices.SortFunc at votes: the library's contract, laid at this program.
-/
namespace Go.Proofs.YtolihmobkoiplaaGreat
open Go.Shelf
def Tryz.sortV_ren : Go.Shelf.Ren := ⟨fun | 6 => 62 | 15 => 84 | 14 => 83 | 28 => 103 | 29 => 104 | 20 => 95 | 21 => 96 | 22 => 97 | 23 => 98 | 24 => 99 | 25 => 100 | 26 => 101 | 27 => 102 | 46 => 105 | 47 => 106 | 48 => 107 | 49 => 108 | 50 => 109 | 57 => 110 | n => n, fun | 22 => 64 | 24 => 63 | 25 => 110 | 3 => 3 | 39 => 128 | 0 => 0 | 53 => 140 | 55 => 142 | 4 => 4 | 46 => 134 | 45 => 133 | 50 => 106 | 5 => 5 | 9 => 9 | 66 => 143 | 70 => 147 | 76 => 149 | 77 => 150 | n => n, fun | n => n⟩
theorem Tryz.sortV : Go.Proofs.SlLaysF0.n6 Tryz.prog Tryz.sortV_ren := {
  mixed := by kernel_rfl
  f6 := ⟨Tryz.f62.name, by decide, Tryz.func62.trans (congrArg some (by kernel_rfl))⟩
  f14 := ⟨Tryz.f83.name, by decide, Tryz.func83.trans (congrArg some (by kernel_rfl))⟩
  f15 := Tryz.func84.trans (congrArg some (by kernel_rfl))
  f20 := ⟨Tryz.f95.name, by decide, Tryz.func95.trans (congrArg some (by kernel_rfl))⟩
  f21 := ⟨Tryz.f96.name, by decide, Tryz.func96.trans (congrArg some (by kernel_rfl))⟩
  f22 := ⟨Tryz.f97.name, by decide, Tryz.func97.trans (congrArg some (by kernel_rfl))⟩
  f23 := ⟨Tryz.f98.name, by decide, Tryz.func98.trans (congrArg some (by kernel_rfl))⟩
  f24 := ⟨Tryz.f99.name, by decide, Tryz.func99.trans (congrArg some (by kernel_rfl))⟩
  f25 := ⟨Tryz.f100.name, by decide, Tryz.func100.trans (congrArg some (by kernel_rfl))⟩
  f26 := ⟨Tryz.f101.name, by decide, Tryz.func101.trans (congrArg some (by kernel_rfl))⟩
  f27 := ⟨Tryz.f102.name, by decide, Tryz.func102.trans (congrArg some (by kernel_rfl))⟩
  f28 := Tryz.func103.trans (congrArg some (by kernel_rfl))
  f29 := Tryz.func104.trans (congrArg some (by kernel_rfl))
  f46 := ⟨Tryz.f105.name, by decide, Tryz.func105.trans (congrArg some (by kernel_rfl))⟩
  f47 := Tryz.func106.trans (congrArg some (by kernel_rfl))
  f48 := Tryz.func107.trans (congrArg some (by kernel_rfl))
  f49 := ⟨Tryz.f108.name, by decide, Tryz.func108.trans (congrArg some (by kernel_rfl))⟩
  f50 := ⟨Tryz.f109.name, by decide, Tryz.func109.trans (congrArg some (by kernel_rfl))⟩
  f57 := ⟨Tryz.f110.name, by decide, Tryz.func110.trans (congrArg some (by kernel_rfl))⟩
  t0 := Tryz.underlying0
  a0 := Tryz.isAgg0
  z0 := Tryz.sizeOf0
  v0 := Tryz.zeroValue0
  t3 := Tryz.underlying3
  a3 := Tryz.isAgg3
  z3 := Tryz.sizeOf3
  v3 := Tryz.zeroValue3
  t4 := Tryz.underlying4
  a4 := Tryz.isAgg4
  z4 := Tryz.sizeOf4
  v4 := Tryz.zeroValue4
  t5 := Tryz.underlying5
  a5 := Tryz.isAgg5
  z5 := Tryz.sizeOf5
  v5 := Tryz.zeroValue5
  t9 := Tryz.underlying9
  a9 := Tryz.isAgg9
  z9 := Tryz.sizeOf9
  v9 := Tryz.zeroValue9
  t22 := Tryz.underlying64
  a22 := Tryz.isAgg64
  z22 := Tryz.sizeOf64
  v22 := Tryz.zeroValue64
  t25 := Tryz.underlying110
  a25 := Tryz.isAgg110
  z25 := Tryz.sizeOf110
  v25 := Tryz.zeroValue110
  t39 := Tryz.underlying128
  a39 := Tryz.isAgg128
  z39 := Tryz.sizeOf128
  v39 := Tryz.zeroValue128
  t45 := Tryz.underlying133
  a45 := Tryz.isAgg133
  z45 := Tryz.sizeOf133
  v45 := Tryz.zeroValue133
  t46 := Tryz.underlying134
  a46 := Tryz.isAgg134
  z46 := Tryz.sizeOf134
  v46 := Tryz.zeroValue134
  t50 := Tryz.underlying106
  a50 := Tryz.isAgg106
  z50 := Tryz.sizeOf106
  v50 := Tryz.zeroValue106
  t53 := Tryz.underlying140
  a53 := Tryz.isAgg140
  z53 := Tryz.sizeOf140
  v53 := Tryz.zeroValue140
  t55 := Tryz.underlying142
  a55 := Tryz.isAgg142
  z55 := Tryz.sizeOf142
  v55 := Tryz.zeroValue142
  t66 := Tryz.underlying143
  a66 := Tryz.isAgg143
  z66 := Tryz.sizeOf143
  v66 := Tryz.zeroValue143
  t70 := Tryz.underlying147
  a70 := Tryz.isAgg147
  z70 := Tryz.sizeOf147
  v70 := Tryz.zeroValue147
  t76 := Tryz.underlying149
  a76 := Tryz.isAgg149
  z76 := Tryz.sizeOf149
  v76 := Tryz.zeroValue149
  t77 := Tryz.underlying150
  a77 := Tryz.isAgg150
  z77 := Tryz.sizeOf150
  v77 := Tryz.zeroValue150 }
end Go.Proofs.YtolihmobkoiplaaGreat

/-
  slices.SortFunc over votes: both contracts, at this program.
-/
namespace Go.Proofs.YtolihmobkoiplaaGreat
open Go.RowKit Go.Sort Go.Shelf
set_option linter.unusedSectionVars false
variable [DecidableEq Vot] [Inhabited Vot] [DecidableEq Slt] [Inhabited Slt] [DecidableEq SltR] [Inhabited SltR] [DecidableEq Bal] [Inhabited Bal] [DecidableEq Ledg] [Inhabited Ledg] [DecidableEq Leg] [Inhabited Leg]
set_option linter.unusedVariables false

theorem sortsV : SortsV where
  some_ := fun xs g cap base W ho hb hn => sortV_any Tryz.sortV_ren Tryz.sortV rfl rfl xs g cap base W ho hb hn
  none_ := fun W => AnyF.slices_SortFunc_none Tryz.sortV none 0 (.func (.func 63) #[] #[]) W
end Go.Proofs.YtolihmobkoiplaaGreat

