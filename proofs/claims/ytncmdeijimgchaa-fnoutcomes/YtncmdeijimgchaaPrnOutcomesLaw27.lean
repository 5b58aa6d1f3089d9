import Derived.Test.YtncmdeijimgchaaPrnOutcomesLaw17
import Derived.BigQuiet
import Derived.Deep.QuietTactic
import Derived.Deep.RegionHeld3
import Derived.Test.YtncmdeijimgchaaPrnOutcomesLaw26
import Derived.Test.YtncmdeijimgchaaPrnOutcomesLaw7
import Derived.Shelf.SlSortCmp.WholeK
import Derived.Ground.SlsfProg
import Derived.Test.YtncmdeijimgchaaProg

/-
  outcomeBy, the program's: whatever world the function value keeps.
-/
set_option linter.unusedSimpArgs false
set_option linter.unusedVariables false
namespace Go.Proofs.Ytncmdeijimgchaa
open Go.RowKit Go.Maps
set_option linter.unusedSectionVars false
variable [DecidableEq Vot] [Inhabited Vot] [DecidableEq Slt] [Inhabited Slt] [DecidableEq SltR] [Inhabited SltR] [DecidableEq Bal] [Inhabited Bal] [DecidableEq Ledg] [Inhabited Ledg] [DecidableEq Leg] [Inhabited Leg] [DecidableEq Acc] [Inhabited Acc] [DecidableEq AccR] [Inhabited AccR] [DecidableEq AccsR] [Inhabited AccsR] [DecidableEq SltsR] [Inhabited SltsR] [DecidableEq Cont] [Inhabited Cont]
attribute [local go_sem ↓] Go.wp_at_zero Go.wp_at_succ

set_option maxRecDepth 20000 in
set_option maxHeartbeats 8000000 in
theorem outcomeBy_any (a2 : Option Addr) (c2 : Nat) (shs : List Int) (fv : Int → Int) (p1 p2 p3 : Value) (Inv : World → Prop) (w : World) (hI : Inv w) (hlen : shs.length ≤ 3)
    (hcell : ∀ W, Inv W → ∀ i, i < shs.length → ∃ b o, a2 = some ⟨b, o, none⟩ ∧ W.cell? ⟨b, o + i, none⟩ = some (.int .i64 (shs.getD i 0)))
    (hcall : ∀ W s, Inv W → s ∈ shs → Calls Try.prog 53 #[.int .i64 s, p1, p2, p3] W fun e w' => e = .returned (.int .i64 (fv s)) ∧ Inv w') :
    Calls Try.prog 52 #[.slice a2 shs.length c2, .func (.func 53) #[] #[p1, p2, p3]] w fun e w' => e = .returned (.int .i64 (outV fv shs)) ∧ Inv w' := by
  have HI : Hid (Inv w) := hI
  have HC : Hid (∀ W, Inv W → ∀ i, i < shs.length → ∃ b o, a2 = some ⟨b, o, none⟩ ∧ W.cell? ⟨b, o + i, none⟩ = some (.int .i64 (shs.getD i 0))) := hcell
  have HF : Hid (∀ W i, Inv W → i < shs.length → Calls Try.prog 53 #[.int .i64 (shs.getD i 0), p1, p2, p3] W fun e w' => e = .returned (.int .i64 (fv (shs.getD i 0))) ∧ Inv w') := fun W i hW hi => hcall W _ hW (by simp [List.getD, hi])
  have HHit : Hid (∀ k, k < shs.length → fv (shs.getD k 0) = 2 → outV fv shs = 2) := fun k hk h => outV_hit hk h
  have HEnd : Hid ((∀ k, k < shs.length → ¬ fv (shs.getD k 0) = 2) → outV fv shs = outA fv shs shs.length) := fun h => outV_end h
  clear hI hcell hcall
  obtain ⟨m, hm'⟩ : ∃ m, m = shs.length := ⟨_, rfl⟩
  rw [← hm'] at HC HF HHit HEnd hlen ⊢
  clear hm'
  have eg := enters_of Try.func53 (by kernel_rfl) rfl
  go_enter Try.func52, Try.ntmps52
  go_wp2
  go_loopw [5, 10] (fun t i w' => ∃ k : Nat, k ≤ m ∧ i = .int .i64 k ∧ t = .int .i64 (outA fv shs k) ∧ Hid (∀ j, j < k → ¬ fv (shs.getD j 0) = 2) ∧ Hid (Inv w')) (fun _ i _ => m - (intOf i).toNat)
  case atStart => exact ⟨0, Nat.zero_le _, rfl, rfl, fun j h => absurd h (Nat.not_lt_zero _), HI⟩
  case round =>
    clear HI
    obtain ⟨k, hk, rfl, rfl, HP, HW⟩ := hrel
    by_cases hlt : k < m
    · obtain ⟨b, o, rfl, hc⟩ := HC.out wr HW.out k hlt
      have HFk : Hid (Calls Try.prog 53 #[.int .i64 (shs.getD k 0), p1, p2, p3] wr fun e w' => e = .returned (.int .i64 (fv (shs.getD k 0))) ∧ Inv w') := HF.out wr k HW.out hlt
      have HHk : Hid (fv (shs.getD k 0) = 2 → outV fv shs = 2) := HHit.out k hlt
      have HA : Hid (outA fv shs (k + 1) = if fv (shs.getD k 0) = 0 then 0 else outA fv shs k) := rfl
      have HP2 : Hid (¬ fv (shs.getD k 0) = 2 → ∀ j, j < k + 1 → ¬ fv (shs.getD j 0) = 2) := fun h j hj => by
        by_cases e : j = k
        · subst e; exact h
        · exact HP.out j (by omega)
      have k1 : (k : Int) < m := by omega
      have k2 : (0 : Int) ≤ k := by omega
      clear HF HHit HW HP
      generalize shs.getD k 0 = sh at *
      generalize outA fv shs k = T at *
      go_wp2_with fail
      refine HFk.out.mono ?_
      rintro e w5 ⟨rfl, hw5⟩
      have HW5 : Hid (Inv w5) := hw5
      clear hw5 HFk
      generalize fv sh = g at *
      by_cases h2 : g = 2
      · have HR : Hid (outV fv shs = 2) := HHk.out h2
        subst h2
        go_wp2
        go_ret
        exact ⟨by rw [HR.out]; rfl, HW5.out⟩
      · have HP4 : Hid (∀ j, j < k + 1 → ¬ fv (shs.getD j 0) = 2) := HP2.out h2
        have h2' : (g == 2) = false := by simp [h2]
        by_cases h0 : g = 0
        · have HA0 : Hid (outA fv shs (k + 1) = 0) := by show _ = _; rw [HA.out, if_pos h0]
          subst h0
          go_wp2
          exact ⟨⟨k + 1, by omega, by go_num, by rw [HA0.out], HP4, HW5⟩, by simp [intOf]; omega⟩
        · have HA0 : Hid (outA fv shs (k + 1) = T) := by show _ = _; rw [HA.out, if_neg h0]
          have h0' : (g == 0) = false := by simp [h0]
          go_wp2
          exact ⟨⟨k + 1, by omega, by go_num, by rw [HA0.out], HP4, HW5⟩, by simp [intOf]; omega⟩
    · have hkm : k = m := by omega
      subst hkm
      have HR : Hid (outV fv shs = outA fv shs k) := HEnd.out HP.out
      generalize outA fv shs k = T at *
      go_wp2
      go_ret
      exact ⟨by rw [HR.out]; rfl, HW.out⟩
end Go.Proofs.Ytncmdeijimgchaa

/-
  The function value that OutcomeOf makes: one shard told.
-/
set_option linter.unusedSimpArgs false
set_option linter.unusedVariables false
namespace Go.Proofs.Ytncmdeijimgchaa
open Go.RowKit Go.Maps
set_option linter.unusedSectionVars false
variable [DecidableEq Vot] [Inhabited Vot] [DecidableEq Slt] [Inhabited Slt] [DecidableEq SltR] [Inhabited SltR] [DecidableEq Bal] [Inhabited Bal] [DecidableEq Ledg] [Inhabited Ledg] [DecidableEq Leg] [Inhabited Leg] [DecidableEq Acc] [Inhabited Acc] [DecidableEq AccR] [Inhabited AccR] [DecidableEq AccsR] [Inhabited AccsR] [DecidableEq SltsR] [Inhabited SltsR] [DecidableEq Cont] [Inhabited Cont]
attribute [local go_sem ↓] Go.wp_at_zero Go.wp_at_succ

def OcInv (w2 : World) (B G : Nat) (W : World) : Prop := Below w2.heap.size w2 W ∧ (∃ m f, m ≤ 600 ∧ Bkv W B m f) ∧ W.cell? ⟨G, 0, none⟩ = some (.map (some B))
set_option maxRecDepth 20000 in
set_option maxHeartbeats 8000000 in
theorem ocClo_any (w2 : World) (B G Lb Cb n cx : Nat) (a : Option Addr) (ci s : Int) (ys : List Vot)
    (hMo : ∀ W p2 q2, Below w2.heap.size w2 W → sltR.V w2 (.agg #[.int .i64 ci, .int .i64 s, .int .i64 (-1), .int .i64 (-1), .int .i64 0, .slice p2 0 q2]) (freS ci s) → Bkv W B 0 (fun _ => none) → Calls Try.prog 54 #[.map (some B), .slice a n cx, .agg #[.int .i64 ci, .int .i64 s, .int .i64 (-1), .int .i64 (-1), .int .i64 0, .slice p2 0 q2]] W (MostE B ys W))
    (hid : idOk ci s = true) (hL : w2.cell? ⟨Lb, 0, none⟩ = some (.slice a n cx)) (hC : w2.cell? ⟨Cb, 0, none⟩ = some (.int .i64 ci)) (hB : w2.heap.size ≤ B) (hG : ¬ G = B) (W : World) (hI : OcInv w2 B G W) :
    Calls Try.prog 53 #[.int .i64 s, .pointer (some ⟨G, 0, none⟩), .pointer (some ⟨Lb, 0, none⟩), .pointer (some ⟨Cb, 0, none⟩)] W fun e w' => e = .returned (.int .i64 (hdV ys)) ∧ OcInv w2 B G w' := by
  obtain ⟨hb, ⟨mm, ff, hmm, hBk⟩, hg⟩ := hI
  have zL := World.block_lt_of_cell? w2 _ hL
  have zC := World.block_lt_of_cell? w2 _ hC
  dsimp only at zL zC
  obtain ⟨w3, hr3, hB3, hm3⟩ := bkv_clear2 hBk
  have hb3 : Below w2.heap.size w2 w3 := hm3.below hb hb.size (fun b hb => by omega)
  have g3 : w3.cell? ⟨G, 0, none⟩ = some (.map (some B)) := hm3.cell hg (by dsimp only; exact hG)
  have l3 := cell_keep hb3 hL
  have c3 := cell_keep hb3 hC
  have HB3 : Hid (Bkv w3 B 0 (fun _ => none)) := hB3
  have HNw : Hid (∀ W, Calls Try.prog 55 #[.int .i64 ci, .int .i64 s] W (NewE ci s W)) := fun W => implNew_ok ci s W hid
  have HMo : Hid (∀ W p2 q2, Below w2.heap.size w2 W → sltR.V w2 (.agg #[.int .i64 ci, .int .i64 s, .int .i64 (-1), .int .i64 (-1), .int .i64 0, .slice p2 0 q2]) (freS ci s) → Bkv W B 0 (fun _ => none) → Calls Try.prog 54 #[.map (some B), .slice a n cx, .agg #[.int .i64 ci, .int .i64 s, .int .i64 (-1), .int .i64 (-1), .int .i64 0, .slice p2 0 q2]] W (MostE B ys W)) := hMo
  have hslot := slotField
  clear hMo hB3 hm3 hBk hid hb
  go_enter Try.func53, Try.ntmps53
  go_wp2_with (first | (at_builtin; refine wpl_clear rfl _ 103 rfl _ rfl (hr3 _) ?_) | fail)
  clear hg hr3
  refine wp_region_noPanic ?_
  refine region_upto (fun w' : World => w'.cell? ⟨G, 0, none⟩ = some (.map (some B)) ∧ w'.cell? ⟨Lb, 0, none⟩ = some (.slice a n cx) ∧ w'.cell? ⟨Cb, 0, none⟩ = some (.int .i64 ci)) 8 (by kernel_rfl) ⟨cell_keep (Below.drew (Below.refl _ _)) g3, cell_keep (Below.drew (Below.refl _ _)) l3, cell_keep (Below.drew (Below.refl _ _)) c3⟩ (fun hS => ?_)
  refine upto_take (i := 0) (v := ?_) rfl (by kernel_rfl) (by kernel_rfl) (by kernel_rfl) (by kernel_rfl) (fun _ _ _ h => h) (by rfl) hS ?_ ?_
  rotate_left
  · intro wS hSw
    try dsimp only at hSw
    first | (go_simp; done) | (go_simp; with_reducible rfl)
  try simp only [Act.put, List.getElem_toArray, List.getElem_cons_zero, List.getElem_cons_succ, List.setIfInBounds_toArray, List.set_cons_zero, List.set_cons_succ]
  refine upto_take (i := 1) (v := ?_) rfl (by kernel_rfl) (by kernel_rfl) (by kernel_rfl) (by kernel_rfl) (fun _ _ _ h => h) (by rfl) hS ?_ ?_
  rotate_left
  · intro wS hSw
    try dsimp only at hSw
    first | (go_simp; done) | (go_simp; with_reducible rfl)
  try simp only [Act.put, List.getElem_toArray, List.getElem_cons_zero, List.getElem_cons_succ, List.setIfInBounds_toArray, List.set_cons_zero, List.set_cons_succ]
  refine upto_take (i := 2) (v := ?_) rfl (by kernel_rfl) (by kernel_rfl) (by kernel_rfl) (by kernel_rfl) (fun _ _ _ h => h) (by rfl) hS ?_ ?_
  rotate_left
  · intro wS hSw
    try dsimp only at hSw
    first | (go_simp; done) | (go_simp; with_reducible rfl)
  try simp only [Act.put, List.getElem_toArray, List.getElem_cons_zero, List.getElem_cons_succ, List.setIfInBounds_toArray, List.set_cons_zero, List.set_cons_succ]
  refine upto_take (i := 3) (v := ?_) rfl (by kernel_rfl) (by kernel_rfl) (by kernel_rfl) (by kernel_rfl) (fun _ _ _ h => h) (by rfl) hS ?_ ?_
  rotate_left
  · intro wS hSw
    try dsimp only at hSw
    first | (go_simp; done) | (go_simp; with_reducible rfl)
  try simp only [Act.put, List.getElem_toArray, List.getElem_cons_zero, List.getElem_cons_succ, List.setIfInBounds_toArray, List.set_cons_zero, List.set_cons_succ]
  refine upto_take (i := 4) (v := ?_) rfl (by kernel_rfl) (by kernel_rfl) (by kernel_rfl) (by kernel_rfl) (fun _ _ _ h => h) (by rfl) hS ?_ ?_
  rotate_left
  · intro wS hSw
    try dsimp only at hSw
    first | (go_simp; done) | (go_simp; with_reducible rfl)
  try simp only [Act.put, List.getElem_toArray, List.getElem_cons_zero, List.getElem_cons_succ, List.setIfInBounds_toArray, List.set_cons_zero, List.set_cons_succ]
  refine upto_step (i := 5) (by kernel_rfl) rfl ?_
  intro K hK
  go_simp
  have hbd : Below w3.heap.size w3 w3.drew := Below.drew (Below.refl _ _)
  refine (HNw.out _).mono ?_
  rintro e w4 ⟨p4, q4, F4, rfl, o4, hb4⟩
  have hb4' : Below w3.heap.size w3 w4 := bstep hbd hb4
  have hS4 : (fun w' : World => w'.cell? ⟨G, 0, none⟩ = some (.map (some B)) ∧ w'.cell? ⟨Lb, 0, none⟩ = some (.slice a n cx) ∧ w'.cell? ⟨Cb, 0, none⟩ = some (.int .i64 ci)) w4 := ⟨cell_keep hb4 hS.1, cell_keep hb4 hS.2.1, cell_keep hb4 hS.2.2⟩
  refine hK _ _ (fun _ => hS4) ?_
  clear hK K
  have HM4 : Hid (Calls Try.prog 54 #[.map (some B), .slice a n cx, .agg #[.int .i64 ci, .int .i64 s, .int .i64 (-1), .int .i64 (-1), .int .i64 0, .slice p4 0 q4]] w4 (MostE B ys w4)) := HMo.out w4 p4 q4 (bstep hb3 hb4') (freS_V (sltR.ofO o4) w2) (HB3.out.below hb4')
  clear HMo HNw o4 HB3
  try simp only [Act.put, List.getElem_toArray, List.getElem_cons_zero, List.getElem_cons_succ, List.setIfInBounds_toArray, List.set_cons_zero, List.set_cons_succ]
  refine upto_step (i := 6) (by kernel_rfl) rfl ?_
  intro K hK
  go_simp
  refine hK _ _ (fun _ => hS4) ?_
  clear hK K
  try simp only [Act.put, List.getElem_toArray, List.getElem_cons_zero, List.getElem_cons_succ, List.setIfInBounds_toArray, List.set_cons_zero, List.set_cons_succ]
  refine upto_step (i := 7) (by kernel_rfl) rfl ?_
  intro K hK
  go_simp
  refine HM4.out.mono ?_
  rintro e w5 ⟨rfl, hB5, hm5⟩
  have hz4 := (bstep hb3 hb4').size
  have hI5 : OcInv w2 B G w5 := ⟨hm5.below (bstep hb3 hb4') hz4 (fun b hb => by omega), hB5, hm5.cell hS4.1 (by dsimp only; exact hG)⟩
  have HI5 : Hid (OcInv w2 B G w5) := hI5
  have hS5 : (fun w' : World => w'.cell? ⟨G, 0, none⟩ = some (.map (some B)) ∧ w'.cell? ⟨Lb, 0, none⟩ = some (.slice a n cx) ∧ w'.cell? ⟨Cb, 0, none⟩ = some (.int .i64 ci)) w5 := ⟨hm5.cell hS4.1 (by dsimp only; exact hG), hm5.cell hS4.2.1 (by dsimp only; omega), hm5.cell hS4.2.2 (by dsimp only; omega)⟩
  refine hK _ _ (fun _ => hS5) ?_
  clear hK K HM4
  clear hI5 hB5 hm5 hS4 hS hb4 hb4' hbd
  try simp only [Act.put, List.getElem_toArray, List.getElem_cons_zero, List.getElem_cons_succ, List.setIfInBounds_toArray, List.set_cons_zero, List.set_cons_succ]
  refine upto_step (i := 8) (by kernel_rfl) rfl ?_
  intro K hK
  go_simp
  refine hK _ _ (fun h => absurd rfl h) ?_
  clear hK K
  refine upto_done (by kernel_rfl) ?_
  refine NoPanic.normal ?_
  go_wp2
  go_ret
  exact ⟨rfl, HI5.out⟩
end Go.Proofs.Ytncmdeijimgchaa

/-
  OutcomeOf, the program's.
-/
set_option linter.unusedSimpArgs false
set_option linter.unusedVariables false
namespace Go.Proofs.Ytncmdeijimgchaa
open Go.RowKit Go.Maps
set_option linter.unusedSectionVars false
variable [DecidableEq Vot] [Inhabited Vot] [DecidableEq Slt] [Inhabited Slt] [DecidableEq SltR] [Inhabited SltR] [DecidableEq Bal] [Inhabited Bal] [DecidableEq Ledg] [Inhabited Ledg] [DecidableEq Leg] [Inhabited Leg] [DecidableEq Acc] [Inhabited Acc] [DecidableEq AccR] [Inhabited AccR] [DecidableEq AccsR] [Inhabited AccsR] [DecidableEq SltsR] [Inhabited SltsR] [DecidableEq Cont] [Inhabited Cont]
attribute [local go_sem ↓] Go.wp_at_zero Go.wp_at_succ

set_option maxRecDepth 20000 in
set_option maxHeartbeats 8000000 in
theorem implOutcome_any (hSV : SortsV) (x y : Value) (l : List Acc) (c : Cont) (ysf : Int → List Vot) (w : World) (hx : accsR.V w x l) (hy : contR.V w y c) (hys : outC l c = 0 → ∀ s, s ∈ shardsL c.legs → Chs (slotsL l c.id s) (ysf s)) :
    Calls Try.prog 14 #[x, y] w fun e w' => e = .returned (.agg #[.int .i64 (outC l c), .int .i64 (outR l c ysf)]) ∧ Below w.heap.size w w' := by
  obtain ⟨uy, rfl, hy⟩ := hy
  have HLf : Hid (∀ W, Below w.heap.size w W → Calls Try.prog 51 #[x] W fun e w' => e = .returned (.int .i64 (listF l)) ∧ Below W.heap.size W w') := fun W hW => implListF_any x l W (accsR.below hx hW)
  have HSh : Hid (∀ W, Below w.heap.size w W → Calls Try.prog 10 #[.agg #[.int .i64 c.id, uy]] W fun e w' => ∃ v, e = .returned (.agg #[.int .i64 (shCode c.id c.legs), v]) ∧ w'.ownsRow W.heap.size 2 1 v (shList c.id c.legs).length (intsC (shList c.id c.legs)) ∧ Below W.heap.size W w') := fun W hW => implShardsOf_any c.id uy c.legs W (legsR.below hy hW)
  have HMo : Hid (∀ B W0 W p2 q2 s, Below w.heap.size w W0 → Below W0.heap.size W0 W → W0.heap.size ≤ B → outC l c = 0 → s ∈ shardsL c.legs → sltR.V W0 (.agg #[.int .i64 c.id, .int .i64 s, .int .i64 (-1), .int .i64 (-1), .int .i64 0, .slice p2 0 q2]) (freS c.id s) → Bkv W B 0 (fun _ => none) → Calls Try.prog 54 #[.map (some B), x, .agg #[.int .i64 c.id, .int .i64 s, .int .i64 (-1), .int .i64 (-1), .int .i64 0, .slice p2 0 q2]] W (MostE B (ysf s) W)) := fun B W0 W p2 q2 s h0 h1 h2 h3 hs h4 h5 => most_any hSV B x p2 q2 l c.id s (ysf s) W0 W (accsR.below hx h0) h1 h2 (listOk_of (outC_ok h3).1) (cf_id (outC_ok h3).2 hs) (hys h3 s hs) h4 h5
  obtain ⟨a, cx, rfl⟩ := accs_form hx
  obtain ⟨ay, cy, rfl⟩ := legs_form hy
  clear hx hy hys hSV
  generalize l.length = n at *
  have hK0 : Hid (∀ e, listF l = e → ¬ e = 0 → outC l c = e ∧ outR l c ysf = 0) := fun e h h0 => by
    have h1 : outC l c = e := by unfold outC; rw [if_neg (by rw [h]; exact h0), h]
    exact ⟨h1, by unfold outR; rw [h1, if_neg h0]⟩
  have hK1 : Hid (∀ e, listF l = 0 → contractFault c.id c.legs = e → ¬ e = 0 → outC l c = e ∧ outR l c ysf = 0) := fun e h h2 h0 => by
    have h1 : outC l c = e := by unfold outC; rw [if_pos h, h2]
    exact ⟨h1, by unfold outR; rw [h1, if_neg h0]⟩
  have hK2 : Hid (listF l = 0 → contractFault c.id c.legs = 0 → outC l c = 0 ∧ outR l c ysf = outV (fun s => hdV (ysf s)) (shardsL c.legs)) := fun h h2 => by
    have h1 : outC l c = 0 := by unfold outC; rw [if_pos h, h2]
    exact ⟨h1, by unfold outR; rw [if_pos h1]⟩
  generalize c.legs.length = ny at *
  go_enter Try.func14, Try.ntmps14
  go_wp2_with fail
  refine (HLf.out _ (by (repeat (first | exact Below.refl _ _ | assumption | refine Below.drew ?_ | refine balloc ?_ _ | refine bset ?_ (by simp; omega) _ | refine bset ?_ (by simp) _ | refine bstep ?_ (by assumption))))).mono ?_
  rintro e w1 ⟨rfl, hb1⟩
  have hB1 : Below w.heap.size w w1 := by (repeat (first | exact Below.refl _ _ | assumption | refine Below.drew ?_ | refine balloc ?_ _ | refine bset ?_ (by simp; omega) _ | refine bset ?_ (by simp) _ | refine bstep ?_ (by assumption)))
  have hz1 := hb1.size
  simp at hz1
  obtain ⟨c1, f1⟩ := bcell hb1
  have l0 : w1.cell? ⟨w.heap.size, 0, none⟩ = some (.slice a n cx) := cell_keep hb1 (by simp [go_sem])
  have y0 : w1.cell? ⟨w.heap.size + 1, 0, none⟩ = some (.int .i64 c.id) := cell_keep hb1 (by simp [go_sem])
  have y1 : w1.cell? ⟨w.heap.size + 1, 1, none⟩ = some (.slice ay ny cy) := cell_keep hb1 (by simp [go_sem])
  have r0 : w1.cell? ⟨w.heap.size + 2, 0, none⟩ = some (.int .i64 0) := cell_keep hb1 (by simp [go_sem])
  have r1 : w1.cell? ⟨w.heap.size + 2, 1, none⟩ = some (.int .i64 0) := cell_keep hb1 (by simp [go_sem])
  have rf : ∀ o, w1.frozen? ⟨w.heap.size + 2, o, none⟩ = false := fun o => by rw [f1 _ _ (by simp; try omega)]; simp [go_sem]
  clear hb1 c1 f1 HLf
  have zr : w.heap.size + 2 < w1.heap.size := World.block_lt_of_cell? w1 _ r0
  by_cases hf : listF l = 0
  rotate_left
  · obtain ⟨HC1, HC2⟩ := hK0.out _ rfl hf
    have H1 : Hid (outC l c = listF l) := HC1
    have H2 : Hid (outR l c ysf = 0) := HC2
    clear HC1 HC2 hK0 hK1 hK2 HSh HMo
    generalize listF l = g at *
    have hg' : (g != 0) = true := by simp [hf]
    go_wp2
    exact bodyPost_ret (v := .agg #[.int .i64 g, .int .i64 0]) (by simp [results, Try.results14, go_sem, r0, r1, rf]) rfl ⟨by rw [H1.out, H2.out], by (repeat (first | refine bset ?_ (by simp; omega) _ | refine bset ?_ (by simp) _ | refine balloc ?_ _ | assumption))⟩
  rw [hf]
  go_wp2_with fail
  refine (HSh.out _ hB1).mono ?_
  rintro e w2 ⟨v2, rfl, ho2, hb2⟩
  have hB2 : Below w.heap.size w w2 := bstep hB1 hb2
  have hz2 := hb2.size
  replace l0 := cell_keep hb2 l0
  replace y0 := cell_keep hb2 y0
  replace y1 := cell_keep hb2 y1
  replace r0 := cell_keep hb2 r0
  replace r1 := cell_keep hb2 r1
  replace rf : ∀ o, w2.frozen? ⟨w.heap.size + 2, o, none⟩ = false := fun o => by rw [(bcell hb2).2 _ _ zr]; exact rf o
  clear hb2 HSh
  have zr2 : w.heap.size + 2 < w2.heap.size := World.block_lt_of_cell? w2 _ r0
  have zy2 : w.heap.size + 1 < w2.heap.size := World.block_lt_of_cell? w2 _ y0
  by_cases hcf : contractFault c.id c.legs = 0
  rotate_left
  · obtain ⟨HC1, HC2⟩ := hK1.out _ hf rfl hcf
    have H1 : Hid (outC l c = contractFault c.id c.legs) := HC1
    have H2 : Hid (outR l c ysf = 0) := HC2
    have e1 : shCode c.id c.legs = contractFault c.id c.legs := rfl
    rw [e1]
    obtain ⟨a2, c2, rfl⟩ := owns_form ho2
    clear HC1 HC2 hK0 hK1 hK2 HMo ho2 e1
    generalize (shList c.id c.legs).length = m at *
    generalize contractFault c.id c.legs = g at *
    have hg' : (g != 0) = true := by simp [hcf]
    go_wp2
    exact bodyPost_ret (v := .agg #[.int .i64 g, .int .i64 0]) (by simp [results, Try.results14, go_sem, r0, r1, rf, zr2, Nat.ne_of_lt zr2]) rfl ⟨by rw [H1.out, H2.out], by (repeat (first | refine bset ?_ (by simp; omega) _ | refine bset ?_ (by simp) _ | refine balloc ?_ _ | assumption))⟩
  have e1 : shCode c.id c.legs = 0 := hcf
  have e2 : shList c.id c.legs = shardsL c.legs := if_pos hcf
  rw [e1]
  rw [e2] at ho2
  obtain ⟨HC1, HC2⟩ := hK2.out hf hcf
  have H1 : Hid (outC l c = 0) := HC1
  have H2 : Hid (outR l c ysf = outV (fun s => hdV (ysf s)) (shardsL c.legs)) := HC2
  have HID : Hid (∀ s, s ∈ shardsL c.legs → idOk c.id s = true) := fun s hs => cf_id hcf hs
  clear HC1 HC2 hK0 hK1 hK2 e1 e2 hf hcf
  obtain ⟨a2, c2, rfl, hc2, hm2, hi2⟩ := IntsV_of_owns ho2
  unfold maxLen at hm2
  have HI : Hid (∀ i, i < (shardsL c.legs).length → ∃ b o, a2 = some ⟨b, o, none⟩ ∧ w2.cell? ⟨b, o + i, none⟩ = some (.int .i64 ((shardsL c.legs).getD i 0))) := hi2
  have HMem : Hid (∀ i, i < (shardsL c.legs).length → (shardsL c.legs).getD i 0 ∈ shardsL c.legs) := fun i hi => sh_mem hi
  have HHit : Hid (∀ k, k < (shardsL c.legs).length → hdV (ysf ((shardsL c.legs).getD k 0)) = 2 → outR l c ysf = 2) := fun k hk h => by rw [H2.out]; exact outV_hit (f := fun s => hdV (ysf s)) hk h
  have HEnd : Hid ((∀ k, k < (shardsL c.legs).length → ¬ hdV (ysf ((shardsL c.legs).getD k 0)) = 2) → outR l c ysf = outA (fun s => hdV (ysf s)) (shardsL c.legs) (shardsL c.legs).length) := fun h => by rw [H2.out]; exact outV_end (f := fun s => hdV (ysf s)) h
  have hlen3 : (shardsL c.legs).length ≤ 3 := sl_le _ _ _
  have HM1 : Hid (∀ B W0 W p2 q2 s, Below w.heap.size w W0 → Below W0.heap.size W0 W → W0.heap.size ≤ B → s ∈ shardsL c.legs → sltR.V W0 (.agg #[.int .i64 c.id, .int .i64 s, .int .i64 (-1), .int .i64 (-1), .int .i64 0, .slice p2 0 q2]) (freS c.id s) → Bkv W B 0 (fun _ => none) → Calls Try.prog 54 #[.map (some B), .slice a n cx, .agg #[.int .i64 c.id, .int .i64 s, .int .i64 (-1), .int .i64 (-1), .int .i64 0, .slice p2 0 q2]] W (MostE B (ysf s) W)) := fun B W0 W p2 q2 s h0 h1 h2 hs h4 h5 => HMo.out B W0 W p2 q2 s h0 h1 h2 H1.out hs h4 h5
  clear ho2 hi2 HMo
  generalize shardsL c.legs = shs at *
  obtain ⟨m, hm'⟩ : ∃ m, m = shs.length := ⟨_, rfl⟩
  rw [← hm'] at hc2 HI HMem HHit HEnd hlen3 ⊢
  have HML : Hid (m = shs.length) := hm'
  clear hm'
  have hmm := @run_makeMap Try.prog
  have hmf : ∀ (fn : Fn) (first cap : Array Value) (w : World), (Instr.makeFunc fn first cap).run Try.prog w = .ok (.func fn first cap) w := fun _ _ _ _ => rfl
  have hBm := bkv_made (w2.alloc (.cells #[.int .i64 0, .slice a2 m c2] 30))
  simp only [World.size_alloc] at hBm
  go_wp2_with fail
  clear hmm hmf
  have hI0 : OcInv w2 (w2.heap.size + 1) (w2.heap.size + 1 + 1) (((w2.alloc (.cells #[.int .i64 0, .slice a2 m c2] 30)).alloc (.map #[] 0)).alloc (.cells #[.map (some (w2.heap.size + 1))] 103)) :=
    ⟨by (repeat (first | exact Below.refl _ _ | assumption | refine Below.drew ?_ | refine balloc ?_ _ | refine bset ?_ (by simp; omega) _ | refine bset ?_ (by simp) _ | refine bstep ?_ (by assumption))), ⟨0, _, by omega, hBm.below (balloc (Below.refl _ _) _)⟩, by simp [go_sem]⟩
  obtain rfl := HML.out
  refine (outcomeBy_any a2 c2 shs (fun s => hdV (ysf s)) _ _ _ (OcInv w2 (w2.heap.size + 1) (w2.heap.size + 1 + 1)) _ hI0 hlen3 (fun W hW i hi => ?hc) (fun W s hW hs => ocClo_any w2 _ _ _ _ n cx a c.id s (ysf s) (fun W p2 q2 h1 h2 h3 => HM1.out _ w2 W p2 q2 s hB2 h1 (by omega) hs h2 h3) (HID.out s hs) l0 y0 (by omega) (by omega) W hW)).mono ?_
  case hc =>
    obtain ⟨b, o, e, h⟩ := HI.out i hi
    exact ⟨b, o, e, cell_keep hW.1 h⟩
  rintro e w5 ⟨rfl, hI5⟩
  have hb5 := hI5.1
  replace r0 := cell_keep hb5 r0
  replace r1 := cell_keep hb5 r1
  replace rf : ∀ o, w5.frozen? ⟨w.heap.size + 2, o, none⟩ = false := fun o => by rw [(bcell hb5).2 _ _ zr2]; exact rf o
  have hB5 : Below w.heap.size w w5 := bstep hB2 hb5
  have HR : Hid (outR l c ysf = outV (fun s => hdV (ysf s)) shs) := H2
  clear hI0 hI5 hBm HI HM1 HID HHit HEnd HMem H2 l0 y0 y1
  generalize outV (fun s => hdV (ysf s)) shs = T at *
  go_wp2
  exact bodyPost_ret (v := .agg #[.int .i64 0, .int .i64 T]) (by simp [results, Try.results14, go_sem, r0, r1, rf]) rfl ⟨by rw [H1.out, HR.out], by (repeat (first | refine bset ?_ (by simp; omega) _ | refine bset ?_ (by simp) _ | refine balloc ?_ _ | assumption))⟩
end Go.Proofs.Ytncmdeijimgchaa

/-
  slices.SortFunc at votes: the library's contract, laid at this program.
-/
namespace Go.Proofs.Ytncmdeijimgchaa
open Go.Shelf
def Try.sortV_ren : Go.Shelf.Ren := ⟨fun | 6 => 136 | 15 => 159 | 14 => 158 | 28 => 172 | 29 => 173 | 20 => 164 | 21 => 165 | 22 => 166 | 23 => 167 | 24 => 168 | 25 => 169 | 26 => 170 | 27 => 171 | 46 => 176 | 47 => 177 | 48 => 178 | 49 => 179 | 50 => 180 | 57 => 182 | n => n, fun | 22 => 44 | 24 => 54 | 25 => 184 | 3 => 3 | 39 => 201 | 0 => 0 | 53 => 214 | 55 => 216 | 4 => 4 | 46 => 208 | 45 => 207 | 50 => 181 | 5 => 5 | 9 => 9 | 66 => 218 | 70 => 222 | 76 => 225 | 77 => 226 | n => n, fun | n => n⟩
theorem Try.sortV : Go.Proofs.SlLaysF0.n6 Try.prog Try.sortV_ren := {
  mixed := by kernel_rfl
  f6 := ⟨Try.f136.name, by decide, Try.func136.trans (congrArg some (by kernel_rfl))⟩
  f14 := ⟨Try.f158.name, by decide, Try.func158.trans (congrArg some (by kernel_rfl))⟩
  f15 := Try.func159.trans (congrArg some (by kernel_rfl))
  f20 := ⟨Try.f164.name, by decide, Try.func164.trans (congrArg some (by kernel_rfl))⟩
  f21 := ⟨Try.f165.name, by decide, Try.func165.trans (congrArg some (by kernel_rfl))⟩
  f22 := ⟨Try.f166.name, by decide, Try.func166.trans (congrArg some (by kernel_rfl))⟩
  f23 := ⟨Try.f167.name, by decide, Try.func167.trans (congrArg some (by kernel_rfl))⟩
  f24 := ⟨Try.f168.name, by decide, Try.func168.trans (congrArg some (by kernel_rfl))⟩
  f25 := ⟨Try.f169.name, by decide, Try.func169.trans (congrArg some (by kernel_rfl))⟩
  f26 := ⟨Try.f170.name, by decide, Try.func170.trans (congrArg some (by kernel_rfl))⟩
  f27 := ⟨Try.f171.name, by decide, Try.func171.trans (congrArg some (by kernel_rfl))⟩
  f28 := Try.func172.trans (congrArg some (by kernel_rfl))
  f29 := Try.func173.trans (congrArg some (by kernel_rfl))
  f46 := ⟨Try.f176.name, by decide, Try.func176.trans (congrArg some (by kernel_rfl))⟩
  f47 := Try.func177.trans (congrArg some (by kernel_rfl))
  f48 := Try.func178.trans (congrArg some (by kernel_rfl))
  f49 := ⟨Try.f179.name, by decide, Try.func179.trans (congrArg some (by kernel_rfl))⟩
  f50 := ⟨Try.f180.name, by decide, Try.func180.trans (congrArg some (by kernel_rfl))⟩
  f57 := ⟨Try.f182.name, by decide, Try.func182.trans (congrArg some (by kernel_rfl))⟩
  t0 := Try.underlying0
  a0 := Try.isAgg0
  z0 := Try.sizeOf0
  v0 := Try.zeroValue0
  t3 := Try.underlying3
  a3 := Try.isAgg3
  z3 := Try.sizeOf3
  v3 := Try.zeroValue3
  t4 := Try.underlying4
  a4 := Try.isAgg4
  z4 := Try.sizeOf4
  v4 := Try.zeroValue4
  t5 := Try.underlying5
  a5 := Try.isAgg5
  z5 := Try.sizeOf5
  v5 := Try.zeroValue5
  t9 := Try.underlying9
  a9 := Try.isAgg9
  z9 := Try.sizeOf9
  v9 := Try.zeroValue9
  t22 := Try.underlying44
  a22 := Try.isAgg44
  z22 := Try.sizeOf44
  v22 := Try.zeroValue44
  t25 := Try.underlying184
  a25 := Try.isAgg184
  z25 := Try.sizeOf184
  v25 := Try.zeroValue184
  t39 := Try.underlying201
  a39 := Try.isAgg201
  z39 := Try.sizeOf201
  v39 := Try.zeroValue201
  t45 := Try.underlying207
  a45 := Try.isAgg207
  z45 := Try.sizeOf207
  v45 := Try.zeroValue207
  t46 := Try.underlying208
  a46 := Try.isAgg208
  z46 := Try.sizeOf208
  v46 := Try.zeroValue208
  t50 := Try.underlying181
  a50 := Try.isAgg181
  z50 := Try.sizeOf181
  v50 := Try.zeroValue181
  t53 := Try.underlying214
  a53 := Try.isAgg214
  z53 := Try.sizeOf214
  v53 := Try.zeroValue214
  t55 := Try.underlying216
  a55 := Try.isAgg216
  z55 := Try.sizeOf216
  v55 := Try.zeroValue216
  t66 := Try.underlying218
  a66 := Try.isAgg218
  z66 := Try.sizeOf218
  v66 := Try.zeroValue218
  t70 := Try.underlying222
  a70 := Try.isAgg222
  z70 := Try.sizeOf222
  v70 := Try.zeroValue222
  t76 := Try.underlying225
  a76 := Try.isAgg225
  z76 := Try.sizeOf225
  v76 := Try.zeroValue225
  t77 := Try.underlying226
  a77 := Try.isAgg226
  z77 := Try.sizeOf226
  v77 := Try.zeroValue226 }
end Go.Proofs.Ytncmdeijimgchaa

