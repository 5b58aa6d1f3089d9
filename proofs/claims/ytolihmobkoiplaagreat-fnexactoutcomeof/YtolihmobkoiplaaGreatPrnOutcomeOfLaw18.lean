import Derived.Test.YtolihmobkoiplaaGreatPrnOutcomeOfLaw15
import Derived.Test.YtolihmobkoiplaaGreatPrnOutcomeOfLaw17
import Derived.Test.YtolihmobkoiplaaGreatPrnOutcomeOfLaw13
import Derived.BigQuiet
import Derived.Deep.QuietTactic
import Derived.Deep.RegionHeld3
import Derived.Test.YtolihmobkoiplaaGreatPrnOutcomeOfLaw10
import Derived.Test.YtolihmobkoiplaaGreatPrnOutcomeOfLaw4
import Derived.Test.YtolihmobkoiplaaGreatPrnOutcomeOfLaw11
import Derived.Test.YtolihmobkoiplaaGreatPrnOutcomeOfLaw16
import Derived.Shelf.SlSortCmp.WholeK

/-
  OutcomeOf, the document's.
-/
set_option linter.unusedSimpArgs false
set_option linter.unusedVariables false
namespace Go.Proofs.YtolihmobkoiplaaGreat
open Go.RowKit Go.Maps
set_option linter.unusedSectionVars false
variable [DecidableEq Vot] [Inhabited Vot] [DecidableEq Slt] [Inhabited Slt] [DecidableEq SltR] [Inhabited SltR] [DecidableEq Bal] [Inhabited Bal] [DecidableEq Ledg] [Inhabited Ledg] [DecidableEq Leg] [Inhabited Leg] [DecidableEq Acc] [Inhabited Acc] [DecidableEq AccR] [Inhabited AccR] [DecidableEq AccsR] [Inhabited AccsR] [DecidableEq SltsR] [Inhabited SltsR] [DecidableEq Cont] [Inhabited Cont]
attribute [local go_sem ↓] Go.wp_at_zero Go.wp_at_succ

theorem outKeep {w w' : World} {p q : Addr} {u v : Value} (hb : Below w.heap.size w w') (h : w.cell? p = some u) (h' : w.cell? q = some v) : Below w.heap.size w w' ∧ w'.cell? p = some u ∧ w'.cell? q = some v := ⟨hb, cell_keep hb h, cell_keep hb h'⟩
set_option maxRecDepth 20000 in
set_option maxHeartbeats 8000000 in
theorem l9Outcome_any (x y : Value) (l : List Acc) (c : Cont) (ysf : Int → List Vot) (w : World) (hx : accsR.V w x l) (hy : contR.V w y c) (hC : outC l c = 0) (hys : ∀ s, s ∈ shardsL c.legs → Chs (slotsL l c.id s) (ysf s)) :
    Calls Tryz.prog 17 #[x, y] w fun e w' => e = .returned (.int .i64 (outV (fun s => hdV (ysf s)) (shardsL c.legs))) ∧ Below w.heap.size w w' := by
  obtain ⟨uy, rfl, hy⟩ := hy
  obtain ⟨hlf, hcf⟩ := outC_ok hC
  obtain ⟨_, hl2, hl8, hokL, _⟩ := cf_inv hcf
  have HSh : Hid (∀ W, Below w.heap.size w W → Calls Tryz.prog 32 #[.agg #[.int .i64 c.id, uy]] W fun e w' => ∃ v, e = .returned v ∧ w'.ownsRow W.heap.size 2 1 v (shardsL c.legs).length (intsC (shardsL c.legs)) ∧ Below W.heap.size W w') := fun W hW => l1Shards_any c.id uy c.legs W (legsR.below hy hW) (by omega) (sh_bound hokL)
  have HCh : Hid (∀ W s, Below w.heap.size w W → s ∈ shardsL c.legs → Calls Tryz.prog 33 #[x, .int .i64 c.id, .int .i64 s] W fun e w' => e = .returned (.int .i64 (hdV (ysf s))) ∧ Below W.heap.size W w') := fun W s hW hs => l9Chosen_any x l c.id s (ysf s) W (accsR.below hx hW) (listOk_of hlf) (cf_id hcf hs) (hys s hs)
  obtain ⟨a, cx, rfl⟩ := accs_form hx
  obtain ⟨ay, cy, rfl⟩ := legs_form hy
  clear hx hy hys hC hlf hcf hl2 hl8 hokL
  generalize l.length = n at *
  have HMem : Hid (∀ i, i < (shardsL c.legs).length → (shardsL c.legs).getD i 0 ∈ shardsL c.legs) := fun i hi => sh_mem hi
  have HHit : Hid (∀ k, k < (shardsL c.legs).length → hdV (ysf ((shardsL c.legs).getD k 0)) = 2 → outV (fun s => hdV (ysf s)) (shardsL c.legs) = 2) := fun k hk h => outV_hit (f := fun s => hdV (ysf s)) hk h
  have HEnd : Hid ((∀ k, k < (shardsL c.legs).length → ¬ hdV (ysf ((shardsL c.legs).getD k 0)) = 2) → outV (fun s => hdV (ysf s)) (shardsL c.legs) = outA (fun s => hdV (ysf s)) (shardsL c.legs) (shardsL c.legs).length) := fun h => outV_end (f := fun s => hdV (ysf s)) h
  have hlen3 : (shardsL c.legs).length ≤ 3 := sl_le _ _ _
  obtain ⟨shs, hshs⟩ : ∃ shs, shs = shardsL c.legs := ⟨_, rfl⟩
  rw [← hshs] at HSh HCh HMem HHit HEnd hlen3 ⊢
  clear hshs
  generalize c.legs.length = ny at *
  obtain ⟨R, hR⟩ : ∃ R, R = outV (fun s => hdV (ysf s)) shs := ⟨_, rfl⟩
  rw [← hR] at HHit HEnd ⊢
  clear hR
  go_enter Tryz.func17, Tryz.ntmps17
  go_wp2_with fail
  refine (HSh.out _ (by (repeat (first | exact Below.refl _ _ | assumption | refine Below.drew ?_ | refine balloc ?_ _ | refine bset ?_ (by simp; omega) _ | refine bset ?_ (by simp) _ | refine bstep ?_ (by assumption))))).mono ?_
  rintro e w2 ⟨v2, rfl, ho2, hb2⟩
  have hB2 : Below w.heap.size w w2 := by (repeat (first | exact Below.refl _ _ | assumption | refine Below.drew ?_ | refine balloc ?_ _ | refine bset ?_ (by simp; omega) _ | refine bset ?_ (by simp) _ | refine bstep ?_ (by assumption)))
  have Y0 : w2.cell? ⟨w.heap.size, 0, none⟩ = some (.int .i64 c.id) := cell_keep hb2 (by simp [go_sem])
  have Y1 : w2.cell? ⟨w.heap.size, 1, none⟩ = some (.slice ay ny cy) := cell_keep hb2 (by simp [go_sem])
  clear hb2 HSh
  obtain ⟨a2, c2, rfl, hc2, hm2, hi2⟩ := IntsV_of_owns ho2
  unfold maxLen at hm2
  have HI : Hid (∀ i, i < shs.length → ∃ b o, a2 = some ⟨b, o, none⟩ ∧ w2.cell? ⟨b, o + i, none⟩ = some (.int .i64 (shs.getD i 0))) := hi2
  clear ho2 hi2
  obtain ⟨m, hm'⟩ : ∃ m, m = shs.length := ⟨_, rfl⟩
  rw [← hm'] at hc2 HI HMem HHit HEnd hlen3 ⊢
  clear hm'
  go_wp2
  go_loopw [6, 7] (fun t i w' => ∃ k : Nat, k ≤ m ∧ i = .int .i64 k ∧ t = .int .i64 (outA (fun s => hdV (ysf s)) shs k) ∧ Hid (∀ j, j < k → ¬ hdV (ysf (shs.getD j 0)) = 2) ∧ Below w2.heap.size w2 w') (fun t i _ => m - (intOf i).toNat)
  case atStart => exact ⟨0, Nat.zero_le _, rfl, rfl, fun j h => absurd h (Nat.not_lt_zero _), Below.refl _ _⟩
  case round =>
    obtain ⟨k, hk, rfl, rfl, HP, hbl⟩ := hrel
    have y0 := cell_keep hbl Y0
    have hBw : Below w.heap.size w wr := bstep hB2 hbl
    by_cases hlt : k < m
    · obtain ⟨b, o, rfl, hc⟩ := HI.out k hlt
      have hms := HMem.out k hlt
      have HHk : Hid (hdV (ysf (shs.getD k 0)) = 2 → R = 2) := HHit.out k hlt
      have HA : Hid (outA (fun s => hdV (ysf s)) shs (k + 1) = if hdV (ysf (shs.getD k 0)) = 0 then 0 else outA (fun s => hdV (ysf s)) shs k) := rfl
      have HP2 : Hid (¬ hdV (ysf (shs.getD k 0)) = 2 → ∀ j, j < k + 1 → ¬ hdV (ysf (shs.getD j 0)) = 2) := fun h j hj => by
        by_cases e : j = k
        · subst e; exact h
        · exact HP.out j (by omega)
      replace hc := cell_keep hbl hc
      have HC2 : Hid (∀ W, Below wr.heap.size wr W → Calls Tryz.prog 33 #[.slice a n cx, .int .i64 c.id, .int .i64 (shs.getD k 0)] W fun e w' => e = .returned (.int .i64 (hdV (ysf (shs.getD k 0)))) ∧ Below W.heap.size W w') := fun W hW => HCh.out W _ (bstep hBw hW) hms
      have hi5 : (k : Int) < m := by omega
      have hi4 : (0 : Int) ≤ k := by omega
      clear hms
      generalize shs.getD k 0 = sh at *
      generalize outA (fun s => hdV (ysf s)) shs k = T at *
      generalize hdV (ysf sh) = g at *
      go_wp2
      go_region_held3 (fun W => Below wr.heap.size wr W ∧ W.cell? ⟨w.heap.size, 0, none⟩ = some (.int .i64 c.id) ∧ W.cell? ⟨b, o + k, none⟩ = some (.int .i64 sh)) ((refine outKeep ?_ y0 hc; repeat (first | exact Below.refl _ _ | assumption | refine Below.drew ?_ | refine balloc ?_ _ | refine bstep ?_ (by assumption)))) (first | (go_at_call 33; refine (HC2.out _ (by repeat (first | exact Below.refl _ _ | assumption | refine Below.drew ?_ | refine balloc ?_ _ | refine bstep ?_ (by assumption)))).mono ?_; rintro e wa ⟨rfl, hb3⟩))
      rename_i hH
      have hB3 := hH.1
      clear hH
      have hbl3 : Below w2.heap.size w2 wa := bstep hbl hB3
      have hB4 : Below w.heap.size w wa := bstep hB2 hbl3
      by_cases h2 : g = 2
      · have HC : Hid (R = 2) := HHk.out h2
        subst h2
        go_wp2
        go_ret
        exact ⟨by rw [HC.out]; rfl, hB4⟩
      · have HP4 : Hid (∀ j, j < k + 1 → ¬ hdV (ysf (shs.getD j 0)) = 2) := HP2.out h2
        have h2' : (g == 2) = false := by simp [h2]
        by_cases h0 : g = 0
        · have HA0 : Hid (outA (fun s => hdV (ysf s)) shs (k + 1) = 0) := by show _ = _; rw [HA.out, if_pos h0]
          subst h0
          go_wp2
          exact ⟨⟨k + 1, by omega, by go_num, by rw [HA0.out], HP4, hbl3⟩, by simp [intOf]; omega⟩
        · have HA0 : Hid (outA (fun s => hdV (ysf s)) shs (k + 1) = T) := by show _ = _; rw [HA.out, if_neg h0]
          have h0' : (g == 0) = false := by simp [h0]
          go_wp2
          exact ⟨⟨k + 1, by omega, by go_num, by rw [HA0.out], HP4, hbl3⟩, by simp [intOf]; omega⟩
    · have hkm : k = m := by omega
      subst hkm
      have HC : Hid (R = outA (fun s => hdV (ysf s)) shs k) := HEnd.out HP.out
      generalize outA (fun s => hdV (ysf s)) shs k = T at *
      go_wp2
      go_ret
      exact ⟨by rw [HC.out]; rfl, hBw⟩
set_option maxRecDepth 20000 in
set_option maxHeartbeats 4000000 in
theorem specOutcome_any (x y : Value) (l : List Acc) (c : Cont) (ysf : Int → List Vot) (w : World) (hx : accsR.V w x l) (hy : contR.V w y c) (hys : outC l c = 0 → ∀ s, s ∈ shardsL c.legs → Chs (slotsL l c.id s) (ysf s)) :
    Calls Tryz.prog 6 #[x, y] w fun e w' => e = .returned (.agg #[.int .i64 (outC l c), .int .i64 (outR l c ysf)]) ∧ Below w.heap.size w w' := by
  have hY := hy
  obtain ⟨uy, rfl, hy⟩ := hy
  have HLf : Hid (∀ W, Below w.heap.size w W → Calls Tryz.prog 15 #[x] W fun e w' => e = .returned (.int .i64 (listF l)) ∧ Below W.heap.size W w') := fun W hW => specListF_any x l W (accsR.below hx hW)
  have HCf : Hid (∀ W, Below w.heap.size w W → Calls Tryz.prog 16 #[.agg #[.int .i64 c.id, uy]] W fun e w' => e = .returned (.int .i64 (contractFault c.id c.legs)) ∧ Below W.heap.size W w') := fun W hW => specFault_any c.id uy c.legs W (legsR.below hy hW)
  have HOu : Hid (∀ W, Below w.heap.size w W → outC l c = 0 → Calls Tryz.prog 17 #[x, .agg #[.int .i64 c.id, uy]] W fun e w' => e = .returned (.int .i64 (outV (fun s => hdV (ysf s)) (shardsL c.legs))) ∧ Below W.heap.size W w') := fun W hW h => l9Outcome_any x _ l c ysf W (accsR.below hx hW) (contR.below hY hW) h (hys h)
  obtain ⟨a, cx, rfl⟩ := accs_form hx
  obtain ⟨ay, cy, rfl⟩ := legs_form hy
  clear hx hy hys hY
  generalize l.length = n at *
  have hK0 : Hid (∀ e, listF l = e → ¬ e = 0 → outC l c = e ∧ outR l c ysf = 0) := fun e h h0 => by
    have h1 : outC l c = e := by unfold outC; rw [if_neg (by rw [h]; exact h0), h]
    exact ⟨h1, by unfold outR; rw [h1, if_neg h0]⟩
  have hK1 : Hid (∀ e, listF l = 0 → contractFault c.id c.legs = e → ¬ e = 0 → outC l c = e ∧ outR l c ysf = 0) := fun e h h2 h0 => by
    have h1 : outC l c = e := by unfold outC; rw [if_pos h, h2]
    exact ⟨h1, by unfold outR; rw [h1, if_neg h0]⟩
  have hK2 : Hid (listF l = 0 → contractFault c.id c.legs = 0 → outC l c = 0 ∧ outR l c ysf = outV (fun s => hdV (ysf s)) (shardsL c.legs)) := fun h h2 => by
    have h1 : outC l c = 0 := by unfold outC; rw [if_pos h, h2]
    exact ⟨h1, by unfold outR; rw [if_pos h1]⟩
  generalize c.legs.length = ny at *
  go_enter Tryz.func6, Tryz.ntmps6
  go_wp2_with fail
  refine (HLf.out _ (by (repeat (first | exact Below.refl _ _ | assumption | refine Below.drew ?_ | refine balloc ?_ _ | refine bset ?_ (by simp; omega) _ | refine bset ?_ (by simp) _ | refine bstep ?_ (by assumption))))).mono ?_
  rintro e w1 ⟨rfl, hb1⟩
  have hB1 : Below w.heap.size w w1 := by (repeat (first | exact Below.refl _ _ | assumption | refine Below.drew ?_ | refine balloc ?_ _ | refine bset ?_ (by simp; omega) _ | refine bset ?_ (by simp) _ | refine bstep ?_ (by assumption)))
  have hz1 := hb1.size
  simp at hz1
  obtain ⟨c1, f1⟩ := bcell hb1
  have y0 : w1.cell? ⟨w.heap.size, 0, none⟩ = some (.int .i64 c.id) := cell_keep hb1 (by simp [go_sem])
  have y1 : w1.cell? ⟨w.heap.size, 1, none⟩ = some (.slice ay ny cy) := cell_keep hb1 (by simp [go_sem])
  have r0 : w1.cell? ⟨w.heap.size + 1, 0, none⟩ = some (.int .i64 0) := cell_keep hb1 (by simp [go_sem])
  have r1 : w1.cell? ⟨w.heap.size + 1, 1, none⟩ = some (.int .i64 0) := cell_keep hb1 (by simp [go_sem])
  have rf : ∀ o, w1.frozen? ⟨w.heap.size + 1, o, none⟩ = false := fun o => by rw [f1 _ _ (by simp; try omega)]; simp [go_sem]
  clear hb1 c1 f1 HLf
  have zr : w.heap.size + 1 < w1.heap.size := World.block_lt_of_cell? w1 _ r0
  by_cases hf : listF l = 0
  rotate_left
  · obtain ⟨HC1, HC2⟩ := hK0.out _ rfl hf
    have H1 : Hid (outC l c = listF l) := HC1
    have H2 : Hid (outR l c ysf = 0) := HC2
    clear HC1 HC2 hK0 hK1 hK2 HCf HOu
    generalize listF l = g at *
    have hg' : (g != 0) = true := by simp [hf]
    go_wp2
    exact bodyPost_ret (v := .agg #[.int .i64 g, .int .i64 0]) (by simp [results, Tryz.results6, go_sem, r0, r1, rf]) rfl ⟨by rw [H1.out, H2.out], by (repeat (first | refine bset ?_ (by simp; omega) _ | refine bset ?_ (by simp) _ | refine balloc ?_ _ | assumption))⟩
  rw [hf]
  go_wp2_with fail
  refine (HCf.out _ hB1).mono ?_
  rintro e w2 ⟨rfl, hb2⟩
  have hB2 : Below w.heap.size w w2 := bstep hB1 hb2
  replace y0 := cell_keep hb2 y0
  replace y1 := cell_keep hb2 y1
  replace r0 := cell_keep hb2 r0
  replace r1 := cell_keep hb2 r1
  replace rf : ∀ o, w2.frozen? ⟨w.heap.size + 1, o, none⟩ = false := fun o => by rw [(bcell hb2).2 _ _ zr]; exact rf o
  clear hb2 HCf
  have zr2 : w.heap.size + 1 < w2.heap.size := World.block_lt_of_cell? w2 _ r0
  by_cases hcf : contractFault c.id c.legs = 0
  rotate_left
  · obtain ⟨HC1, HC2⟩ := hK1.out _ hf rfl hcf
    have H1 : Hid (outC l c = contractFault c.id c.legs) := HC1
    have H2 : Hid (outR l c ysf = 0) := HC2
    clear HC1 HC2 hK0 hK1 hK2 HOu
    generalize contractFault c.id c.legs = g at *
    have hg' : (g != 0) = true := by simp [hcf]
    go_wp2
    exact bodyPost_ret (v := .agg #[.int .i64 g, .int .i64 0]) (by simp [results, Tryz.results6, go_sem, r0, r1, rf]) rfl ⟨by rw [H1.out, H2.out], by (repeat (first | refine bset ?_ (by simp; omega) _ | refine bset ?_ (by simp) _ | refine balloc ?_ _ | assumption))⟩
  rw [hcf]
  obtain ⟨HC1, HC2⟩ := hK2.out hf hcf
  have H1 : Hid (outC l c = 0) := HC1
  have H2 : Hid (outR l c ysf = outV (fun s => hdV (ysf s)) (shardsL c.legs)) := HC2
  clear HC1 HC2 hK0 hK1 hK2 hf hcf
  generalize outV (fun s => hdV (ysf s)) (shardsL c.legs) = T at *
  go_wp2_with fail
  refine (HOu.out _ hB2 H1.out).mono ?_
  rintro e w3 ⟨rfl, hb3⟩
  have hB3 : Below w.heap.size w w3 := bstep hB2 hb3
  replace r0 := cell_keep hb3 r0
  replace r1 := cell_keep hb3 r1
  replace rf : ∀ o, w3.frozen? ⟨w.heap.size + 1, o, none⟩ = false := fun o => by rw [(bcell hb3).2 _ _ zr2]; exact rf o
  clear hb3 HOu
  go_wp2
  exact bodyPost_ret (v := .agg #[.int .i64 0, .int .i64 T]) (by simp [results, Tryz.results6, go_sem, r0, r1, rf]) rfl ⟨by rw [H1.out, H2.out], by (repeat (first | refine bset ?_ (by simp; omega) _ | refine bset ?_ (by simp) _ | refine balloc ?_ _ | assumption))⟩
end Go.Proofs.YtolihmobkoiplaaGreat

/-
  The slot that is asked, the program's.
-/
set_option linter.unusedSimpArgs false
set_option linter.unusedVariables false
namespace Go.Proofs.YtolihmobkoiplaaGreat
open Go.RowKit
set_option linter.unusedSectionVars false
variable [DecidableEq Vot] [Inhabited Vot] [DecidableEq Slt] [Inhabited Slt] [DecidableEq SltR] [Inhabited SltR] [DecidableEq Bal] [Inhabited Bal] [DecidableEq Ledg] [Inhabited Ledg] [DecidableEq Leg] [Inhabited Leg] [DecidableEq Acc] [Inhabited Acc] [DecidableEq AccR] [Inhabited AccR] [DecidableEq AccsR] [Inhabited AccsR] [DecidableEq SltsR] [Inhabited SltsR]
attribute [local go_sem ↓] Go.wp_at_zero Go.wp_at_succ

theorem slotO_found {xs : List Slt} {q : Slt} {i : Nat} (hi : i < xs.length) (h1 : ∀ k, k < i → cmpS (xs.getD k default) q < 0) (h : cmpS (xs.getD i default) q = 0) : slotO xs q = xs.getD i default := by
  refine slotO_at hi (fun k hk => ?_) (sameS_iff.2 (cmpS_eq.1 h))
  cases e : sameS (xs.getD k default) q with
  | false => rfl
  | true => have h2 := h1 k hk; rw [cmpS_eq.2 (sameS_iff.1 e)] at h2; omega
theorem slotO_miss {xs : List Slt} {q : Slt} {i : Nat} (hok : AccOk xs) (h1 : ∀ k, k < i → cmpS (xs.getD k default) q < 0) (h2 : ∀ k, i ≤ k → k < xs.length → 0 ≤ cmpS (xs.getD k default) q) (h : ¬ (i < xs.length ∧ cmpS (xs.getD i default) q = 0)) : slotO xs q = q := by
  refine slotO_none (fun k hk => ?_)
  cases e : sameS (xs.getD k default) q with
  | false => rfl
  | true =>
    exfalso
    have e0 := sameS_iff.1 e
    have e1 := cmpS_eq.2 e0
    rcases Nat.lt_trichotomy k i with h3 | h3 | h3
    · have := h1 k h3; omega
    · subst h3; exact h ⟨hk, e1⟩
    · have h4 := aheadS_iff.1 (hok.ord i k h3 hk)
      have h5 := h2 i (Nat.le_refl _) (by omega)
      have h6 : cmpS (xs.getD i default) q < 0 := by rw [cmpS_lt]; omega
      omega
set_option maxRecDepth 20000 in
set_option maxHeartbeats 4000000 in
theorem slotOr_any (x y : Value) (d : Acc) (q : Slt) (w : World) (hx : accR.V w x d) (hy : sltR.V w y q) (hok : AccOk d.slots) :
    Calls Tryz.prog 40 #[x, y] w fun e w' => ∃ v, e = .returned v ∧ sltR.V w' v (slotO d.slots q) ∧ Below w.heap.size w w' := by
  have hX := hx
  have hY := hy
  obtain ⟨u1, rfl, hx⟩ := hx
  obtain ⟨u2, rfl, hy⟩ := hy
  obtain ⟨ay, cy, rfl⟩ := vots_form hy
  clear hy
  obtain ⟨xs⟩ := d
  dsimp only at hx hok hX ⊢
  have HP : Hid (∀ W, Below w.heap.size w W → Calls Tryz.prog 60 #[.agg #[u1], .agg #[.int .i64 q.con, .int .i64 q.sh, .int .i64 q.pr, .int .i64 q.lb, .int .i64 q.lv, .slice ay q.cast.length cy]] W fun e w' => PlE xs q W e w') := fun W hW => placeIn_any _ ⟨xs⟩ q _ W (accR.below hX hW) hok
  have HOK : Hid (AccOk xs) := hok
  clear hX hok
  obtain ⟨au, cu, rfl, hcx, hmx, hx⟩ := hx
  unfold maxLen at hmx
  have hXs : Hid (∀ k, k < xs.length → ∃ b o p q, au = some ⟨b, o, none⟩ ∧ (w.cell? ⟨b, o + k * 6, none⟩ = some (.int .i64 (xs.getD k default).con) ∧ w.cell? ⟨b, o + k * 6 + 1, none⟩ = some (.int .i64 (xs.getD k default).sh) ∧ w.cell? ⟨b, o + k * 6 + 2, none⟩ = some (.int .i64 (xs.getD k default).pr) ∧ w.cell? ⟨b, o + k * 6 + 3, none⟩ = some (.int .i64 (xs.getD k default).lb) ∧ w.cell? ⟨b, o + k * 6 + 4, none⟩ = some (.int .i64 (xs.getD k default).lv) ∧ w.cell? ⟨b, o + k * 6 + 5, none⟩ = some (.slice p (xs.getD k default).cast.length q)) ∧ sltR.V w (.agg #[.int .i64 (xs.getD k default).con, .int .i64 (xs.getD k default).sh, .int .i64 (xs.getD k default).pr, .int .i64 (xs.getD k default).lb, .int .i64 (xs.getD k default).lv, .slice p (xs.getD k default).cast.length q]) (xs.getD k default)) := fun k hk => slts_at hx hk
  clear hx
  obtain ⟨n, hn'⟩ : ∃ n, n = xs.length := ⟨_, rfl⟩
  have HN : Hid (xs.length = n) := hn'.symm
  rw [← hn'] at hcx hXs HP ⊢
  clear hn'
  go_enter Tryz.func40, Tryz.ntmps40
  go_wp2_with fail
  refine (HP.out _ (by (repeat (first | exact Below.refl _ _ | assumption | refine Below.drew ?_ | refine balloc ?_ _ | refine bset ?_ (by simp; omega) _ | refine bset ?_ (by simp) _ | refine bstep ?_ (by assumption))))).mono ?_
  rintro e w1 ⟨i, hi, rfl, h1, h2, hb1⟩
  have hB1 : Below w.heap.size w w1 := by (repeat (first | exact Below.refl _ _ | assumption | refine Below.drew ?_ | refine balloc ?_ _ | refine bset ?_ (by simp; omega) _ | refine bset ?_ (by simp) _ | refine bstep ?_ (by assumption)))
  have HA : Hid (∀ k, k < i → cmpS (xs.getD k default) q < 0) := h1
  have HB : Hid (∀ k, i ≤ k → k < xs.length → 0 ≤ cmpS (xs.getD k default) q) := h2
  clear h1 h2 HP
  obtain ⟨c1, f1⟩ := bcell hb1
  have hz1 := hb1.size
  simp at hz1
  have y0 : w1.cell? ⟨w.heap.size, 0, none⟩ = some (.slice au n cu) := cell_keep hb1 (by simp [go_sem])
  have q0 : w1.cell? ⟨w.heap.size + 1, 0, none⟩ = some (.int .i64 q.con) := cell_keep hb1 (by simp [go_sem])
  have q1 : w1.cell? ⟨w.heap.size + 1, 1, none⟩ = some (.int .i64 q.sh) := cell_keep hb1 (by simp [go_sem])
  have q2 : w1.cell? ⟨w.heap.size + 1, 2, none⟩ = some (.int .i64 q.pr) := cell_keep hb1 (by simp [go_sem])
  have q3 : w1.cell? ⟨w.heap.size + 1, 3, none⟩ = some (.int .i64 q.lb) := cell_keep hb1 (by simp [go_sem])
  have q4 : w1.cell? ⟨w.heap.size + 1, 4, none⟩ = some (.int .i64 q.lv) := cell_keep hb1 (by simp [go_sem])
  have q5 : w1.cell? ⟨w.heap.size + 1, 5, none⟩ = some (.slice ay q.cast.length cy) := cell_keep hb1 (by simp [go_sem])
  have r0 : w1.cell? ⟨w.heap.size + 2, 0, none⟩ = some (.int .i64 0) := cell_keep hb1 (by simp [go_sem])
  have r1 : w1.cell? ⟨w.heap.size + 2, 1, none⟩ = some (.int .i64 0) := cell_keep hb1 (by simp [go_sem])
  have r2 : w1.cell? ⟨w.heap.size + 2, 2, none⟩ = some (.int .i64 0) := cell_keep hb1 (by simp [go_sem])
  have r3 : w1.cell? ⟨w.heap.size + 2, 3, none⟩ = some (.int .i64 0) := cell_keep hb1 (by simp [go_sem])
  have r4 : w1.cell? ⟨w.heap.size + 2, 4, none⟩ = some (.int .i64 0) := cell_keep hb1 (by simp [go_sem])
  have r5 : w1.cell? ⟨w.heap.size + 2, 5, none⟩ = some (.slice none 0 0) := cell_keep hb1 (by simp [go_sem])
  have rf : ∀ o, w1.frozen? ⟨w.heap.size + 2, o, none⟩ = false := fun o => by rw [f1 _ _ (by simp; try omega)]; simp [go_sem]
  clear hb1 c1 f1
  rw [HN.out] at hi
  by_cases hD : i < xs.length ∧ cmpS (xs.getD i default) q = 0
  · rw [decide_eq_true hD]
    have HS : Hid (slotO xs q = xs.getD i default) := slotO_found hD.1 HA.out hD.2
    have hin : i < n := by rw [← HN.out]; exact hD.1
    clear hD
    obtain ⟨b, o, pp, qq, rfl, hc, hV⟩ := hXs.out i hin
    obtain ⟨l, hl⟩ : ∃ l, l = xs.getD i default := ⟨_, rfl⟩
    rw [← hl] at hc hV HS
    clear hl hXs
    obtain ⟨g0, g1, g2, g3, g4, g5⟩ := (sltKeep2 hB1 hc hc).2.1
    clear hc
    have zb : b < w1.heap.size := World.block_lt_of_cell? w1 _ g0
    go_wp2
    refine bodyPost_ret (v := .agg #[.int .i64 l.con, .int .i64 l.sh, .int .i64 l.pr, .int .i64 l.lb, .int .i64 l.lv, .slice pp l.cast.length qq]) ?_ rfl ⟨_, rfl, by rw [HS.out]; exact sltR.below hV (by (repeat (first | refine bset ?_ (by simp; omega) _ | refine bset ?_ (by simp) _ | refine balloc ?_ _ | assumption))), by (repeat (first | refine bset ?_ (by simp; omega) _ | refine bset ?_ (by simp) _ | refine balloc ?_ _ | assumption))⟩
    simp [results, Tryz.results40, go_sem, r0, r1, r2, r3, r4, r5, rf]
  · rw [decide_eq_false hD]
    have HS : Hid (slotO xs q = q) := slotO_miss HOK.out HA.out HB.out hD
    clear hD hXs
    go_wp2
    refine bodyPost_ret (v := .agg #[.int .i64 q.con, .int .i64 q.sh, .int .i64 q.pr, .int .i64 q.lb, .int .i64 q.lv, .slice ay q.cast.length cy]) ?_ rfl ⟨_, rfl, by rw [HS.out]; exact sltR.below hY (by (repeat (first | refine bset ?_ (by simp; omega) _ | refine bset ?_ (by simp) _ | refine balloc ?_ _ | assumption))), by (repeat (first | refine bset ?_ (by simp; omega) _ | refine bset ?_ (by simp) _ | refine balloc ?_ _ | assumption))⟩
    simp [results, Tryz.results40, go_sem, r0, r1, r2, r3, r4, r5, rf]
end Go.Proofs.YtolihmobkoiplaaGreat

/-
  Votes counted in a map: mathematics.
-/
set_option linter.unusedVariables false
set_option linter.unusedSimpArgs false
namespace Go.Proofs.YtolihmobkoiplaaGreat
open Go.RowKit Go.Maps
set_option linter.unusedSectionVars false
variable [DecidableEq Vot] [Inhabited Vot] [DecidableEq Slt] [Inhabited Slt] [DecidableEq SltR] [Inhabited SltR] [DecidableEq Bal] [Inhabited Bal] [DecidableEq Ledg] [Inhabited Ledg] [DecidableEq Leg] [Inhabited Leg]

def hasL (xs : List Vot) (v : Vot) : Bool := xs.any (fun u => decide (u.bal = v.bal) && decide (u.val = v.val))
theorem hasL_iff {xs : List Vot} {v : Vot} : hasL xs v = true ↔ v ∈ xs := by
  unfold hasL
  rw [List.any_eq_true]
  constructor
  · rintro ⟨u, hu, e⟩
    rw [vot_eq] at e
    exact e ▸ hu
  · intro h
    exact ⟨v, h, vot_eq.2 rfl⟩
def cF (D : List Slt) (i k : Nat) (v : Vot) : Nat := cntP (fun t => hasV (D.getD t default) v) i + if hasL ((D.getD i default).cast.take k) v then 1 else 0
def cB (D : List Slt) (i k : Nat) : Vot → Option Int := fun v => if cF D i k v = 0 then none else some (cF D i k v : Int)
theorem cB_get (D : List Slt) (i k : Nat) (v : Vot) : (cB D i k v).getD 0 = (cF D i k v : Int) := by
  unfold cB
  split
  · rename_i h
    rw [h]
    rfl
  · rfl
theorem cB_some (D : List Slt) (i k : Nat) (v : Vot) : (cB D i k v).isSome = true ↔ ¬ cF D i k v = 0 := by
  unfold cB
  split <;> simp_all
theorem cF_zero (D : List Slt) (i : Nat) (v : Vot) : cF D i 0 v = cntP (fun t => hasV (D.getD t default) v) i := by
  unfold cF
  simp [hasL]
theorem cB_start (D : List Slt) : cB D 0 0 = fun _ => none := by
  funext v
  unfold cB
  rw [cF_zero]
  rfl
theorem cF_le (D : List Slt) (i k : Nat) (v : Vot) : cF D i k v ≤ i + 1 := by
  have := cntP_le (fun t => hasV (D.getD t default) v) i
  unfold cF
  split <;> omega
theorem cB_row (D : List Slt) (i : Nat) : cB D i (D.getD i default).cast.length = cB D (i + 1) 0 := by
  funext v
  have e : cF D i (D.getD i default).cast.length v = cF D (i + 1) 0 v := by
    rw [cF_zero]
    unfold cF
    rw [List.take_length]
    rfl
  unfold cB
  rw [e]
theorem take_snocV (xs : List Vot) (k : Nat) (h : k < xs.length) : xs.take (k + 1) = xs.take k ++ [xs.getD k default] := by
  rw [List.take_succ_eq_append_getElem h]
  simp [List.getD, h]
theorem cB_new (D : List Slt) (i k : Nat) (u : Vot) (hk : k < (D.getD i default).cast.length) (hu : (D.getD i default).cast.getD k default = u) (hn : ¬ u ∈ (D.getD i default).cast.take k) : cB D i (k + 1) = updV1 (cB D i k) u (some ((cB D i k u).getD 0 + 1)) := by
  have e : ∀ v, cF D i (k + 1) v = cF D i k v + if v = u then 1 else 0 := by
    intro v
    unfold cF
    rw [take_snocV _ k hk, hu]
    by_cases hv : v = u
    · subst hv
      have h1 : hasL ((D.getD i default).cast.take k ++ [v]) v = true := hasL_iff.2 (by simp)
      have h2 : hasL ((D.getD i default).cast.take k) v = false := by
        cases e : hasL ((D.getD i default).cast.take k) v with
        | false => rfl
        | true => exact absurd (hasL_iff.1 e) hn
      rw [h1, h2]
      simp
    · have h1 : hasL ((D.getD i default).cast.take k ++ [u]) v = hasL ((D.getD i default).cast.take k) v := by
        rw [Bool.eq_iff_iff, hasL_iff, hasL_iff]
        simp [hv]
      rw [h1, if_neg hv]
      omega
  funext v
  by_cases hv : v = u
  · subst hv
    rw [updV1_at, cB_get]
    unfold cB
    rw [e, if_pos rfl, if_neg (by omega)]
    simp
  · rw [updV1_ne _ _ hv]
    unfold cB
    rw [e, if_neg hv, Nat.add_zero]
theorem cB_old (D : List Slt) (i k : Nat) (u : Vot) (hk : k < (D.getD i default).cast.length) (hu : (D.getD i default).cast.getD k default = u) (hn : u ∈ (D.getD i default).cast.take k) : cB D i (k + 1) = cB D i k := by
  funext v
  have e : cF D i (k + 1) v = cF D i k v := by
    unfold cF
    rw [take_snocV _ k hk, hu]
    have h1 : hasL ((D.getD i default).cast.take k ++ [u]) v = hasL ((D.getD i default).cast.take k) v := by
      rw [Bool.eq_iff_iff, hasL_iff, hasL_iff]
      simp only [List.mem_append, List.mem_singleton]
      constructor
      · rintro (h | h)
        · exact h
        · exact h ▸ hn
      · exact fun h => .inl h
    rw [h1]
  unfold cB
  rw [e]
theorem in_take {s : Slt} (h : SltOk s) {p : Nat} (hp : p + 1 < s.cast.length) : s.cast.getD (p + 1) default ∈ s.cast.take (p + 1) ↔ s.cast.getD (p + 1) default = s.cast.getD p default := by
  constructor
  · intro hm
    obtain ⟨j, hj, e⟩ := getD_of_mem hm
    rw [List.length_take] at hj
    have e2 : (s.cast.take (p + 1)).getD j default = s.cast.getD j default := by simp [List.getD, List.getElem?_take, show j < p + 1 by omega]
    rw [e2] at e
    have h1 := slt_order h j (p - j) (by omega)
    have h2 := slt_order h p 1 (by omega)
    rw [show j + (p - j) = p by omega] at h1
    have hb : (s.cast.getD p default).bal = (s.cast.getD (p + 1) default).bal := by rw [e] at h1; omega
    have hv := h2.2 hb
    exact vot_eq.1 (by rw [hb, hv]; simp)
  · intro e
    rw [e, take_snocV _ p (by omega)]
    simp
theorem cB_end (D : List Slt) (v : Vot) : cF D D.length 0 v = cntV D v := cF_zero D D.length v
def leftV (ko : Value → Option Lit) (left : Lit → Bool) (x : Vot) : Bool := match ko (vv x) with | some kl => left kl | none => false
theorem leftV_some {left : Lit → Bool} {x : Vot} {kl : Lit} (h : keyOf Tryz.prog 63 (vv x) = some kl) : leftV (keyOf Tryz.prog 63) left x = left kl := by unfold leftV; rw [h]
theorem leftV_strike {left : Lit → Bool} {x y : Vot} {kl : Lit} (hk : keyOf Tryz.prog 63 (vv x) = some kl) :
    leftV (keyOf Tryz.prog 63) (fun z => left z && !z.sameKey kl) y = (leftV (keyOf Tryz.prog 63) left y && !(decide (y.bal = x.bal) && decide (y.val = x.val))) := by
  unfold leftV
  split
  · rename_i kl' hk'
    by_cases e : kl' = kl
    · subst e
      have e' := vv_inj (votLaw.inj hk' hk)
      subst e'
      simp [WideAt.sameKey_self (votLaw.key hk)]
    · have hne : (decide (y.bal = x.bal) && decide (y.val = x.val)) = false := by
        cases h : (decide (y.bal = x.bal) && decide (y.val = x.val)) with
        | false => rfl
        | true =>
          have := vot_eq.1 h
          subst this
          rw [hk] at hk'
          exact absurd (by simpa using hk'.symm) e
      show (left kl' && !kl'.sameKey kl) = _
      simp [Maps.sameKey_ne e, hne]
  · rfl
structure Came (f : Vot → Option Int) (q : Int) (left : Lit → Bool) (xs : List Vot) : Prop where
  nodup : xs.Nodup
  mem : ∀ v, v ∈ xs ↔ (f v).isSome = true ∧ leftV (keyOf Tryz.prog 63) left v = false ∧ q ≤ (f v).getD 0
theorem came_v0 {f : Vot → Option Int} {q : Int} {D : DataW Unit} (hf : ∀ v, (f v).isSome = true → vwf v) (h : ∀ x kl, keyOf Tryz.prog 63 (vv x) = some kl → Maps.has D kl = (f x).isSome ∧ D.atKey kl (.lit (.int .i64 0)) = .lit (.int .i64 ((f x).getD 0))) : Came f q (Maps.has D) [] := by
  refine ⟨List.nodup_nil, fun v => ⟨fun h => by simp at h, fun ⟨h1, h2, _⟩ => ?_⟩⟩
  obtain ⟨kl, hk⟩ := keyOf_vv (hf v h1)
  rw [leftV_some hk, (h v kl hk).1, h1] at h2
  cases h2
theorem came_add {f : Vot → Option Int} {q : Int} {left : Lit → Bool} {xs : List Vot} (h : Came f q left xs) {x : Vot} {kl : Lit} (hk : keyOf Tryz.prog 63 (vv x) = some kl) (hl : left kl = true) (hs : (f x).isSome = true) (hq : q ≤ (f x).getD 0) : Came f q (fun z => left z && !z.sameKey kl) (xs ++ [x]) := by
  have hlx : leftV (keyOf Tryz.prog 63) left x = true := by rw [leftV_some hk, hl]
  have hx : ¬ x ∈ xs := fun hx => by have := ((h.mem x).1 hx).2.1; rw [hlx] at this; cases this
  refine ⟨?_, fun v => ?_⟩
  · rw [List.nodup_append]
    exact ⟨h.nodup, by simp, fun a ha b hb => by simp at hb; subst hb; rintro rfl; exact hx ha⟩
  · rw [leftV_strike hk, List.mem_append, List.mem_singleton, h.mem]
    by_cases e : v = x
    · subst e
      have : (decide (v.bal = v.bal) && decide (v.val = v.val)) = true := vot_eq.2 rfl
      rw [this]
      simp [hs, hq]
    · have : (decide (v.bal = x.bal) && decide (v.val = x.val)) = false := by
        cases h : (decide (v.bal = x.bal) && decide (v.val = x.val)) with
        | false => rfl
        | true => exact absurd (vot_eq.1 h) e
      rw [this]
      simp [e]
theorem came_pass {f : Vot → Option Int} {q : Int} {left : Lit → Bool} {xs : List Vot} (h : Came f q left xs) {x : Vot} {kl : Lit} (hk : keyOf Tryz.prog 63 (vv x) = some kl) (hq : ¬ q ≤ (f x).getD 0) : Came f q (fun z => left z && !z.sameKey kl) xs := by
  refine ⟨h.nodup, fun v => ?_⟩
  rw [leftV_strike hk, h.mem]
  by_cases e : v = x
  · subst e
    simp [hq]
  · have : (decide (v.bal = x.bal) && decide (v.val = x.val)) = false := by
      cases h : (decide (v.bal = x.bal) && decide (v.val = x.val)) with
      | false => rfl
      | true => exact absurd (vot_eq.1 h) e
    rw [this]
    simp
theorem came_end8 {f : Vot → Option Int} {q : Int} {left : Lit → Bool} {xs : List Vot} (h : Came f q left xs) (h0 : ∀ kl, left kl = false) (v : Vot) : v ∈ xs ↔ (f v).isSome = true ∧ q ≤ (f v).getD 0 := by
  rw [h.mem]
  have : leftV (keyOf Tryz.prog 63) left v = false := by
    unfold leftV
    split
    · exact h0 _
    · rfl
  simp [this]
theorem chs_sorted {D : List Slt} (hok : AllOk D) {xs ys : List Vot} (hn : xs.Nodup) (hm : ∀ v, v ∈ xs ↔ isCh D v) (hp : ys.Perm xs) (hs : ys.Pairwise (fun p q => ¬ q.bal < p.bal)) : Chs D ys := by
  have hm' : ∀ v, v ∈ ys ↔ isCh D v := fun v => by rw [hp.mem_iff]; exact hm v
  refine ⟨?_, hm'⟩
  have hnd : ys.Nodup := hp.nodup_iff.2 hn
  unfold Rise
  rw [List.pairwise_iff_getElem] at hs ⊢
  intro i j hi hj hij
  have h1 := hs i j hi hj hij
  have h2 : ¬ ys[i].bal = ys[j].bal := fun e => by
    have := ch_one hok ((hm' _).1 (List.getElem_mem hi)) ((hm' _).1 (List.getElem_mem hj)) e
    exact (List.pairwise_iff_getElem.1 hnd i j hi hj hij) this
  omega
end Go.Proofs.YtolihmobkoiplaaGreat

/-
  slices.SortFunc over votes: what it asks of compareBallots; the sort.
-/
namespace Go.Proofs.YtolihmobkoiplaaGreat
open Go.RowKit Go.Sort Go.Shelf
set_option linter.unusedSectionVars false
variable [DecidableEq Vot] [Inhabited Vot] [DecidableEq Slt] [Inhabited Slt] [DecidableEq SltR] [Inhabited SltR] [DecidableEq Bal] [Inhabited Bal] [DecidableEq Ledg] [Inhabited Ledg] [DecidableEq Leg] [Inhabited Leg]
set_option linter.unusedVariables false
set_option linter.unusedSimpArgs false
attribute [local go_sem ↓] Go.wp_at_zero Go.wp_at_succ

def cmpN (x y : Int) : Int := if x < y then -1 else if y < x then 1 else 0
theorem isNaNnum_any (x : Int) (w : World) :
    Calls Tryz.prog 92 #[.int .i64 x] w fun e w' => e = .returned (.bool false) ∧ w' = w := by
  go_enter Tryz.func92, Tryz.ntmps92
  go_wp2
  go_ret
  exact ⟨rfl, rfl⟩
set_option maxHeartbeats 1000000 in
theorem cmpNum_any (x y : Int) (w : World) :
    Calls Tryz.prog 78 #[.int .i64 x, .int .i64 y] w fun e w' => e = .returned (.int .i64 (cmpN x y)) ∧ w' = w := by
  go_enter Tryz.func78, Tryz.ntmps78
  go_wp2_with (go_at_call 92; refine (isNaNnum_any _ _).mono ?_; rintro e w' ⟨rfl, rfl⟩)
  all_goals (go_ret; refine ⟨?_, rfl⟩; unfold cmpN; (repeat' split) <;> first | rfl | (exfalso; omega))
theorem compareBallots_any (x y : Vot) (w : World) :
    Calls Tryz.prog 63 #[.agg #[.int .i64 x.bal, .int .i64 x.val], .agg #[.int .i64 y.bal, .int .i64 y.val]] w fun e w' => e = .returned (.int .i64 (cmpN x.bal y.bal)) ∧ w' = (w.alloc (.cells #[.int .i64 x.bal, .int .i64 x.val] 63)).alloc (.cells #[.int .i64 y.bal, .int .i64 y.val] 63) := by
  go_enter Tryz.func63, Tryz.ntmps63
  go_wp2_with (go_at_call 78; refine (cmpNum_any _ _ _).mono ?_; rintro e w' ⟨rfl, rfl⟩)
  go_ret
  exact ⟨rfl, rfl⟩
def cfV (x y : Vot) : Int := cmpN x.bal y.bal
theorem ltV_iff (x y : Vot) : ltOf cfV x y = true ↔ x.bal < y.bal := by
  unfold ltOf cfV cmpN
  simp only [decide_eq_true_eq]
  by_cases h : x.bal < y.bal
  · simp [h]
  · by_cases h' : y.bal < x.bal
    · simp [h, h']
    · simp [h, h']
theorem swoV : SWO (ltOf cfV) where
  irrefl x := by
    rw [← Bool.not_eq_true, ltV_iff]
    omega
  trans x y z h1 h2 := by
    rw [ltV_iff] at *
    omega
  ntrans x y z h1 h2 := by
    rw [← Bool.not_eq_true, ltV_iff] at *
    omega
theorem cmpLaysV (blk off size : Nat) (w : World) : CmpLays Tryz.prog 63 #[] votC 2 cfV blk off size w := by
  intro m os dk _ x y
  refine (compareBallots_any x y _).mono ?_
  rintro e w' ⟨rfl, rfl⟩
  refine ⟨rfl, 0, #[.cells #[.int .i64 x.bal, .int .i64 x.val] 63, .cells #[.int .i64 y.bal, .int .i64 y.val] 63], ?_⟩
  rw [alloc_eq_grow, alloc_eq_grow, grow_grow]
  rfl
theorem votC_oneC (l : Vot) : ∀ u ∈ votC l, u.oneCell' = true := by
  intro u hu
  simp only [votC, List.mem_cons, List.not_mem_nil, or_false] at hu
  rcases hu with rfl | rfl <;> rfl
theorem holds_vots {w : World} {base g cap : Nat} {xs : List Vot} (h : w.ownsRow base 63 2 (.slice (some ⟨g, 0, none⟩) xs.length cap) xs.length (votsC xs)) : HoldsK votC 2 w g 0 xs.toArray := by
  intro j hj
  simp only [size_flatK, List.size_toArray] at hj
  have hd : j / 2 < xs.length := by omega
  refine ⟨?_, h.frozenAt _⟩
  rw [Nat.zero_add, h.cellAt j hj, get_flatK votC 2 xs.toArray j (by simpa using hj)]
  obtain ⟨q0, q1⟩ := get_votsC xs (j / 2) hd
  have e2 : xs.toArray[j / 2]! = xs.getD (j / 2) default := by simp [List.getD, hd]
  rw [e2]
  generalize xs.getD (j / 2) default = x at *
  have hm : j % 2 = 0 ∨ j % 2 = 1 := by omega
  rcases hm with hm | hm
  · rw [show j / 2 * 2 = j by omega] at q0
    rw [q0, hm]
    rfl
  · rw [show j / 2 * 2 + 1 = j by omega] at q1
    rw [q1, hm]
    rfl
theorem sortV_below (w : World) (base g m : Nat) (d : Array Vot) (os : Array Obj) (hg : base ≤ g) (hb : base ≤ w.heap.size) : Go.RowKit.Below base w (sortWorldK votC 2 w g 0 m d os) := by
  refine ⟨rfl, rfl, rfl, ?_, fun i hi => ?_⟩
  · simp [sortWorldK, grow, putRowK, putRow, mapBlock, Sort.ahead]
  · simp only [sortWorldK, grow, putRowK, putRow, mapBlock, Sort.ahead]
    rw [Array.getElem?_append_left (by simp; omega), Array.getElem?_modify]
    rw [if_neg (by omega)]
set_option maxHeartbeats 1000000 in
theorem sortV_any (ρ : Ren) (L : SlLaysF0.n6 Tryz.prog ρ) (hf : ρ.f 6 = 62) (ht : ρ.t 24 = 63) (xs : List Vot) (g cap base : Nat) (W : World) (ho : W.ownsRow base 63 2 (.slice (some ⟨g, 0, none⟩) xs.length cap) xs.length (votsC xs)) (hbs : base ≤ W.heap.size) (hn : xs.length ≤ 100000) :
    Calls Tryz.prog 62 #[.slice (some ⟨g, 0, none⟩) xs.length cap, .func (.func 63) #[] #[]] W fun e w' => e = .returned (.tuple #[]) ∧ ∃ ys : List Vot, ys.Perm xs ∧ ys.Pairwise (fun p q => ltOf cfV q p = false) ∧ (∀ i, i < ys.length → votCells w' g (i * 2) (ys.getD i default)) ∧ Go.RowKit.Below base W w' := by
  have eg : ∀ args w, (callFunc 63 args).run Tryz.prog w = .ok (.enter 63 args) w := enters_of Tryz.func63 (by kernel_rfl) rfl
  have aE : ∀ w, (isAgg (ρ.t 24)).run Tryz.prog w = .ok true w := fun w => by rw [ht]; exact Tryz.isAgg63 w
  have zE : ∀ w, (Go.sizeOf (ρ.t 24)).run Tryz.prog w = .ok 2 w := fun w => by rw [ht]; exact Tryz.sizeOf63 w
  have hH := holds_vots ho
  have hg := ho.lt g rfl
  have hcon := AnyQ.slices_SortFunc L 2 aE zE votC (fun _ => rfl) votC_oneC cfV swoV 63 #[] g 0 cap xs.toArray W eg (cmpLaysV g 0 _ W) hH hg.2 (by simp; omega)
  rw [hf] at hcon
  simp only [List.size_toArray] at hcon
  refine hcon.mono ?_
  rintro e w' ⟨rfl, d', n, os, hp, hs, rfl⟩
  obtain ⟨hsz, _, hperm⟩ := hp
  simp only [List.size_toArray] at hsz hperm
  have hP : d'.toList.Perm xs := by
    have e1 : d'.extract 0 xs.length = d' := by rw [← hsz]; simp
    have e2 : xs.toArray.extract 0 xs.length = xs.toArray := by simp
    rw [e1, e2] at hperm
    exact hperm
  have hHo : HoldsK votC 2 (sortWorldK votC 2 W g 0 n d' os) g 0 d' := holdsK_grow (enc := votC) (k := 2) _ os g 0 d' (by simp [putRowK, putRow, mapBlock, Sort.ahead]; exact hg.2) (holdsK_putRowK (enc := votC) (k := 2) (Sort.ahead W n) g 0 xs.toArray d' (holdsK_ahead (enc := votC) (k := 2) W n g 0 _ hH) (by simp [hsz]))
  refine ⟨rfl, d'.toList, hP, ?_, fun i hi => ?_, sortV_below W base g n d' os hg.1 hbs⟩
  · rw [List.pairwise_iff_getElem]
    intro i j hi hj hij
    simp only [Array.length_toList] at hi hj
    have := hs i j (Nat.zero_le _) hij (by omega)
    simpa [hi, hj] using this
  · simp only [Array.length_toList] at hi
    have e : d'.toList.getD i default = d'[i]! := by simp [List.getD, hi]
    rw [e]
    have c0 := (hHo.cell hi (c := 0) (by omega)).1
    have c1 := (hHo.cell hi (c := 1) (by omega)).1
    simp only [Nat.zero_add, Nat.add_zero] at c0 c1
    generalize d'[i]! = x at *
    exact ⟨c0, c1⟩
structure SortsV : Prop where
  some_ : ∀ (xs : List Vot) (g cap base : Nat) (W : World), W.ownsRow base 63 2 (.slice (some ⟨g, 0, none⟩) xs.length cap) xs.length (votsC xs) → base ≤ W.heap.size → xs.length ≤ 100000 →
    Calls Tryz.prog 62 #[.slice (some ⟨g, 0, none⟩) xs.length cap, .func (.func 63) #[] #[]] W fun e w' => e = .returned (.tuple #[]) ∧ ∃ ys : List Vot, ys.Perm xs ∧ ys.Pairwise (fun p q => ltOf cfV q p = false) ∧ (∀ i, i < ys.length → votCells w' g (i * 2) (ys.getD i default)) ∧ Go.RowKit.Below base W w'
  none_ : ∀ W : World, Calls Tryz.prog 62 #[.slice none 0 0, .func (.func 63) #[] #[]] W fun e w' => e = .returned (.tuple #[]) ∧ w' = W
end Go.Proofs.YtolihmobkoiplaaGreat

