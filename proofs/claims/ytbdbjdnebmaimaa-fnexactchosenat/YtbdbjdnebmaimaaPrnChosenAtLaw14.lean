import Derived.Test.YtbdbjdnebmaimaaPrnChosenAtLaw11
import Derived.Test.YtbdbjdnebmaimaaPrnChosenAtLaw13
import Derived.BigQuiet
import Derived.Deep.QuietTactic
import Derived.Deep.RegionHeld3
import Derived.Test.YtbdbjdnebmaimaaPrnChosenAtLaw10
import Derived.Test.YtbdbjdnebmaimaaPrnChosenAtLaw4
import Derived.Maps.OwnSet
import Derived.DeepKeys4
import Derived.WideKeyEntry
import Derived.Test.YtbdbjdnebmaimaaPrnChosenAtLaw12

/-
  ChosenAt, the document's.
-/
set_option linter.unusedSimpArgs false
set_option linter.unusedVariables false
namespace Go.Proofs.Ytbdbjdnebmaimaa
open Go.RowKit
set_option linter.unusedSectionVars false
variable [DecidableEq Vot] [Inhabited Vot] [DecidableEq Slt] [Inhabited Slt] [DecidableEq SltR] [Inhabited SltR] [DecidableEq Bal] [Inhabited Bal] [DecidableEq Ledg] [Inhabited Ledg] [DecidableEq Leg] [Inhabited Leg] [DecidableEq Acc] [Inhabited Acc] [DecidableEq AccR] [Inhabited AccR] [DecidableEq AccsR] [Inhabited AccsR] [DecidableEq SltsR] [Inhabited SltsR]
attribute [local go_sem ↓] Go.wp_at_zero Go.wp_at_succ

set_option maxHeartbeats 2000000 in
theorem l9Chosen_any (x : Value) (l : List Acc) (c s : Int) (ys : List Vot) (w : World) (hx : accsR.V w x l) (hl : ListOk l) (hid : idOk c s = true) (hys : Chs (slotsL l c s) ys) :
    Calls Try.prog 124 #[x, .int .i64 c, .int .i64 s] w fun e w' => e = .returned (.int .i64 (hdV ys)) ∧ Below w.heap.size w w' := by
  have HSl : Hid (∀ W, Below w.heap.size w W → Calls Try.prog 115 #[x, .int .i64 c, .int .i64 s] W fun e w' => ∃ v F, e = .returned v ∧ sltsR.O w' W.heap.size F v (slotsL l c s) ∧ Below W.heap.size W w') := fun W hW => l9Slots_u x l c s W (accsR.below hx hW) hl hid
  have HA : Hid (askF (slotsL l c s) = 0) := ask_slots hl hid
  have HU : Hid (∀ zs, Chs (slotsL l c s) zs → zs = ys) := fun zs h => chs_unique h hys
  obtain ⟨a, cx, rfl⟩ := accs_form hx
  clear hx hl hid hys
  generalize l.length = n at *
  generalize slotsL l c s = D at *
  go_enter Try.func124, Try.ntmps124
  go_wp2_with fail
  refine (HSl.out _ (by (repeat (first | exact Below.refl _ _ | assumption | refine Below.drew ?_ | refine balloc ?_ _ | refine bset ?_ (by simp; omega) _ | refine bset ?_ (by simp) _ | refine bstep ?_ (by assumption))))).mono ?_
  rintro e w1 ⟨v1, F1, rfl, o1, hb1⟩
  have HC : Hid (∀ W, Below w1.heap.size w1 W → Calls Try.prog 99 #[v1] W fun e w' => ChE D W e w') := fun W hW => l8Chosen_any v1 D W (sltsR.below (sltsR.ofO o1) hW) HA.out
  have hB1 : Below w.heap.size w w1 := by (repeat (first | exact Below.refl _ _ | assumption | refine Below.drew ?_ | refine balloc ?_ _ | refine bset ?_ (by simp; omega) _ | refine bset ?_ (by simp) _ | refine bstep ?_ (by assumption)))
  clear o1 hb1 HSl
  go_wp2_with fail
  refine (HC.out _ (by (repeat (first | exact Below.refl _ _ | assumption | refine Below.drew ?_ | refine balloc ?_ _ | refine bset ?_ (by simp; omega) _ | refine bset ?_ (by simp) _ | refine bstep ?_ (by assumption))))).mono ?_
  rintro e w2 ⟨v2, zs, rfl, hv2, hz, hb2⟩
  have hB2 : Below w.heap.size w w2 := bstep hB1 hb2
  obtain rfl := HU.out zs hz
  clear hz hb2 HC
  obtain ⟨a2, c2, rfl, hc2, hm2, hv2⟩ := hv2
  unfold maxLen at hm2
  by_cases h0 : zs.length = 0
  · have HR : Hid (hdV zs = 0) := by show _ = _; unfold hdV; rw [if_pos h0]
    rw [h0]
    clear hv2
    go_wp2
    go_ret
    exact ⟨by rw [HR.out]; rfl, hB2⟩
  · have HR : Hid (hdV zs = (zs.getD 0 default).val) := by show _ = _; unfold hdV; rw [if_neg h0]
    obtain ⟨b, o, rfl, g⟩ := hv2 0 (by omega)
    simp only [Nat.zero_mul, Nat.add_zero] at g
    have g1 := g.1
    have g2 := g.2
    clear g hv2
    generalize (zs.getD 0 default).val = y at *
    generalize (zs.getD 0 default).bal = y' at *
    generalize zs.length = m at *
    have h0' : ((m : Int) == 0) = false := by simp; omega
    have i0 : (0 : Int) < m := by omega
    go_wp2
    go_ret
    exact ⟨by rw [HR.out]; rfl, hB2⟩
set_option maxHeartbeats 4000000 in
theorem specChosenAt_any (x : Value) (l : List Acc) (c s : Int) (ys : List Vot) (w : World) (hx : accsR.V w x l) (hys : freC l c s = 0 → Chs (slotsL l c s) ys) :
    Calls Try.prog 69 #[x, .int .i64 c, .int .i64 s] w fun e w' => e = .returned (.agg #[.int .i64 (chC l c s ys), .int .i64 (chR l c s ys)]) ∧ Below w.heap.size w w' := by
  have HSf : Hid (∀ W, Below w.heap.size w W → Calls Try.prog 54 #[x, .int .i64 c, .int .i64 s] W (SfE l c s W)) := fun W hW => specSlotsFor_u x l c s W (accsR.below hx hW)
  have HCh : Hid (∀ W, Below w.heap.size w W → freC l c s = 0 → Calls Try.prog 124 #[x, .int .i64 c, .int .i64 s] W fun e w' => e = .returned (.int .i64 (hdV ys)) ∧ Below W.heap.size W w') := fun W hW h => l9Chosen_any x l c s ys W (accsR.below hx hW) (listOk_of (freC_ok h).1) (freC_ok h).2 (hys h)
  obtain ⟨a, cx, rfl⟩ := accs_form hx
  clear hx hys
  generalize l.length = n at *
  go_enter Try.func69, Try.ntmps69
  go_wp2_with fail
  refine (HSf.out _ (by (repeat (first | exact Below.refl _ _ | assumption | refine Below.drew ?_ | refine balloc ?_ _ | refine bset ?_ (by simp; omega) _ | refine bset ?_ (by simp) _ | refine bstep ?_ (by assumption))))).mono ?_
  rintro e w1 ⟨v1, F1, rfl, o1, hb1⟩
  obtain ⟨u1, F2, rfl, o2, _⟩ := o1
  obtain ⟨a2, c2, rfl⟩ := slts_form (sltsR.ofO o2)
  have hB1 : Below w.heap.size w w1 := by (repeat (first | exact Below.refl _ _ | assumption | refine Below.drew ?_ | refine balloc ?_ _ | refine bset ?_ (by simp; omega) _ | refine bset ?_ (by simp) _ | refine bstep ?_ (by assumption)))
  have hz1 := hb1.size
  simp at hz1
  obtain ⟨c1, f1⟩ := bcell hb1
  have r0 : w1.cell? ⟨w.heap.size, 0, none⟩ = some (.int .i64 0) := cell_keep hb1 (by simp [go_sem])
  have r1 : w1.cell? ⟨w.heap.size, 1, none⟩ = some (.int .i64 0) := cell_keep hb1 (by simp [go_sem])
  have rf : ∀ o, w1.frozen? ⟨w.heap.size, o, none⟩ = false := fun o => by rw [f1 _ _ (by simp; try omega)]; simp [go_sem]
  clear hb1 c1 f1 HSf o2
  have zr : w.heap.size < w1.heap.size := World.block_lt_of_cell? w1 _ r0
  by_cases hf : freC l c s = 0
  · have e1 : (slotsD l c s).code = 0 := by rw [slotsD_ok hf]
    rw [e1]
    have HC1 : Hid (chC l c s ys = if hdV ys = 0 then 4 else 0) := by show _ = _; unfold chC; rw [if_pos hf]
    have HC2 : Hid (chR l c s ys = hdV ys) := by show _ = _; unfold chR; rw [if_pos hf]
    have HCh2 : Hid (∀ W, Below w.heap.size w W → Calls Try.prog 124 #[.slice a n cx, .int .i64 c, .int .i64 s] W fun e w' => e = .returned (.int .i64 (hdV ys)) ∧ Below W.heap.size W w') := fun W hW => HCh.out W hW hf
    clear HCh hf e1
    generalize (slotsD l c s).slots.length = m at *
    generalize hdV ys = g at *
    go_wp2_with fail
    refine (HCh2.out _ (by (repeat (first | exact Below.refl _ _ | assumption | refine Below.drew ?_ | refine balloc ?_ _ | refine bset ?_ (by simp; omega) _ | refine bset ?_ (by simp) _ | refine bstep ?_ (by assumption))))).mono ?_
    rintro e w2 ⟨rfl, hb2⟩
    have hB12 : Below w1.heap.size w1 w2 := by (repeat (first | exact Below.refl _ _ | assumption | refine Below.drew ?_ | refine balloc ?_ _ | refine bset ?_ (by simp; omega) _ | refine bset ?_ (by simp) _ | refine bstep ?_ (by assumption)))
    have hB2 : Below w.heap.size w w2 := bstep hB1 hB12
    replace r0 := cell_keep hB12 r0
    replace r1 := cell_keep hB12 r1
    replace rf : ∀ o, w2.frozen? ⟨w.heap.size, o, none⟩ = false := fun o => by rw [(bcell hB12).2 _ _ zr]; exact rf o
    clear hb2 hB12 HCh2
    by_cases hg : g = 0
    · have h4 : Hid (chC l c s ys = 4) := by show _ = _; rw [HC1.out, if_pos hg]
      subst hg
      go_wp2
      exact bodyPost_ret (v := .agg #[.int .i64 4, .int .i64 0]) (by simp [results, Try.results69, go_sem, r0, r1, rf]) rfl ⟨by rw [h4.out, HC2.out], by (repeat (first | refine bset ?_ (by simp; omega) _ | refine bset ?_ (by simp) _ | refine balloc ?_ _ | assumption))⟩
    · have h4 : Hid (chC l c s ys = 0) := by show _ = _; rw [HC1.out, if_neg hg]
      have hg' : (g == 0) = false := by simp [hg]
      go_wp2
      exact bodyPost_ret (v := .agg #[.int .i64 0, .int .i64 g]) (by simp [results, Try.results69, go_sem, r0, r1, rf]) rfl ⟨by rw [h4.out, HC2.out], by (repeat (first | refine bset ?_ (by simp; omega) _ | refine bset ?_ (by simp) _ | refine balloc ?_ _ | assumption))⟩
  · have e1 : (slotsD l c s).code = freC l c s := by rw [slotsD_code hf]
    rw [e1]
    have HC1 : Hid (chC l c s ys = freC l c s) := by show _ = _; unfold chC; rw [if_neg hf]
    have HC2 : Hid (chR l c s ys = 0) := by show _ = _; unfold chR; rw [if_neg hf]
    clear HCh e1
    generalize (slotsD l c s).slots.length = m at *
    generalize freC l c s = g at *
    have hg' : (g != 0) = true := by simp [hf]
    go_wp2
    exact bodyPost_ret (v := .agg #[.int .i64 g, .int .i64 0]) (by simp [results, Try.results69, go_sem, r0, r1, rf, zr, Nat.ne_of_lt zr]) rfl ⟨by rw [HC1.out, HC2.out], by (repeat (first | refine bset ?_ (by simp; omega) _ | refine bset ?_ (by simp) _ | refine balloc ?_ _ | assumption))⟩
end Go.Proofs.Ytbdbjdnebmaimaa

/-
  The slot that is asked, the program's.
-/
set_option linter.unusedSimpArgs false
set_option linter.unusedVariables false
namespace Go.Proofs.Ytbdbjdnebmaimaa
open Go.RowKit
set_option linter.unusedSectionVars false
variable [DecidableEq Vot] [Inhabited Vot] [DecidableEq Slt] [Inhabited Slt] [DecidableEq SltR] [Inhabited SltR] [DecidableEq Bal] [Inhabited Bal] [DecidableEq Ledg] [Inhabited Ledg] [DecidableEq Leg] [Inhabited Leg] [DecidableEq Acc] [Inhabited Acc] [DecidableEq AccR] [Inhabited AccR] [DecidableEq AccsR] [Inhabited AccsR] [DecidableEq SltsR] [Inhabited SltsR]
attribute [local go_sem ↓] Go.wp_at_zero Go.wp_at_succ

theorem slotO_found {xs : List Slt} {q : Slt} {i : Nat} (hi : i < xs.length) (h1 : ∀ k, k < i → cmpS (xs.getD k default) q < 0) (h : cmpS (xs.getD i default) q = 0) : slotO xs q = xs.getD i default := by
  refine slotO_at hi (fun k hk => ?_) (sameS_iff.2 (cmpS_eq.1 h))
  cases e : sameS (xs.getD k default) q with
  | false => rfl
  | true => have h2 := h1 k hk; rw [cmpS_eq.2 (sameS_iff.1 e)] at h2; omega
theorem slotO_miss {xs : List Slt} {q : Slt} {i : Nat} (hok : AccOk xs) (h1 : ∀ k, k < i → cmpS (xs.getD k default) q < 0) (h2 : ∀ k, i ≤ k → k < xs.length → 0 ≤ cmpS (xs.getD k default) q) (h : ¬ (i < xs.length ∧ cmpS (xs.getD i default) q = 0)) : slotO xs q = q := by
  refine slotO_none (fun k hk => ?_)
  cases e : sameS (xs.getD k default) q with
  | false => rfl
  | true =>
    exfalso
    have e0 := sameS_iff.1 e
    have e1 := cmpS_eq.2 e0
    rcases Nat.lt_trichotomy k i with h3 | h3 | h3
    · have := h1 k h3; omega
    · subst h3; exact h ⟨hk, e1⟩
    · have h4 := aheadS_iff.1 (hok.ord i k h3 hk)
      have h5 := h2 i (Nat.le_refl _) (by omega)
      have h6 : cmpS (xs.getD i default) q < 0 := by rw [cmpS_lt]; omega
      omega
set_option maxRecDepth 20000 in
set_option maxHeartbeats 4000000 in
theorem slotOr_any (x y : Value) (d : Acc) (q : Slt) (w : World) (hx : accR.V w x d) (hy : sltR.V w y q) (hok : AccOk d.slots) :
    Calls Try.prog 117 #[x, y] w fun e w' => ∃ v, e = .returned v ∧ sltR.V w' v (slotO d.slots q) ∧ Below w.heap.size w w' := by
  have hX := hx
  have hY := hy
  obtain ⟨u1, rfl, hx⟩ := hx
  obtain ⟨u2, rfl, hy⟩ := hy
  obtain ⟨ay, cy, rfl⟩ := vots_form hy
  clear hy
  obtain ⟨xs⟩ := d
  dsimp only at hx hok hX ⊢
  have HP : Hid (∀ W, Below w.heap.size w W → Calls Try.prog 151 #[.agg #[u1], .agg #[.int .i64 q.con, .int .i64 q.sh, .int .i64 q.pr, .int .i64 q.lb, .int .i64 q.lv, .slice ay q.cast.length cy]] W fun e w' => PlE xs q W e w') := fun W hW => placeIn_any _ ⟨xs⟩ q _ W (accR.below hX hW) hok
  have HOK : Hid (AccOk xs) := hok
  clear hX hok
  obtain ⟨au, cu, rfl, hcx, hmx, hx⟩ := hx
  unfold maxLen at hmx
  have hXs : Hid (∀ k, k < xs.length → ∃ b o p q, au = some ⟨b, o, none⟩ ∧ (w.cell? ⟨b, o + k * 6, none⟩ = some (.int .i64 (xs.getD k default).con) ∧ w.cell? ⟨b, o + k * 6 + 1, none⟩ = some (.int .i64 (xs.getD k default).sh) ∧ w.cell? ⟨b, o + k * 6 + 2, none⟩ = some (.int .i64 (xs.getD k default).pr) ∧ w.cell? ⟨b, o + k * 6 + 3, none⟩ = some (.int .i64 (xs.getD k default).lb) ∧ w.cell? ⟨b, o + k * 6 + 4, none⟩ = some (.int .i64 (xs.getD k default).lv) ∧ w.cell? ⟨b, o + k * 6 + 5, none⟩ = some (.slice p (xs.getD k default).cast.length q)) ∧ sltR.V w (.agg #[.int .i64 (xs.getD k default).con, .int .i64 (xs.getD k default).sh, .int .i64 (xs.getD k default).pr, .int .i64 (xs.getD k default).lb, .int .i64 (xs.getD k default).lv, .slice p (xs.getD k default).cast.length q]) (xs.getD k default)) := fun k hk => slts_at hx hk
  clear hx
  obtain ⟨n, hn'⟩ : ∃ n, n = xs.length := ⟨_, rfl⟩
  have HN : Hid (xs.length = n) := hn'.symm
  rw [← hn'] at hcx hXs HP ⊢
  clear hn'
  go_enter Try.func117, Try.ntmps117
  go_wp2_with fail
  refine (HP.out _ (by (repeat (first | exact Below.refl _ _ | assumption | refine Below.drew ?_ | refine balloc ?_ _ | refine bset ?_ (by simp; omega) _ | refine bset ?_ (by simp) _ | refine bstep ?_ (by assumption))))).mono ?_
  rintro e w1 ⟨i, hi, rfl, h1, h2, hb1⟩
  have hB1 : Below w.heap.size w w1 := by (repeat (first | exact Below.refl _ _ | assumption | refine Below.drew ?_ | refine balloc ?_ _ | refine bset ?_ (by simp; omega) _ | refine bset ?_ (by simp) _ | refine bstep ?_ (by assumption)))
  have HA : Hid (∀ k, k < i → cmpS (xs.getD k default) q < 0) := h1
  have HB : Hid (∀ k, i ≤ k → k < xs.length → 0 ≤ cmpS (xs.getD k default) q) := h2
  clear h1 h2 HP
  obtain ⟨c1, f1⟩ := bcell hb1
  have hz1 := hb1.size
  simp at hz1
  have y0 : w1.cell? ⟨w.heap.size, 0, none⟩ = some (.slice au n cu) := cell_keep hb1 (by simp [go_sem])
  have q0 : w1.cell? ⟨w.heap.size + 1, 0, none⟩ = some (.int .i64 q.con) := cell_keep hb1 (by simp [go_sem])
  have q1 : w1.cell? ⟨w.heap.size + 1, 1, none⟩ = some (.int .i64 q.sh) := cell_keep hb1 (by simp [go_sem])
  have q2 : w1.cell? ⟨w.heap.size + 1, 2, none⟩ = some (.int .i64 q.pr) := cell_keep hb1 (by simp [go_sem])
  have q3 : w1.cell? ⟨w.heap.size + 1, 3, none⟩ = some (.int .i64 q.lb) := cell_keep hb1 (by simp [go_sem])
  have q4 : w1.cell? ⟨w.heap.size + 1, 4, none⟩ = some (.int .i64 q.lv) := cell_keep hb1 (by simp [go_sem])
  have q5 : w1.cell? ⟨w.heap.size + 1, 5, none⟩ = some (.slice ay q.cast.length cy) := cell_keep hb1 (by simp [go_sem])
  have r0 : w1.cell? ⟨w.heap.size + 2, 0, none⟩ = some (.int .i64 0) := cell_keep hb1 (by simp [go_sem])
  have r1 : w1.cell? ⟨w.heap.size + 2, 1, none⟩ = some (.int .i64 0) := cell_keep hb1 (by simp [go_sem])
  have r2 : w1.cell? ⟨w.heap.size + 2, 2, none⟩ = some (.int .i64 0) := cell_keep hb1 (by simp [go_sem])
  have r3 : w1.cell? ⟨w.heap.size + 2, 3, none⟩ = some (.int .i64 0) := cell_keep hb1 (by simp [go_sem])
  have r4 : w1.cell? ⟨w.heap.size + 2, 4, none⟩ = some (.int .i64 0) := cell_keep hb1 (by simp [go_sem])
  have r5 : w1.cell? ⟨w.heap.size + 2, 5, none⟩ = some (.slice none 0 0) := cell_keep hb1 (by simp [go_sem])
  have rf : ∀ o, w1.frozen? ⟨w.heap.size + 2, o, none⟩ = false := fun o => by rw [f1 _ _ (by simp; try omega)]; simp [go_sem]
  clear hb1 c1 f1
  rw [HN.out] at hi
  by_cases hD : i < xs.length ∧ cmpS (xs.getD i default) q = 0
  · rw [decide_eq_true hD]
    have HS : Hid (slotO xs q = xs.getD i default) := slotO_found hD.1 HA.out hD.2
    have hin : i < n := by rw [← HN.out]; exact hD.1
    clear hD
    obtain ⟨b, o, pp, qq, rfl, hc, hV⟩ := hXs.out i hin
    obtain ⟨l, hl⟩ : ∃ l, l = xs.getD i default := ⟨_, rfl⟩
    rw [← hl] at hc hV HS
    clear hl hXs
    obtain ⟨g0, g1, g2, g3, g4, g5⟩ := (sltKeep2 hB1 hc hc).2.1
    clear hc
    have zb : b < w1.heap.size := World.block_lt_of_cell? w1 _ g0
    go_wp2
    refine bodyPost_ret (v := .agg #[.int .i64 l.con, .int .i64 l.sh, .int .i64 l.pr, .int .i64 l.lb, .int .i64 l.lv, .slice pp l.cast.length qq]) ?_ rfl ⟨_, rfl, by rw [HS.out]; exact sltR.below hV (by (repeat (first | refine bset ?_ (by simp; omega) _ | refine bset ?_ (by simp) _ | refine balloc ?_ _ | assumption))), by (repeat (first | refine bset ?_ (by simp; omega) _ | refine bset ?_ (by simp) _ | refine balloc ?_ _ | assumption))⟩
    simp [results, Try.results117, go_sem, r0, r1, r2, r3, r4, r5, rf]
  · rw [decide_eq_false hD]
    have HS : Hid (slotO xs q = q) := slotO_miss HOK.out HA.out HB.out hD
    clear hD hXs
    go_wp2
    refine bodyPost_ret (v := .agg #[.int .i64 q.con, .int .i64 q.sh, .int .i64 q.pr, .int .i64 q.lb, .int .i64 q.lv, .slice ay q.cast.length cy]) ?_ rfl ⟨_, rfl, by rw [HS.out]; exact sltR.below hY (by (repeat (first | refine bset ?_ (by simp; omega) _ | refine bset ?_ (by simp) _ | refine balloc ?_ _ | assumption))), by (repeat (first | refine bset ?_ (by simp; omega) _ | refine bset ?_ (by simp) _ | refine balloc ?_ _ | assumption))⟩
    simp [results, Try.results117, go_sem, r0, r1, r2, r3, r4, r5, rf]
end Go.Proofs.Ytbdbjdnebmaimaa

/-
  A map whose keys are votes: what it holds, vote by vote; looked up, an entry taken, stored.
-/
set_option linter.unusedVariables false
set_option linter.unusedSimpArgs false
namespace Go.Proofs.Ytbdbjdnebmaimaa
open Go.RowKit Go.Maps Go.WideElems Go.ChangeMaps
set_option linter.unusedSectionVars false
variable [DecidableEq Vot] [Inhabited Vot] [DecidableEq Slt] [Inhabited Slt] [DecidableEq SltR] [Inhabited SltR] [DecidableEq Bal] [Inhabited Bal] [DecidableEq Ledg] [Inhabited Ledg] [DecidableEq Leg] [Inhabited Leg]
open Go.WideMaps (KeyLaw)

def vv (x : Vot) : Value := .agg #[.int .i64 x.bal, .int .i64 x.val]
def vwf (x : Vot) : Prop := (Lit.int .i64 x.bal).wf = true ∧ (Lit.int .i64 x.val).wf = true
theorem wfv {n : Int} (h0 : -9223372036854775808 ≤ n) (h1 : n ≤ 9223372036854775807) : (Lit.int .i64 n).wf = true := by
  simp [Lit.wf, IntKind.min, IntKind.max, IntKind.signed, IntKind.bits]
  omega
theorem vwf_ok {x : Vot} (h : votB x = true) : vwf x := by
  have := votB_iff.1 h
  exact ⟨wfv (by omega) (by omega), wfv (by omega) (by omega)⟩
set_option maxRecDepth 20000 in
theorem votWide : (match Try.prog.underlying 47 with | some (.array _ _) | some (.struct _) => true | _ => false) = true := by rw [Try.underlying47]
set_option maxRecDepth 100000 in
theorem votK : KeyLaw Try.prog 47 := deep_law_laid laidOut (m := 2) (by omega) (of_decide_eq_true (by kernel_rfl)) (by kernel_rfl) votWide
theorem votLaw : Keyed Try.prog 47 := Keyed.of_law votK
theorem votCellsN : Try.prog.cellsOf 47 = 2 := by kernel_rfl
theorem votType : Try.prog.keyType 47 = true := by kernel_rfl
theorem votDepth : ∃ d, Try.prog.types.size + 1 = d + 1 + 1 := ⟨Try.prog.types.size - 1, by have h : 0 < Try.prog.types.size := of_decide_eq_true (by kernel_rfl); omega⟩
theorem numLits (d : Nat) (n : Int) (h : (Lit.int .i64 n).wf = true) : Try.prog.keyLits (d + 1) 2 [.int .i64 n] = some [.int .i64 n] := by
  unfold Program.keyLits
  rw [Try.underlying2]
  simp [h]
set_option maxRecDepth 20000 in
theorem keyOf_vv {x : Vot} (h : vwf x) : ∃ kl, keyOf Try.prog 47 (vv x) = some kl := by
  obtain ⟨d, hd⟩ := votDepth
  obtain ⟨h0, h1⟩ := h
  have hc : Try.prog.cellsOf 2 = 1 := by kernel_rfl
  have hf : (vv x).formed Try.prog 47 = true := by simp [vv, Value.formed, Try.underlying47, votCellsN]
  have hl : Try.prog.keyLits (Try.prog.types.size + 1) 47 (vv x).cells.toList = some [.int .i64 x.bal, .int .i64 x.val] := by
    rw [hd]
    unfold Program.keyLits
    rw [Try.underlying47]
    simp [vv, Value.cells, votCellsN, hc, numLits d x.bal h0, numLits d x.val h1]
  unfold keyOf
  rw [Try.underlying47]
  dsimp only
  rw [if_pos (by rw [votType, hf]; rfl), hl]
  exact ⟨_, rfl⟩
set_option maxRecDepth 20000 in
theorem numLits_inv {d : Nat} {c : Value} {l : List Lit} (h : Try.prog.keyLits (d + 1) 2 [c] = some l) : ∃ n, c = .int .i64 n ∧ (Lit.int .i64 n).wf = true := by
  unfold Program.keyLits at h
  rw [Try.underlying2] at h
  cases c <;> simp at h
  obtain ⟨⟨rfl, hw⟩, _⟩ := h
  exact ⟨_, rfl, hw⟩
set_option maxRecDepth 20000 in
theorem vv_of_key {v : Value} {kl : Lit} (h : keyOf Try.prog 47 v = some kl) : ∃ x, v = vv x ∧ vwf x := by
  obtain ⟨xs, L, rfl, hl, _⟩ := keyOf_top votWide h
  obtain ⟨d, hd⟩ := votDepth
  have hc : Try.prog.cellsOf 2 = 1 := by kernel_rfl
  rw [hd] at hl
  unfold Program.keyLits at hl
  rw [Try.underlying47] at hl
  simp only [votCellsN, hc] at hl
  split at hl
  · rename_i h3
    obtain ⟨l⟩ := xs
    match l, h3.1 with
    | [c0, c1], _ =>
      simp [hc] at hl
      cases e0 : Try.prog.keyLits (d + 1) 2 [c0] with
      | none => simp [e0] at hl
      | some l0 =>
        cases e1 : Try.prog.keyLits (d + 1) 2 [c1] with
        | none => simp [e0, e1] at hl
        | some l1 =>
          obtain ⟨n0, rfl, w0⟩ := numLits_inv e0
          obtain ⟨n1, rfl, w1⟩ := numLits_inv e1
          exact ⟨⟨n0, n1⟩, rfl, w0, w1⟩
  · cases hl
theorem vv_inj {x y : Vot} (h : vv x = vv y) : x = y := by
  obtain ⟨a, b⟩ := x
  obtain ⟨c, d⟩ := y
  simpa [vv] using h
def Bkv (w : World) (b n : Nat) (f : Vot → Option Int) : Prop :=
  ∃ D : DataW Unit, w.ownsMap Try.prog 47 (plainElem Try.prog 2) b n D ∧
    ∀ x kl, keyOf Try.prog 47 (vv x) = some kl → Maps.has D kl = (f x).isSome ∧ D.atKey kl (.lit (.int .i64 0)) = .lit (.int .i64 ((f x).getD 0))
def updV1 (f : Vot → Option Int) (x : Vot) (v : Option Int) : Vot → Option Int := fun y => if decide (y.bal = x.bal) && decide (y.val = x.val) then v else f y
theorem updV1_at (f : Vot → Option Int) (x : Vot) (v : Option Int) : updV1 f x v x = v := by unfold updV1; rw [if_pos (vot_eq.2 rfl)]
theorem updV1_ne (f : Vot → Option Int) {x y : Vot} (v : Option Int) (h : ¬ y = x) : updV1 f x v y = f y := by unfold updV1; rw [if_neg (fun e => h (vot_eq.1 e))]
theorem bkv_made (w : World) : Bkv (w.alloc (.map #[] 0)) w.heap.size 0 (fun _ => none) :=
  ⟨_, World.ownsMap_made w _ _ _, fun _ _ _ => ⟨rfl, rfl⟩⟩
theorem Bkv.lt {w : World} {b n : Nat} {f : Vot → Option Int} (h : Bkv w b n f) : b < w.heap.size := by
  obtain ⟨D, hD, _⟩ := h; exact hD.lt
theorem Bkv.kept {w w' : World} {b n : Nat} {f : Vot → Option Int} {row : Option Nat} (h : Bkv w b n f) (hg : w.grownBy w' row) (hne : some b ≠ row) : Bkv w' b n f := by
  obtain ⟨D, hD, h1⟩ := h; exact ⟨D, hD.kept hg hne, h1⟩
theorem Bkv.below {w w' : World} {b n : Nat} {f : Vot → Option Int} (h : Bkv w b n f) (hb : Below w.heap.size w w') : Bkv w' b n f := h.kept (grown_of_below hb) (by simp)
theorem Bkv.mono {w : World} {b n n' : Nat} {f : Vot → Option Int} (h : Bkv w b n f) (hn : n ≤ n') : Bkv w b n' f := by
  obtain ⟨D, hD, h1⟩ := h; exact ⟨D, hD.mono hn, h1⟩
theorem zeroV64 (w : World) : (zeroValue 2).run Try.prog w = .ok (.int .i64 0) w := by kernel_rfl
theorem Bkv.look {w : World} {b n : Nat} {f : Vot → Option Int} (h : Bkv w b n f) {x : Vot} (hw : vwf x) :
    (Instr.lookup 124 (.map (some b)) (vv x) false).run Try.prog w = .ok (.int .i64 ((f x).getD 0)) w ∧ (Lit.int .i64 ((f x).getD 0)).wf = true := by
  obtain ⟨D, hD, h1⟩ := h
  obtain ⟨kl, hk⟩ := keyOf_vv hw
  obtain ⟨c, hrun, hat, hwc⟩ := hD.lookup_int votLaw Try.underlying124 Try.underlying2 (zeroV64 w) hk
  have := (h1 x kl hk).2
  rw [hat] at this
  simp at this
  rw [← this]
  exact ⟨hrun, hwc⟩
theorem Bkv.put {w : World} {b n : Nat} {f : Vot → Option Int} (h : Bkv w b n f) {x : Vot} {v : Int} (hw : vwf x) (hv : (Lit.int .i64 v).wf = true) (hn : n < maxLen) :
    ∃ w', (Instr.mapUpdate 124 (.map (some b)) (vv x) (.int .i64 v)).run Try.prog w = .ok () w' ∧ Bkv w' b (n + 1) (updV1 f x (some v)) ∧ w.grownBy w' (some b) := by
  obtain ⟨D, hD, h1⟩ := h
  obtain ⟨kl, hk⟩ := keyOf_vv hw
  obtain ⟨w', hrun, hD', hg⟩ := hD.update votLaw Try.underlying124 hn hk (plainElem_int Try.underlying2 hv)
  refine ⟨w', hrun, ⟨_, hD', fun y kl' hk' => ?_⟩, hg⟩
  by_cases e : kl' = kl
  · subst e
    have e' := vv_inj (votLaw.inj hk' hk)
    subst e'
    rw [updV1_at]
    exact ⟨has_put_same hD.isMap (votLaw.key hk) _, atKey_put_same hD.isMap (votLaw.key hk) _ _⟩
  · rw [updV1_ne _ _ (by
      rintro rfl
      rw [hk] at hk'
      exact e (by simpa using hk'.symm)), has_put_other e, atKey_put_other e]
    exact h1 y kl' hk'
theorem setBlk_twice (w : World) (b : Nat) (x y : Obj) : setBlock (setBlock w b x) b y = setBlock w b y := by
  unfold setBlock
  simp
theorem setBlk_mod (w : World) (b : Nat) (x : Obj) : Mod (fun i => i = b) w (setBlock w b x) := by
  refine ⟨rfl, rfl, rfl, ?_, fun i hi hn => ?_⟩
  · simp [setBlock]
  · simp only [setBlock]
    rw [Array.getElem?_setIfInBounds, if_neg (fun e => hn e.symm)]
theorem Bkv.entry {w : World} {b n : Nat} {f : Vot → Option Int} (h : Bkv w b n f) {x : Vot} (hw : vwf x) (hn : n < maxLen) :
    ∃ v0 st w1, (Instr.mapEntry 124 (.map (some b)) (vv x)).run Try.prog w = .ok (.tuple #[v0, goInt st]) w1 ∧ Mod (fun i => i = b) w w1 ∧
      ∀ v, (Lit.int .i64 v).wf = true → ∃ w', (Instr.entryStore 124 (.map (some b)) (goInt st) (.int .i64 v)).run Try.prog w1 = .ok () w' ∧ Bkv w' b (n + 1) (updV1 f x (some v)) ∧ Mod (fun i => i = b) w w' := by
  have hB := h
  have hlt := h.lt
  obtain ⟨D, ⟨es, clock, hb, Ft, hs, hD⟩, h1⟩ := h
  obtain ⟨kl, hk⟩ := keyOf_vv hw
  obtain ⟨v0, st, es1, clock1, hr, _, hst⟩ := entry_then_store votK Try.underlying124 (fun u => zeroV64 u) hb Ft hk
  refine ⟨v0, st, _, hr, setBlk_mod _ _ _, fun v hv => ?_⟩
  obtain ⟨es', clock', hr2, hr3⟩ := hst (setBlock w b (.map es1 clock1)) (.int .i64 v) (by simp [setBlock, hlt])
  obtain ⟨w', hp, hB', _⟩ := hB.put hw hv hn
  rw [hr3] at hp
  have e : setBlock w b (.map es' clock') = w' := by
    injection hp
  refine ⟨_, hr2, ?_, ?_⟩
  · rw [setBlk_twice, e]
    exact hB'
  · rw [setBlk_twice]
    exact setBlk_mod _ _ _
theorem entry_as2 {H : Type} {P : Program} {w : World} {t k e : TypeId} {R : Value → Option (DataW H × List MemPlace)} {b : Nat} {es : Array MapEntry} {clock : Nat} (K : KeyLaw P k) (ht : P.underlying t = some (.map k e)) {z : Value} (hz : ∀ u : World, (zeroValue e).run P u = .ok z u) (hb : w.heap[b]? = some (.map es clock)) (F : Fit P k R es clock)
    {key : Value} {kl : Lit} (hkey : keyOf P k key = some kl) :
    ∃ (v0 : Value) (st : Nat) (X : World), (Instr.mapEntry t (.map (some b)) key).run P w = .ok (.tuple #[v0, goInt st]) X ∧ (Instr.mapUpdate t (.map (some b)) key v0).run P w = .ok () X ∧ (Instr.lookup t (.map (some b)) key false).run P w = .ok v0 w := by
  rcases K.find w hkey es.toList F.keys with ⟨h1, h2⟩ | ⟨j, e0, h1, h2, h3⟩
  · refine ⟨z, clock, setBlock w b (.map (es.push ⟨key, z, clock⟩) (clock + 1)), ?_, ?_, ?_⟩
    · simp [Instr.mapEntry, run_underlying ht, MapKept.run_getObj_map hb, K.check w false hkey, h1, hz, MapKept.run_setObj_map _ hb, Result.andThen, setBlock]
    · simp [Instr.mapUpdate, run_underlying ht, MapKept.run_getObj_map hb, K.check w false hkey, h1, MapKept.run_setObj_map _ hb, Result.andThen, setBlock]
    · simp [Instr.lookup, run_underlying ht, MapKept.run_getObj_map hb, K.check w _ hkey, h1, hz, Result.andThen]
  · have hj : es[j]? = some e0 := by simpa using h2
    have hA : es.modify j (fun e => { e with key := key }) = es := by
      apply Array.ext'
      rw [Array.toList_modify, modify_eq_set _ _ _ _ h2]
      have q : ({ e0 with key := key } : MapEntry) = e0 := by rw [← h3]
      rw [q]
      exact set_self _ _ _ h2
    have hB : es.modify j (fun e' => { e' with key := key, val := e0.val }) = es := by
      apply Array.ext'
      rw [Array.toList_modify, modify_eq_set _ _ _ _ h2]
      have q : ({ e0 with key := key, val := e0.val } : MapEntry) = e0 := by rw [← h3]
      rw [q]
      exact set_self _ _ _ h2
    refine ⟨e0.val, e0.born, setBlock w b (.map es clock), ?_, ?_, ?_⟩
    · simp [Instr.mapEntry, run_underlying ht, MapKept.run_getObj_map hb, K.check w false hkey, h1, hj, h3, K.stays w hkey, hA, MapKept.run_setObj_map _ hb, Result.andThen, setBlock]
    · simp [Instr.mapUpdate, run_underlying ht, MapKept.run_getObj_map hb, K.check w false hkey, h1, hj, h3, K.stays w hkey, hB, MapKept.run_setObj_map _ hb, Result.andThen, setBlock]
    · simp [Instr.lookup, run_underlying ht, MapKept.run_getObj_map hb, K.check w _ hkey, h1, hj, Result.andThen]
theorem Bkv.entry2 {w : World} {b n : Nat} {f : Vot → Option Int} (h : Bkv w b n f) {x : Vot} (hw : vwf x) (hn : n < maxLen) :
    ∃ v0 st w1, (Instr.mapEntry 124 (.map (some b)) (vv x)).run Try.prog w = .ok (.tuple #[v0, goInt st]) w1 ∧ Mod (fun i => i = b) w w1 ∧ Bkv w1 b (n + 1) (updV1 f x (some ((f x).getD 0))) ∧
      ∀ v, (Lit.int .i64 v).wf = true → ∃ w', (Instr.entryStore 124 (.map (some b)) (goInt st) (.int .i64 v)).run Try.prog w1 = .ok () w' ∧ Bkv w' b (n + 1) (updV1 f x (some v)) ∧ Mod (fun i => i = b) w w' := by
  obtain ⟨v0, st, w1, h1, h2, h3⟩ := h.entry hw hn
  refine ⟨v0, st, w1, h1, h2, ?_, h3⟩
  obtain ⟨hl, hlw⟩ := h.look hw
  have hB := h
  obtain ⟨D, ⟨es, clock, hb, Ft, hs, hD⟩, _⟩ := h
  obtain ⟨kl, hk⟩ := keyOf_vv hw
  obtain ⟨u0, st', X, e1, e2, e3⟩ := entry_as2 votK Try.underlying124 (fun u => zeroV64 u) hb Ft hk
  rw [h1] at e1
  rw [hl] at e3
  injection e1 with _ eX
  injection e3 with eV _
  obtain ⟨w', hp, hB', _⟩ := hB.put hw hlw hn
  rw [← eV] at e2
  rw [e2] at hp
  injection hp with _ eW
  rw [eX, eW]
  exact hB'
end Go.Proofs.Ytbdbjdnebmaimaa

/-
  Votes counted in a map: mathematics.
-/
set_option linter.unusedVariables false
set_option linter.unusedSimpArgs false
namespace Go.Proofs.Ytbdbjdnebmaimaa
open Go.RowKit Go.Maps
set_option linter.unusedSectionVars false
variable [DecidableEq Vot] [Inhabited Vot] [DecidableEq Slt] [Inhabited Slt] [DecidableEq SltR] [Inhabited SltR] [DecidableEq Bal] [Inhabited Bal] [DecidableEq Ledg] [Inhabited Ledg] [DecidableEq Leg] [Inhabited Leg]

def hasL (xs : List Vot) (v : Vot) : Bool := xs.any (fun u => decide (u.bal = v.bal) && decide (u.val = v.val))
theorem hasL_iff {xs : List Vot} {v : Vot} : hasL xs v = true ↔ v ∈ xs := by
  unfold hasL
  rw [List.any_eq_true]
  constructor
  · rintro ⟨u, hu, e⟩
    rw [vot_eq] at e
    exact e ▸ hu
  · intro h
    exact ⟨v, h, vot_eq.2 rfl⟩
def cF (D : List Slt) (i k : Nat) (v : Vot) : Nat := cntP (fun t => hasV (D.getD t default) v) i + if hasL ((D.getD i default).cast.take k) v then 1 else 0
def cB (D : List Slt) (i k : Nat) : Vot → Option Int := fun v => if cF D i k v = 0 then none else some (cF D i k v : Int)
theorem cB_get (D : List Slt) (i k : Nat) (v : Vot) : (cB D i k v).getD 0 = (cF D i k v : Int) := by
  unfold cB
  split
  · rename_i h
    rw [h]
    rfl
  · rfl
theorem cB_some (D : List Slt) (i k : Nat) (v : Vot) : (cB D i k v).isSome = true ↔ ¬ cF D i k v = 0 := by
  unfold cB
  split <;> simp_all
theorem cF_zero (D : List Slt) (i : Nat) (v : Vot) : cF D i 0 v = cntP (fun t => hasV (D.getD t default) v) i := by
  unfold cF
  simp [hasL]
theorem cB_start (D : List Slt) : cB D 0 0 = fun _ => none := by
  funext v
  unfold cB
  rw [cF_zero]
  rfl
theorem cF_le (D : List Slt) (i k : Nat) (v : Vot) : cF D i k v ≤ i + 1 := by
  have := cntP_le (fun t => hasV (D.getD t default) v) i
  unfold cF
  split <;> omega
theorem cB_row (D : List Slt) (i : Nat) : cB D i (D.getD i default).cast.length = cB D (i + 1) 0 := by
  funext v
  have e : cF D i (D.getD i default).cast.length v = cF D (i + 1) 0 v := by
    rw [cF_zero]
    unfold cF
    rw [List.take_length]
    rfl
  unfold cB
  rw [e]
theorem take_snocV (xs : List Vot) (k : Nat) (h : k < xs.length) : xs.take (k + 1) = xs.take k ++ [xs.getD k default] := by
  rw [List.take_succ_eq_append_getElem h]
  simp [List.getD, h]
theorem cB_new (D : List Slt) (i k : Nat) (u : Vot) (hk : k < (D.getD i default).cast.length) (hu : (D.getD i default).cast.getD k default = u) (hn : ¬ u ∈ (D.getD i default).cast.take k) : cB D i (k + 1) = updV1 (cB D i k) u (some ((cB D i k u).getD 0 + 1)) := by
  have e : ∀ v, cF D i (k + 1) v = cF D i k v + if v = u then 1 else 0 := by
    intro v
    unfold cF
    rw [take_snocV _ k hk, hu]
    by_cases hv : v = u
    · subst hv
      have h1 : hasL ((D.getD i default).cast.take k ++ [v]) v = true := hasL_iff.2 (by simp)
      have h2 : hasL ((D.getD i default).cast.take k) v = false := by
        cases e : hasL ((D.getD i default).cast.take k) v with
        | false => rfl
        | true => exact absurd (hasL_iff.1 e) hn
      rw [h1, h2]
      simp
    · have h1 : hasL ((D.getD i default).cast.take k ++ [u]) v = hasL ((D.getD i default).cast.take k) v := by
        rw [Bool.eq_iff_iff, hasL_iff, hasL_iff]
        simp [hv]
      rw [h1, if_neg hv]
      omega
  funext v
  by_cases hv : v = u
  · subst hv
    rw [updV1_at, cB_get]
    unfold cB
    rw [e, if_pos rfl, if_neg (by omega)]
    simp
  · rw [updV1_ne _ _ hv]
    unfold cB
    rw [e, if_neg hv, Nat.add_zero]
theorem cB_old (D : List Slt) (i k : Nat) (u : Vot) (hk : k < (D.getD i default).cast.length) (hu : (D.getD i default).cast.getD k default = u) (hn : u ∈ (D.getD i default).cast.take k) : cB D i (k + 1) = cB D i k := by
  funext v
  have e : cF D i (k + 1) v = cF D i k v := by
    unfold cF
    rw [take_snocV _ k hk, hu]
    have h1 : hasL ((D.getD i default).cast.take k ++ [u]) v = hasL ((D.getD i default).cast.take k) v := by
      rw [Bool.eq_iff_iff, hasL_iff, hasL_iff]
      simp only [List.mem_append, List.mem_singleton]
      constructor
      · rintro (h | h)
        · exact h
        · exact h ▸ hn
      · exact fun h => .inl h
    rw [h1]
  unfold cB
  rw [e]
theorem in_take {s : Slt} (h : SltOk s) {p : Nat} (hp : p + 1 < s.cast.length) : s.cast.getD (p + 1) default ∈ s.cast.take (p + 1) ↔ s.cast.getD (p + 1) default = s.cast.getD p default := by
  constructor
  · intro hm
    obtain ⟨j, hj, e⟩ := getD_of_mem hm
    rw [List.length_take] at hj
    have e2 : (s.cast.take (p + 1)).getD j default = s.cast.getD j default := by simp [List.getD, List.getElem?_take, show j < p + 1 by omega]
    rw [e2] at e
    have h1 := slt_order h j (p - j) (by omega)
    have h2 := slt_order h p 1 (by omega)
    rw [show j + (p - j) = p by omega] at h1
    have hb : (s.cast.getD p default).bal = (s.cast.getD (p + 1) default).bal := by rw [e] at h1; omega
    have hv := h2.2 hb
    exact vot_eq.1 (by rw [hb, hv]; simp)
  · intro e
    rw [e, take_snocV _ p (by omega)]
    simp
theorem cB_end (D : List Slt) (v : Vot) : cF D D.length 0 v = cntV D v := cF_zero D D.length v
def leftV (ko : Value → Option Lit) (left : Lit → Bool) (x : Vot) : Bool := match ko (vv x) with | some kl => left kl | none => false
theorem leftV_some {left : Lit → Bool} {x : Vot} {kl : Lit} (h : keyOf Try.prog 47 (vv x) = some kl) : leftV (keyOf Try.prog 47) left x = left kl := by unfold leftV; rw [h]
theorem leftV_strike {left : Lit → Bool} {x y : Vot} {kl : Lit} (hk : keyOf Try.prog 47 (vv x) = some kl) :
    leftV (keyOf Try.prog 47) (fun z => left z && !z.sameKey kl) y = (leftV (keyOf Try.prog 47) left y && !(decide (y.bal = x.bal) && decide (y.val = x.val))) := by
  unfold leftV
  split
  · rename_i kl' hk'
    by_cases e : kl' = kl
    · subst e
      have e' := vv_inj (votLaw.inj hk' hk)
      subst e'
      simp [WideAt.sameKey_self (votLaw.key hk)]
    · have hne : (decide (y.bal = x.bal) && decide (y.val = x.val)) = false := by
        cases h : (decide (y.bal = x.bal) && decide (y.val = x.val)) with
        | false => rfl
        | true =>
          have := vot_eq.1 h
          subst this
          rw [hk] at hk'
          exact absurd (by simpa using hk'.symm) e
      show (left kl' && !kl'.sameKey kl) = _
      simp [Maps.sameKey_ne e, hne]
  · rfl
structure Came (f : Vot → Option Int) (q : Int) (left : Lit → Bool) (xs : List Vot) : Prop where
  nodup : xs.Nodup
  mem : ∀ v, v ∈ xs ↔ (f v).isSome = true ∧ leftV (keyOf Try.prog 47) left v = false ∧ q ≤ (f v).getD 0
theorem came_v0 {f : Vot → Option Int} {q : Int} {D : DataW Unit} (hf : ∀ v, (f v).isSome = true → vwf v) (h : ∀ x kl, keyOf Try.prog 47 (vv x) = some kl → Maps.has D kl = (f x).isSome ∧ D.atKey kl (.lit (.int .i64 0)) = .lit (.int .i64 ((f x).getD 0))) : Came f q (Maps.has D) [] := by
  refine ⟨List.nodup_nil, fun v => ⟨fun h => by simp at h, fun ⟨h1, h2, _⟩ => ?_⟩⟩
  obtain ⟨kl, hk⟩ := keyOf_vv (hf v h1)
  rw [leftV_some hk, (h v kl hk).1, h1] at h2
  cases h2
theorem came_add {f : Vot → Option Int} {q : Int} {left : Lit → Bool} {xs : List Vot} (h : Came f q left xs) {x : Vot} {kl : Lit} (hk : keyOf Try.prog 47 (vv x) = some kl) (hl : left kl = true) (hs : (f x).isSome = true) (hq : q ≤ (f x).getD 0) : Came f q (fun z => left z && !z.sameKey kl) (xs ++ [x]) := by
  have hlx : leftV (keyOf Try.prog 47) left x = true := by rw [leftV_some hk, hl]
  have hx : ¬ x ∈ xs := fun hx => by have := ((h.mem x).1 hx).2.1; rw [hlx] at this; cases this
  refine ⟨?_, fun v => ?_⟩
  · rw [List.nodup_append]
    exact ⟨h.nodup, by simp, fun a ha b hb => by simp at hb; subst hb; rintro rfl; exact hx ha⟩
  · rw [leftV_strike hk, List.mem_append, List.mem_singleton, h.mem]
    by_cases e : v = x
    · subst e
      have : (decide (v.bal = v.bal) && decide (v.val = v.val)) = true := vot_eq.2 rfl
      rw [this]
      simp [hs, hq]
    · have : (decide (v.bal = x.bal) && decide (v.val = x.val)) = false := by
        cases h : (decide (v.bal = x.bal) && decide (v.val = x.val)) with
        | false => rfl
        | true => exact absurd (vot_eq.1 h) e
      rw [this]
      simp [e]
theorem came_pass {f : Vot → Option Int} {q : Int} {left : Lit → Bool} {xs : List Vot} (h : Came f q left xs) {x : Vot} {kl : Lit} (hk : keyOf Try.prog 47 (vv x) = some kl) (hq : ¬ q ≤ (f x).getD 0) : Came f q (fun z => left z && !z.sameKey kl) xs := by
  refine ⟨h.nodup, fun v => ?_⟩
  rw [leftV_strike hk, h.mem]
  by_cases e : v = x
  · subst e
    simp [hq]
  · have : (decide (v.bal = x.bal) && decide (v.val = x.val)) = false := by
      cases h : (decide (v.bal = x.bal) && decide (v.val = x.val)) with
      | false => rfl
      | true => exact absurd (vot_eq.1 h) e
    rw [this]
    simp
theorem came_end8 {f : Vot → Option Int} {q : Int} {left : Lit → Bool} {xs : List Vot} (h : Came f q left xs) (h0 : ∀ kl, left kl = false) (v : Vot) : v ∈ xs ↔ (f v).isSome = true ∧ q ≤ (f v).getD 0 := by
  rw [h.mem]
  have : leftV (keyOf Try.prog 47) left v = false := by
    unfold leftV
    split
    · exact h0 _
    · rfl
  simp [this]
theorem chs_sorted {D : List Slt} (hok : AllOk D) {xs ys : List Vot} (hn : xs.Nodup) (hm : ∀ v, v ∈ xs ↔ isCh D v) (hp : ys.Perm xs) (hs : ys.Pairwise (fun p q => ¬ q.bal < p.bal)) : Chs D ys := by
  have hm' : ∀ v, v ∈ ys ↔ isCh D v := fun v => by rw [hp.mem_iff]; exact hm v
  refine ⟨?_, hm'⟩
  have hnd : ys.Nodup := hp.nodup_iff.2 hn
  unfold Rise
  rw [List.pairwise_iff_getElem] at hs ⊢
  intro i j hi hj hij
  have h1 := hs i j hi hj hij
  have h2 : ¬ ys[i].bal = ys[j].bal := fun e => by
    have := ch_one hok ((hm' _).1 (List.getElem_mem hi)) ((hm' _).1 (List.getElem_mem hj)) e
    exact (List.pairwise_iff_getElem.1 hnd i j hi hj hij) this
  omega
end Go.Proofs.Ytbdbjdnebmaimaa

