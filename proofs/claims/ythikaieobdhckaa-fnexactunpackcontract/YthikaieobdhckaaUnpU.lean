/-
  UnpackContract on both sides.
-/
import Derived.Test.YthikaieobdhckaaUnpC
import Derived.Test.YthikaieobdhckaaUnpI
namespace Go.Proofs.Ythikaieobdhckaa
open Go.RowKit
set_option linter.unusedSectionVars false
variable [DecidableEq Leg] [Inhabited Leg] [DecidableEq Cont] [Inhabited Cont] [DecidableEq ContR] [Inhabited ContR]
set_option linter.unusedSimpArgs false
attribute [local go_sem ↓] Go.wp_at_zero Go.wp_at_succ

def unpD (xs : List Byte) : ContR := if (8 ≤ xs.length ∧ (xs.length - 8) % 11 = 0 ∧ xs.length ≤ 96) ∧ contractFault (unCont xs).id (unCont xs).legs = 0 then ⟨0, unCont xs⟩ else ⟨5, ⟨0, []⟩⟩
theorem contR_nil (w : World) (base : Nat) : contRR.O w base none_ (.agg #[.int .i64 5, .int .i64 0, .slice none 0 0]) ⟨5, ⟨0, []⟩⟩ :=
  ⟨.slice none 0 0, none_, rfl, ⟨.slice none 0 0, none_, rfl, ⟨by simpa [legsC] using World.ownsRow_nil w base 72 4, by funext b; simp [none_, Value.ownBlock]⟩, fun b => Iff.rfl⟩, fun b => Iff.rfl⟩

set_option maxHeartbeats 1000000 in
theorem isSize_any (n : Nat) (w : World) (hn : n ≤ 9223372036854775807) :
    Calls Try.prog 58 #[.int .i64 n] w fun e w' => e = .returned (.bool (decide (8 ≤ n ∧ (n - 8) % 11 = 0 ∧ n ≤ 96))) ∧ w' = w := by
  have c4 : IntKind.i64.wrap ((n : Int) - 8) = n - 8 := by rw [IntKind.wrap_i64]; omega
  by_cases h1 : n < 8
  · have HR : Hid (decide (8 ≤ n ∧ (n - 8) % 11 = 0 ∧ n ≤ 96) = false) := by unfold Hid; simp; omega
    have d1 : decide ((0 : Int) ≤ (n : Int) - 8) = false := by simp; omega
    rw [HR.out]
    go_enter Try.func58, Try.ntmps58
    go_wp2
    go_ret
    exact ⟨rfl, rfl⟩
  · by_cases h2 : n ≤ 96
    · obtain ⟨q, hq⟩ : ∃ q, ((n : Int) - 8).tmod 11 = q := ⟨_, rfl⟩
      have hq2 : q = ((n : Int) - 8) % 11 := by rw [← hq, Int.tmod_eq_emod_of_nonneg (by omega)]
      have hq3 := hq2.symm
      have HR : Hid (decide (8 ≤ n ∧ (n - 8) % 11 = 0 ∧ n ≤ 96) = (q == 0)) := by
        unfold Hid
        by_cases h3 : q = 0
        · have h4 : 8 ≤ n ∧ (n - 8) % 11 = 0 ∧ n ≤ 96 := by omega
          rw [decide_eq_true h4, h3]
          rfl
        · have h4 : ¬ (8 ≤ n ∧ (n - 8) % 11 = 0 ∧ n ≤ 96) := by omega
          rw [decide_eq_false h4]
          simp [h3]
      have d1 : decide ((0 : Int) ≤ (n : Int) - 8) = true := by simp; omega
      have d2 : decide ((n : Int) - 8 ≤ 88) = true := by simp; omega
      rw [HR.out]
      clear hq2
      go_enter Try.func58, Try.ntmps58
      go_wp2
      go_ret
      exact ⟨rfl, rfl⟩
    · have HR : Hid (decide (8 ≤ n ∧ (n - 8) % 11 = 0 ∧ n ≤ 96) = false) := by unfold Hid; simp; omega
      have d1 : decide ((0 : Int) ≤ (n : Int) - 8) = true := by simp; omega
      have d2 : decide ((n : Int) - 8 ≤ 88) = false := by simp; omega
      rw [HR.out]
      go_enter Try.func58, Try.ntmps58
      go_wp2
      go_ret
      exact ⟨rfl, rfl⟩

theorem setKeep {w : World} {base : Nat} {F : Nat → Prop} {v : Value} {ys : List Leg} (h : legsR.O w base F v ys) {g : Nat} (hg : g < base) (a b c : Value) :
    legsR.O (((w.setCell ⟨g, 0, none⟩ a).setCell ⟨g, 1, none⟩ b).setCell ⟨g, 2, none⟩ c) base F v ys := legsR.set (legsR.set (legsR.set h _ hg) _ hg) _ hg

set_option maxHeartbeats 2000000 in
theorem specUnpC_u (x : Value) (xs : List Byte) (w : World) (hx : bytesR.V w x xs) :
    Calls Try.prog 29 #[x] w fun e w' => ∃ v F, e = .returned v ∧ contRR.O w' w.heap.size F v (unpD xs) ∧ Below w.heap.size w w' := by
  have hX := hx
  obtain ⟨ax, cx, rfl, hcx, hmx, _⟩ := hx
  by_cases h : 8 ≤ xs.length ∧ (xs.length - 8) % 11 = 0 ∧ xs.length ≤ 96
  · go_enter Try.func29, Try.ntmps29
    go_wp2_with fail
    refine (l3Uncontract_ok _ xs _ (bytesR.below hX (by (repeat (first | exact Below.refl _ _ | assumption | refine Below.drew ?_ | refine balloc ?_ _ | refine bset ?_ (by simp; omega) _ | refine bset ?_ (by simp) _ | refine bstep ?_ (by assumption))))) h.1 h.2.1 h.2.2).mono ?_
    rintro e w1 ⟨v, F, rfl, ho, hb⟩
    obtain ⟨p, q, rfl⟩ := legs_form (legsR.ofO ho)
    have hr0 : w1.cell? ⟨w.heap.size, 0, none⟩ = some (.int .i64 0) := cell_keep hb (by simp [go_sem])
    have hr1 : w1.cell? ⟨w.heap.size, 1, none⟩ = some (.int .i64 0) := cell_keep hb (by simp [go_sem])
    have hr2 : w1.cell? ⟨w.heap.size, 2, none⟩ = some (.slice none 0 0) := cell_keep hb (by simp [go_sem])
    obtain ⟨hrf, hlt⟩ := (boxNew3 hb rfl).2.2.2
    have hB : Below w.heap.size w w1 := by (repeat (first | exact Below.refl _ _ | assumption | refine Below.drew ?_ | refine balloc ?_ _ | refine bset ?_ (by simp; omega) _ | refine bset ?_ (by simp) _ | refine bstep ?_ (by assumption)))
    have ho' := legsR.base (base' := w.heap.size + 1) ho (by simp)
    clear ho hb
    by_cases hc : contractFault (unCont xs).id (unCont xs).legs = 0
    · have HD : Hid (unpD xs = ⟨0, unCont xs⟩) := if_pos ⟨h, hc⟩
      have e1 : decide (contractFault (unCont xs).id (unCont xs).legs = 0) = true := by simpa using hc
      rw [e1]
      have HU : Hid (unCont xs = ⟨(unCont xs).id, (unCont xs).legs⟩) := rfl
      clear hc e1
      go_wp2
      refine bodyPost_ret (v := .agg #[.int .i64 0, .int .i64 (unCont xs).id, .slice p (unCont xs).legs.length q]) (by simp [results, Try.results29, go_sem, hr0, hr1, hr2, hlt]) rfl ?_
      rw [HD.out]
      exact ⟨_, F, rfl, ⟨_, F, rfl, ⟨_, F, rfl, legsR.base (legsR.alloc (setKeep ho' (by omega) _ _ _) _) (by omega), fun b => Iff.rfl⟩, fun b => Iff.rfl⟩, by (repeat (first | exact Below.refl _ _ | assumption | refine Below.drew ?_ | refine balloc ?_ _ | refine bset ?_ (by simp; omega) _ | refine bset ?_ (by simp) _ | refine bstep ?_ (by assumption)))⟩
    · have HD : Hid (unpD xs = ⟨5, ⟨0, []⟩⟩) := if_neg (fun hh => hc hh.2)
      have e1 : decide (contractFault (unCont xs).id (unCont xs).legs = 0) = false := by simpa using hc
      rw [e1]
      clear hc e1
      go_wp2
      refine bodyPost_ret (v := .agg #[.int .i64 5, .int .i64 0, .slice none 0 0]) (by simp [results, Try.results29, go_sem, hr0, hr1, hr2, hlt]) rfl ?_
      rw [HD.out]
      first | exact ⟨_, none_, rfl, contR_nil _ _, by (repeat (first | exact Below.refl _ _ | assumption | refine Below.drew ?_ | refine balloc ?_ _ | refine bset ?_ (by simp; omega) _ | refine bset ?_ (by simp) _ | refine bstep ?_ (by assumption)))⟩ | exact ⟨_, rfl, ⟨none_, contR_nil _ _⟩, by (repeat (first | exact Below.refl _ _ | assumption | refine Below.drew ?_ | refine balloc ?_ _ | refine bset ?_ (by simp; omega) _ | refine bset ?_ (by simp) _ | refine bstep ?_ (by assumption)))⟩
  · have HD : Hid (unpD xs = ⟨5, ⟨0, []⟩⟩) := if_neg (fun hh => h hh.1)
    go_enter Try.func29, Try.ntmps29
    go_wp2_with fail
    refine (l3Uncontract_bad _ xs _ (bytesR.below hX (by (repeat (first | exact Below.refl _ _ | assumption | refine Below.drew ?_ | refine balloc ?_ _ | refine bset ?_ (by simp; omega) _ | refine bset ?_ (by simp) _ | refine bstep ?_ (by assumption))))) h).mono ?_
    rintro e w1 ⟨rfl, hb⟩
    have hr0 : w1.cell? ⟨w.heap.size, 0, none⟩ = some (.int .i64 0) := cell_keep hb (by simp [go_sem])
    have hr1 : w1.cell? ⟨w.heap.size, 1, none⟩ = some (.int .i64 0) := cell_keep hb (by simp [go_sem])
    have hr2 : w1.cell? ⟨w.heap.size, 2, none⟩ = some (.slice none 0 0) := cell_keep hb (by simp [go_sem])
    obtain ⟨hrf, hlt⟩ := (boxNew3 hb rfl).2.2.2
    have hB : Below w.heap.size w w1 := by (repeat (first | exact Below.refl _ _ | assumption | refine Below.drew ?_ | refine balloc ?_ _ | refine bset ?_ (by simp; omega) _ | refine bset ?_ (by simp) _ | refine bstep ?_ (by assumption)))
    clear hb
    go_wp2
    refine bodyPost_ret (v := .agg #[.int .i64 5, .int .i64 0, .slice none 0 0]) (by simp [results, Try.results29, go_sem, hr0, hr1, hr2, hlt]) rfl ?_
    rw [HD.out]
    first | exact ⟨_, none_, rfl, contR_nil _ _, by (repeat (first | exact Below.refl _ _ | assumption | refine Below.drew ?_ | refine balloc ?_ _ | refine bset ?_ (by simp; omega) _ | refine bset ?_ (by simp) _ | refine bstep ?_ (by assumption)))⟩ | exact ⟨_, rfl, ⟨none_, contR_nil _ _⟩, by (repeat (first | exact Below.refl _ _ | assumption | refine Below.drew ?_ | refine balloc ?_ _ | refine bset ?_ (by simp; omega) _ | refine bset ?_ (by simp) _ | refine bstep ?_ (by assumption)))⟩

set_option maxHeartbeats 2000000 in
theorem implUnpC_u (x : Value) (xs : List Byte) (w : World) (hx : bytesR.V w x xs) :
    Calls Try.prog 30 #[x] w fun e w' => ∃ v F, e = .returned v ∧ contRR.O w' w.heap.size F v (unpD xs) ∧ Below w.heap.size w w' := by
  have hX := hx
  obtain ⟨ax, cx, rfl, hcx, hmx, _⟩ := hx
  unfold maxLen at hmx
  go_enter Try.func30, Try.ntmps30
  go_wp2_with fail
  refine (isSize_any xs.length _ (by omega)).mono ?_
  rintro e w0 ⟨rfl, rfl⟩
  by_cases h : 8 ≤ xs.length ∧ (xs.length - 8) % 11 = 0 ∧ xs.length ≤ 96
  · have e0 : decide (8 ≤ xs.length ∧ (xs.length - 8) % 11 = 0 ∧ xs.length ≤ 96) = true := by simpa using h
    rw [e0]
    clear e0
    go_wp2_with fail
    refine (contractIn_any _ xs _ (bytesR.below hX (by (repeat (first | exact Below.refl _ _ | assumption | refine Below.drew ?_ | refine balloc ?_ _ | refine bset ?_ (by simp; omega) _ | refine bset ?_ (by simp) _ | refine bstep ?_ (by assumption))))) h.1 h.2.1 h.2.2).mono ?_
    rintro e w1 ⟨v, F, rfl, ho, hb⟩
    obtain ⟨p, q, rfl⟩ := legs_form (legsR.ofO ho)
    have hr0 : w1.cell? ⟨w.heap.size, 0, none⟩ = some (.int .i64 0) := cell_keep hb (by simp [go_sem])
    have hr1 : w1.cell? ⟨w.heap.size, 1, none⟩ = some (.int .i64 0) := cell_keep hb (by simp [go_sem])
    have hr2 : w1.cell? ⟨w.heap.size, 2, none⟩ = some (.slice none 0 0) := cell_keep hb (by simp [go_sem])
    have hrf := (boxNew3 hb rfl).2.2.2
    have hB : Below w.heap.size w w1 := by (repeat (first | exact Below.refl _ _ | assumption | refine Below.drew ?_ | refine balloc ?_ _ | refine bset ?_ (by simp; omega) _ | refine bset ?_ (by simp) _ | refine bstep ?_ (by assumption)))
    have ho' := legsR.base (base' := w.heap.size + 1) ho (by simp)
    clear ho hb
    go_wp2_with fail
    refine (implFault_any (unCont xs).id _ (unCont xs).legs _ (LegsV_below (legsR.ofO ho') (by (repeat (first | exact Below.refl _ _ | assumption | refine Below.drew ?_ | refine balloc ?_ _ | refine bset ?_ (by simp; omega) _ | refine bset ?_ (by simp) _ | refine bstep ?_ (by assumption)))))).mono ?_
    rintro e w2 ⟨rfl, hb2⟩
    have d0 : w2.cell? ⟨w1.heap.size, 0, none⟩ = some (.int .i64 (unCont xs).id) := cell_keep hb2 (by simp [go_sem])
    have d1 : w2.cell? ⟨w1.heap.size, 1, none⟩ = some (.slice p (unCont xs).legs.length q) := cell_keep hb2 (by simp [go_sem])
    replace hr0 := cell_keep hb2 (cell_keep (by (repeat (first | exact Below.refl _ _ | assumption | refine Below.drew ?_ | refine balloc ?_ _ | refine bset ?_ (by simp; omega) _ | refine bset ?_ (by simp) _ | refine bstep ?_ (by assumption)))) hr0)
    replace hr1 := cell_keep hb2 (cell_keep (by (repeat (first | exact Below.refl _ _ | assumption | refine Below.drew ?_ | refine balloc ?_ _ | refine bset ?_ (by simp; omega) _ | refine bset ?_ (by simp) _ | refine bstep ?_ (by assumption)))) hr1)
    replace hr2 := cell_keep hb2 (cell_keep (by (repeat (first | exact Below.refl _ _ | assumption | refine Below.drew ?_ | refine balloc ?_ _ | refine bset ?_ (by simp; omega) _ | refine bset ?_ (by simp) _ | refine bstep ?_ (by assumption)))) hr2)
    obtain ⟨hrf, hlt⟩ := boxKeep (boxKeep hrf (by (repeat (first | exact Below.refl _ _ | assumption | refine Below.drew ?_ | refine balloc ?_ _ | refine bset ?_ (by simp; omega) _ | refine bset ?_ (by simp) _ | refine bstep ?_ (by assumption))))) hb2
    have hB2 : Below w.heap.size w w2 := by (repeat (first | exact Below.refl _ _ | assumption | refine Below.drew ?_ | refine balloc ?_ _ | refine bset ?_ (by simp; omega) _ | refine bset ?_ (by simp) _ | refine bstep ?_ (by assumption)))
    replace ho' := legsR.keep (legsR.alloc ho' _) hb2
    clear hb2
    by_cases hc : contractFault (unCont xs).id (unCont xs).legs = 0
    · have HD : Hid (unpD xs = ⟨0, unCont xs⟩) := if_pos ⟨h, hc⟩
      rw [hc]
      clear hc
      go_wp2
      refine bodyPost_ret (v := .agg #[.int .i64 0, .int .i64 (unCont xs).id, .slice p (unCont xs).legs.length q]) (by simp [results, Try.results30, go_sem, hr0, hr1, hr2]) rfl ?_
      rw [HD.out]
      exact ⟨_, F, rfl, ⟨_, F, rfl, ⟨_, F, rfl, legsR.base (setKeep ho' (by omega) _ _ _) (by omega), fun b => Iff.rfl⟩, fun b => Iff.rfl⟩, by (repeat (first | exact Below.refl _ _ | assumption | refine Below.drew ?_ | refine balloc ?_ _ | refine bset ?_ (by simp; omega) _ | refine bset ?_ (by simp) _ | refine bstep ?_ (by assumption)))⟩
    · have HD : Hid (unpD xs = ⟨5, ⟨0, []⟩⟩) := if_neg (fun hh => hc hh.2)
      have hd : (contractFault (unCont xs).id (unCont xs).legs == 0) = false := by simpa using hc
      go_wp2
      refine bodyPost_ret (v := .agg #[.int .i64 5, .int .i64 0, .slice none 0 0]) (by simp [results, Try.results30, go_sem, hr0, hr1, hr2]) rfl ?_
      rw [HD.out]
      first | exact ⟨_, none_, rfl, contR_nil _ _, by (repeat (first | exact Below.refl _ _ | assumption | refine Below.drew ?_ | refine balloc ?_ _ | refine bset ?_ (by simp; omega) _ | refine bset ?_ (by simp) _ | refine bstep ?_ (by assumption)))⟩ | exact ⟨_, rfl, ⟨none_, contR_nil _ _⟩, by (repeat (first | exact Below.refl _ _ | assumption | refine Below.drew ?_ | refine balloc ?_ _ | refine bset ?_ (by simp; omega) _ | refine bset ?_ (by simp) _ | refine bstep ?_ (by assumption)))⟩
  · have HD : Hid (unpD xs = ⟨5, ⟨0, []⟩⟩) := if_neg (fun hh => h hh.1)
    have e0 : decide (8 ≤ xs.length ∧ (xs.length - 8) % 11 = 0 ∧ xs.length ≤ 96) = false := by simpa using h
    rw [e0]
    clear e0
    go_wp2
    refine bodyPost_ret (v := .agg #[.int .i64 5, .int .i64 0, .slice none 0 0]) (by simp [results, Try.results30, go_sem]) rfl ?_
    rw [HD.out]
    first | exact ⟨_, none_, rfl, contR_nil _ _, by (repeat (first | exact Below.refl _ _ | assumption | refine Below.drew ?_ | refine balloc ?_ _ | refine bset ?_ (by simp; omega) _ | refine bset ?_ (by simp) _ | refine bstep ?_ (by assumption)))⟩ | exact ⟨_, rfl, ⟨none_, contR_nil _ _⟩, by (repeat (first | exact Below.refl _ _ | assumption | refine Below.drew ?_ | refine balloc ?_ _ | refine bset ?_ (by simp; omega) _ | refine bset ?_ (by simp) _ | refine bstep ?_ (by assumption)))⟩

theorem unpD_wt (xs : List Byte) : wtContR (unpD xs) ≤ 8 := by
  unfold unpD
  split
  · rename_i h
    unfold wtContR wtCont wtLegs unCont
    rw [length_unLegs]
    omega
  · simp [wtContR, wtCont, wtLegs]

end Go.Proofs.Ythikaieobdhckaa
