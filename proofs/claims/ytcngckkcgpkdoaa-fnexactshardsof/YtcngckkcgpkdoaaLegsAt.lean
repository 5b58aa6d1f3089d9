/-
  LegsAt on both sides.
-/
import Derived.Test.YtcngckkcgpkdoaaLegsOn
namespace Go.Proofs.Ytcngckkcgpkdoaa
open Go.RowKit
set_option linter.unusedSectionVars false
variable [DecidableEq Leg] [Inhabited Leg]
attribute [local go_sem ↓] Go.wp_at_zero Go.wp_at_succ

def atLegs (id : Int) (xs : List Leg) (s : Int) : List Leg := if contractFault id xs = 0 ∧ inB s 0 2 = true then onSh s xs else []
theorem atLegs_not {id : Int} {xs : List Leg} {s : Int} (h : ¬ (contractFault id xs = 0 ∧ inB s 0 2 = true)) : atLegs id xs s = [] := if_neg h
theorem atLegs_le (id : Int) (xs : List Leg) (s : Int) (h : xs.length ≤ 1048576) : (atLegs id xs s).length ≤ 1048576 := by
  unfold atLegs
  split
  · exact Nat.le_trans (List.length_filter_le _ _) h
  · simp
theorem owns_none (w : World) (base e : Nat) {ys : List Leg} (h : ys = []) : w.ownsRow base e 4 (.slice none 0 0) ys.length (legsC ys) := by
  subst h; exact World.ownsRow_nil _ _ _ _

set_option maxHeartbeats 1000000 in
theorem specLegsAt_any (id : Int) (x : Value) (xs : List Leg) (s : Int) (w : World) (hx : LegsV w x xs) :
    Calls Try.prog 24 #[.agg #[.int .i64 id, x], .int .i64 s] w fun e w' => ∃ v, e = .returned (.agg #[.int .i64 (sumCode id xs s), v]) ∧ w'.ownsRow w.heap.size 25 4 v (atLegs id xs s).length (legsC (atLegs id xs s)) ∧ Below w.heap.size w w' := by
  go_enter Try.func24, Try.ntmps24
  go_wp2_with fail
  refine (specFault_any id x xs _ (LegsV_below hx (balloc (balloc (Below.refl _ _) _) _))).mono ?_
  rintro e w1 ⟨rfl, hb1⟩
  have hB1 : Below w.heap.size w w1 := bstep (balloc (balloc (Below.refl _ _) _) _) hb1
  obtain ⟨hc1, hf1⟩ := bcell hb1
  by_cases hcf : contractFault id xs = 0
  · have HC : Hid (contractFault id xs = 0) := hcf
    rw [hcf]
    clear hcf
    cases ha : inB s 0 2 with
    | false =>
      go_wp2_with (go_at_call 39; refine (l1In_any _ _ _ _).mono ?_; rintro e w' ⟨rfl, rfl⟩)
      refine bodyPost_ret (v := .agg #[.int .i64 3, .slice none 0 0]) ?_ rfl ⟨.slice none 0 0, ?_, owns_none _ _ _ (atLegs_not (by simp [ha])), bset (bset hB1 (by simp) _) (by simp) _⟩
      · simp [results, Try.results24, go_sem, hc1]
      · simp [sumCode, HC.out, ha]
    | true =>
      obtain ⟨_, hl2, hl8, _⟩ := cf_inv HC.out
      have hcb0 : w1.cell? ⟨w.heap.size, 0, none⟩ = some (.int .i64 id) := by rw [hc1 _ _ (by simp; omega)]; simp [go_sem]
      have hcb : w1.cell? ⟨w.heap.size, 1, none⟩ = some x := by rw [hc1 _ _ (by simp; omega)]; simp [go_sem]
      have hr0 : w1.cell? ⟨w.heap.size + 1, 0, none⟩ = some (.int .i64 0) := by rw [hc1 _ _ (by simp)]; simp [go_sem]
      have hr1 : w1.cell? ⟨w.heap.size + 1, 1, none⟩ = some (.slice none 0 0) := by rw [hc1 _ _ (by simp)]; simp [go_sem]
      have hrf : ∀ o, w1.frozen? ⟨w.heap.size + 1, o, none⟩ = false := fun o => by rw [hf1 _ _ (by simp)]; simp [go_sem]
      have hz : w.heap.size + 1 < w1.heap.size := World.block_lt_of_cell? _ _ hr0
      clear hc1 hf1 hb1
      go_wp2_with (go_at_call 39; refine (l1In_any _ _ _ _).mono ?_; rintro e w' ⟨rfl, rfl⟩)
      go_wp2_with fail
      refine (l1Legs_any id x xs s _ (LegsV_below hx hB1) (by omega)).mono ?_
      rintro e w2 ⟨v, rfl, ho, hb2⟩
      obtain ⟨p, q, rfl⟩ := owns_form ho
      have hB2 := bstep hB1 hb2
      have hr0 := cell_keep hb2 hr0
      have hr1 := cell_keep hb2 hr1
      have hrf2 : ∀ o, w2.frozen? ⟨w.heap.size + 1, o, none⟩ = false := fun o => by rw [(bcell hb2).2 _ _ hz]; exact hrf o
      clear hb2 hrf
      go_wp2
      have hal : atLegs id xs s = onSh s xs := if_pos ⟨HC.out, ha⟩
      refine bodyPost_ret (v := .agg #[.int .i64 0, .slice p (onSh s xs).length q]) ?_ rfl ⟨.slice p (onSh s xs).length q, ?_, ?_, bset (bset hB2 (by simp) _) (by simp) _⟩
      · simp [results, Try.results24, go_sem, hr0, hr1]
      · simp [sumCode, HC.out, ha]
      · rw [hal]
        exact owns_base (owns_setCell (owns_setCell ho (by simp; omega) _) (by simp; omega) _) (by omega)
  · have hd : (contractFault id xs == 0) = false := by simpa using hcf
    go_wp2
    refine bodyPost_ret (v := .agg #[.int .i64 (contractFault id xs), .slice none 0 0]) ?_ rfl ⟨.slice none 0 0, ?_, owns_none _ _ _ (atLegs_not (by simp [hcf])), bset (bset hB1 (by simp) _) (by simp) _⟩
    · simp [results, Try.results24, go_sem, hc1]
    · simp [sumCode, hcf]

set_option maxHeartbeats 1000000 in
theorem implLegsAt_any (id : Int) (x : Value) (xs : List Leg) (s : Int) (w : World) (hx : LegsV w x xs) :
    Calls Try.prog 25 #[.agg #[.int .i64 id, x], .int .i64 s] w fun e w' => ∃ v, e = .returned (.agg #[.int .i64 (sumCode id xs s), v]) ∧ w'.ownsRow w.heap.size 25 4 v (atLegs id xs s).length (legsC (atLegs id xs s)) ∧ Below w.heap.size w w' := by
  go_enter Try.func25, Try.ntmps25
  go_wp2_with fail
  refine (implFault_any id x xs _ (LegsV_below hx (balloc (balloc (Below.refl _ _) _) _))).mono ?_
  rintro e w1 ⟨rfl, hb1⟩
  have hB1 : Below w.heap.size w w1 := bstep (balloc (balloc (Below.refl _ _) _) _) hb1
  obtain ⟨hc1, hf1⟩ := bcell hb1
  by_cases hcf : contractFault id xs = 0
  · have HC : Hid (contractFault id xs = 0) := hcf
    rw [hcf]
    clear hcf
    cases ha : inB s 0 2 with
    | false =>
      go_wp2_with (go_at_call 56; refine (isShard_any _ _).mono ?_; rintro e w' ⟨rfl, rfl⟩)
      refine bodyPost_ret (v := .agg #[.int .i64 3, .slice none 0 0]) ?_ rfl ⟨.slice none 0 0, ?_, owns_none _ _ _ (atLegs_not (by simp [ha])), bset (bset hB1 (by simp) _) (by simp) _⟩
      · simp [results, Try.results25, go_sem, hc1]
      · simp [sumCode, HC.out, ha]
    | true =>
      obtain ⟨_, hl2, hl8, _⟩ := cf_inv HC.out
      have hcb0 : w1.cell? ⟨w.heap.size, 0, none⟩ = some (.int .i64 id) := by rw [hc1 _ _ (by simp; omega)]; simp [go_sem]
      have hcb : w1.cell? ⟨w.heap.size, 1, none⟩ = some x := by rw [hc1 _ _ (by simp; omega)]; simp [go_sem]
      have hr0 : w1.cell? ⟨w.heap.size + 1, 0, none⟩ = some (.int .i64 0) := by rw [hc1 _ _ (by simp)]; simp [go_sem]
      have hr1 : w1.cell? ⟨w.heap.size + 1, 1, none⟩ = some (.slice none 0 0) := by rw [hc1 _ _ (by simp)]; simp [go_sem]
      have hrf : ∀ o, w1.frozen? ⟨w.heap.size + 1, o, none⟩ = false := fun o => by rw [hf1 _ _ (by simp)]; simp [go_sem]
      have hz : w.heap.size + 1 < w1.heap.size := World.block_lt_of_cell? _ _ hr0
      clear hc1 hf1 hb1
      go_wp2_with (go_at_call 56; refine (isShard_any _ _).mono ?_; rintro e w' ⟨rfl, rfl⟩)
      go_wp2_with fail
      refine (legsOn_any x xs s _ (LegsV_below hx hB1) (by omega)).mono ?_
      rintro e w2 ⟨v, rfl, ho, hb2⟩
      obtain ⟨p, q, rfl⟩ := owns_form ho
      have hB2 := bstep hB1 hb2
      have hr0 := cell_keep hb2 hr0
      have hr1 := cell_keep hb2 hr1
      have hrf2 : ∀ o, w2.frozen? ⟨w.heap.size + 1, o, none⟩ = false := fun o => by rw [(bcell hb2).2 _ _ hz]; exact hrf o
      clear hb2 hrf
      go_wp2
      have hal : atLegs id xs s = onSh s xs := if_pos ⟨HC.out, ha⟩
      refine bodyPost_ret (v := .agg #[.int .i64 0, .slice p (onSh s xs).length q]) ?_ rfl ⟨.slice p (onSh s xs).length q, ?_, ?_, bset (bset hB2 (by simp) _) (by simp) _⟩
      · simp [results, Try.results25, go_sem, hr0, hr1]
      · simp [sumCode, HC.out, ha]
      · rw [hal]
        exact owns_base (owns_setCell (owns_setCell ho (by simp; omega) _) (by simp; omega) _) (by omega)
  · have hd : (contractFault id xs == 0) = false := by simpa using hcf
    go_wp2
    refine bodyPost_ret (v := .agg #[.int .i64 (contractFault id xs), .slice none 0 0]) ?_ rfl ⟨.slice none 0 0, ?_, owns_none _ _ _ (atLegs_not (by simp [hcf])), bset (bset hB1 (by simp) _) (by simp) _⟩
    · simp [results, Try.results25, go_sem, hc1]
    · simp [sumCode, hcf]

end Go.Proofs.Ytcngckkcgpkdoaa
