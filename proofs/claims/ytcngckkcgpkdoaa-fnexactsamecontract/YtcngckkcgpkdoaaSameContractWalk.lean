/-
  Proved: laws.FnExactSameContract answers true at every argument, and its arguments read behind the call as they read before. No condition. (The walk.)
-/
import Derived.Test.YtcngckkcgpkdoaaSame
namespace Go.Proofs.Ytcngckkcgpkdoaa.sameContractLaw
open Go.RowKit
set_option linter.unusedSectionVars false
variable [DecidableEq Leg] [Inhabited Leg]
attribute [local go_sem ↓] Go.wp_at_zero Go.wp_at_succ

set_option maxHeartbeats 1000000 in
theorem walk (id : Int) (x : Value) (xs : List Leg) (id' : Int) (y : Value) (ys : List Leg) (w : World) (hx : LegsV w x xs) (hy : LegsV w y ys) :
    Calls Try.prog 9 #[.agg #[.int .i64 id, x], .agg #[.int .i64 id', y]] w fun e w' => e = .returned (.bool true) ∧ Below w.heap.size w w' := by
  go_enter Try.func9, Try.ntmps9
  go_wp2_with fail
  refine (szContract_any id x xs 1048576 _ (LegsV_below hx (balloc (balloc (Below.refl _ _) _) _)) (by omega) (by omega)).mono ?_
  rintro e w1 ⟨rfl, hb1⟩
  have hB1 : Below w.heap.size w w1 := bstep (balloc (balloc (Below.refl _ _) _) _) hb1
  have c0 : w1.cell? ⟨w.heap.size, 0, none⟩ = some (.int .i64 id) := cell_keep hb1 (by simp [go_sem])
  have c1 : w1.cell? ⟨w.heap.size, 1, none⟩ = some x := cell_keep hb1 (by simp [go_sem])
  have c2 : w1.cell? ⟨w.heap.size + 1, 0, none⟩ = some (.int .i64 id') := cell_keep hb1 (by simp [go_sem])
  have c3 : w1.cell? ⟨w.heap.size + 1, 1, none⟩ = some y := cell_keep hb1 (by simp [go_sem])
  clear hb1
  by_cases hsz : 1048576 < (xs.length : Int)
  · have e1 : szF 1048576 xs.length = -1 := by simp [szF, hsz]
    rw [e1]
    go_wp2
    go_ret
    exact ⟨rfl, hB1⟩
  have hn : xs.length ≤ 1048576 := by omega
  have e1 : szF 1048576 xs.length = 1048576 - xs.length := by rw [szF, if_neg hsz]
  have e2 : ¬ (1048576 : Int) - xs.length < 0 := by omega
  rw [e1]
  clear e1
  go_wp2_with fail
  refine (szContract_any id' y ys (1048576 - xs.length) _ (LegsV_below hy hB1) (by omega) (by omega)).mono ?_
  rintro e w2 ⟨rfl, hb2⟩
  have hB2 := bstep hB1 hb2
  replace c0 := cell_keep hb2 c0
  replace c1 := cell_keep hb2 c1
  replace c2 := cell_keep hb2 c2
  replace c3 := cell_keep hb2 c3
  clear hb2 hB1
  by_cases hsz2 : (1048576 : Int) - xs.length < (ys.length : Int)
  · have e1 : szF (1048576 - xs.length) ys.length = -1 := by simp [szF, hsz2]
    rw [e1]
    go_wp2
    go_ret
    exact ⟨rfl, hB2⟩
  have hm : ys.length ≤ 1048576 := by omega
  have e1 : szF (1048576 - xs.length) ys.length = 1048576 - xs.length - ys.length := by rw [szF, if_neg hsz2]
  have e3 : ¬ (1048576 : Int) - xs.length - ys.length < 0 := by omega
  rw [e1]
  clear e1
  go_wp2
  go_region_held3 (fun w' => Below w2.heap.size w2 w' ∧ w'.cell? ⟨w.heap.size, 0, none⟩ = some (.int .i64 id) ∧ w'.cell? ⟨w.heap.size, 1, none⟩ = some x ∧ w'.cell? ⟨w.heap.size + 1, 0, none⟩ = some (.int .i64 id') ∧ w'.cell? ⟨w.heap.size + 1, 1, none⟩ = some y) ((refine keepC4 ?_ c0 c1 c2 c3; repeat (first | exact Below.refl _ _ | assumption | refine Below.drew ?_ | refine balloc ?_ _ | refine bstep ?_ (by assumption))))
    (first | (go_at_call 15; go_at_call_of 15 (x); refine (toContract_any id x xs _ (LegsV_below hx hB2.drew) hn).mono ?_; rintro e wa ⟨va, rfl, hoa, hba⟩; obtain ⟨pa, qa, rfl⟩ := owns_form hoa) | (go_at_call 15; go_at_call_of 15 (y); refine (toContract_any id' y ys _ (LegsV_below hy (bstep hB2.drew hba)) hm).mono ?_; rintro e wb ⟨vb, rfl, hob, hbb⟩; obtain ⟨pb, qb, rfl⟩ := owns_form hob) | (go_at_call 37; refine (specSame_any id id' _ _ xs ys _ (LegsV_of_owns (owns_below hoa hbb)) (LegsV_of_owns hob)).mono ?_; rintro e wc ⟨rfl, hbc⟩))
  rename_i hH
  have hB3 := bstep hB2 hH.1
  replace c0 := hH.2.1
  replace c1 := hH.2.2.1
  replace c2 := hH.2.2.2.1
  replace c3 := hH.2.2.2.2
  clear hH hoa hob hba hbb hbc hB2
  go_wp2_with fail
  refine (toContract_any id x xs _ (LegsV_below hx hB3) hn).mono ?_
  rintro e w4 ⟨v4, rfl, ho4, hb4⟩
  obtain ⟨p4, q4, rfl⟩ := owns_form ho4
  have hB4 := balloc (bstep hB3 hb4) (.cells #[.int .i64 id, .slice p4 xs.length q4] 35)
  have k4 := balloc hb4 (.cells #[.int .i64 id, .slice p4 xs.length q4] 35)
  replace c0 := cell_keep k4 c0
  replace c1 := cell_keep k4 c1
  replace c2 := cell_keep k4 c2
  replace c3 := cell_keep k4 c3
  have d0 : (w4.alloc (.cells #[.int .i64 id, .slice p4 xs.length q4] 35)).cell? ⟨w4.heap.size, 0, none⟩ = some (.int .i64 id) := by simp [go_sem]
  have d1 : (w4.alloc (.cells #[.int .i64 id, .slice p4 xs.length q4] 35)).cell? ⟨w4.heap.size, 1, none⟩ = some (.slice p4 xs.length q4) := by simp [go_sem]
  replace ho4 := owns_below ho4 (balloc (Below.refl _ _) (.cells #[.int .i64 id, .slice p4 xs.length q4] 35))
  clear hb4 hB3 k4
  go_wp2_with fail
  refine (toContract_any id' y ys _ (LegsV_below hy hB4) hm).mono ?_
  rintro e w5 ⟨v5, rfl, ho5, hb5⟩
  obtain ⟨p5, q5, rfl⟩ := owns_form ho5
  have hB5 := balloc (bstep hB4 hb5) (.cells #[.int .i64 id', .slice p5 ys.length q5] 35)
  have k5 := balloc hb5 (.cells #[.int .i64 id', .slice p5 ys.length q5] 35)
  replace ho4 := owns_below ho4 k5
  replace ho5 := owns_below ho5 (balloc (Below.refl _ _) (.cells #[.int .i64 id', .slice p5 ys.length q5] 35))
  have z5 : w4.heap.size < w5.heap.size := World.block_lt_of_cell? _ _ (cell_keep hb5 d0)
  have r0 := cell_keep hb5 d0
  have r1 := cell_keep hb5 d1
  replace c0 := cell_keep k5 c0
  replace c1 := cell_keep k5 c1
  replace c2 := cell_keep k5 c2
  replace c3 := cell_keep k5 c3
  replace d0 := cell_keep k5 d0
  replace d1 := cell_keep k5 d1
  have f0 : (w5.alloc (.cells #[.int .i64 id', .slice p5 ys.length q5] 35)).cell? ⟨w5.heap.size, 0, none⟩ = some (.int .i64 id') := by simp [go_sem]
  have f1 : (w5.alloc (.cells #[.int .i64 id', .slice p5 ys.length q5] 35)).cell? ⟨w5.heap.size, 1, none⟩ = some (.slice p5 ys.length q5) := by simp [go_sem]
  clear hb5 hB4 k5
  go_wp2_with fail
  refine (implSame_any id id' _ _ xs ys _ (LegsV_of_owns ho4) (LegsV_of_owns ho5)).mono ?_
  rintro e w6 ⟨rfl, hb6⟩
  have hB6 := bstep hB5 hb6
  replace c0 := cell_keep hb6 c0
  replace c1 := cell_keep hb6 c1
  replace c2 := cell_keep hb6 c2
  replace c3 := cell_keep hb6 c3
  replace d0 := cell_keep hb6 d0
  replace d1 := cell_keep hb6 d1
  replace f0 := cell_keep hb6 f0
  replace f1 := cell_keep hb6 f1
  replace ho4 := owns_below ho4 hb6
  replace ho5 := owns_below ho5 hb6
  clear hb6 hB5 r0 r1
  go_wp2
  go_region_held3 (fun w' => Below w6.heap.size w6 w' ∧ w'.cell? ⟨w.heap.size, 0, none⟩ = some (.int .i64 id) ∧ w'.cell? ⟨w.heap.size, 1, none⟩ = some x ∧ w'.cell? ⟨w4.heap.size, 0, none⟩ = some (.int .i64 id) ∧ w'.cell? ⟨w4.heap.size, 1, none⟩ = some (.slice p4 xs.length q4)) ((refine keepC4 ?_ c0 c1 d0 d1; repeat (first | exact Below.refl _ _ | assumption | refine Below.drew ?_ | refine balloc ?_ _ | refine bstep ?_ (by assumption))))
    (first | (go_at_call 15; refine (toContract_any id x xs _ (LegsV_below hx hB6.drew) hn).mono ?_; rintro e w7 ⟨v7, rfl, ho7, hb7⟩; obtain ⟨p7, q7, rfl⟩ := owns_form ho7) | (go_at_call 17; refine (eqContract_any id id _ _ xs xs _ (LegsV_below (LegsV_of_owns ho4) (bstep (Below.refl _ _).drew hb7)) (LegsV_of_owns ho7)).mono ?_; rintro e w8 ⟨rfl, hb8⟩))
  rename_i hH
  have hB8 := bstep hB6 hH.1
  replace c2 := cell_keep hH.1 c2
  replace c3 := cell_keep hH.1 c3
  replace f0 := cell_keep hH.1 f0
  replace f1 := cell_keep hH.1 f1
  replace ho5 := owns_below ho5 hH.1
  clear hH c0 c1 d0 d1 ho4 ho7 hb7 hb8 hB6
  go_wp2
  go_region_held3 (fun w' => Below w8.heap.size w8 w' ∧ w'.cell? ⟨w.heap.size + 1, 0, none⟩ = some (.int .i64 id') ∧ w'.cell? ⟨w.heap.size + 1, 1, none⟩ = some y ∧ w'.cell? ⟨w5.heap.size, 0, none⟩ = some (.int .i64 id') ∧ w'.cell? ⟨w5.heap.size, 1, none⟩ = some (.slice p5 ys.length q5)) ((refine keepC4 ?_ c2 c3 f0 f1; repeat (first | exact Below.refl _ _ | assumption | refine Below.drew ?_ | refine balloc ?_ _ | refine bstep ?_ (by assumption))))
    (first | (go_at_call 15; refine (toContract_any id' y ys _ (LegsV_below hy hB8.drew) hm).mono ?_; rintro e w9 ⟨v9, rfl, ho9, hb9⟩; obtain ⟨p9, q9, rfl⟩ := owns_form ho9) | (go_at_call 17; refine (eqContract_any id' id' _ _ ys ys _ (LegsV_below (LegsV_of_owns ho5) (bstep (Below.refl _ _).drew hb9)) (LegsV_of_owns ho9)).mono ?_; rintro e w10 ⟨rfl, hb10⟩))
  rename_i hH
  have hB10 := bstep hB8 hH.1
  clear hH
  go_wp2
  go_ret
  exact ⟨rfl, hB10⟩


end Go.Proofs.Ytcngckkcgpkdoaa.sameContractLaw
