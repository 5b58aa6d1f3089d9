/-
  Proved: laws.FnExactSumOf answers true at every argument, and its arguments read behind the call as they read before. No condition.
-/
import Derived.Test.YtcngckkcgpkdoaaSumOf
import Derived.Test.YtcngckkcgpkdoaaOpenLegs
namespace Go.Proofs.Ytcngckkcgpkdoaa.sumOfLaw
open Go.ChangeShapes Go.WideShapes Go.ChangeAt Go.RowKit Go.Joins

set_option linter.unusedSectionVars false
section
variable [DecidableEq Leg] [Inhabited Leg]
attribute [local go_sem ↓] Go.wp_at_zero Go.wp_at_succ

set_option maxHeartbeats 1000000 in
theorem walk (id : Int) (x : Value) (xs : List Leg) (asset : Int) (w : World) (hx : LegsV w x xs) :
    Calls Try.prog 7 #[.agg #[.int .i64 id, x], .int .i64 asset] w fun e w' => e = .returned (.bool true) ∧ Below w.heap.size w w' := by
  go_enter Try.func7, Try.ntmps7
  go_wp2_with fail
  refine (szContract_any id x xs 1048576 _ (LegsV_below hx (balloc (Below.refl _ _) _)) (by omega) (by omega)).mono ?_
  rintro e w1 ⟨rfl, hb1⟩
  have hB1 : Below w.heap.size w w1 := bstep (balloc (Below.refl _ _) _) hb1
  have hz1 : w.heap.size < w1.heap.size := by have := hb1.size; simp at this; omega
  have hc1 : w1.cell? ⟨w.heap.size, 0, none⟩ = some (.int .i64 id) := by rw [(bcell hb1).1 _ _ (by simp)]; simp [go_sem]
  have hc1' : w1.cell? ⟨w.heap.size, 1, none⟩ = some x := by rw [(bcell hb1).1 _ _ (by simp)]; simp [go_sem]
  clear hb1
  by_cases hsz : 1048576 < (xs.length : Int)
  · have e1 : szF 1048576 xs.length = -1 := by simp [szF, hsz]
    rw [e1]
    go_wp2
    go_ret
    exact ⟨rfl, hB1⟩
  · have hn : xs.length ≤ 1048576 := by omega
    have e1 : szF 1048576 xs.length = 1048576 - xs.length := by rw [szF, if_neg hsz]
    have e2 : ¬ (1048576 : Int) - xs.length < 0 := by omega
    rw [e1]
    clear e1
    go_wp2_with fail
    refine (toContract_any id x xs _ (LegsV_below hx hB1) hn).mono ?_
    rintro e w2 ⟨v1, rfl, ho1, hb2⟩
    obtain ⟨p1, q1, rfl⟩ := owns_form ho1
    have hc2 := cell_keep hb2 hc1
    have hc2' := cell_keep hb2 hc1'
    have hB2 := bstep hB1 hb2
    clear hc1 hc1' hb2 hB1
    go_wp2_with fail
    refine (specSumOf_any id _ xs asset _ (LegsV_of_owns ho1)).mono ?_
    rintro e w3 ⟨rfl, hb3⟩
    have hB3 := balloc (bstep hB2 hb3) (.cells #[.int .i64 (sumCode id xs asset), .int .i64 (sumVal id xs asset)] 53)
    have hc3 := cell_keep (balloc hb3 (.cells #[.int .i64 (sumCode id xs asset), .int .i64 (sumVal id xs asset)] 53)) hc2
    have hc3' := cell_keep (balloc hb3 (.cells #[.int .i64 (sumCode id xs asset), .int .i64 (sumVal id xs asset)] 53)) hc2'
    have d3 : (w3.alloc (.cells #[.int .i64 (sumCode id xs asset), .int .i64 (sumVal id xs asset)] 53)).cell? ⟨w3.heap.size, 0, none⟩ = some (.int .i64 (sumCode id xs asset)) := by simp [go_sem]
    have d3' : (w3.alloc (.cells #[.int .i64 (sumCode id xs asset), .int .i64 (sumVal id xs asset)] 53)).cell? ⟨w3.heap.size, 1, none⟩ = some (.int .i64 (sumVal id xs asset)) := by simp [go_sem]
    clear hc2 hc2' hb3 hB2 ho1
    go_wp2_with fail
    refine (toContract_any id x xs _ (LegsV_below hx hB3) hn).mono ?_
    rintro e w4 ⟨v2, rfl, ho2, hb4⟩
    obtain ⟨p2, q2, rfl⟩ := owns_form ho2
    have hc4 := cell_keep hb4 hc3
    have hc4' := cell_keep hb4 hc3'
    have d4 := cell_keep hb4 d3
    have d4' := cell_keep hb4 d3'
    have hB4 := bstep hB3 hb4
    clear hc3 hc3' hb4 hB3 d3 d3'
    go_wp2_with fail
    refine (implSumOf_any id _ xs asset _ (LegsV_of_owns (owns_below ho2 (balloc (Below.refl _ _) _)))).mono ?_
    rintro e w5 ⟨rfl, hb5⟩
    have hB5 := bstep (balloc hB4 _) hb5
    have hV5 := LegsV_of_owns (owns_below (owns_below ho2 (balloc (Below.refl _ _) _)) hb5)
    have c1 := cell_keep hb5 (cell_keep (balloc (Below.refl _ _) _) hc4)
    have c2 := cell_keep hb5 (cell_keep (balloc (Below.refl _ _) _) hc4')
    have d1 := cell_keep hb5 (cell_keep (balloc (Below.refl _ _) _) d4)
    have d2 := cell_keep hb5 (cell_keep (balloc (Below.refl _ _) _) d4')
    have c3 : w5.cell? ⟨w4.heap.size, 0, none⟩ = some (.int .i64 id) := cell_keep hb5 (by simp [go_sem])
    have c4 : w5.cell? ⟨w4.heap.size, 1, none⟩ = some (.slice p2 xs.length q2) := cell_keep hb5 (by simp [go_sem])
    have z1 : w.heap.size < w5.heap.size := World.block_lt_of_cell? _ _ c1
    have z2 : w3.heap.size < w5.heap.size := World.block_lt_of_cell? _ _ d1
    have z3 : w4.heap.size < w5.heap.size := World.block_lt_of_cell? _ _ c3
    clear hb5 hB4 ho2 hc4 hc4' d4 d4'
    go_wp2_with fail
    refine (eqIntResult_any _ _ _ _ _).mono ?_
    rintro e w6 ⟨rfl, hb6⟩
    have c1 := cell_keep hb6 (cell_keep (balloc (Below.refl _ _) _) c1)
    have c2 := cell_keep hb6 (cell_keep (balloc (Below.refl _ _) _) c2)
    have c3 := cell_keep hb6 (cell_keep (balloc (Below.refl _ _) _) c3)
    have c4 := cell_keep hb6 (cell_keep (balloc (Below.refl _ _) _) c4)
    have hB6 := bstep (balloc hB5 _) hb6
    have hV6 := LegsV_below (LegsV_below hV5 (balloc (Below.refl _ _) _)) hb6
    clear hb6 hB5 hV5
    go_wp2
    go_region_held3 (fun w' => Below w6.heap.size w6 w' ∧ w'.cell? ⟨w.heap.size, 0, none⟩ = some (.int .i64 id) ∧ w'.cell? ⟨w.heap.size, 1, none⟩ = some x ∧ w'.cell? ⟨w4.heap.size, 0, none⟩ = some (.int .i64 id) ∧ w'.cell? ⟨w4.heap.size, 1, none⟩ = some (.slice p2 xs.length q2))
      ((refine keepC4 ?_ c1 c2 c3 c4; repeat (first | exact Below.refl _ _ | assumption | refine Below.drew ?_ | refine balloc ?_ _ | refine bstep ?_ (by assumption))))
      (first | (go_at_call 15; refine (toContract_any id x xs _ (LegsV_below hx hB6.drew) hn).mono ?_; rintro e w7 ⟨v3, rfl, ho3, hb7⟩; obtain ⟨p3, q3, rfl⟩ := owns_form ho3) | (go_at_call 17; refine (eqContract_any id id _ _ xs xs _ (LegsV_below hV6 (bstep (Below.refl _ _).drew hb7)) (LegsV_of_owns ho3)).mono ?_; rintro e w8 ⟨rfl, hb8⟩))
    rename_i hH
    have hB := bstep hB6 hH.1
    clear hH
    go_wp2
    go_ret
    exact ⟨rfl, hB⟩


end

set_option maxRecDepth 100000 in
theorem lifted (os : Os) (started : os.Started) (H : Type) (enc : TypeId × Value → H) :
    ReturnsInHanded {} Try.checked os 7 .any (Rows.fnExactSumOfSpec.pre6 enc Try.prog Try.f7 Rows.fnExactSumOfRow.domain false) (Rows.fnExactSumOfSpec.post enc Try.prog Try.f7 false true false false) := by
  have eLeg : DecidableEq Leg := fun _ _ => Classical.propDecidable _
  have zLeg : Inhabited Leg := ⟨⟨0, 0, 0, 0⟩⟩
  refine returnsInHanded_of_change (C := Try.checked) own started (by kernel_rfl) Try.func7
    (ChangeSpec.witness6 (enc := enc) (C := Try.checked) false ⟨#[], #[.agg #[.int .i64 0, .slice none 0 0], .int .i64 0], []⟩ 8 (by kernel_rfl) (by kernel_rfl) (by kernel_rfl) (by kernel_rfl)) ?_
  intro W base args ds gs before hval0 hW _ _
  have hval : ∀ (j : Nat) t v, Try.f7.params[j]? = some t → args[j]? = some v → Value.okWide Try.prog W .any base t v := hval0
  have hW' : DataW.Whole enc Try.prog Try.f7.params.toList Rows.fnExactSumOfSpec.vars false W args.toList ds gs before := hW
  obtain ⟨p, q, hA0, hV, rfl, hfz, hnd⟩ := hW
  have hA : DataW.TrodAll enc Try.prog W 0 (fun _ => true) true Try.f7.params.toList args.toList ds p := hA0
  rw [Try.params7] at hA hval
  obtain ⟨v0, v1, d0, d1, p0, p1, rfl, rfl, rfl, h0, h1⟩ := trodAll_two hA
  obtain ⟨id, x, xs, rfl, hx⟩ := openContract (hval 0 30 v0 rfl rfl) h0
  obtain ⟨k, rfl, _, _, _⟩ := open_int Try.underlying2 (hval 1 2 v1 rfl rfl) h1
  refine (walk id x xs k W hx).mono fun e W' ⟨he, hg⟩ => ?_
  subst he
  exact ⟨_, rfl, law_post hW' laidOut (by kernel_rfl) rfl (by kernel_rfl) Try.underlying4 (fun _ => rfl) hg⟩

theorem proved : Rows.FnExactSumOfSaid :=
  OpenClaim.holds_of_wide 7 Try.f7 rfl rfl rfl rfl rfl rfl rfl ⟨rfl, rfl, rfl, rfl, rfl⟩ rfl rfl rfl rfl rfl (by kernel_rfl) Try.func7 (by kernel_rfl)
    (of_decide_eq_true (by kernel_rfl)) (by unfold Func.isWrapper; first | (rw [if_pos (by decide +kernel)]; kernel_rfl) | (rw [if_neg (by decide +kernel)]; exact ⟨rfl, rfl⟩))
    (fun os started H enc _ => lifted os started H enc)
#print axioms proved

end Go.Proofs.Ytcngckkcgpkdoaa.sumOfLaw
