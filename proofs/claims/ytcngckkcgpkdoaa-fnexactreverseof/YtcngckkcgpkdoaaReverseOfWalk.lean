/-
  Proved: laws.FnExactReverseOf answers true at every argument, and its arguments read behind the call as they read before. No condition. (The walk.)
-/
import Derived.Test.YtcngckkcgpkdoaaReverse
namespace Go.Proofs.Ytcngckkcgpkdoaa.reverseOfLaw
open Go.RowKit
set_option linter.unusedSectionVars false
variable [DecidableEq Leg] [Inhabited Leg]
attribute [local go_sem ↓] Go.wp_at_zero Go.wp_at_succ

set_option maxHeartbeats 1000000 in
theorem walk (id : Int) (x : Value) (xs : List Leg) (s : Int) (w : World) (hx : LegsV w x xs) :
    Calls Try.prog 8 #[.agg #[.int .i64 id, x], .int .i64 s] w fun e w' => e = .returned (.bool true) ∧ Below w.heap.size w w' := by
  go_enter Try.func8, Try.ntmps8
  go_wp2_with fail
  refine (szContract_any id x xs 1048576 _ (LegsV_below hx (balloc (Below.refl _ _) _)) (by omega) (by omega)).mono ?_
  rintro e w1 ⟨rfl, hb1⟩
  have hB1 : Below w.heap.size w w1 := bstep (balloc (Below.refl _ _) _) hb1
  have hz1 : w.heap.size < w1.heap.size := by have := hb1.size; simp at this; omega
  have hc1 : w1.cell? ⟨w.heap.size, 0, none⟩ = some (.int .i64 id) := by rw [(bcell hb1).1 _ _ (by simp)]; simp [go_sem]
  have hc1' : w1.cell? ⟨w.heap.size, 1, none⟩ = some x := by rw [(bcell hb1).1 _ _ (by simp)]; simp [go_sem]
  clear hb1
  by_cases hsz : 1048576 < (xs.length : Int)
  · have e1 : szF 1048576 xs.length = -1 := by simp [szF, hsz]
    rw [e1]
    go_wp2
    go_ret
    exact ⟨rfl, hB1⟩
  · have hn : xs.length ≤ 1048576 := by omega
    have e1 : szF 1048576 xs.length = 1048576 - xs.length := by rw [szF, if_neg hsz]
    have e2 : ¬ (1048576 : Int) - xs.length < 0 := by omega
    rw [e1]
    clear e1
    go_wp2_with fail
    refine (toContract_any id x xs _ (LegsV_below hx hB1) hn).mono ?_
    rintro e w2 ⟨v1, rfl, ho1, hb2⟩
    obtain ⟨p1, q1, rfl⟩ := owns_form ho1
    have hc2 := cell_keep hb2 hc1
    have hc2' := cell_keep hb2 hc1'
    have hB2 := bstep hB1 hb2
    clear hc1 hc1' hb2 hB1
    go_wp2_with fail
    refine (specReverseOf_any id _ xs s _ (LegsV_of_owns ho1)).mono ?_
    rintro e w3 ⟨v0, rfl, hoA, hb3⟩
    obtain ⟨p0, q0, rfl⟩ := owns_form hoA
    have OA := own_of hoA
    have eA : LegsV w3 _ _ := LegsV_of_owns hoA
    have zA := hb3.size
    have y2 := hB2.size
    have hB3 := bstep hB2 hb3
    have hc3 := cell_keep hb3 hc2
    have hc3' := cell_keep hb3 hc2'
    clear hc2 hc2' hb3 hB2 ho1
    obtain ⟨c, hcode⟩ : ∃ c, c = revCode id xs s := ⟨_, rfl⟩
    obtain ⟨r, hr⟩ : ∃ r, r = revId id xs s := ⟨_, rfl⟩
    obtain ⟨ys, hys⟩ : ∃ ys, ys = revLegs id xs s := ⟨_, rfl⟩
    rw [← hys] at hoA OA eA
    rw [← hcode, ← hr, ← hys]
    have HR : Hid (r = revId id xs s) := hr
    have HC : Hid (c = revCode id xs s) := hcode
    have HY : Hid (ys = revLegs id xs s) := hys
    have hyn : ys.length ≤ 1048576 := by rw [HY.out]; exact revLegs_le id xs s hn
    clear hcode hys hr
    replace hc3 := cell_keep (balloc (Below.refl _ _) (.cells #[.int .i64 c, .int .i64 r, .slice p0 ys.length q0] 57)) hc3
    replace hc3' := cell_keep (balloc (Below.refl _ _) (.cells #[.int .i64 c, .int .i64 r, .slice p0 ys.length q0] 57)) hc3'
    replace hB3 := balloc hB3 (.cells #[.int .i64 c, .int .i64 r, .slice p0 ys.length q0] 57)
    have hoA := owns_below hoA (balloc (Below.refl _ _) (.cells #[.int .i64 c, .int .i64 r, .slice p0 ys.length q0] 57))
    have d3 : (w3.alloc (.cells #[.int .i64 c, .int .i64 r, .slice p0 ys.length q0] 57)).cell? ⟨w3.heap.size, 0, none⟩ = some (.int .i64 c) := by simp [go_sem]
    have d3r : (w3.alloc (.cells #[.int .i64 c, .int .i64 r, .slice p0 ys.length q0] 57)).cell? ⟨w3.heap.size, 1, none⟩ = some (.int .i64 r) := by simp [go_sem]
    have d3' : (w3.alloc (.cells #[.int .i64 c, .int .i64 r, .slice p0 ys.length q0] 57)).cell? ⟨w3.heap.size, 2, none⟩ = some (.slice p0 ys.length q0) := by simp [go_sem]
    go_wp2_with fail
    refine (toContract_any id x xs _ (LegsV_below hx hB3) hn).mono ?_
    rintro e w4 ⟨v2, rfl, hoX, hb4⟩
    obtain ⟨p2, q2, rfl⟩ := owns_form hoX
    have OX := own_of hoX
    have zX := hb4.size
    have hc4 := cell_keep hb4 hc3
    have hc4' := cell_keep hb4 hc3'
    have d4 := cell_keep hb4 d3
    have d4' := cell_keep hb4 d3'
    have d4r := cell_keep hb4 d3r
    have hB4 := bstep hB3 hb4
    replace hoA := owns_below hoA hb4
    clear hc3 hc3' hb4 hB3 d3 d3' d3r
    simp only [World.size_alloc] at OX zX
    go_wp2_with fail
    refine (implReverseOf_any id _ xs s _ (LegsV_of_owns (owns_below hoX (balloc (Below.refl _ _) _)))).mono ?_
    rintro e w5 ⟨v5, rfl, hoG, hb5⟩
    obtain ⟨p5, q5, rfl⟩ := owns_form hoG
    rw [← HY.out] at hoG
    rw [← HC.out, ← HR.out, ← HY.out]
    have OG := own_of hoG
    have zG := hb5.size
    simp only [World.size_alloc] at OG zG
    have hc5 := cell_keep hb5 (cell_keep (balloc (Below.refl _ _) _) hc4)
    have hc5' := cell_keep hb5 (cell_keep (balloc (Below.refl _ _) _) hc4')
    have d5 := cell_keep hb5 (cell_keep (balloc (Below.refl _ _) _) d4)
    have d5' := cell_keep hb5 (cell_keep (balloc (Below.refl _ _) _) d4')
    have d5r := cell_keep hb5 (cell_keep (balloc (Below.refl _ _) _) d4r)
    have f5 : w5.cell? ⟨w4.heap.size, 0, none⟩ = some (.int .i64 id) := cell_keep hb5 (by simp [go_sem])
    have f5' : w5.cell? ⟨w4.heap.size, 1, none⟩ = some (.slice p2 xs.length q2) := cell_keep hb5 (by simp [go_sem])
    have hB5 := balloc (bstep (balloc hB4 _) hb5) (.cells #[.int .i64 c, .int .i64 r, .slice p5 ys.length q5] 57)
    replace hoA := owns_below (owns_below (owns_below hoA (balloc (Below.refl _ _) _)) hb5) (balloc (Below.refl _ _) (.cells #[.int .i64 c, .int .i64 r, .slice p5 ys.length q5] 57))
    have hoX := owns_below (owns_below (owns_below hoX (balloc (Below.refl _ _) _)) hb5) (balloc (Below.refl _ _) (.cells #[.int .i64 c, .int .i64 r, .slice p5 ys.length q5] 57))
    have hoG := owns_below hoG (balloc (Below.refl _ _) (.cells #[.int .i64 c, .int .i64 r, .slice p5 ys.length q5] 57))
    have hBx : Boxes3 (w5.alloc (.cells #[.int .i64 c, .int .i64 r, .slice p5 ys.length q5] 57)) w.heap.size w3.heap.size w4.heap.size w5.heap.size (.int .i64 id) x (.int .i64 c) (.int .i64 r) (.slice p0 ys.length q0) (.int .i64 id) (.slice p2 xs.length q2) (.int .i64 c) (.int .i64 r) (.slice p5 ys.length q5) :=
      ⟨⟨cell_keep (balloc (Below.refl _ _) _) hc5, cell_keep (balloc (Below.refl _ _) _) hc5'⟩, ⟨cell_keep (balloc (Below.refl _ _) _) d5, cell_keep (balloc (Below.refl _ _) _) d5r, cell_keep (balloc (Below.refl _ _) _) d5'⟩, ⟨cell_keep (balloc (Below.refl _ _) _) f5, cell_keep (balloc (Below.refl _ _) _) f5'⟩, ⟨by simp [go_sem], by simp [go_sem], by simp [go_sem]⟩⟩
    have g3 : w3.heap.size < w5.heap.size := by omega
    clear hc4 hc4' d4 d4' d4r hB4 hb5 eA
    go_wp2_with fail
    refine (eqContractResult_any c c r r _ _ ys ys _ (LegsV_of_owns hoG) (LegsV_of_owns hoA)).mono ?_
    rintro e w6 ⟨rfl, hb6⟩
    clear hc5 hc5' d5 d5' d5r f5 f5'
    replace hBx := boxes3_below hb6 hBx
    have hB6 := bstep hB5 hb6
    replace hoA := owns_below hoA hb6
    replace hoX := owns_below hoX hb6
    replace hoG := owns_below hoG hb6
    clear hb6 hB5
    obtain ⟨⟨b0, b0'⟩, ⟨b1, b1r, b1'⟩, ⟨b2, b2'⟩, ⟨b3, b3r, b3'⟩⟩ := hBx
    go_wp2
    go_region_held3 (fun w' => Below w6.heap.size w6 w' ∧ w'.cell? ⟨w.heap.size, 0, none⟩ = some (.int .i64 id) ∧ w'.cell? ⟨w.heap.size, 1, none⟩ = some x ∧ w'.cell? ⟨w4.heap.size, 0, none⟩ = some (.int .i64 id) ∧ w'.cell? ⟨w4.heap.size, 1, none⟩ = some (.slice p2 xs.length q2))
      ((refine keepC4 ?_ b0 b0' b2 b2'; repeat (first | exact Below.refl _ _ | assumption | refine Below.drew ?_ | refine balloc ?_ _ | refine bstep ?_ (by assumption))))
      (first | (go_at_call 15; refine (toContract_any id x xs _ (LegsV_below hx hB6.drew) hn).mono ?_; rintro e w7 ⟨v3, rfl, ho3, hb7⟩; obtain ⟨p3, q3, rfl⟩ := owns_form ho3) | (go_at_call 17; refine (eqContract_any id id _ _ xs xs _ (LegsV_below (LegsV_of_owns hoX) (bstep (Below.refl _ _).drew hb7)) (LegsV_of_owns ho3)).mono ?_; rintro e w8 ⟨rfl, hb8⟩))
    rename_i hH
    have hBx : Boxes3 w6 w.heap.size w3.heap.size w4.heap.size w5.heap.size (.int .i64 id) x (.int .i64 c) (.int .i64 r) (.slice p0 ys.length q0) (.int .i64 id) (.slice p2 xs.length q2) (.int .i64 c) (.int .i64 r) (.slice p5 ys.length q5) := ⟨⟨b0, b0'⟩, ⟨b1, b1r, b1'⟩, ⟨b2, b2'⟩, ⟨b3, b3r, b3'⟩⟩
    have hB8 := bstep hB6 hH.1
    replace hBx := boxes3_below hH.1 hBx
    replace hoA := owns_below hoA hH.1
    replace hoX := owns_below hoX hH.1
    replace hoG := owns_below hoG hH.1
    clear hH hb8 ho3 hb7 hB6 b0 b0' b1 b1r b1' b2 b2' b3 b3r b3'
    have HBx := hBx
    obtain ⟨⟨b0, b0'⟩, ⟨b1, b1r, b1'⟩, ⟨b2, b2'⟩, ⟨b3, b3r, b3'⟩⟩ := hBx
    go_wp2_with fail
    refine (markContract_any id _ xs.length _ _ _ 1 _ hoX hn (by omega) (by omega)).mono ?_
    rintro e w9 ⟨rfl, hoX9, hg9⟩
    have hB9 := below_grown hB8 hg9 OX (by omega)
    replace hoA := hoA.kept hg9 (own_apart OA OX (.inl (by omega)))
    replace hoG := hoG.kept hg9 (own_apart OG OX (.inr (by omega)))
    have HBx9 := boxes3_grown hg9 (own_not OX (.inl (by omega))) (own_not OX (.inl (by omega))) (own_not OX (.inr (by omega))) (own_not OX (.inr (by omega))) HBx
    clear hg9 hB8 HBx b0 b0' b1 b1r b1' b2 b2' b3 b3r b3' hoX hoX9
    obtain ⟨⟨b0, b0'⟩, ⟨b1, b1r, b1'⟩, ⟨b2, b2'⟩, ⟨b3, b3r, b3'⟩⟩ := HBx9
    have HBx9 : Boxes3 w9 w.heap.size w3.heap.size w4.heap.size w5.heap.size (.int .i64 id) x (.int .i64 c) (.int .i64 r) (.slice p0 ys.length q0) (.int .i64 id) (.slice p2 xs.length q2) (.int .i64 c) (.int .i64 r) (.slice p5 ys.length q5) := ⟨⟨b0, b0'⟩, ⟨b1, b1r, b1'⟩, ⟨b2, b2'⟩, ⟨b3, b3r, b3'⟩⟩
    have k9 : ¬ (1 : Int) + 4 * xs.length < 0 := by omega
    go_wp2_with fail
    refine (eqContractResult_any c c r r _ _ ys ys _ (LegsV_of_owns hoG) (LegsV_of_owns hoA)).mono ?_
    rintro e w10 ⟨rfl, hb10⟩
    replace HBx9 := boxes3_below hb10 HBx9
    have hB10 := bstep hB9 hb10
    replace hoA := owns_below hoA hb10
    replace hoG := owns_below hoG hb10
    clear hb10 hB9 b0 b0' b1 b1r b1' b2 b2' b3 b3r b3'
    obtain ⟨⟨b0, b0'⟩, ⟨b1, b1r, b1'⟩, ⟨b2, b2'⟩, ⟨b3, b3r, b3'⟩⟩ := HBx9
    have HBx10 : Boxes3 w10 w.heap.size w3.heap.size w4.heap.size w5.heap.size (.int .i64 id) x (.int .i64 c) (.int .i64 r) (.slice p0 ys.length q0) (.int .i64 id) (.slice p2 xs.length q2) (.int .i64 c) (.int .i64 r) (.slice p5 ys.length q5) := ⟨⟨b0, b0'⟩, ⟨b1, b1r, b1'⟩, ⟨b2, b2'⟩, ⟨b3, b3r, b3'⟩⟩
    go_wp2_with fail
    refine (markContractResult_any c r _ ys.length _ _ _ 1 _ hoG hyn (by omega) (by omega)).mono ?_
    rintro e w11 ⟨rfl, hoG11, hg11⟩
    have hB11 := below_grown hB10 hg11 OG (by omega)
    replace hoA := hoA.kept hg11 (own_apart OA OG (.inl (by omega)))
    have HBx11 := boxes3_grown hg11 (own_not OG (.inl (by omega))) (own_not OG (.inl (by omega))) (own_not OG (.inl (by omega))) (own_not OG (.inr (by omega))) HBx10
    clear hg11 hB10 HBx10 b0 b0' b1 b1r b1' b2 b2' b3 b3r b3' hoG
    obtain ⟨⟨b0, b0'⟩, ⟨b1, b1r, b1'⟩, ⟨b2, b2'⟩, ⟨b3, b3r, b3'⟩⟩ := HBx11
    have HBx11 : Boxes3 w11 w.heap.size w3.heap.size w4.heap.size w5.heap.size (.int .i64 id) x (.int .i64 c) (.int .i64 r) (.slice p0 ys.length q0) (.int .i64 id) (.slice p2 xs.length q2) (.int .i64 c) (.int .i64 r) (.slice p5 ys.length q5) := ⟨⟨b0, b0'⟩, ⟨b1, b1r, b1'⟩, ⟨b2, b2'⟩, ⟨b3, b3r, b3'⟩⟩
    have k11 : ¬ (1 : Int) + 4 * ys.length < 0 := by omega
    go_wp2_with fail
    refine (heldContractResult_any c r _ ys.length 1 _ (marks_back hoG11) hyn (by omega) (by omega)).mono ?_
    rintro e w12 ⟨rfl, hb12⟩
    replace HBx11 := boxes3_below hb12 HBx11
    have hB12 := bstep hB11 hb12
    replace hoA := owns_below hoA hb12
    replace hoG11 := owns_below hoG11 hb12
    clear hb12 hB11 b0 b0' b1 b1r b1' b2 b2' b3 b3r b3'
    obtain ⟨⟨b0, b0'⟩, ⟨b1, b1r, b1'⟩, ⟨b2, b2'⟩, ⟨b3, b3r, b3'⟩⟩ := HBx11
    have HBx12 : Boxes3 w12 w.heap.size w3.heap.size w4.heap.size w5.heap.size (.int .i64 id) x (.int .i64 c) (.int .i64 r) (.slice p0 ys.length q0) (.int .i64 id) (.slice p2 xs.length q2) (.int .i64 c) (.int .i64 r) (.slice p5 ys.length q5) := ⟨⟨b0, b0'⟩, ⟨b1, b1r, b1'⟩, ⟨b2, b2'⟩, ⟨b3, b3r, b3'⟩⟩
    go_wp2_with fail
    refine (toContract_any id x xs _ (LegsV_below hx hB12) hn).mono ?_
    rintro e w13 ⟨v13, rfl, ho13, hb13⟩
    obtain ⟨p13, q13, rfl⟩ := owns_form ho13
    replace HBx12 := boxes3_below hb13 HBx12
    have hB13 := bstep hB12 hb13
    replace hoA := owns_below hoA hb13
    replace hoG11 := owns_below hoG11 hb13
    clear hb13 hB12 b0 b0' b1 b1r b1' b2 b2' b3 b3r b3'
    go_wp2_with fail
    refine (implReverseOf_any id _ xs s _ (LegsV_of_owns ho13)).mono ?_
    rintro e w14 ⟨v14, rfl, ho14, hb14⟩
    obtain ⟨p14, q14, rfl⟩ := owns_form ho14
    rw [← HY.out] at ho14
    rw [← HC.out, ← HR.out, ← HY.out]
    replace HBx12 := boxes3_below hb14 HBx12
    have hB14 := bstep hB13 hb14
    replace hoA := owns_below hoA hb14
    replace hoG11 := owns_below hoG11 hb14
    clear hb14 hB13 ho13
    obtain ⟨⟨b0, b0'⟩, ⟨b1, b1r, b1'⟩, ⟨b2, b2'⟩, ⟨b3, b3r, b3'⟩⟩ := HBx12
    have HBx14 : Boxes3 w14 w.heap.size w3.heap.size w4.heap.size w5.heap.size (.int .i64 id) x (.int .i64 c) (.int .i64 r) (.slice p0 ys.length q0) (.int .i64 id) (.slice p2 xs.length q2) (.int .i64 c) (.int .i64 r) (.slice p5 ys.length q5) := ⟨⟨b0, b0'⟩, ⟨b1, b1r, b1'⟩, ⟨b2, b2'⟩, ⟨b3, b3r, b3'⟩⟩
    have z14 : w3.heap.size < w14.heap.size := World.block_lt_of_cell? _ _ b1
    have z14' : w5.heap.size < w14.heap.size := World.block_lt_of_cell? _ _ b3
    go_wp2_with fail
    refine (eqContractResult_any c c r r _ _ ys ys _ (LegsV_of_owns (owns_below ho14 (balloc (Below.refl _ _) _))) (LegsV_of_owns (owns_below hoA (balloc (Below.refl _ _) _)))).mono ?_
    rintro e w15 ⟨rfl, hb15⟩
    replace HBx14 := boxes3_below hb15 (boxes3_below (balloc (Below.refl _ _) _) HBx14)
    have hB15 := bstep (balloc hB14 _) hb15
    replace hoG11 := owns_below (owns_below hoG11 (balloc (Below.refl _ _) _)) hb15
    clear hb15 hB14 b0 b0' b1 b1r b1' b2 b2' b3 b3r b3' ho14 hoA
    obtain ⟨⟨b0, b0'⟩, ⟨b1, b1r, b1'⟩, ⟨b2, b2'⟩, ⟨b3, b3r, b3'⟩⟩ := HBx14
    go_wp2_with fail
    refine (heldContractResult_any c r _ ys.length 1 _ (marks_back hoG11) hyn (by omega) (by omega)).mono ?_
    rintro e w16 ⟨rfl, hb16⟩
    have hB16 := bstep hB15 hb16
    go_wp2
    go_ret
    exact ⟨rfl, hB16⟩


end Go.Proofs.Ytcngckkcgpkdoaa.reverseOfLaw
