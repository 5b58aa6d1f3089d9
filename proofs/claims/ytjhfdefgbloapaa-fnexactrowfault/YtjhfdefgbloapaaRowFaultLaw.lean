/-
  Proved: laws.FnExactRowFault answers true at every row, and its argument reads behind the call as it read before. No condition.
-/
import Derived.Test.YtjhfdefgbloapaaRowA
namespace Go.Proofs.Ytjhfdefgbloapaa.rowFaultLaw
open Go.ChangeShapes Go.WideShapes Go.ChangeAt Go.RowKit Go.Joins

set_option linter.unusedSectionVars false
section
variable [DecidableEq Rw] [Inhabited Rw]

theorem boxed {w w1 : World} {a b c d : Value} {t : Nat} (hb : Below (w.alloc (.cells #[a, b, c, d] t)).heap.size (w.alloc (.cells #[a, b, c, d] t)) w1) :
    w1.cell? ⟨w.heap.size, 0, none⟩ = some a ∧ w1.cell? ⟨w.heap.size, 1, none⟩ = some b ∧ w1.cell? ⟨w.heap.size, 2, none⟩ = some c ∧ w1.cell? ⟨w.heap.size, 3, none⟩ = some d :=
  ⟨cell_keep hb (by simp [go_sem]), cell_keep hb (by simp [go_sem]), cell_keep hb (by simp [go_sem]), cell_keep hb (by simp [go_sem])⟩

set_option maxHeartbeats 400000 in
theorem walk (x : Rw) (w : World) (hk : x.key.size ≤ maxLen) (hv : x.val.size ≤ maxLen) :
    Calls Try.prog 3 #[rowV x] w fun e w' => e = .returned (.bool true) ∧ Below w.heap.size w w' := by
  have e0 : rowV x = .agg #[.string x.key, .int .i64 x.ver, .string x.val, .bool x.gone] := rfl
  rw [e0]
  go_enter Try.func3, Try.ntmps3
  go_wp2_with fail
  refine (szRow_any x _ _ hk hv (by omega) (by omega)).mono ?_
  rintro e w0 ⟨rfl, hb0⟩
  obtain ⟨g0, g1, g2, g3⟩ := boxed hb0
  have hB0 : Below w.heap.size w w0 := bstep (balloc (Below.refl _ _) _) hb0
  have hz0 := World.block_lt_of_cell? _ _ g0
  dsimp only at hz0
  clear hb0
  by_cases h : szLen 1048576 ((wtRw x : Nat) : Int) < 0
  · go_wp2
    go_ret
    exact ⟨rfl, hB0⟩
  go_wp2_with fail
  refine (toRow_any x _).mono ?_
  rintro e w1 ⟨rfl, hb1⟩
  replace g0 := cell_keep hb1 g0
  replace g1 := cell_keep hb1 g1
  replace g2 := cell_keep hb1 g2
  replace g3 := cell_keep hb1 g3
  simp only [e0]
  go_wp2_with fail
  refine (specRowFault_any x _).mono ?_
  rintro e w2 ⟨rfl, hb2⟩
  replace g0 := cell_keep hb2 g0
  replace g1 := cell_keep hb2 g1
  replace g2 := cell_keep hb2 g2
  replace g3 := cell_keep hb2 g3
  go_wp2_with fail
  refine (toRow_any x _).mono ?_
  rintro e w3 ⟨rfl, hb3⟩
  simp only [e0]
  go_wp2_with fail
  refine (implRowFault_any x _).mono ?_
  rintro e w4 ⟨rfl, hb4⟩
  go_wp2_with fail
  go_ret
  exact ⟨rfl, bstep (bstep (bstep (bstep hB0 hb1) hb2) hb3) hb4⟩

theorem cellsRow : Try.prog.cellsOf 23 = 4 := by kernel_rfl

end

set_option maxRecDepth 100000 in
theorem lifted (os : Os) (started : os.Started) (H : Type) (enc : TypeId × Value → H) :
    ReturnsInHanded {} Try.checked os 3 .any (Rows.fnExactRowFaultSpec.pre6 enc Try.prog Try.f3 Rows.fnExactRowFaultRow.domain false) (Rows.fnExactRowFaultSpec.post enc Try.prog Try.f3 false true false false) := by
  have eRw : DecidableEq Rw := fun _ _ => Classical.propDecidable _
  have zRw : Inhabited Rw := ⟨⟨default, 0, default, false⟩⟩
  refine returnsInHanded_of_change (C := Try.checked) own started (by kernel_rfl) Try.func3
    (ChangeSpec.witness6 (enc := enc) (C := Try.checked) false ⟨#[], #[.agg #[.string ⟨#[]⟩, .int .i64 0, .string ⟨#[]⟩, .bool false]], []⟩ 8 (by kernel_rfl) (by kernel_rfl) (by kernel_rfl) (by kernel_rfl)) ?_
  intro W base args ds gs before hval0 hW _ _
  have hval : ∀ (j : Nat) t v, Try.f3.params[j]? = some t → args[j]? = some v → Value.okWide Try.prog W .any base t v := hval0
  have hW' : DataW.Whole enc Try.prog Try.f3.params.toList Rows.fnExactRowFaultSpec.vars false W args.toList ds gs before := hW
  obtain ⟨p, q, hA0, hV, rfl, hfz, hnd⟩ := hW
  have hA : DataW.TrodAll enc Try.prog W 0 (fun _ => true) true Try.f3.params.toList args.toList ds p := hA0
  rw [Try.params3] at hA hval
  obtain ⟨v0, d0, rfl, rfl, h0⟩ := trodAll_one hA
  obtain ⟨c0, c1, c2, c3, y0, y1, y2, y3, m, rfl, rfl, rfl, hy0, hy1, hy2, hy3⟩ := open_agg4 Try.underlying23 (by kernel_rfl) cellsRow (hval 0 23 v0 rfl rfl) h0
  obtain ⟨a, e0, _, ha⟩ := DataW.trod_string Try.underlying9 hy0
  obtain ⟨b, e1, _⟩ := DataW.trod_int Try.underlying2 hy1
  obtain ⟨c, e2, _, hc⟩ := DataW.trod_string Try.underlying9 hy2
  obtain ⟨d, e3, _⟩ := DataW.trod_bool Try.underlying4 hy3
  simp at e0 e1 e2 e3
  subst e0 e1 e2 e3
  refine (walk ⟨a, b, c, d⟩ W ha hc).mono fun e W' ⟨he, hg⟩ => ?_
  subst he
  exact ⟨_, rfl, law_post hW' laidOut (by kernel_rfl) rfl (by kernel_rfl) Try.underlying4 (fun _ => rfl) hg⟩

theorem proved : Rows.FnExactRowFaultSaid :=
  OpenClaim.holds_of_wide 3 Try.f3 rfl rfl rfl rfl rfl rfl rfl ⟨rfl, rfl, rfl, rfl, rfl⟩ rfl rfl rfl rfl rfl (by kernel_rfl) Try.func3 (by kernel_rfl)
    (of_decide_eq_true (by kernel_rfl)) (by unfold Func.isWrapper; first | (rw [if_pos (by decide +kernel)]; kernel_rfl) | (rw [if_neg (by decide +kernel)]; exact ⟨rfl, rfl⟩))
    (fun os started H enc _ => lifted os started H enc)
#print axioms proved

end Go.Proofs.Ytjhfdefgbloapaa.rowFaultLaw
