/-
  Proved: laws.FnExactAllRows answers true at every argument, and its arguments read behind the call as they read before. No condition.
-/
import Derived.Test.YtdfapehonegeeaaGreatAllRowsWalk
import Derived.Test.YtdfapehonegeeaaGreatOpnEng

/-
  Proved: laws.FnExactAllRows answers true at every argument, and its arguments read behind the call as they read before. No condition.
-/
namespace Go.Proofs.YtdfapehonegeeaaGreat.allRowsLaw
open Go.ChangeShapes Go.WideShapes Go.ChangeAt Go.RowKit Go.Joins
attribute [local go_sem ↓] Go.wp_at_zero Go.wp_at_succ


set_option maxRecDepth 100000 in
theorem lifted (os : Os) (started : os.Started) (H : Type) (enc : TypeId × Value → H) :
    ReturnsInHanded {} Tryz.checked os 9 .any (Rows.fnExactAllRowsSpec.pre6 enc Tryz.prog Tryz.f9 Rows.fnExactAllRowsRow.domain false) (Rows.fnExactAllRowsSpec.post enc Tryz.prog Tryz.f9 false true false false) := by
  have eWri : DecidableEq Wri := fun _ _ => Classical.propDecidable _
  have zWri : Inhabited Wri := ⟨⟨default, default, false⟩⟩
  have eBytesR : DecidableEq BytesR := fun _ _ => Classical.propDecidable _
  have zBytesR : Inhabited BytesR := ⟨⟨0, []⟩⟩
  have eRw : DecidableEq Rw := fun _ _ => Classical.propDecidable _
  have zRw : Inhabited Rw := ⟨⟨default, 0, default, false⟩⟩
  have eTabR : DecidableEq TabR := fun _ _ => Classical.propDecidable _
  have zTabR : Inhabited TabR := ⟨⟨0, []⟩⟩
  have eLogg : DecidableEq Logg := fun _ _ => Classical.propDecidable _
  have zLogg : Inhabited Logg := ⟨⟨[], []⟩⟩
  have eEngn : DecidableEq Engn := fun _ _ => Classical.propDecidable _
  have zEngn : Inhabited Engn := ⟨⟨default, [], [], 0⟩⟩
  have eLoggR : DecidableEq LoggR := fun _ _ => Classical.propDecidable _
  have zLoggR : Inhabited LoggR := ⟨⟨0, default⟩⟩
  have eRecsR : DecidableEq RecsR := fun _ _ => Classical.propDecidable _
  have zRecsR : Inhabited RecsR := ⟨⟨0, 0, []⟩⟩
  have eLeg : DecidableEq Leg := fun _ _ => Classical.propDecidable _
  have zLeg : Inhabited Leg := ⟨⟨0, 0, 0, 0⟩⟩
  refine returnsInHanded_of_change (C := Tryz.checked) own started (by kernel_rfl) Tryz.func9
    (ChangeSpec.witness6 (enc := enc) (C := Tryz.checked) false ⟨#[], #[.agg #[.slice none 0 0, .slice none 0 0, .slice none 0 0, .slice none 0 0, .int .i64 0]], []⟩ 8 (by kernel_rfl) (by kernel_rfl) (by kernel_rfl) (by kernel_rfl)) ?_
  intro W base args ds gs before hval0 hW _ _
  have hval : ∀ (j : Nat) t v, Tryz.f9.params[j]? = some t → args[j]? = some v → Value.okWide Tryz.prog W .any base t v := hval0
  have hW' : DataW.Whole enc Tryz.prog Tryz.f9.params.toList Rows.fnExactAllRowsSpec.vars false W args.toList ds gs before := hW
  obtain ⟨p, q, hA0, hV, rfl, hfz, hnd⟩ := hW
  have hA : DataW.TrodAll enc Tryz.prog W 0 (fun _ => true) true Tryz.f9.params.toList args.toList ds p := hA0
  rw [Tryz.params9] at hA hval
  obtain ⟨v0, d0, rfl, rfl, h0⟩ := trodAll_one hA
  obtain ⟨d0, hx0⟩ := openEng (hval 0 28 v0 rfl rfl) h0
  refine (walk v0 d0 W hx0).mono fun e W' ⟨he, hg⟩ => ?_
  subst he
  exact ⟨_, rfl, law_post hW' laidOut (by kernel_rfl) rfl (by kernel_rfl) Tryz.underlying4 (fun _ => rfl) hg⟩

theorem proved : Rows.FnExactAllRowsSaid :=
  OpenClaim.holds_of_wide 9 Tryz.f9 rfl rfl rfl rfl rfl rfl rfl ⟨rfl, rfl, rfl, rfl, rfl⟩ rfl rfl rfl rfl rfl (by kernel_rfl) Tryz.func9 (by kernel_rfl)
    (of_decide_eq_true (by kernel_rfl)) (by unfold Func.isWrapper; first | (rw [if_pos (by decide +kernel)]; kernel_rfl) | (rw [if_neg (by decide +kernel)]; exact ⟨rfl, rfl⟩))
    (fun os started H enc _ => lifted os started H enc)
#print axioms proved

end Go.Proofs.YtdfapehonegeeaaGreat.allRowsLaw

