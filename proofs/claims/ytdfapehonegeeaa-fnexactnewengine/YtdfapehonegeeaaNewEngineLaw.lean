/-
  Proved: laws.FnExactNewEngine answers true at every argument, and its arguments read behind the call as they read before. No condition.
-/
import Derived.Test.YtdfapehonegeeaaNewEngineWalk
import Derived.Test.YtdfapehonegeeaaOpn
namespace Go.Proofs.Ytdfapehonegeeaa.newEngineLaw
open Go.ChangeShapes Go.WideShapes Go.ChangeAt Go.RowKit Go.Joins
attribute [local go_sem ↓] Go.wp_at_zero Go.wp_at_succ


set_option maxRecDepth 100000 in
theorem lifted (os : Os) (started : os.Started) (H : Type) (enc : TypeId × Value → H) :
    ReturnsInHanded {} Try.checked os 10 .any (Rows.fnExactNewEngineSpec.pre6 enc Try.prog Try.f10 Rows.fnExactNewEngineRow.domain false) (Rows.fnExactNewEngineSpec.post enc Try.prog Try.f10 false true false false) := by
  have eLogg : DecidableEq Logg := fun _ _ => Classical.propDecidable _
  have zLogg : Inhabited Logg := ⟨⟨[], []⟩⟩
  have eRw : DecidableEq Rw := fun _ _ => Classical.propDecidable _
  have zRw : Inhabited Rw := ⟨⟨default, 0, default, false⟩⟩
  have eEngn : DecidableEq Engn := fun _ _ => Classical.propDecidable _
  have zEngn : Inhabited Engn := ⟨⟨default, [], [], 0⟩⟩
  have eEngR : DecidableEq EngR := fun _ _ => Classical.propDecidable _
  have zEngR : Inhabited EngR := ⟨⟨0, 0, default⟩⟩
  refine returnsInHanded_of_change (C := Try.checked) own started (by kernel_rfl) Try.func10
    (ChangeSpec.witness6 (enc := enc) (C := Try.checked) false ⟨#[], #[.int .i64 0], []⟩ 8 (by kernel_rfl) (by kernel_rfl) (by kernel_rfl) (by kernel_rfl)) ?_
  intro W base args ds gs before hval0 hW _ _
  have hval : ∀ (j : Nat) t v, Try.f10.params[j]? = some t → args[j]? = some v → Value.okWide Try.prog W .any base t v := hval0
  have hW' : DataW.Whole enc Try.prog Try.f10.params.toList Rows.fnExactNewEngineSpec.vars false W args.toList ds gs before := hW
  obtain ⟨p, q, hA0, hV, rfl, hfz, hnd⟩ := hW
  have hA : DataW.TrodAll enc Try.prog W 0 (fun _ => true) true Try.f10.params.toList args.toList ds p := hA0
  rw [Try.params10] at hA hval
  obtain ⟨v0, d0, rfl, rfl, h0⟩ := trodAll_one hA
  obtain ⟨k0, rfl, _, _, _⟩ := open_int Try.underlying2 (hval 0 2 v0 rfl rfl) h0
  refine (walk k0 W).mono fun e W' ⟨he, hg⟩ => ?_
  subst he
  exact ⟨_, rfl, law_post hW' laidOut (by kernel_rfl) rfl (by kernel_rfl) Try.underlying4 (fun _ => rfl) hg⟩

theorem proved : Rows.FnExactNewEngineSaid :=
  OpenClaim.holds_of_wide 10 Try.f10 rfl rfl rfl rfl rfl rfl rfl ⟨rfl, rfl, rfl, rfl, rfl⟩ rfl rfl rfl rfl rfl (by kernel_rfl) Try.func10 (by kernel_rfl)
    (of_decide_eq_true (by kernel_rfl)) (by unfold Func.isWrapper; first | (rw [if_pos (by decide +kernel)]; kernel_rfl) | (rw [if_neg (by decide +kernel)]; exact ⟨rfl, rfl⟩))
    (fun os started H enc _ => lifted os started H enc)
#print axioms proved

end Go.Proofs.Ytdfapehonegeeaa.newEngineLaw
