/-
  Proved: laws.FnExactInDoubt answers true at every argument, and its arguments read behind the call as they read before. No condition.
-/
import Derived.Test.YtojjdkggomlegaaGreatInDoubtWalk
import Derived.Test.YtojjdkggomlegaaGreatPrnInDoubtLaw21

/-
  Proved: laws.FnExactInDoubt answers true at every argument, and its arguments read behind the call as they read before. No condition.
-/
namespace Go.Proofs.YtojjdkggomlegaaGreat.inDoubtLaw
open Go.ChangeShapes Go.WideShapes Go.ChangeAt Go.RowKit Go.Joins
attribute [local go_sem ↓] Go.wp_at_zero Go.wp_at_succ

set_option maxRecDepth 100000 in
theorem lifted (os : Os) (started : os.Started) (H : Type) (enc : TypeId × Value → H) :
    ReturnsInHanded {} Tryz.checked os 7 .any (Rows.fnExactInDoubtSpec.pre6 enc Tryz.prog Tryz.f7 Rows.fnExactInDoubtRow.domain false) (Rows.fnExactInDoubtSpec.post enc Tryz.prog Tryz.f7 false true false false) := by
  have eRw : DecidableEq Rw := fun _ _ => Classical.propDecidable _
  have zRw : Inhabited Rw := ⟨⟨default, 0, default, false⟩⟩
  have eBal : DecidableEq Bal := fun _ _ => Classical.propDecidable _
  have zBal : Inhabited Bal := ⟨⟨0, 0, 0⟩⟩
  have eLedg : DecidableEq Ledg := fun _ _ => Classical.propDecidable _
  have zLedg : Inhabited Ledg := ⟨⟨[]⟩⟩
  have eLeg : DecidableEq Leg := fun _ _ => Classical.propDecidable _
  have zLeg : Inhabited Leg := ⟨⟨0, 0, 0, 0⟩⟩
  have eCont : DecidableEq Cont := fun _ _ => Classical.propDecidable _
  have zCont : Inhabited Cont := ⟨⟨0, []⟩⟩
  have eLedgR : DecidableEq LedgR := fun _ _ => Classical.propDecidable _
  have zLedgR : Inhabited LedgR := ⟨⟨0, default⟩⟩
  have eOutcR : DecidableEq OutcR := fun _ _ => Classical.propDecidable _
  have zOutcR : Inhabited OutcR := ⟨⟨0, [], default⟩⟩
  have eMrk : DecidableEq Mrk := fun _ _ => Classical.propDecidable _
  have zMrk : Inhabited Mrk := ⟨⟨0, 0⟩⟩
  have eShd : DecidableEq Shd := fun _ _ => Classical.propDecidable _
  have zShd : Inhabited Shd := ⟨⟨0, [], [], [], [], []⟩⟩
  have eShdR : DecidableEq ShdR := fun _ _ => Classical.propDecidable _
  have zShdR : Inhabited ShdR := ⟨⟨0, 0, default⟩⟩
  have eIntsR : DecidableEq IntsR := fun _ _ => Classical.propDecidable _
  have zIntsR : Inhabited IntsR := ⟨⟨0, []⟩⟩
  refine returnsInHanded_of_change (C := Tryz.checked) own started (by kernel_rfl) Tryz.func7
    (ChangeSpec.witness6 (enc := enc) (C := Tryz.checked) false ⟨#[], #[.agg #[.int .i64 0, .slice none 0 0, .slice none 0 0, .slice none 0 0, .slice none 0 0, .slice none 0 0]], []⟩ 8 (by kernel_rfl) (by kernel_rfl) (by kernel_rfl) (by kernel_rfl)) ?_
  intro W base args ds gs before hval0 hW _ _
  have hval : ∀ (j : Nat) t v, Tryz.f7.params[j]? = some t → args[j]? = some v → Value.okWide Tryz.prog W .any base t v := hval0
  have hW' : DataW.Whole enc Tryz.prog Tryz.f7.params.toList Rows.fnExactInDoubtSpec.vars false W args.toList ds gs before := hW
  obtain ⟨p, q, hA0, hV, rfl, hfz, hnd⟩ := hW
  have hA : DataW.TrodAll enc Tryz.prog W 0 (fun _ => true) true Tryz.f7.params.toList args.toList ds p := hA0
  rw [Tryz.params7] at hA hval
  obtain ⟨v0, d0, rfl, rfl, h0⟩ := trodAll_one hA
  obtain ⟨d0, hx0⟩ := openShd (hval 0 27 v0 rfl rfl) h0
  refine (walk v0 d0 W hx0).mono fun e W' ⟨he, hg⟩ => ?_
  subst he
  exact ⟨_, rfl, law_post hW' laidOut (by kernel_rfl) rfl (by kernel_rfl) Tryz.underlying4 (fun _ => rfl) hg⟩
theorem proved : Rows.FnExactInDoubtSaid :=
  OpenClaim.holds_of_wide 7 Tryz.f7 rfl rfl rfl rfl rfl rfl rfl ⟨rfl, rfl, rfl, rfl, rfl⟩ rfl rfl rfl rfl rfl (by kernel_rfl) Tryz.func7 (by kernel_rfl)
    (of_decide_eq_true (by kernel_rfl)) (by unfold Func.isWrapper; first | (rw [if_pos (by decide +kernel)]; kernel_rfl) | (rw [if_neg (by decide +kernel)]; exact ⟨rfl, rfl⟩))
    (fun os started H enc _ => lifted os started H enc)
#print axioms proved

end Go.Proofs.YtojjdkggomlegaaGreat.inDoubtLaw

