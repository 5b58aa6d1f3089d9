/-
  Proved: laws.FnSettles answers true at every argument, and its arguments read behind the call as they read before. No condition.
-/
import Derived.Test.YtgjpafalompecaaSettlesWalk
import Derived.Test.YtgjpafalompecaaPrnSettlesLaw25

/-
  Proved: laws.FnSettles answers true at every argument, and its arguments read behind the call as they read before. No condition.
-/
namespace Go.Proofs.Ytgjpafalompecaa.settlesLaw
open Go.ChangeShapes Go.WideShapes Go.ChangeAt Go.RowKit Go.Joins
attribute [local go_sem ↓] Go.wp_at_zero Go.wp_at_succ

set_option maxRecDepth 100000 in
theorem lifted (os : Os) (started : os.Started) (H : Type) (enc : TypeId × Value → H) :
    ReturnsInHanded {} Try.checked os 3 .any (Rows.fnSettlesSpec.pre6 enc Try.prog Try.f3 Rows.fnSettlesRow.domain false) (Rows.fnSettlesSpec.post enc Try.prog Try.f3 false true false false) := by
  have eRw : DecidableEq Rw := fun _ _ => Classical.propDecidable _
  have zRw : Inhabited Rw := ⟨⟨default, 0, default, false⟩⟩
  have eBal : DecidableEq Bal := fun _ _ => Classical.propDecidable _
  have zBal : Inhabited Bal := ⟨⟨0, 0, 0⟩⟩
  have eLedg : DecidableEq Ledg := fun _ _ => Classical.propDecidable _
  have zLedg : Inhabited Ledg := ⟨⟨[]⟩⟩
  have eLeg : DecidableEq Leg := fun _ _ => Classical.propDecidable _
  have zLeg : Inhabited Leg := ⟨⟨0, 0, 0, 0⟩⟩
  have eCont : DecidableEq Cont := fun _ _ => Classical.propDecidable _
  have zCont : Inhabited Cont := ⟨⟨0, []⟩⟩
  have eLedgR : DecidableEq LedgR := fun _ _ => Classical.propDecidable _
  have zLedgR : Inhabited LedgR := ⟨⟨0, default⟩⟩
  have eOutcR : DecidableEq OutcR := fun _ _ => Classical.propDecidable _
  have zOutcR : Inhabited OutcR := ⟨⟨0, [], default⟩⟩
  have eMrk : DecidableEq Mrk := fun _ _ => Classical.propDecidable _
  have zMrk : Inhabited Mrk := ⟨⟨0, 0⟩⟩
  have eLogg : DecidableEq Logg := fun _ _ => Classical.propDecidable _
  have zLogg : Inhabited Logg := ⟨⟨[], []⟩⟩
  have eLoggR : DecidableEq LoggR := fun _ _ => Classical.propDecidable _
  have zLoggR : Inhabited LoggR := ⟨⟨0, default⟩⟩
  have eBytesR : DecidableEq BytesR := fun _ _ => Classical.propDecidable _
  have zBytesR : Inhabited BytesR := ⟨⟨0, []⟩⟩
  have eRecsR : DecidableEq RecsR := fun _ _ => Classical.propDecidable _
  have zRecsR : Inhabited RecsR := ⟨⟨0, 0, []⟩⟩
  refine returnsInHanded_of_change (C := Try.checked) own started (by kernel_rfl) Try.func3
    (ChangeSpec.witness6 (enc := enc) (C := Try.checked) false ⟨#[], #[.slice none 0 0], []⟩ 8 (by kernel_rfl) (by kernel_rfl) (by kernel_rfl) (by kernel_rfl)) ?_
  intro W base args ds gs before hval0 hW _ _
  have hval : ∀ (j : Nat) t v, Try.f3.params[j]? = some t → args[j]? = some v → Value.okWide Try.prog W .any base t v := hval0
  have hW' : DataW.Whole enc Try.prog Try.f3.params.toList Rows.fnSettlesSpec.vars false W args.toList ds gs before := hW
  obtain ⟨p, q, hA0, hV, rfl, hfz, hnd⟩ := hW
  have hA : DataW.TrodAll enc Try.prog W 0 (fun _ => true) true Try.f3.params.toList args.toList ds p := hA0
  rw [Try.params3] at hA hval
  obtain ⟨v0, d0, rfl, rfl, h0⟩ := trodAll_one hA
  obtain ⟨d0, hx0⟩ := openBytesT (hval 0 22 v0 rfl rfl) h0
  refine (walk v0 d0 W hx0).mono fun e W' ⟨he, hg⟩ => ?_
  subst he
  exact ⟨_, rfl, law_post hW' laidOut (by kernel_rfl) rfl (by kernel_rfl) Try.underlying4 (fun _ => rfl) hg⟩
theorem proved : Rows.FnSettlesSaid :=
  OpenClaim.holds_of_wide 3 Try.f3 rfl rfl rfl rfl rfl rfl rfl ⟨rfl, rfl, rfl, rfl, rfl⟩ rfl rfl rfl rfl rfl (by kernel_rfl) Try.func3 (by kernel_rfl)
    (of_decide_eq_true (by kernel_rfl)) (by unfold Func.isWrapper; first | (rw [if_pos (by decide +kernel)]; kernel_rfl) | (rw [if_neg (by decide +kernel)]; exact ⟨rfl, rfl⟩))
    (fun os started H enc _ => lifted os started H enc)
#print axioms proved

end Go.Proofs.Ytgjpafalompecaa.settlesLaw

