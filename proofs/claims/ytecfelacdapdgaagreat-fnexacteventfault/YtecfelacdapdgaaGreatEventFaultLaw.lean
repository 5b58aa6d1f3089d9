/-
  Proved: laws.FnExactEventFault answers true at every argument, and its arguments read behind the call as they read before. No condition.
-/
import Derived.Test.YtecfelacdapdgaaGreatEventFaultWalk
import Derived.Test.YtecfelacdapdgaaGreatPrnEventFaultLaw12

/-
  Proved: laws.FnExactEventFault answers true at every argument, and its arguments read behind the call as they read before. No condition.
-/
namespace Go.Proofs.YtecfelacdapdgaaGreat.eventFaultLaw
open Go.ChangeShapes Go.WideShapes Go.ChangeAt Go.RowKit Go.Joins
attribute [local go_sem ↓] Go.wp_at_zero Go.wp_at_succ

set_option maxRecDepth 100000 in
theorem lifted (os : Os) (started : os.Started) (H : Type) (enc : TypeId × Value → H) :
    ReturnsInHanded {} Tryz.checked os 3 .any (Rows.fnExactEventFaultSpec.pre6 enc Tryz.prog Tryz.f3 Rows.fnExactEventFaultRow.domain false) (Rows.fnExactEventFaultSpec.post enc Tryz.prog Tryz.f3 false true false false) := by
  have eLeg : DecidableEq Leg := fun _ _ => Classical.propDecidable _
  have zLeg : Inhabited Leg := ⟨⟨0, 0, 0, 0⟩⟩
  have eCont : DecidableEq Cont := fun _ _ => Classical.propDecidable _
  have zCont : Inhabited Cont := ⟨⟨0, []⟩⟩
  have eEvt : DecidableEq Evt := fun _ _ => Classical.propDecidable _
  have zEvt : Inhabited Evt := ⟨⟨false, default, 0⟩⟩
  have eEvtR : DecidableEq EvtR := fun _ _ => Classical.propDecidable _
  have zEvtR : Inhabited EvtR := ⟨⟨0, default⟩⟩
  have eBytesR : DecidableEq BytesR := fun _ _ => Classical.propDecidable _
  have zBytesR : Inhabited BytesR := ⟨⟨0, []⟩⟩
  have eContR : DecidableEq ContR := fun _ _ => Classical.propDecidable _
  have zContR : Inhabited ContR := ⟨⟨0, default⟩⟩
  have eLogg : DecidableEq Logg := fun _ _ => Classical.propDecidable _
  have zLogg : Inhabited Logg := ⟨⟨[], []⟩⟩
  have eLoggR : DecidableEq LoggR := fun _ _ => Classical.propDecidable _
  have zLoggR : Inhabited LoggR := ⟨⟨0, default⟩⟩
  have eRecsR : DecidableEq RecsR := fun _ _ => Classical.propDecidable _
  have zRecsR : Inhabited RecsR := ⟨⟨0, 0, []⟩⟩
  have eRw : DecidableEq Rw := fun _ _ => Classical.propDecidable _
  have zRw : Inhabited Rw := ⟨⟨default, 0, default, false⟩⟩
  have eBal : DecidableEq Bal := fun _ _ => Classical.propDecidable _
  have zBal : Inhabited Bal := ⟨⟨0, 0, 0⟩⟩
  have eLedg : DecidableEq Ledg := fun _ _ => Classical.propDecidable _
  have zLedg : Inhabited Ledg := ⟨⟨[]⟩⟩
  have eLedgR : DecidableEq LedgR := fun _ _ => Classical.propDecidable _
  have zLedgR : Inhabited LedgR := ⟨⟨0, default⟩⟩
  have eOutcR : DecidableEq OutcR := fun _ _ => Classical.propDecidable _
  have zOutcR : Inhabited OutcR := ⟨⟨0, [], default⟩⟩
  have eMrk : DecidableEq Mrk := fun _ _ => Classical.propDecidable _
  have zMrk : Inhabited Mrk := ⟨⟨0, 0⟩⟩
  have eShd : DecidableEq Shd := fun _ _ => Classical.propDecidable _
  have zShd : Inhabited Shd := ⟨⟨0, [], [], [], [], []⟩⟩
  have eShdR : DecidableEq ShdR := fun _ _ => Classical.propDecidable _
  have zShdR : Inhabited ShdR := ⟨⟨0, 0, default⟩⟩
  have eJrn : DecidableEq Jrn := fun _ _ => Classical.propDecidable _
  have zJrn : Inhabited Jrn := ⟨⟨0, [], default⟩⟩
  refine returnsInHanded_of_change (C := Tryz.checked) own started (by kernel_rfl) Tryz.func3
    (ChangeSpec.witness6 (enc := enc) (C := Tryz.checked) false ⟨#[], #[.agg #[.bool false, .int .i64 0, .slice none 0 0, .int .i64 0]], []⟩ 8 (by kernel_rfl) (by kernel_rfl) (by kernel_rfl) (by kernel_rfl)) ?_
  intro W base args ds gs before hval0 hW _ _
  have hval : ∀ (j : Nat) t v, Tryz.f3.params[j]? = some t → args[j]? = some v → Value.okWide Tryz.prog W .any base t v := hval0
  have hW' : DataW.Whole enc Tryz.prog Tryz.f3.params.toList Rows.fnExactEventFaultSpec.vars false W args.toList ds gs before := hW
  obtain ⟨p, q, hA0, hV, rfl, hfz, hnd⟩ := hW
  have hA : DataW.TrodAll enc Tryz.prog W 0 (fun _ => true) true Tryz.f3.params.toList args.toList ds p := hA0
  rw [Tryz.params3] at hA hval
  obtain ⟨v0, d0, rfl, rfl, h0⟩ := trodAll_one hA
  obtain ⟨d0, hx0⟩ := openEvt (hval 0 26 v0 rfl rfl) h0
  refine (walk v0 d0 W hx0).mono fun e W' ⟨he, hg⟩ => ?_
  subst he
  exact ⟨_, rfl, law_post hW' laidOut (by kernel_rfl) rfl (by kernel_rfl) Tryz.underlying4 (fun _ => rfl) hg⟩
theorem proved : Rows.FnExactEventFaultSaid :=
  OpenClaim.holds_of_wide 3 Tryz.f3 rfl rfl rfl rfl rfl rfl rfl ⟨rfl, rfl, rfl, rfl, rfl⟩ rfl rfl rfl rfl rfl (by kernel_rfl) Tryz.func3 (by kernel_rfl)
    (of_decide_eq_true (by kernel_rfl)) (by unfold Func.isWrapper; first | (rw [if_pos (by decide +kernel)]; kernel_rfl) | (rw [if_neg (by decide +kernel)]; exact ⟨rfl, rfl⟩))
    (fun os started H enc _ => lifted os started H enc)
#print axioms proved

end Go.Proofs.YtecfelacdapdgaaGreat.eventFaultLaw

