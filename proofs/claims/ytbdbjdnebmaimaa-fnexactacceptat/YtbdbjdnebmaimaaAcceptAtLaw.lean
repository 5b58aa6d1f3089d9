/-
  Proved: laws.FnExactAcceptAt answers true at every argument, and its arguments read behind the call as they read before. No condition.
-/
import Derived.Test.YtbdbjdnebmaimaaAcceptAtWalk
import Derived.Test.YtbdbjdnebmaimaaPrnAcceptAtLaw16

/-
  Proved: laws.FnExactAcceptAt answers true at every argument, and its arguments read behind the call as they read before. No condition.
-/
namespace Go.Proofs.Ytbdbjdnebmaimaa.acceptAtLaw
open Go.ChangeShapes Go.WideShapes Go.ChangeAt Go.RowKit Go.Joins
attribute [local go_sem ↓] Go.wp_at_zero Go.wp_at_succ

set_option maxRecDepth 100000 in
theorem lifted (os : Os) (started : os.Started) (H : Type) (enc : TypeId × Value → H) :
    ReturnsInHanded {} Try.checked os 10 .any (Rows.fnExactAcceptAtSpec.pre6 enc Try.prog Try.f10 Rows.fnExactAcceptAtRow.domain false) (Rows.fnExactAcceptAtSpec.post enc Try.prog Try.f10 false true false false) := by
  have eVot : DecidableEq Vot := fun _ _ => Classical.propDecidable _
  have zVot : Inhabited Vot := ⟨⟨0, 0⟩⟩
  have eSlt : DecidableEq Slt := fun _ _ => Classical.propDecidable _
  have zSlt : Inhabited Slt := ⟨⟨0, 0, 0, 0, 0, []⟩⟩
  have eBal : DecidableEq Bal := fun _ _ => Classical.propDecidable _
  have zBal : Inhabited Bal := ⟨⟨0, 0, 0⟩⟩
  have eLedg : DecidableEq Ledg := fun _ _ => Classical.propDecidable _
  have zLedg : Inhabited Ledg := ⟨⟨[]⟩⟩
  have eLeg : DecidableEq Leg := fun _ _ => Classical.propDecidable _
  have zLeg : Inhabited Leg := ⟨⟨0, 0, 0, 0⟩⟩
  have eAcc : DecidableEq Acc := fun _ _ => Classical.propDecidable _
  have zAcc : Inhabited Acc := ⟨⟨[]⟩⟩
  have eSltR : DecidableEq SltR := fun _ _ => Classical.propDecidable _
  have zSltR : Inhabited SltR := ⟨⟨0, 0, 0, default⟩⟩
  have eAccR : DecidableEq AccR := fun _ _ => Classical.propDecidable _
  have zAccR : Inhabited AccR := ⟨⟨0, 0, 0, default⟩⟩
  have eAccsR : DecidableEq AccsR := fun _ _ => Classical.propDecidable _
  have zAccsR : Inhabited AccsR := ⟨⟨0, 0, []⟩⟩
  have eSltsR : DecidableEq SltsR := fun _ _ => Classical.propDecidable _
  have zSltsR : Inhabited SltsR := ⟨⟨0, []⟩⟩
  refine returnsInHanded_of_change (C := Try.checked) own started (by kernel_rfl) Try.func10
    (ChangeSpec.witness6 (enc := enc) (C := Try.checked) false ⟨#[], #[.agg #[.slice none 0 0], .int .i64 0, .int .i64 0, .int .i64 0, .int .i64 0], []⟩ 8 (by kernel_rfl) (by kernel_rfl) (by kernel_rfl) (by kernel_rfl)) ?_
  intro W base args ds gs before hval0 hW _ _
  have hval : ∀ (j : Nat) t v, Try.f10.params[j]? = some t → args[j]? = some v → Value.okWide Try.prog W .any base t v := hval0
  have hW' : DataW.Whole enc Try.prog Try.f10.params.toList Rows.fnExactAcceptAtSpec.vars false W args.toList ds gs before := hW
  obtain ⟨p, q, hA0, hV, rfl, hfz, hnd⟩ := hW
  have hA : DataW.TrodAll enc Try.prog W 0 (fun _ => true) true Try.f10.params.toList args.toList ds p := hA0
  rw [Try.params10] at hA hval
  obtain ⟨v0, v1, v2, v3, v4, d0, d1, d2, d3, d4, p0, p1, p2, p3, p4, rfl, rfl, h0, h1, h2, h3, h4⟩ := trodAll_5 hA
  obtain ⟨d0, hx0⟩ := openAccT (hval 0 74 v0 rfl rfl) h0
  obtain ⟨k1, rfl, _, _, _⟩ := open_int Try.underlying2 (hval 1 2 v1 rfl rfl) h1
  obtain ⟨k2, rfl, _, _, _⟩ := open_int Try.underlying2 (hval 2 2 v2 rfl rfl) h2
  obtain ⟨k3, rfl, _, _, _⟩ := open_int Try.underlying2 (hval 3 2 v3 rfl rfl) h3
  obtain ⟨k4, rfl, _, _, _⟩ := open_int Try.underlying2 (hval 4 2 v4 rfl rfl) h4
  refine (walk v0 d0 k1 k2 k3 k4 W hx0).mono fun e W' ⟨he, hg⟩ => ?_
  subst he
  exact ⟨_, rfl, law_post hW' laidOut (by kernel_rfl) rfl (by kernel_rfl) Try.underlying4 (fun _ => rfl) hg⟩
theorem proved : Rows.FnExactAcceptAtSaid :=
  OpenClaim.holds_of_wide 10 Try.f10 rfl rfl rfl rfl rfl rfl rfl ⟨rfl, rfl, rfl, rfl, rfl⟩ rfl rfl rfl rfl rfl (by kernel_rfl) Try.func10 (by kernel_rfl)
    (of_decide_eq_true (by kernel_rfl)) (by unfold Func.isWrapper; first | (rw [if_pos (by decide +kernel)]; kernel_rfl) | (rw [if_neg (by decide +kernel)]; exact ⟨rfl, rfl⟩))
    (fun os started H enc _ => lifted os started H enc)
#print axioms proved

end Go.Proofs.Ytbdbjdnebmaimaa.acceptAtLaw

