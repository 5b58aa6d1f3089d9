/-
  Proved: laws.FnExactOpenSession answers true at every argument, and its arguments read behind the call as they read before. No condition.
-/
import Derived.Test.YtjemciikdijokaaOpenSessionWalk
import Derived.Test.YtjemciikdijokaaOpnSes

/-
  Proved: laws.FnExactOpenSession answers true at every argument, and its arguments read behind the call as they read before. No condition.
-/
namespace Go.Proofs.Ytjemciikdijokaa.openSessionLaw
open Go.ChangeShapes Go.WideShapes Go.ChangeAt Go.RowKit Go.Joins
attribute [local go_sem ↓] Go.wp_at_zero Go.wp_at_succ

set_option maxRecDepth 100000 in
theorem lifted (os : Os) (started : os.Started) (H : Type) (enc : TypeId × Value → H) :
    ReturnsInHanded {} Try.checked os 4 .any (Rows.fnExactOpenSessionSpec.pre6 enc Try.prog Try.f4 Rows.fnExactOpenSessionRow.domain false) (Rows.fnExactOpenSessionSpec.post enc Try.prog Try.f4 false true false false) := by
  have eLeg : DecidableEq Leg := fun _ _ => Classical.propDecidable _
  have zLeg : Inhabited Leg := ⟨⟨0, 0, 0, 0⟩⟩
  have eSes : DecidableEq Ses := fun _ _ => Classical.propDecidable _
  have zSes : Inhabited Ses := ⟨⟨0, 0, []⟩⟩
  have eCont : DecidableEq Cont := fun _ _ => Classical.propDecidable _
  have zCont : Inhabited Cont := ⟨⟨0, []⟩⟩
  have eBal : DecidableEq Bal := fun _ _ => Classical.propDecidable _
  have zBal : Inhabited Bal := ⟨⟨0, 0, 0⟩⟩
  have eMrk : DecidableEq Mrk := fun _ _ => Classical.propDecidable _
  have zMrk : Inhabited Mrk := ⟨⟨0, 0⟩⟩
  have eShd : DecidableEq Shd := fun _ _ => Classical.propDecidable _
  have zShd : Inhabited Shd := ⟨⟨0, [], [], [], [], []⟩⟩
  have eVot : DecidableEq Vot := fun _ _ => Classical.propDecidable _
  have zVot : Inhabited Vot := ⟨⟨0, 0⟩⟩
  have eSlt : DecidableEq Slt := fun _ _ => Classical.propDecidable _
  have zSlt : Inhabited Slt := ⟨⟨0, 0, 0, 0, 0, []⟩⟩
  have eAcc : DecidableEq Acc := fun _ _ => Classical.propDecidable _
  have zAcc : Inhabited Acc := ⟨⟨[]⟩⟩
  have eTrr : DecidableEq Trr := fun _ _ => Classical.propDecidable _
  have zTrr : Inhabited Trr := ⟨⟨0, 0, 0, 0, [], []⟩⟩
  have eHrd : DecidableEq Hrd := fun _ _ => Classical.propDecidable _
  have zHrd : Inhabited Hrd := ⟨⟨0, 0, 0, 0, 0⟩⟩
  have eLdr : DecidableEq Ldr := fun _ _ => Classical.propDecidable _
  have zLdr : Inhabited Ldr := ⟨⟨0, [], []⟩⟩
  have eMsg : DecidableEq Msg := fun _ _ => Classical.propDecidable _
  have zMsg : Inhabited Msg := ⟨⟨0, 0, 0, 0, 0, 0, 0, 0, 0⟩⟩
  have eClu : DecidableEq Clu := fun _ _ => Classical.propDecidable _
  have zClu : Inhabited Clu := ⟨⟨[], [], [], [], []⟩⟩
  have eSesR : DecidableEq SesR := fun _ _ => Classical.propDecidable _
  have zSesR : Inhabited SesR := ⟨⟨0, 0, [], default⟩⟩
  have eLedg : DecidableEq Ledg := fun _ _ => Classical.propDecidable _
  have zLedg : Inhabited Ledg := ⟨⟨[]⟩⟩
  refine returnsInHanded_of_change (C := Try.checked) own started (by kernel_rfl) Try.func4
    (ChangeSpec.witness6 (enc := enc) (C := Try.checked) false ⟨#[], #[.slice none 0 0, .int .i64 0], []⟩ 8 (by kernel_rfl) (by kernel_rfl) (by kernel_rfl) (by kernel_rfl)) ?_
  intro W base args ds gs before hval0 hW _ _
  have hval : ∀ (j : Nat) t v, Try.f4.params[j]? = some t → args[j]? = some v → Value.okWide Try.prog W .any base t v := hval0
  have hW' : DataW.Whole enc Try.prog Try.f4.params.toList Rows.fnExactOpenSessionSpec.vars false W args.toList ds gs before := hW
  obtain ⟨p, q, hA0, hV, rfl, hfz, hnd⟩ := hW
  have hA : DataW.TrodAll enc Try.prog W 0 (fun _ => true) true Try.f4.params.toList args.toList ds p := hA0
  rw [Try.params4] at hA hval
  obtain ⟨v0, v1, d0, d1, p0, p1, rfl, rfl, rfl, h0, h1⟩ := trodAll_two hA
  obtain ⟨d0, hx0⟩ := openSessT (hval 0 22 v0 rfl rfl) h0
  obtain ⟨k1, rfl, _, _, _⟩ := open_int Try.underlying2 (hval 1 2 v1 rfl rfl) h1
  refine (walk v0 d0 k1 W hx0).mono fun e W' ⟨he, hg⟩ => ?_
  subst he
  exact ⟨_, rfl, law_post hW' laidOut (by kernel_rfl) rfl (by kernel_rfl) Try.underlying4 (fun _ => rfl) hg⟩
theorem proved : Rows.FnExactOpenSessionSaid :=
  OpenClaim.holds_of_wide 4 Try.f4 rfl rfl rfl rfl rfl rfl rfl ⟨rfl, rfl, rfl, rfl, rfl⟩ rfl rfl rfl rfl rfl (by kernel_rfl) Try.func4 (by kernel_rfl)
    (of_decide_eq_true (by kernel_rfl)) (by unfold Func.isWrapper; first | (rw [if_pos (by decide +kernel)]; kernel_rfl) | (rw [if_neg (by decide +kernel)]; exact ⟨rfl, rfl⟩))
    (fun os started H enc _ => lifted os started H enc)
#print axioms proved

end Go.Proofs.Ytjemciikdijokaa.openSessionLaw

