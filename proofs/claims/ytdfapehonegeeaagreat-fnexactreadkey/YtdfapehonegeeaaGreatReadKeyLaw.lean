/-
  Proved: laws.FnExactReadKey answers true at every argument, and its arguments read behind the call as they read before. No condition.
-/
import Derived.Test.YtdfapehonegeeaaGreatReadKeyWalk
import Derived.Test.YtdfapehonegeeaaGreatOpnEng
import Derived.ChangeMaps5

/-
  Proved: laws.FnExactReadKey answers true at every argument, and its arguments read behind the call as they read before. No condition.
-/
namespace Go.Proofs.YtdfapehonegeeaaGreat.readKeyLaw
open Go.ChangeShapes Go.WideShapes Go.ChangeAt Go.RowKit Go.Joins
attribute [local go_sem ↓] Go.wp_at_zero Go.wp_at_succ


set_option maxRecDepth 100000 in
theorem lifted (os : Os) (started : os.Started) (H : Type) (enc : TypeId × Value → H) :
    ReturnsInHanded {} Tryz.checked os 5 .any (Rows.fnExactReadKeySpec.pre6 enc Tryz.prog Tryz.f5 Rows.fnExactReadKeyRow.domain false) (Rows.fnExactReadKeySpec.post enc Tryz.prog Tryz.f5 false true false false) := by
  have eWri : DecidableEq Wri := fun _ _ => Classical.propDecidable _
  have zWri : Inhabited Wri := ⟨⟨default, default, false⟩⟩
  have eBytesR : DecidableEq BytesR := fun _ _ => Classical.propDecidable _
  have zBytesR : Inhabited BytesR := ⟨⟨0, []⟩⟩
  have eRw : DecidableEq Rw := fun _ _ => Classical.propDecidable _
  have zRw : Inhabited Rw := ⟨⟨default, 0, default, false⟩⟩
  have eTabR : DecidableEq TabR := fun _ _ => Classical.propDecidable _
  have zTabR : Inhabited TabR := ⟨⟨0, []⟩⟩
  have eLogg : DecidableEq Logg := fun _ _ => Classical.propDecidable _
  have zLogg : Inhabited Logg := ⟨⟨[], []⟩⟩
  have eEngn : DecidableEq Engn := fun _ _ => Classical.propDecidable _
  have zEngn : Inhabited Engn := ⟨⟨default, [], [], 0⟩⟩
  have eLoggR : DecidableEq LoggR := fun _ _ => Classical.propDecidable _
  have zLoggR : Inhabited LoggR := ⟨⟨0, default⟩⟩
  have eRecsR : DecidableEq RecsR := fun _ _ => Classical.propDecidable _
  have zRecsR : Inhabited RecsR := ⟨⟨0, 0, []⟩⟩
  have eLeg : DecidableEq Leg := fun _ _ => Classical.propDecidable _
  have zLeg : Inhabited Leg := ⟨⟨0, 0, 0, 0⟩⟩
  refine returnsInHanded_of_change (C := Tryz.checked) own started (by kernel_rfl) Tryz.func5
    (ChangeSpec.witness6 (enc := enc) (C := Tryz.checked) false ⟨#[], #[.agg #[.slice none 0 0, .slice none 0 0, .slice none 0 0, .slice none 0 0, .int .i64 0], .string ⟨#[]⟩, .int .i64 0], []⟩ 8 (by kernel_rfl) (by kernel_rfl) (by kernel_rfl) (by kernel_rfl)) ?_
  intro W base args ds gs before hval0 hW _ _
  have hval : ∀ (j : Nat) t v, Tryz.f5.params[j]? = some t → args[j]? = some v → Value.okWide Tryz.prog W .any base t v := hval0
  have hW' : DataW.Whole enc Tryz.prog Tryz.f5.params.toList Rows.fnExactReadKeySpec.vars false W args.toList ds gs before := hW
  obtain ⟨p, q, hA0, hV, rfl, hfz, hnd⟩ := hW
  have hA : DataW.TrodAll enc Tryz.prog W 0 (fun _ => true) true Tryz.f5.params.toList args.toList ds p := hA0
  rw [Tryz.params5] at hA hval
  obtain ⟨v0, v1, v2, d0, d1, d2, p0, p1, p2, rfl, rfl, rfl, h0, h1, h2⟩ := trodAll_three hA
  obtain ⟨d0, hx0⟩ := openEng (hval 0 28 v0 rfl rfl) h0
  obtain ⟨k1, rfl, _, _, _⟩ := Go.ChangeMaps.open_string Tryz.underlying9 (hval 1 9 v1 rfl rfl) h1
  obtain ⟨k2, rfl, _, _, _⟩ := open_int Tryz.underlying2 (hval 2 2 v2 rfl rfl) h2
  refine (walk v0 d0 k1 k2 W hx0).mono fun e W' ⟨he, hg⟩ => ?_
  subst he
  exact ⟨_, rfl, law_post hW' laidOut (by kernel_rfl) rfl (by kernel_rfl) Tryz.underlying4 (fun _ => rfl) hg⟩

theorem proved : Rows.FnExactReadKeySaid :=
  OpenClaim.holds_of_wide 5 Tryz.f5 rfl rfl rfl rfl rfl rfl rfl ⟨rfl, rfl, rfl, rfl, rfl⟩ rfl rfl rfl rfl rfl (by kernel_rfl) Tryz.func5 (by kernel_rfl)
    (of_decide_eq_true (by kernel_rfl)) (by unfold Func.isWrapper; first | (rw [if_pos (by decide +kernel)]; kernel_rfl) | (rw [if_neg (by decide +kernel)]; exact ⟨rfl, rfl⟩))
    (fun os started H enc _ => lifted os started H enc)
#print axioms proved

end Go.Proofs.YtdfapehonegeeaaGreat.readKeyLaw

