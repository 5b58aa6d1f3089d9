/-
  Proved: the tied card of laws.FnExactShardText: it answers true at every argument, and its argument reads behind the call as it read before. Condition: the package tables that its row lists stand as the program's text lays them.
-/
import Derived.Test.YtndghenlapbaaaaGreatDoorShardTextWalk
import Derived.Test.YtndghenlapbaaaaGreatDoorPrnShardTextLaw25
import Derived.Test.YtndghenlapbaaaaGreatDoorTie
import Derived.Test.YtndghenlapbaaaaGreatDoorCards
import Derived.ChangeMaps5
import Derived.LaidLaws
import Derived.LaidHandle
import Derived.SevenTiedAt
import Derived.Lib.LaidTab

/-
  Proved: laws.FnExactShardText answers true at every argument, and its argument reads behind the call as it read before: the tied card (the package tables that the row lists are tied to the program's text).
-/
namespace Go.Proofs.YtndghenlapbaaaaGreatDoor.shardTextLaw
open Go.ChangeShapes Go.WideShapes Go.ChangeAt Go.RowKit Go.Joins

set_option linter.unusedSectionVars false
section
variable [DecidableEq Leg] [Inhabited Leg] [DecidableEq Bal] [Inhabited Bal] [DecidableEq Mrk] [Inhabited Mrk] [DecidableEq Cont] [Inhabited Cont] [DecidableEq Shd] [Inhabited Shd] [DecidableEq Rw] [Inhabited Rw] [DecidableEq Ledg] [Inhabited Ledg] [DecidableEq LedgR] [Inhabited LedgR] [DecidableEq OutcR] [Inhabited OutcR] [DecidableEq ShdR] [Inhabited ShdR]
attribute [local go_sem ↓] Go.wp_at_zero Go.wp_at_succ

theorem laidMet_tail {P : Program} {x : String × DataW Unit} {l : List (String × DataW Unit)} {W : World} (h : laidMet P (x :: l) W) : laidMet P l W := by
  obtain ⟨ps, ⟨g, t, cs, fuel, p, q, h1, h2, h3, h4, h5, rfl⟩, hn, ha⟩ := h
  exact ⟨q, h5, (List.nodup_append.1 hn).2.1, fun b off hm => ha b off (List.mem_append_right _ hm)⟩
theorem tab_eq : (Rows.laid_internal_strconv_uint64pow10 : DataW Unit) = Lib.tabData .u64 Lib.pow10Tab := by kernel_rfl
theorem no_handles : (Rows.fnExactShardTextRow.laid.filter fun x => x.2.handleName?.isSome) = [] := by kernel_rfl
theorem laidH_eq (W : World) : laidMetH Tryz.prog Rows.fnExactShardTextRow.laid W = laidMet Tryz.prog Rows.fnExactShardTextRow.laid W := by
  unfold laidMetH
  rw [no_handles]
theorem tab_of_laid {W : World} (h : laidMetH Tryz.prog Rows.fnExactShardTextRow.laid W) : TabW W := by
  rw [laidH_eq] at h
  have h1 : laidMet Tryz.prog [("internal/strconv.uint64pow10", Rows.laid_internal_strconv_uint64pow10)] W := laidMet_tail (laidMet_tail h)
  rw [tab_eq] at h1
  exact Lib.tabIs_of_head (show Tryz.prog.globalNamed "internal/strconv.uint64pow10" = some 0 by kernel_rfl) (show (Tryz.prog.globals[0]?).map (·.type) = some 179 by kernel_rfl) (show Tryz.prog.underlying 179 = some (.array 20 156) by kernel_rfl) (show Tryz.prog.underlying 156 = some (.int .u64) by kernel_rfl) (by kernel_rfl) (by kernel_rfl) h1
def lit : DataW Unit → Value
  | .lit (.int k z) => .int k z
  | _ => .bool false
def lay (d : DataW Unit) : Obj → Obj
  | .cells c t frozen => .cells (match d with | .agg ps => (ps.map lit).toArray | _ => c) t frozen
  | o => o
noncomputable def laidWorld (os : Os) : World :=
  let w0 := World.holding Tryz.prog os ⟨#[], #[], []⟩
  { w0 with heap := ((((((w0.heap).modify 2 (lay Rows.laid_math_bits_deBruijn32tab))).modify 3 (lay Rows.laid_math_bits_deBruijn64tab))).modify 0 (lay Rows.laid_internal_strconv_uint64pow10)) }
def arg : Value := .agg #[.int .i64 0, .slice none 0 0, .slice none 0 0, .slice none 0 0, .slice none 0 0, .slice none 0 0]
theorem laidWorld_met (os : Os) : laidMetH Tryz.prog Rows.fnExactShardTextRow.laid ((laidWorld os).forCall (fun _ _ => 0) ⟨#[], #[arg], []⟩).memory := by
  rw [laidH_eq]
  exact laidMet_of_run' 8 (by kernel_rfl) (by kernel_rfl)
end

set_option maxRecDepth 100000 in
theorem lifted (os : Os) (started : os.Started) (H : Type) (enc : TypeId × Value → H) :
    ReturnsInHanded {} Tryz.checked os 3 .any (fun w args => (Rows.fnExactShardTextSpec.pre enc Tryz.prog Tryz.f3 Rows.fnExactShardTextRow.domain false w args ∧ laidMetH Tryz.prog Rows.fnExactShardTextRow.laid w) ∧ sizedMet enc Tryz.prog Tryz.f3 (OpenSpec.ofChange Rows.fnExactShardTextSpec) false w args)
      (Rows.fnExactShardTextSpec.post enc Tryz.prog Tryz.f3 false true false false) := by
  have eLeg : DecidableEq Leg := fun _ _ => Classical.propDecidable _
  have zLeg : Inhabited Leg := ⟨⟨0, 0, 0, 0⟩⟩
  have eBal : DecidableEq Bal := fun _ _ => Classical.propDecidable _
  have zBal : Inhabited Bal := ⟨⟨0, 0, 0⟩⟩
  have eMrk : DecidableEq Mrk := fun _ _ => Classical.propDecidable _
  have zMrk : Inhabited Mrk := ⟨⟨0, 0⟩⟩
  have eCont : DecidableEq Cont := fun _ _ => Classical.propDecidable _
  have zCont : Inhabited Cont := ⟨⟨0, []⟩⟩
  have eShd : DecidableEq Shd := fun _ _ => Classical.propDecidable _
  have zShd : Inhabited Shd := ⟨⟨0, [], [], [], [], []⟩⟩
  have eRw : DecidableEq Rw := fun _ _ => Classical.propDecidable _
  have zRw : Inhabited Rw := ⟨⟨default, 0, default, false⟩⟩
  have eLedg : DecidableEq Ledg := fun _ _ => Classical.propDecidable _
  have zLedg : Inhabited Ledg := ⟨⟨[]⟩⟩
  have eLedgR : DecidableEq LedgR := fun _ _ => Classical.propDecidable _
  have zLedgR : Inhabited LedgR := ⟨⟨0, default⟩⟩
  have eOutcR : DecidableEq OutcR := fun _ _ => Classical.propDecidable _
  have zOutcR : Inhabited OutcR := ⟨⟨0, [], default⟩⟩
  have eShdR : DecidableEq ShdR := fun _ _ => Classical.propDecidable _
  have zShdR : Inhabited ShdR := ⟨⟨0, 0, default⟩⟩
  refine returnsInHanded_of_change_and (C := Tryz.checked) (X := fun w _ => laidMetH Tryz.prog Rows.fnExactShardTextRow.laid w) (fun _ _ _ hh h => h.of_heap hh) own started (by kernel_rfl) Tryz.func3
    (ChangeSpec.witness_at (enc := enc) (C := Tryz.checked) (os := os) (X := fun w _ => laidMetH Tryz.prog Rows.fnExactShardTextRow.laid w) false (laidWorld os) #[arg] 8 rfl (by kernel_rfl) (by kernel_rfl) (by kernel_rfl) (by kernel_rfl) (by kernel_rfl) (laidWorld_met os)) ?_
  intro W base args ds gs before hval0 hW _ _ hL _
  have hval : ∀ (j : Nat) t v, Tryz.f3.params[j]? = some t → args[j]? = some v → Value.okWide Tryz.prog W .any base t v := hval0
  have hW' : DataW.Whole enc Tryz.prog Tryz.f3.params.toList Rows.fnExactShardTextSpec.vars false W args.toList ds gs before := hW
  obtain ⟨p, q, hA0, hV, rfl, hfz, hnd⟩ := hW
  have hA : DataW.TrodAll enc Tryz.prog W 0 (fun _ => true) true Tryz.f3.params.toList args.toList ds p := hA0
  rw [Tryz.params3] at hA hval
  obtain ⟨v0, d0, rfl, rfl, h0⟩ := trodAll_one hA
  obtain ⟨d0, hx0⟩ := openShd (hval 0 27 v0 rfl rfl) h0
  refine (walk v0 d0 W hx0 (tab_of_laid hL)).mono fun e W' ⟨he, hg⟩ => ?_
  subst he
  exact ⟨_, rfl, law_post hW' laidOut (by kernel_rfl) rfl (by kernel_rfl) Tryz.underlying4 (fun _ => rfl) hg⟩
theorem said : Rows.FnExactShardTextSaid :=
  OpenClaim.holds_of_wide 3 Tryz.f3 rfl rfl rfl rfl rfl rfl rfl ⟨rfl, rfl, rfl, rfl, rfl⟩ rfl rfl rfl rfl rfl (by kernel_rfl) Tryz.func3 (by kernel_rfl)
    (of_decide_eq_true (by kernel_rfl)) (by unfold Func.isWrapper; first | (rw [if_pos (by decide +kernel)]; kernel_rfl) | (rw [if_neg (by decide +kernel)]; exact ⟨rfl, rfl⟩))
    (fun os started H enc _ => lifted os started H enc)
theorem proved : Rows.FnExactShardTextCardSaid :=
  Claim7.holds_tied_plain_at .later [] [.data, .data, .data] true Rows.fnExactShardTextCard.stood.harness true
    said (fun _ h => by cases h) (by kernel_rfl) (fun _ h => by cases h) fnExactShardText_row_tie rfl ⟨rfl, rfl⟩ (by kernel_rfl) rfl
    (fun f fn hf hfn => by
      obtain rfl : f = 3 := Option.some.inj ((show Tryz.prog.funcNamed Rows.fnExactShardTextRow.func = some 3 by kernel_rfl).symm.trans hf) |>.symm
      obtain rfl : fn = Tryz.f3 := (Option.some.inj (Tryz.func3.symm.trans hfn)).symm
      exact ⟨by kernel_rfl, fun j t ht => by
        rw [Tryz.params3] at ht
        have h3 : t = 27 := by
          rcases j with _ | j
          · simpa using ht.symm
          · simp at ht
        subst h3
        exact (show Tryz.prog.wantsStandIn 27 = false by kernel_rfl)⟩)
    (by kernel_rfl)
#print axioms proved

end Go.Proofs.YtndghenlapbaaaaGreatDoor.shardTextLaw

