import Derived.Test.YteppnppknfldbaaPrnAgreesLaw1
import Derived.Deep.RegionHeld3
import Derived.Deep.DrawnRows

/-
  Slot. (Written by program: nest.py.)
-/
namespace Go.Proofs.Yteppnppknfldbaa
open Go.RowKit
set_option linter.unusedSectionVars false
variable [DecidableEq Vot] [Inhabited Vot]
attribute [local go_sem ↓] Go.wp_at_zero Go.wp_at_succ

set_option linter.unusedSimpArgs false

structure Slt where
  con : Int
  sh : Int
  pr : Int
  lb : Int
  lv : Int
  cast : List Vot
variable [DecidableEq Slt] [Inhabited Slt]

def sltR : Rep Slt where
  V := fun w v x => ∃ u1, v = .agg #[.int .i64 x.con, .int .i64 x.sh, .int .i64 x.pr, .int .i64 x.lb, .int .i64 x.lv, u1] ∧ votsR.V w u1 x.cast
  O := fun w base F v x => ∃ u1 F1, v = .agg #[.int .i64 x.con, .int .i64 x.sh, .int .i64 x.pr, .int .i64 x.lb, .int .i64 x.lv, u1] ∧ votsR.O w base F1 u1 x.cast ∧ (∀ b, F b ↔ (F1 b))
  below := fun h hb => by
    obtain ⟨u1, rfl, h1⟩ := h
    exact ⟨u1, rfl, votsR.below h1 hb⟩
  ofO := fun h => by
    obtain ⟨u1, F1, rfl, h1, _⟩ := h
    exact ⟨u1, rfl, votsR.ofO h1⟩
  mod := fun h hm hd => by
    obtain ⟨u1, F1, rfl, h1, hF⟩ := h
    exact ⟨u1, F1, rfl, votsR.mod h1 hm (fun b hb => hd b ((hF b).2 hb)), hF⟩
  rng := fun h b hb => by
    obtain ⟨u1, F1, rfl, h1, hF⟩ := h
    rcases (hF b).1 hb with hb
    · exact votsR.rng h1 b hb
  base := fun h hb => by
    obtain ⟨u1, F1, rfl, h1, hF⟩ := h
    exact ⟨u1, F1, rfl, votsR.base h1 hb, hF⟩
def lvSlt (v : Value) : List Value := match v with | .agg a => one (a.getD 0 (.int .i64 0)) ++ one (a.getD 1 (.int .i64 0)) ++ one (a.getD 2 (.int .i64 0)) ++ one (a.getD 3 (.int .i64 0)) ++ one (a.getD 4 (.int .i64 0)) ++ one (a.getD 5 (.int .i64 0)) | _ => []
end Go.Proofs.Yteppnppknfldbaa

/-
  SlotResult. (Written by program: nest.py.)
-/
namespace Go.Proofs.Yteppnppknfldbaa
open Go.RowKit
set_option linter.unusedSectionVars false
variable [DecidableEq Vot] [Inhabited Vot] [DecidableEq Slt] [Inhabited Slt]
attribute [local go_sem ↓] Go.wp_at_zero Go.wp_at_succ

set_option linter.unusedSimpArgs false

structure SltR where
  code : Int
  ob : Int
  ov : Int
  slot : Slt
variable [DecidableEq SltR] [Inhabited SltR]

def sltRR : Rep SltR where
  V := fun w v x => ∃ u1_1, v = .agg #[.int .i64 x.code, .int .i64 x.ob, .int .i64 x.ov, .int .i64 x.slot.con, .int .i64 x.slot.sh, .int .i64 x.slot.pr, .int .i64 x.slot.lb, .int .i64 x.slot.lv, u1_1] ∧ sltR.V w (.agg #[.int .i64 x.slot.con, .int .i64 x.slot.sh, .int .i64 x.slot.pr, .int .i64 x.slot.lb, .int .i64 x.slot.lv, u1_1]) x.slot
  O := fun w base F v x => ∃ u1_1 F1, v = .agg #[.int .i64 x.code, .int .i64 x.ob, .int .i64 x.ov, .int .i64 x.slot.con, .int .i64 x.slot.sh, .int .i64 x.slot.pr, .int .i64 x.slot.lb, .int .i64 x.slot.lv, u1_1] ∧ sltR.O w base F1 (.agg #[.int .i64 x.slot.con, .int .i64 x.slot.sh, .int .i64 x.slot.pr, .int .i64 x.slot.lb, .int .i64 x.slot.lv, u1_1]) x.slot ∧ (∀ b, F b ↔ (F1 b))
  below := fun h hb => by
    obtain ⟨u1_1, rfl, h1⟩ := h
    exact ⟨u1_1, rfl, sltR.below h1 hb⟩
  ofO := fun h => by
    obtain ⟨u1_1, F1, rfl, h1, _⟩ := h
    exact ⟨u1_1, rfl, sltR.ofO h1⟩
  mod := fun h hm hd => by
    obtain ⟨u1_1, F1, rfl, h1, hF⟩ := h
    exact ⟨u1_1, F1, rfl, sltR.mod h1 hm (fun b hb => hd b ((hF b).2 hb)), hF⟩
  rng := fun h b hb => by
    obtain ⟨u1_1, F1, rfl, h1, hF⟩ := h
    rcases (hF b).1 hb with hb
    · exact sltR.rng h1 b hb
  base := fun h hb => by
    obtain ⟨u1_1, F1, rfl, h1, hF⟩ := h
    exact ⟨u1_1, F1, rfl, sltR.base h1 hb, hF⟩
end Go.Proofs.Yteppnppknfldbaa

/-
  Slices of Balance: the law's own copy, comparison, count, marks. (Written by program after my texts on legs.)
-/
namespace Go.Proofs.Yteppnppknfldbaa
open Go.RowKit
set_option linter.unusedSectionVars false
attribute [local go_sem ↓] Go.wp_at_zero Go.wp_at_succ

structure Bal where
  ac : Int
  ast : Int
  am : Int
variable [DecidableEq Bal] [Inhabited Bal]

end Go.Proofs.Yteppnppknfldbaa

/-
  Ledger. (Written by program: nest.py.)
-/
namespace Go.Proofs.Yteppnppknfldbaa
open Go.RowKit
set_option linter.unusedSectionVars false
variable [DecidableEq Bal] [Inhabited Bal]
attribute [local go_sem ↓] Go.wp_at_zero Go.wp_at_succ

structure Ledg where
  shards : List (List Bal)
variable [DecidableEq Ledg] [Inhabited Ledg]

end Go.Proofs.Yteppnppknfldbaa

