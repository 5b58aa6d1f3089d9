import Derived.Test.YtecfelacdapdgaaGreatPrnEventsOfLaw2
import Derived.RangeFuncNested
import Derived.RangeFuncBound
import Derived.RangeFuncCalls
import Derived.RangeFuncLeaves
import Derived.Shelf.Abstract
import Derived.Test.YtecfelacdapdgaaGreatPrnEventsOfLaw15
import Derived.Test.YtecfelacdapdgaaGreatPrnEventsOfLaw9
import Derived.WalkKit
import Derived.OwnWalkIn
import Derived.TacticsInMore
import Derived.LoopNIn
import Derived.LoopIn
import Derived.Maps.OwnIn
import Derived.Maps.AppendAt
import Derived.Test.YtecfelacdapdgaaGreatPrnEventsOfLaw7
import Derived.RegionTactic
import Derived.ChangeAlike
import Derived.BigRegion
import Derived.Carry
import Derived.Deep.RegionHeld3
import Derived.Deep.DrawnRows
import Derived.BigQuiet
import Derived.Deep.QuietTactic
import Derived.Test.YtecfelacdapdgaaGreatPrnEventsOfLaw3
import Derived.Maps.RangeWalk
import Derived.Sort.MapsRangeIn

/-
  slices.Collect over an iterator of keys whose order is its own. (Out of Clt's text.)
-/
namespace Go.Proofs.YtecfelacdapdgaaGreat
open Go.RowKit Go.Shelf
set_option linter.unusedVariables false
set_option linter.unusedSimpArgs false
attribute [local go_sem] Oper.semAt_some

abbrev K3 := Int × Int × Int
end Go.Proofs.YtecfelacdapdgaaGreat

/-
  The program's book of a ledger: made, asked.
-/
namespace Go.Proofs.YtecfelacdapdgaaGreat
open Go.RowKit
set_option linter.unusedSectionVars false
variable [DecidableEq Bal] [Inhabited Bal] [DecidableEq Ledg] [Inhabited Ledg] [DecidableEq Leg] [Inhabited Leg]
attribute [local go_sem ↓] Go.wp_at_zero Go.wp_at_succ

structure BkC (W : World) (B n : Nat) : Prop where
  res : W.heap[B + 1]? = some (.cells #[.int .i64 0, .map none] 190)
  bk : W.heap[B + 1 + 1 + 1]? = some (.cells #[.int .i64 n, .map (some (B + 1 + 1))] 190)
theorem lt_of_get {W : World} {b : Nat} {o : Obj} (h : W.heap[b]? = some o) : b < W.heap.size := by
  rcases Nat.lt_or_ge b W.heap.size with h' | h'
  · exact h'
  · rw [Array.getElem?_eq_none h'] at h; cases h
theorem BkC.below {W W' : World} {B n : Nat} (h : BkC W B n) (hb : Below W.heap.size W W') : BkC W' B n :=
  ⟨(hb.block _ (lt_of_get h.res)).trans h.res, (hb.block _ (lt_of_get h.bk)).trans h.bk⟩
theorem BkC.grown {W W' : World} {B n : Nat} (h : BkC W B n) (hg : W.grownBy W' (some (B + 1 + 1))) : BkC W' B n :=
  ⟨(hg.block _ (lt_of_get h.res) (by simp)).trans h.res, (hg.block _ (lt_of_get h.bk) (by simp)).trans h.bk⟩
end Go.Proofs.YtecfelacdapdgaaGreat

/-
  maps.Keys over a book: its keys, in whatever order.
-/
namespace Go.Proofs.YtecfelacdapdgaaGreat
open Go.RowKit Go.Shelf Go.Maps
set_option linter.unusedSectionVars false
variable [DecidableEq Bal] [Inhabited Bal] [DecidableEq Ledg] [Inhabited Ledg] [DecidableEq Leg] [Inhabited Leg] [DecidableEq Cont] [Inhabited Cont]
set_option linter.unusedVariables false
set_option linter.unusedSimpArgs false
attribute [local go_sem] Oper.semAt_some

def KOk (f : Int → Int → Int → Option Int) (ys : List K3) : Prop := ys.Nodup ∧ ∀ x ∈ ys, (f x.1 x.2.1 x.2.2).isSome = true
end Go.Proofs.YtecfelacdapdgaaGreat

/-
  LedgerResult. (Written by program: nest.py.)
-/
namespace Go.Proofs.YtecfelacdapdgaaGreat
open Go.RowKit
set_option linter.unusedSectionVars false
variable [DecidableEq Bal] [Inhabited Bal] [DecidableEq Ledg] [Inhabited Ledg]
attribute [local go_sem ↓] Go.wp_at_zero Go.wp_at_succ

set_option linter.unusedSimpArgs false

structure LedgR where
  code : Int
  ledger : Ledg
variable [DecidableEq LedgR] [Inhabited LedgR]

end Go.Proofs.YtecfelacdapdgaaGreat

