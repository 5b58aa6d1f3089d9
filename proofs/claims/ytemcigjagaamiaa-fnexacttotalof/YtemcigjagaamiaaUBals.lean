/-
  Rows of impl.Balance: the uniform forms. (Written by program: nest.py.)
-/
import Derived.Test.YtemcigjagaamiaaFlatBal
import Derived.Test.YtemcigjagaamiaaSep
namespace Go.Proofs.Ytemcigjagaamiaa
open Go.RowKit
set_option linter.unusedSectionVars false
variable [DecidableEq Bal] [Inhabited Bal]
attribute [local go_sem ↓] Go.wp_at_zero Go.wp_at_succ

def balsR : Rep (List Bal) := fRep 60 3 balsC BalsV BalsV_below BalsV_of_owns
def wtBals (xs : List Bal) : Nat := xs.length
def cntBals (xs : List Bal) : Nat := 3 * xs.length
def mkBals (k : Int) (xs : List Bal) : List Bal := balMarks k xs.length
theorem bals_form {w : World} {v : Value} {xs : List Bal} (h : balsR.V w v xs) : ∃ a c, v = .slice a xs.length c := by
  obtain ⟨a, c, rfl, _⟩ := h
  exact ⟨_, _, rfl⟩

theorem bals_cnt (d : List Bal) : cntBals d ≤ 3 * wtBals d := by unfold cntBals wtBals; omega

theorem toBalanceS_u (x : Value) (d : List Bal) (w : World) (hx : balsR.V w x d) (hn : wtBals d ≤ 1048576) :
    Calls Try.prog 11 #[x] w fun e w' => ∃ v F, e = .returned v ∧ balsR.O w' w.heap.size F v d ∧ Below w.heap.size w w' := by
  refine (toBalanceS_any x d w hx hn).mono ?_
  rintro e w' ⟨v, rfl, ho, hb⟩
  exact ⟨v, _, rfl, ⟨ho, rfl⟩, hb⟩

theorem eqBalanceS_u (x y : Value) (d d' : List Bal) (w : World) (hx : balsR.V w x d) (hy : balsR.V w y d') :
    Calls Try.prog 13 #[x, y] w fun e w' => e = .returned (.bool (decide (d = d'))) ∧ Below w.heap.size w w' := eqBalanceS_any x y d d' w hx hy

theorem szBalanceS_u (x : Value) (d : List Bal) (left : Int) (w : World) (hx : balsR.V w x d) (h0 : 0 ≤ left) (h1 : left ≤ 1048576) :
    Calls Try.prog 9 #[x, .int .i64 left] w fun e w' => e = .returned (.int .i64 (szLen left (wtBals d))) ∧ Below w.heap.size w w' := by
  refine (szBalanceS_any x d left w hx h0 h1).mono ?_
  rintro e w' ⟨rfl, rfl⟩
  exact ⟨rfl, Below.refl _ _⟩

end Go.Proofs.Ytemcigjagaamiaa
