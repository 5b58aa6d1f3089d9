/-
  Rows of impl.Leg: the uniform forms. (Written by program: nest.py.)
-/
import Derived.Test.YtemcigjagaamiaaMark
import Derived.Test.YtemcigjagaamiaaSep
namespace Go.Proofs.Ytemcigjagaamiaa
open Go.RowKit
set_option linter.unusedSectionVars false
variable [DecidableEq Leg] [Inhabited Leg]
attribute [local go_sem ↓] Go.wp_at_zero Go.wp_at_succ

def legsR : Rep (List Leg) := fRep 86 4 legsC LegsV LegsV_below LegsV_of_owns
def wtLegs (xs : List Leg) : Nat := xs.length
def cntLegs (xs : List Leg) : Nat := 4 * xs.length
def mkLegs (k : Int) (xs : List Leg) : List Leg := marksL k xs.length
theorem legs_form {w : World} {v : Value} {xs : List Leg} (h : legsR.V w v xs) : ∃ a c, v = .slice a xs.length c := by
  obtain ⟨a, c, rfl, _⟩ := h
  exact ⟨_, _, rfl⟩

theorem legs_cnt (d : List Leg) : cntLegs d ≤ 4 * wtLegs d := by unfold cntLegs wtLegs; omega

theorem toLegS_u (x : Value) (d : List Leg) (w : World) (hx : legsR.V w x d) (hn : wtLegs d ≤ 1048576) :
    Calls Try.prog 49 #[x] w fun e w' => ∃ v F, e = .returned v ∧ legsR.O w' w.heap.size F v d ∧ Below w.heap.size w w' := by
  refine (toLegS_any x d w hx hn).mono ?_
  rintro e w' ⟨v, rfl, ho, hb⟩
  exact ⟨v, _, rfl, ⟨ho, rfl⟩, hb⟩

theorem eqLegS_u (x y : Value) (d d' : List Leg) (w : World) (hx : legsR.V w x d) (hy : legsR.V w y d') :
    Calls Try.prog 51 #[x, y] w fun e w' => e = .returned (.bool (decide (d = d'))) ∧ Below w.heap.size w w' := eqLegS_any x y d d' w hx hy

theorem szLegS_u (x : Value) (d : List Leg) (left : Int) (w : World) (hx : legsR.V w x d) (h0 : 0 ≤ left) (h1 : left ≤ 1048576) :
    Calls Try.prog 47 #[x, .int .i64 left] w fun e w' => e = .returned (.int .i64 (szLen left (wtLegs d))) ∧ Below w.heap.size w w' := by
  refine (szLegS_any x d left w hx h0 h1).mono ?_
  rintro e w' ⟨rfl, rfl⟩
  exact ⟨rfl, Below.refl _ _⟩

end Go.Proofs.Ytemcigjagaamiaa
