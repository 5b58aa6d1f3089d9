/-
  Rows of impl.Leg: the uniform forms. (Written by program: nest.py.)
-/
import Derived.Test.YteebglgbeijolaaMark
import Derived.Test.YteebglgbeijolaaSep
namespace Go.Proofs.Yteebglgbeijolaa
open Go.RowKit
set_option linter.unusedSectionVars false
variable [DecidableEq Leg] [Inhabited Leg]
attribute [local go_sem ↓] Go.wp_at_zero Go.wp_at_succ

def legsR : Rep (List Leg) := fRep 97 4 legsC LegsV LegsV_below LegsV_of_owns
def wtLegs (xs : List Leg) : Nat := xs.length
def cntLegs (xs : List Leg) : Nat := 4 * xs.length
def mkLegs (k : Int) (xs : List Leg) : List Leg := marksL k xs.length
theorem legs_form {w : World} {v : Value} {xs : List Leg} (h : legsR.V w v xs) : ∃ a c, v = .slice a xs.length c := by
  obtain ⟨a, c, rfl, _⟩ := h
  exact ⟨_, _, rfl⟩

theorem legs_cnt (d : List Leg) : cntLegs d ≤ 4 * wtLegs d := by unfold cntLegs wtLegs; omega

theorem toLegS_u (x : Value) (d : List Leg) (w : World) (hx : legsR.V w x d) (hn : wtLegs d ≤ 1048576) :
    Calls Try.prog 91 #[x] w fun e w' => ∃ v F, e = .returned v ∧ legsR.O w' w.heap.size F v d ∧ Below w.heap.size w w' := by
  refine (toLegS_any x d w hx hn).mono ?_
  rintro e w' ⟨v, rfl, ho, hb⟩
  exact ⟨v, _, rfl, ⟨ho, rfl⟩, hb⟩

theorem eqLegS_u (x y : Value) (d d' : List Leg) (w : World) (hx : legsR.V w x d) (hy : legsR.V w y d') :
    Calls Try.prog 97 #[x, y] w fun e w' => e = .returned (.bool (decide (d = d'))) ∧ Below w.heap.size w w' := eqLegS_any x y d d' w hx hy

theorem szLegS_u (x : Value) (d : List Leg) (left : Int) (w : World) (hx : legsR.V w x d) (h0 : 0 ≤ left) (h1 : left ≤ 1048576) :
    Calls Try.prog 87 #[x, .int .i64 left] w fun e w' => e = .returned (.int .i64 (szLen left (wtLegs d))) ∧ Below w.heap.size w w' := by
  refine (szLegS_any x d left w hx h0 h1).mono ?_
  rintro e w' ⟨rfl, rfl⟩
  exact ⟨rfl, Below.refl _ _⟩

theorem markLegS_u (v : Value) (d : List Leg) (base : Nat) (F : Nat → Prop) (k : Int) (w : World) (ho : legsR.O w base F v d) (hw : wtLegs d ≤ 1048576) (hn : k + cntLegs d ≤ 1073741824) (hk0 : 0 ≤ k) :
    Calls Try.prog 99 #[v, .int .i64 k] w fun r w' => r = .returned (.int .i64 (k + cntLegs d)) ∧ legsR.O w' base F v (mkLegs k d) ∧ Mod F w w' := by
  refine (markLegS_any v d.length _ base _ k w ho.1 hw hk0 (by omega)).mono ?_
  rintro e w' ⟨rfl, h1, h2⟩
  refine ⟨by simp [cntLegs], ⟨?_, ho.2⟩, by rw [ho.2]; exact Mod.of_grown h2⟩
  unfold mkLegs
  rw [length_marksL]
  exact h1

end Go.Proofs.Yteebglgbeijolaa
