/-
  Rows of impl.Balance: the uniform forms. (Written by program: nest.py.)
-/
import Derived.Test.YteebglgbeijolaaFlatBal
import Derived.Test.YteebglgbeijolaaSep
namespace Go.Proofs.Yteebglgbeijolaa
open Go.RowKit
set_option linter.unusedSectionVars false
variable [DecidableEq Bal] [Inhabited Bal]
attribute [local go_sem ↓] Go.wp_at_zero Go.wp_at_succ

def balsR : Rep (List Bal) := fRep 178 3 balsC BalsV BalsV_below BalsV_of_owns
def wtBals (xs : List Bal) : Nat := xs.length
def cntBals (xs : List Bal) : Nat := 3 * xs.length
def mkBals (k : Int) (xs : List Bal) : List Bal := balMarks k xs.length
theorem bals_form {w : World} {v : Value} {xs : List Bal} (h : balsR.V w v xs) : ∃ a c, v = .slice a xs.length c := by
  obtain ⟨a, c, rfl, _⟩ := h
  exact ⟨_, _, rfl⟩

theorem bals_cnt (d : List Bal) : cntBals d ≤ 3 * wtBals d := by unfold cntBals wtBals; omega

theorem toBalanceS_u (x : Value) (d : List Bal) (w : World) (hx : balsR.V w x d) (hn : wtBals d ≤ 1048576) :
    Calls Try.prog 128 #[x] w fun e w' => ∃ v F, e = .returned v ∧ balsR.O w' w.heap.size F v d ∧ Below w.heap.size w w' := by
  refine (toBalanceS_any x d w hx hn).mono ?_
  rintro e w' ⟨v, rfl, ho, hb⟩
  exact ⟨v, _, rfl, ⟨ho, rfl⟩, hb⟩

theorem eqBalanceS_u (x y : Value) (d d' : List Bal) (w : World) (hx : balsR.V w x d) (hy : balsR.V w y d') :
    Calls Try.prog 137 #[x, y] w fun e w' => e = .returned (.bool (decide (d = d'))) ∧ Below w.heap.size w w' := eqBalanceS_any x y d d' w hx hy

theorem szBalanceS_u (x : Value) (d : List Bal) (left : Int) (w : World) (hx : balsR.V w x d) (h0 : 0 ≤ left) (h1 : left ≤ 1048576) :
    Calls Try.prog 123 #[x, .int .i64 left] w fun e w' => e = .returned (.int .i64 (szLen left (wtBals d))) ∧ Below w.heap.size w w' := by
  refine (szBalanceS_any x d left w hx h0 h1).mono ?_
  rintro e w' ⟨rfl, rfl⟩
  exact ⟨rfl, Below.refl _ _⟩

theorem markBalanceS_u (v : Value) (d : List Bal) (base : Nat) (F : Nat → Prop) (k : Int) (w : World) (ho : balsR.O w base F v d) (hw : wtBals d ≤ 1048576) (hn : k + cntBals d ≤ 1073741824) (hk0 : 0 ≤ k) :
    Calls Try.prog 139 #[v, .int .i64 k] w fun r w' => r = .returned (.int .i64 (k + cntBals d)) ∧ balsR.O w' base F v (mkBals k d) ∧ Mod F w w' := by
  refine (markBalanceS_any v d.length _ base _ k w ho.1 hw hk0 (by omega)).mono ?_
  rintro e w' ⟨rfl, h1, h2⟩
  refine ⟨by simp [cntBals], ⟨?_, ho.2⟩, by rw [ho.2]; exact Mod.of_grown h2⟩
  unfold mkBals
  rw [length_balMarks]
  exact h1

theorem heldBalanceS_u (v : Value) (d : List Bal) (k : Int) (w : World) (hv : balsR.V w v (mkBals k d)) (hw : wtBals d ≤ 1048576) (hn : k + cntBals d ≤ 1073741824) (hk0 : 0 ≤ k) :
    Calls Try.prog 163 #[v, .int .i64 k] w fun r w' => r = .returned (.int .i64 (k + cntBals d)) ∧ Below w.heap.size w w' := by
  refine (heldBalanceS_any v d.length k w hv hw hk0 (by omega)).mono ?_
  rintro e w' ⟨rfl, rfl⟩
  exact ⟨by simp [cntBals], Below.refl _ _⟩

end Go.Proofs.Yteebglgbeijolaa
