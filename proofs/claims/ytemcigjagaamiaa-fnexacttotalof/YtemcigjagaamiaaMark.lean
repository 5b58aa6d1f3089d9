/-
  Marks written into a row of legs that the law owns, and read back.
-/
import Derived.Test.YtemcigjagaamiaaCon
namespace Go.Proofs.Ytemcigjagaamiaa
open Go.RowKit
set_option linter.unusedSectionVars false
variable [DecidableEq Leg] [Inhabited Leg]
attribute [local go_sem ↓] Go.wp_at_zero Go.wp_at_succ

def markL (k : Int) (i : Nat) : Leg := ⟨k + 4 * i, k + 4 * i + 1, k + 4 * i + 1 + 1, k + 4 * i + 1 + 1 + 1⟩
def marksL (k : Int) (n : Nat) : List Leg := (List.range n).map (markL k)
theorem length_marksL (k : Int) (n : Nat) : (marksL k n).length = n := by simp [marksL]
theorem getD_marksL (k : Int) (n i : Nat) (h : i < n) : (marksL k n).getD i default = markL k i := by simp [marksL, List.getD, h]

theorem grown_refl (w : World) (r : Option Nat) : w.grownBy w r := ⟨rfl, rfl, rfl, Nat.le_refl _, fun _ _ _ => rfl⟩
theorem grown_trans {w w1 w2 : World} {r : Option Nat} (h : w.grownBy w1 r) (k : w1.grownBy w2 r) : w.grownBy w2 r :=
  ⟨k.os.trans h.os, k.tape.trans h.tape, k.output.trans h.output, Nat.le_trans h.size k.size, fun i hi hr => (k.block i (Nat.lt_of_lt_of_le hi h.size) hr).trans (h.block i hi hr)⟩

theorem marks_back {w : World} {base e : Nat} {v : Value} {n : Nat} {k : Int} (h : w.ownsRow base e 4 v n (legsC (marksL k n))) : LegsV w v (marksL k n) :=
  LegsV_of_owns (by rw [length_marksL]; exact h)

end Go.Proofs.Ytemcigjagaamiaa
