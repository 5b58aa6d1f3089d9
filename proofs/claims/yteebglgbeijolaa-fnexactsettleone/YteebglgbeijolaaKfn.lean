/-
  maps.Keys: a closure over the box of its map; the book's keys, sorted.
-/
import Derived.Test.YteebglgbeijolaaSrf
namespace Go.Proofs.Yteebglgbeijolaa
open Go.RowKit Go.Sort Go.Shelf
set_option linter.unusedSectionVars false
variable [DecidableEq Rw] [Inhabited Rw] [DecidableEq Bal] [Inhabited Bal] [DecidableEq Ledg] [Inhabited Ledg] [DecidableEq Leg] [Inhabited Leg] [DecidableEq Cont] [Inhabited Cont]
set_option linter.unusedVariables false
set_option linter.unusedSimpArgs false
attribute [local go_sem ↓] Go.wp_at_zero Go.wp_at_succ

theorem keysFn_any (w : World) (b : Nat) :
    Calls Try.prog 135 #[.map (some b)] w fun e w' => e = .returned (.func (.func 160) #[] #[.pointer (some ⟨w.heap.size, 0, none⟩)]) ∧ Go.RowKit.Below w.heap.size w w' ∧ w'.cell? ⟨w.heap.size, 0, none⟩ = some (.map (some b)) := by
  go_enter Try.func135, Try.ntmps135
  go_wp2
  go_ret
  exact ⟨rfl, balloc (Below.refl _ _) _, by simp [go_sem]⟩

end Go.Proofs.Yteebglgbeijolaa
