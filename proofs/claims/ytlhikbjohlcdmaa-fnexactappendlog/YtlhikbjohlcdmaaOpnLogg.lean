/-
  A log handed in.
-/
import Derived.Test.YtlhikbjohlcdmaaOpnB
import Derived.Test.YtlhikbjohlcdmaaSLogg
namespace Go.Proofs.Ytlhikbjohlcdmaa
open Go.ChangeShapes Go.WideShapes Go.ChangeAt Go.RowKit Go.Joins
set_option linter.unusedSectionVars false
variable [DecidableEq Logg] [Inhabited Logg]

set_option maxRecDepth 20000 in
theorem openLog {H : Type} {enc : TypeId × Value → H} {W : World} {sp : Nat → Bool} {held : Bool} {v : Value} {d : DataW H} {p : List MemPlace} {base : Nat} {r : Reach}
    (hv : Value.okWide Try.prog W r base 24 v) (h : DataW.Trod enc Try.prog W 0 sp held 24 v d p) : ∃ x, loggR.V W v x := by
  obtain ⟨c0, c1, y0, y1, m, rfl, _, _, hy0, hy1⟩ := open_agg2 Try.underlying24 (by kernel_rfl) (by kernel_rfl) hv h
  obtain ⟨xs, hx⟩ := openBytes hy0
  obtain ⟨ys, hy⟩ := openBytes hy1
  exact ⟨⟨xs, ys⟩, c0, c1, rfl, hx, hy⟩

end Go.Proofs.Ytlhikbjohlcdmaa
