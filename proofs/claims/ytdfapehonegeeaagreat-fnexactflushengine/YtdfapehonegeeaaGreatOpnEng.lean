import Derived.Test.YtdfapehonegeeaaGreatBndEngineFaultLaw33
import Derived.Test.YtdfapehonegeeaaGreatBndEngineFaultLaw15
import Derived.Lib.SmallJoins

/-
  An engine handed in.
-/
namespace Go.Proofs.YtdfapehonegeeaaGreat
open Go.ChangeShapes Go.WideShapes Go.ChangeAt Go.RowKit Go.Joins
set_option linter.unusedSectionVars false
variable [DecidableEq Rw] [Inhabited Rw] [DecidableEq Logg] [Inhabited Logg] [DecidableEq Engn] [Inhabited Engn]

set_option maxRecDepth 100000 in
theorem openEng {H : Type} {enc : TypeId × Value → H} {W : World} {sp : Nat → Bool} {held : Bool} {v : Value} {d : DataW H} {p : List MemPlace} {base : Nat} {r : Reach}
    (hv : Value.okWide Tryz.prog W r base 28 v) (h : DataW.Trod enc Tryz.prog W 0 sp held 28 v d p) : ∃ x, engnR.V W v x := by
  obtain ⟨cs, rfl, hsz⟩ := okWide_struct Tryz.underlying28 hv
  have hC : Tryz.prog.cellsOf 28 = 5 := by kernel_rfl
  have z0 : Tryz.prog.cellsOf 24 = 2 := by kernel_rfl
  have z1 : Tryz.prog.cellsOf 25 = 1 := by kernel_rfl
  have z2 : Tryz.prog.cellsOf 26 = 1 := by kernel_rfl
  have z3 : Tryz.prog.cellsOf 22 = 1 := by kernel_rfl
  obtain ⟨l⟩ := cs
  match l, hsz.trans hC with
  | [c0, c1, c2, c3, c4], _ =>
    obtain ⟨fuel, hf⟩ := h
    obtain ⟨y0, y1, y2, y3, m, hx, _, h0, h1, h2, h3⟩ := trod_struct4 Tryz.underlying28 hf
    have h0' : DataW.trod enc Tryz.prog W 0 sp held m 24 [c0, c1] = some y0 := by simpa [Value.cells, z0] using h0
    have h1' : DataW.trod enc Tryz.prog W 0 sp held m 25 [c2] = some y1 := by simpa [Value.cells, z1] using h1
    have h2' : DataW.trod enc Tryz.prog W 0 sp held m 26 [c3] = some y2 := by simpa [Value.cells, z2] using h2
    have h3' : DataW.trod enc Tryz.prog W 0 sp held m 2 [c4] = some y3 := by simpa [Value.cells, cellsI64] using h3
    obtain ⟨q0, q1, n, hq, _, g0, g1⟩ := trod_struct2 Tryz.underlying24 h0'
    have g0' : DataW.trod enc Tryz.prog W 0 sp held n 22 [c0] = some q0 := by simpa [z3] using g0
    have g1' : DataW.trod enc Tryz.prog W 0 sp held n 22 [c1] = some q1 := by simpa [z3] using g1
    obtain ⟨s, hs⟩ := openBytes g0'
    obtain ⟨o, ho⟩ := openBytes g1'
    obtain ⟨rows, hr⟩ := openRows h1'
    obtain ⟨tabs, ht⟩ := openRowss (te := 32) h2'
    obtain ⟨x, ex, _⟩ := DataW.trod_int Tryz.underlying2 h3'
    simp at ex
    subst ex
    exact ⟨⟨⟨s, o⟩, rows, tabs, x⟩, c0, c1, c2, c3, rfl, ⟨c0, c1, rfl, hs, ho⟩, hr, ht⟩

end Go.Proofs.YtdfapehonegeeaaGreat

