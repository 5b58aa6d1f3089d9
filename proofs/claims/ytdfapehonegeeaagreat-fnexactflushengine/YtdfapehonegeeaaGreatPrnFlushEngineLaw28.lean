import Derived.Test.YtdfapehonegeeaaGreatPrnFlushEngineLaw27
import Derived.Test.YtdfapehonegeeaaGreatPrnFlushEngineLaw5
import Derived.Deep.Strs
import Derived.Test.YtdfapehonegeeaaGreatPrnFlushEngineLaw11
import Derived.Lib.SmallJoins

/-
  Rows of a table handed in.
-/
namespace Go.Proofs.YtdfapehonegeeaaGreat
open Go.ChangeShapes Go.WideShapes Go.ChangeAt Go.RowKit Go.Joins
set_option linter.unusedSectionVars false
variable [DecidableEq Rw] [Inhabited Rw]

theorem cellsRw : Tryz.prog.cellsOf 128 = 4 := by kernel_rfl
theorem cellsI64 : Tryz.prog.cellsOf 2 = 1 := by kernel_rfl
theorem cellsStr : Tryz.prog.cellsOf 9 = 1 := by kernel_rfl
theorem cellsBool : Tryz.prog.cellsOf 4 = 1 := by kernel_rfl
set_option maxRecDepth 100000 in
theorem openRw {H : Type} {enc : TypeId × Value → H} {W : World} {sp : Nat → Bool} {held : Bool} {n : Nat} {cs : List Value} {y : DataW H × List MemPlace}
    (ht : DataW.trod enc Tryz.prog W 0 sp held n 128 cs = some y) (hl : cs.length = 4) : ∃ x : Rw, cs = rowC x ∧ x.key.size ≤ maxLen ∧ x.val.size ≤ maxLen := by
  obtain ⟨y0, y1, y2, y3, m, hy, hlen, h0, h1, h2, h3⟩ := trod_struct4 Tryz.underlying128 ht
  simp only [cellsI64, cellsStr, cellsBool] at h0 h1 h2 h3
  match cs, hl with
  | [c0, c1, c2, c3], _ =>
    obtain ⟨x0, e0, _, g0⟩ := DataW.trod_string Tryz.underlying9 h0
    obtain ⟨x1, e1, _⟩ := DataW.trod_int Tryz.underlying2 h1
    obtain ⟨x2, e2, _, g2⟩ := DataW.trod_string Tryz.underlying9 h2
    obtain ⟨x3, e3, _⟩ := DataW.trod_bool Tryz.underlying4 h3
    simp at e0 e1 e2 e3
    subst e0 e1 e2 e3
    exact ⟨⟨x0, x1, x2, x3⟩, rfl, g0, g2⟩
set_option maxRecDepth 100000 in
theorem openRows {H : Type} {enc : TypeId × Value → H} {W : World} {sp : Nat → Bool} {held : Bool} {n : Nat} {v : Value} {y : DataW H × List MemPlace}
    (ht : DataW.trod enc Tryz.prog W 0 sp held n 25 [v] = some y) : ∃ xs : List Rw, rowsR.V W v xs := by
  obtain ⟨a, cap, xs, cs, rfl, h1, h2, h3⟩ := openRow (q := fun cs x => cs = rowC x ∧ x.key.size ≤ maxLen ∧ x.val.size ≤ maxLen) Tryz.underlying25 cellsRw (by omega) (fun n cs y h hl => openRw h hl) ht
  refine ⟨xs, ⟨a, cap, rfl, h1, h2, fun i hi => ?_⟩, fun i hi => (h3 i hi).1.2⟩
  obtain ⟨⟨g1, _⟩, g3, b, o, g4, g5⟩ := h3 i hi
  rw [g1] at g5
  exact ⟨b, o, g4, g5 0 (by omega), g5 1 (by omega), g5 2 (by omega), g5 3 (by omega)⟩
set_option maxRecDepth 100000 in
theorem openRowss {H : Type} {enc : TypeId × Value → H} {W : World} {sp : Nat → Bool} {held : Bool} {n : Nat} {v : Value} {y : DataW H × List MemPlace} {te : Nat}
    (ht : DataW.trod enc Tryz.prog W 0 sp held n 26 [v] = some y) : ∃ xs : List (List Rw), (nRep rowsR te 1 one).V W v xs := by
  refine openN Tryz.underlying26 (by kernel_rfl) (by omega) (fun n cs y h hl => ?_) ht
  match cs, hl with
  | [c], _ =>
    obtain ⟨x, hx⟩ := openRows h
    exact ⟨x, c, rfl, hx⟩
end Go.Proofs.YtdfapehonegeeaaGreat

/-
  An engine handed in.
-/
namespace Go.Proofs.YtdfapehonegeeaaGreat
open Go.ChangeShapes Go.WideShapes Go.ChangeAt Go.RowKit Go.Joins
set_option linter.unusedSectionVars false
variable [DecidableEq Rw] [Inhabited Rw] [DecidableEq Logg] [Inhabited Logg] [DecidableEq Engn] [Inhabited Engn]

set_option maxRecDepth 100000 in
theorem openEng {H : Type} {enc : TypeId × Value → H} {W : World} {sp : Nat → Bool} {held : Bool} {v : Value} {d : DataW H} {p : List MemPlace} {base : Nat} {r : Reach}
    (hv : Value.okWide Tryz.prog W r base 28 v) (h : DataW.Trod enc Tryz.prog W 0 sp held 28 v d p) : ∃ x, engnR.V W v x := by
  obtain ⟨cs, rfl, hsz⟩ := okWide_struct Tryz.underlying28 hv
  have hC : Tryz.prog.cellsOf 28 = 5 := by kernel_rfl
  have z0 : Tryz.prog.cellsOf 24 = 2 := by kernel_rfl
  have z1 : Tryz.prog.cellsOf 25 = 1 := by kernel_rfl
  have z2 : Tryz.prog.cellsOf 26 = 1 := by kernel_rfl
  have z3 : Tryz.prog.cellsOf 22 = 1 := by kernel_rfl
  obtain ⟨l⟩ := cs
  match l, hsz.trans hC with
  | [c0, c1, c2, c3, c4], _ =>
    obtain ⟨fuel, hf⟩ := h
    obtain ⟨y0, y1, y2, y3, m, hx, _, h0, h1, h2, h3⟩ := trod_struct4 Tryz.underlying28 hf
    have h0' : DataW.trod enc Tryz.prog W 0 sp held m 24 [c0, c1] = some y0 := by simpa [Value.cells, z0] using h0
    have h1' : DataW.trod enc Tryz.prog W 0 sp held m 25 [c2] = some y1 := by simpa [Value.cells, z1] using h1
    have h2' : DataW.trod enc Tryz.prog W 0 sp held m 26 [c3] = some y2 := by simpa [Value.cells, z2] using h2
    have h3' : DataW.trod enc Tryz.prog W 0 sp held m 2 [c4] = some y3 := by simpa [Value.cells, cellsI64] using h3
    obtain ⟨q0, q1, n, hq, _, g0, g1⟩ := trod_struct2 Tryz.underlying24 h0'
    have g0' : DataW.trod enc Tryz.prog W 0 sp held n 22 [c0] = some q0 := by simpa [z3] using g0
    have g1' : DataW.trod enc Tryz.prog W 0 sp held n 22 [c1] = some q1 := by simpa [z3] using g1
    obtain ⟨s, hs⟩ := openBytes g0'
    obtain ⟨o, ho⟩ := openBytes g1'
    obtain ⟨rows, hr⟩ := openRows h1'
    obtain ⟨tabs, ht⟩ := openRowss (te := 32) h2'
    obtain ⟨x, ex, _⟩ := DataW.trod_int Tryz.underlying2 h3'
    simp at ex
    subst ex
    exact ⟨⟨⟨s, o⟩, rows, tabs, x⟩, c0, c1, c2, c3, rfl, ⟨c0, c1, rfl, hs, ho⟩, hr, ht⟩
end Go.Proofs.YtdfapehonegeeaaGreat

