/-
  Rows of a table handed in.
-/
import Derived.Test.YtdfapehonegeeaaOpn
import Derived.Test.YtdfapehonegeeaaTabA
import Derived.Deep.Strs
namespace Go.Proofs.Ytdfapehonegeeaa
open Go.ChangeShapes Go.WideShapes Go.ChangeAt Go.RowKit Go.Joins
set_option linter.unusedSectionVars false
variable [DecidableEq Rw] [Inhabited Rw]

theorem cellsRw : Try.prog.cellsOf 104 = 4 := by kernel_rfl
theorem cellsI64 : Try.prog.cellsOf 2 = 1 := by kernel_rfl
theorem cellsStr : Try.prog.cellsOf 9 = 1 := by kernel_rfl
theorem cellsBool : Try.prog.cellsOf 4 = 1 := by kernel_rfl

set_option maxRecDepth 100000 in
theorem openRw {H : Type} {enc : TypeId × Value → H} {W : World} {sp : Nat → Bool} {held : Bool} {n : Nat} {cs : List Value} {y : DataW H × List MemPlace}
    (ht : DataW.trod enc Try.prog W 0 sp held n 104 cs = some y) (hl : cs.length = 4) : ∃ x : Rw, cs = rowC x ∧ x.key.size ≤ maxLen ∧ x.val.size ≤ maxLen := by
  obtain ⟨y0, y1, y2, y3, m, hy, hlen, h0, h1, h2, h3⟩ := trod_struct4 Try.underlying104 ht
  simp only [cellsI64, cellsStr, cellsBool] at h0 h1 h2 h3
  match cs, hl with
  | [c0, c1, c2, c3], _ =>
    obtain ⟨x0, e0, _, g0⟩ := DataW.trod_string Try.underlying9 h0
    obtain ⟨x1, e1, _⟩ := DataW.trod_int Try.underlying2 h1
    obtain ⟨x2, e2, _, g2⟩ := DataW.trod_string Try.underlying9 h2
    obtain ⟨x3, e3, _⟩ := DataW.trod_bool Try.underlying4 h3
    simp at e0 e1 e2 e3
    subst e0 e1 e2 e3
    exact ⟨⟨x0, x1, x2, x3⟩, rfl, g0, g2⟩

set_option maxRecDepth 100000 in
theorem openRows {H : Type} {enc : TypeId × Value → H} {W : World} {sp : Nat → Bool} {held : Bool} {n : Nat} {v : Value} {y : DataW H × List MemPlace}
    (ht : DataW.trod enc Try.prog W 0 sp held n 47 [v] = some y) : ∃ xs : List Rw, rowsR.V W v xs := by
  obtain ⟨a, cap, xs, cs, rfl, h1, h2, h3⟩ := openRow (q := fun cs x => cs = rowC x ∧ x.key.size ≤ maxLen ∧ x.val.size ≤ maxLen) Try.underlying47 cellsRw (by omega) (fun n cs y h hl => openRw h hl) ht
  refine ⟨xs, ⟨a, cap, rfl, h1, h2, fun i hi => ?_⟩, fun i hi => (h3 i hi).1.2⟩
  obtain ⟨⟨g1, _⟩, g3, b, o, g4, g5⟩ := h3 i hi
  rw [g1] at g5
  exact ⟨b, o, g4, g5 0 (by omega), g5 1 (by omega), g5 2 (by omega), g5 3 (by omega)⟩

set_option maxRecDepth 100000 in
theorem openRowsT {H : Type} {enc : TypeId × Value → H} {W : World} {sp : Nat → Bool} {held : Bool} {v : Value} {d : DataW H} {p : List MemPlace} {base : Nat} {r : Reach}
    (hv : Value.okWide Try.prog W r base 47 v) (h : DataW.Trod enc Try.prog W 0 sp held 47 v d p) : ∃ xs, rowsR.V W v xs := by
  obtain ⟨a, n, c, rfl⟩ := okWide_slice Try.underlying47 hv
  obtain ⟨fuel, hf⟩ := h
  exact openRows (by simpa [Value.cells] using hf)

set_option maxRecDepth 100000 in
theorem openRowss {H : Type} {enc : TypeId × Value → H} {W : World} {sp : Nat → Bool} {held : Bool} {n : Nat} {v : Value} {y : DataW H × List MemPlace} {te : Nat}
    (ht : DataW.trod enc Try.prog W 0 sp held n 39 [v] = some y) : ∃ xs : List (List Rw), (nRep rowsR te 1 one).V W v xs := by
  refine openN Try.underlying39 (by kernel_rfl) (by omega) (fun n cs y h hl => ?_) ht
  match cs, hl with
  | [c], _ =>
    obtain ⟨x, hx⟩ := openRows h
    exact ⟨x, c, rfl, hx⟩

set_option maxRecDepth 100000 in
theorem openRowssT {H : Type} {enc : TypeId × Value → H} {W : World} {sp : Nat → Bool} {held : Bool} {v : Value} {d : DataW H} {p : List MemPlace} {base : Nat} {r : Reach} {te : Nat}
    (hv : Value.okWide Try.prog W r base 39 v) (h : DataW.Trod enc Try.prog W 0 sp held 39 v d p) : ∃ xs : List (List Rw), (nRep rowsR te 1 one).V W v xs := by
  obtain ⟨a, n, c, rfl⟩ := okWide_slice Try.underlying39 hv
  obtain ⟨fuel, hf⟩ := h
  exact openRowss (by simpa [Value.cells] using hf)

end Go.Proofs.Ytdfapehonegeeaa
