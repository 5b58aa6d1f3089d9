/-
  Rows of Write handed in. (Written by program: strow.py.)
-/
import Derived.Test.YtdfapehonegeeaaOpn
import Derived.Test.YtdfapehonegeeaaWriT
import Derived.Deep.Strs
namespace Go.Proofs.Ytdfapehonegeeaa
open Go.ChangeShapes Go.WideShapes Go.ChangeAt Go.RowKit Go.Joins
set_option linter.unusedSectionVars false
variable [DecidableEq Wri] [Inhabited Wri]
set_option linter.unusedSimpArgs false
set_option linter.unusedVariables false

theorem cellsWri : Try.prog.cellsOf 110 = 3 := by kernel_rfl
theorem wriI64 : Try.prog.cellsOf 2 = 1 := by kernel_rfl
theorem wriStr : Try.prog.cellsOf 9 = 1 := by kernel_rfl
theorem wriBool : Try.prog.cellsOf 4 = 1 := by kernel_rfl

set_option maxRecDepth 100000 in
theorem openWri {H : Type} {enc : TypeId × Value → H} {W : World} {sp : Nat → Bool} {held : Bool} {n : Nat} {cs : List Value} {y : DataW H × List MemPlace}
    (ht : DataW.trod enc Try.prog W 0 sp held n 110 cs = some y) (hl : cs.length = 3) : ∃ x : Wri, cs = wriC x ∧ x.key.size ≤ maxLen ∧ x.val.size ≤ maxLen := by
  obtain ⟨y0, y1, y2, m, hy, hlen, h0, h1, h2⟩ := Go.Deep.trod_struct3 Try.underlying110 ht
  simp only [wriI64, wriStr, wriBool] at h0 h1 h2
  match cs, hl with
  | [c0, c1, c2], _ =>
    obtain ⟨x0, e0, _, g0⟩ := DataW.trod_string Try.underlying9 h0
    obtain ⟨x1, e1, _, g1⟩ := DataW.trod_string Try.underlying9 h1
    obtain ⟨x2, e2, _⟩ := DataW.trod_bool Try.underlying4 h2
    simp at e0 e1 e2
    subst e0 e1 e2
    exact ⟨⟨x0, x1, x2⟩, rfl, g0, g1⟩

set_option maxRecDepth 100000 in
theorem openWris {H : Type} {enc : TypeId × Value → H} {W : World} {sp : Nat → Bool} {held : Bool} {n : Nat} {v : Value} {y : DataW H × List MemPlace}
    (ht : DataW.trod enc Try.prog W 0 sp held n 53 [v] = some y) : ∃ xs : List Wri, wrisR.V W v xs := by
  obtain ⟨a, cap, xs, cs, rfl, h1, h2, h3⟩ := openRow (q := fun cs x => cs = wriC x ∧ x.key.size ≤ maxLen ∧ x.val.size ≤ maxLen) Try.underlying53 cellsWri (by omega) (fun n cs y h hl => openWri h hl) ht
  refine ⟨xs, ⟨a, cap, rfl, h1, h2, fun i hi => ?_⟩, fun i hi => (h3 i hi).1.2⟩
  obtain ⟨⟨g1, _⟩, g3, b, o, g4, g5⟩ := h3 i hi
  rw [g1] at g5
  exact ⟨b, o, g4, g5 0 (by omega), g5 1 (by omega), g5 2 (by omega)⟩

set_option maxRecDepth 100000 in
theorem openWrisT {H : Type} {enc : TypeId × Value → H} {W : World} {sp : Nat → Bool} {held : Bool} {v : Value} {d : DataW H} {p : List MemPlace} {base : Nat} {r : Reach}
    (hv : Value.okWide Try.prog W r base 53 v) (h : DataW.Trod enc Try.prog W 0 sp held 53 v d p) : ∃ xs, wrisR.V W v xs := by
  obtain ⟨a, n, c, rfl⟩ := okWide_slice Try.underlying53 hv
  obtain ⟨fuel, hf⟩ := h
  exact openWris (by simpa [Value.cells] using hf)

end Go.Proofs.Ytdfapehonegeeaa
