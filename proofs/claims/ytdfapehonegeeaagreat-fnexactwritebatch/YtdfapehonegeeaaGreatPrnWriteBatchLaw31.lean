import Derived.Test.YtdfapehonegeeaaGreatPrnWriteBatchLaw30
import Derived.Test.YtdfapehonegeeaaGreatPrnWriteBatchLaw3
import Derived.Test.YtdfapehonegeeaaGreatPrnWriteBatchLaw5
import Derived.Deep.Strs
import Derived.Test.YtdfapehonegeeaaGreatPrnWriteBatchLaw11
import Derived.Lib.SmallJoins
import Derived.Test.YtdfapehonegeeaaGreatPrnWriteBatchLaw2

/-
  Bytes handed in.
-/
namespace Go.Proofs.YtdfapehonegeeaaGreat
open Go.ChangeShapes Go.WideShapes Go.ChangeAt Go.RowKit Go.Joins

theorem cellsByte : Tryz.prog.cellsOf 5 = 1 := by kernel_rfl
theorem openByte {H : Type} {enc : TypeId × Value → H} {W : World} {sp : Nat → Bool} {held : Bool} {n : Nat} {cs : List Value} {y : DataW H × List MemPlace}
    (ht : DataW.trod enc Tryz.prog W 0 sp held n 5 cs = some y) : ∃ x : Byte, cs = [.int .u8 (x.val : Int)] := by
  obtain ⟨x0, e0, _, hw⟩ := DataW.trod_int Tryz.underlying5 ht
  have hb := bounds_u8 hw
  refine ⟨toB x0, ?_⟩
  rw [e0, toB_val]
  congr 2
  omega
theorem openBytes {H : Type} {enc : TypeId × Value → H} {W : World} {sp : Nat → Bool} {held : Bool} {n : Nat} {v : Value} {y : DataW H × List MemPlace}
    (ht : DataW.trod enc Tryz.prog W 0 sp held n 22 [v] = some y) : ∃ xs : List Byte, bytesR.V W v xs := by
  obtain ⟨a, cap, xs, cs, rfl, h1, h2, h3⟩ := openRow (q := fun cs x => cs = [.int .u8 ((x : Byte).val : Int)]) Tryz.underlying22 cellsByte (by omega) (fun n cs y h _ => openByte h) ht
  refine ⟨xs, a, cap, rfl, h1, h2, fun i hi => ?_⟩
  obtain ⟨g1, g3, b, o, g4, g5⟩ := h3 i hi
  rw [g1] at g5
  refine ⟨b, o, g4, ?_⟩
  have h := g5 0 (by omega)
  have e : xs.getD i default = xs.getD i 0 := rfl
  rw [e] at h
  simpa using h
end Go.Proofs.YtdfapehonegeeaaGreat

/-
  Rows of a table handed in.
-/
namespace Go.Proofs.YtdfapehonegeeaaGreat
open Go.ChangeShapes Go.WideShapes Go.ChangeAt Go.RowKit Go.Joins
set_option linter.unusedSectionVars false
variable [DecidableEq Rw] [Inhabited Rw]

theorem cellsRw : Tryz.prog.cellsOf 128 = 4 := by kernel_rfl
theorem cellsI64 : Tryz.prog.cellsOf 2 = 1 := by kernel_rfl
theorem cellsStr : Tryz.prog.cellsOf 9 = 1 := by kernel_rfl
theorem cellsBool : Tryz.prog.cellsOf 4 = 1 := by kernel_rfl
set_option maxRecDepth 100000 in
theorem openRw {H : Type} {enc : TypeId × Value → H} {W : World} {sp : Nat → Bool} {held : Bool} {n : Nat} {cs : List Value} {y : DataW H × List MemPlace}
    (ht : DataW.trod enc Tryz.prog W 0 sp held n 128 cs = some y) (hl : cs.length = 4) : ∃ x : Rw, cs = rowC x ∧ x.key.size ≤ maxLen ∧ x.val.size ≤ maxLen := by
  obtain ⟨y0, y1, y2, y3, m, hy, hlen, h0, h1, h2, h3⟩ := trod_struct4 Tryz.underlying128 ht
  simp only [cellsI64, cellsStr, cellsBool] at h0 h1 h2 h3
  match cs, hl with
  | [c0, c1, c2, c3], _ =>
    obtain ⟨x0, e0, _, g0⟩ := DataW.trod_string Tryz.underlying9 h0
    obtain ⟨x1, e1, _⟩ := DataW.trod_int Tryz.underlying2 h1
    obtain ⟨x2, e2, _, g2⟩ := DataW.trod_string Tryz.underlying9 h2
    obtain ⟨x3, e3, _⟩ := DataW.trod_bool Tryz.underlying4 h3
    simp at e0 e1 e2 e3
    subst e0 e1 e2 e3
    exact ⟨⟨x0, x1, x2, x3⟩, rfl, g0, g2⟩
set_option maxRecDepth 100000 in
theorem openRows {H : Type} {enc : TypeId × Value → H} {W : World} {sp : Nat → Bool} {held : Bool} {n : Nat} {v : Value} {y : DataW H × List MemPlace}
    (ht : DataW.trod enc Tryz.prog W 0 sp held n 25 [v] = some y) : ∃ xs : List Rw, rowsR.V W v xs := by
  obtain ⟨a, cap, xs, cs, rfl, h1, h2, h3⟩ := openRow (q := fun cs x => cs = rowC x ∧ x.key.size ≤ maxLen ∧ x.val.size ≤ maxLen) Tryz.underlying25 cellsRw (by omega) (fun n cs y h hl => openRw h hl) ht
  refine ⟨xs, ⟨a, cap, rfl, h1, h2, fun i hi => ?_⟩, fun i hi => (h3 i hi).1.2⟩
  obtain ⟨⟨g1, _⟩, g3, b, o, g4, g5⟩ := h3 i hi
  rw [g1] at g5
  exact ⟨b, o, g4, g5 0 (by omega), g5 1 (by omega), g5 2 (by omega), g5 3 (by omega)⟩
set_option maxRecDepth 100000 in
theorem openRowss {H : Type} {enc : TypeId × Value → H} {W : World} {sp : Nat → Bool} {held : Bool} {n : Nat} {v : Value} {y : DataW H × List MemPlace} {te : Nat}
    (ht : DataW.trod enc Tryz.prog W 0 sp held n 26 [v] = some y) : ∃ xs : List (List Rw), (nRep rowsR te 1 one).V W v xs := by
  refine openN Tryz.underlying26 (by kernel_rfl) (by omega) (fun n cs y h hl => ?_) ht
  match cs, hl with
  | [c], _ =>
    obtain ⟨x, hx⟩ := openRows h
    exact ⟨x, c, rfl, hx⟩
end Go.Proofs.YtdfapehonegeeaaGreat

/-
  An engine handed in.
-/
namespace Go.Proofs.YtdfapehonegeeaaGreat
open Go.ChangeShapes Go.WideShapes Go.ChangeAt Go.RowKit Go.Joins
set_option linter.unusedSectionVars false
variable [DecidableEq Rw] [Inhabited Rw] [DecidableEq Logg] [Inhabited Logg] [DecidableEq Engn] [Inhabited Engn]

set_option maxRecDepth 100000 in
theorem openEng {H : Type} {enc : TypeId × Value → H} {W : World} {sp : Nat → Bool} {held : Bool} {v : Value} {d : DataW H} {p : List MemPlace} {base : Nat} {r : Reach}
    (hv : Value.okWide Tryz.prog W r base 28 v) (h : DataW.Trod enc Tryz.prog W 0 sp held 28 v d p) : ∃ x, engnR.V W v x := by
  obtain ⟨cs, rfl, hsz⟩ := okWide_struct Tryz.underlying28 hv
  have hC : Tryz.prog.cellsOf 28 = 5 := by kernel_rfl
  have z0 : Tryz.prog.cellsOf 24 = 2 := by kernel_rfl
  have z1 : Tryz.prog.cellsOf 25 = 1 := by kernel_rfl
  have z2 : Tryz.prog.cellsOf 26 = 1 := by kernel_rfl
  have z3 : Tryz.prog.cellsOf 22 = 1 := by kernel_rfl
  obtain ⟨l⟩ := cs
  match l, hsz.trans hC with
  | [c0, c1, c2, c3, c4], _ =>
    obtain ⟨fuel, hf⟩ := h
    obtain ⟨y0, y1, y2, y3, m, hx, _, h0, h1, h2, h3⟩ := trod_struct4 Tryz.underlying28 hf
    have h0' : DataW.trod enc Tryz.prog W 0 sp held m 24 [c0, c1] = some y0 := by simpa [Value.cells, z0] using h0
    have h1' : DataW.trod enc Tryz.prog W 0 sp held m 25 [c2] = some y1 := by simpa [Value.cells, z1] using h1
    have h2' : DataW.trod enc Tryz.prog W 0 sp held m 26 [c3] = some y2 := by simpa [Value.cells, z2] using h2
    have h3' : DataW.trod enc Tryz.prog W 0 sp held m 2 [c4] = some y3 := by simpa [Value.cells, cellsI64] using h3
    obtain ⟨q0, q1, n, hq, _, g0, g1⟩ := trod_struct2 Tryz.underlying24 h0'
    have g0' : DataW.trod enc Tryz.prog W 0 sp held n 22 [c0] = some q0 := by simpa [z3] using g0
    have g1' : DataW.trod enc Tryz.prog W 0 sp held n 22 [c1] = some q1 := by simpa [z3] using g1
    obtain ⟨s, hs⟩ := openBytes g0'
    obtain ⟨o, ho⟩ := openBytes g1'
    obtain ⟨rows, hr⟩ := openRows h1'
    obtain ⟨tabs, ht⟩ := openRowss (te := 32) h2'
    obtain ⟨x, ex, _⟩ := DataW.trod_int Tryz.underlying2 h3'
    simp at ex
    subst ex
    exact ⟨⟨⟨s, o⟩, rows, tabs, x⟩, c0, c1, c2, c3, rfl, ⟨c0, c1, rfl, hs, ho⟩, hr, ht⟩
end Go.Proofs.YtdfapehonegeeaaGreat

/-
  Rows of Write handed in. (Written by program: strow.py.)
-/
namespace Go.Proofs.YtdfapehonegeeaaGreat
open Go.ChangeShapes Go.WideShapes Go.ChangeAt Go.RowKit Go.Joins
set_option linter.unusedSectionVars false
variable [DecidableEq Wri] [Inhabited Wri]
set_option linter.unusedSimpArgs false
set_option linter.unusedVariables false

theorem cellsWri : Tryz.prog.cellsOf 87 = 3 := by kernel_rfl
theorem wriI64 : Tryz.prog.cellsOf 2 = 1 := by kernel_rfl
theorem wriStr : Tryz.prog.cellsOf 9 = 1 := by kernel_rfl
theorem wriBool : Tryz.prog.cellsOf 4 = 1 := by kernel_rfl
set_option maxRecDepth 100000 in
theorem openWri {H : Type} {enc : TypeId × Value → H} {W : World} {sp : Nat → Bool} {held : Bool} {n : Nat} {cs : List Value} {y : DataW H × List MemPlace}
    (ht : DataW.trod enc Tryz.prog W 0 sp held n 87 cs = some y) (hl : cs.length = 3) : ∃ x : Wri, cs = wriC x ∧ x.key.size ≤ maxLen ∧ x.val.size ≤ maxLen := by
  obtain ⟨y0, y1, y2, m, hy, hlen, h0, h1, h2⟩ := Go.Deep.trod_struct3 Tryz.underlying87 ht
  simp only [wriI64, wriStr, wriBool] at h0 h1 h2
  match cs, hl with
  | [c0, c1, c2], _ =>
    obtain ⟨x0, e0, _, g0⟩ := DataW.trod_string Tryz.underlying9 h0
    obtain ⟨x1, e1, _, g1⟩ := DataW.trod_string Tryz.underlying9 h1
    obtain ⟨x2, e2, _⟩ := DataW.trod_bool Tryz.underlying4 h2
    simp at e0 e1 e2
    subst e0 e1 e2
    exact ⟨⟨x0, x1, x2⟩, rfl, g0, g1⟩
set_option maxRecDepth 100000 in
theorem openWris {H : Type} {enc : TypeId × Value → H} {W : World} {sp : Nat → Bool} {held : Bool} {n : Nat} {v : Value} {y : DataW H × List MemPlace}
    (ht : DataW.trod enc Tryz.prog W 0 sp held n 39 [v] = some y) : ∃ xs : List Wri, wrisR.V W v xs := by
  obtain ⟨a, cap, xs, cs, rfl, h1, h2, h3⟩ := openRow (q := fun cs x => cs = wriC x ∧ x.key.size ≤ maxLen ∧ x.val.size ≤ maxLen) Tryz.underlying39 cellsWri (by omega) (fun n cs y h hl => openWri h hl) ht
  refine ⟨xs, ⟨a, cap, rfl, h1, h2, fun i hi => ?_⟩, fun i hi => (h3 i hi).1.2⟩
  obtain ⟨⟨g1, _⟩, g3, b, o, g4, g5⟩ := h3 i hi
  rw [g1] at g5
  exact ⟨b, o, g4, g5 0 (by omega), g5 1 (by omega), g5 2 (by omega)⟩
set_option maxRecDepth 100000 in
theorem openWrisT {H : Type} {enc : TypeId × Value → H} {W : World} {sp : Nat → Bool} {held : Bool} {v : Value} {d : DataW H} {p : List MemPlace} {base : Nat} {r : Reach}
    (hv : Value.okWide Tryz.prog W r base 39 v) (h : DataW.Trod enc Tryz.prog W 0 sp held 39 v d p) : ∃ xs, wrisR.V W v xs := by
  obtain ⟨a, n, c, rfl⟩ := okWide_slice Tryz.underlying39 hv
  obtain ⟨fuel, hf⟩ := h
  exact openWris (by simpa [Value.cells] using hf)
end Go.Proofs.YtdfapehonegeeaaGreat

