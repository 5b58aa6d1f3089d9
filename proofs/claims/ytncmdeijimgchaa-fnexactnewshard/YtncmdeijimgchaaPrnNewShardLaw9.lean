import Derived.Test.YtncmdeijimgchaaPrnNewShardLaw8
import Derived.Test.YtncmdeijimgchaaPrnNewShardLaw5
import Derived.Deep.Strs
import Derived.Test.YtncmdeijimgchaaPrnNewShardLaw7

/-
  A contract handed in.
-/
namespace Go.Proofs.Ytncmdeijimgchaa
open Go.ChangeShapes Go.WideShapes Go.ChangeAt Go.RowKit Go.Joins
set_option linter.unusedSectionVars false
variable [DecidableEq Leg] [Inhabited Leg] [DecidableEq Cont] [Inhabited Cont]

theorem cellsInt' : Try.prog.cellsOf 2 = 1 := by kernel_rfl
end Go.Proofs.Ytncmdeijimgchaa

/-
  A ledger and balances handed in.
-/
namespace Go.Proofs.Ytncmdeijimgchaa
open Go.ChangeShapes Go.WideShapes Go.ChangeAt Go.RowKit Go.Joins
set_option linter.unusedSectionVars false
variable [DecidableEq Bal] [Inhabited Bal] [DecidableEq Ledg] [Inhabited Ledg] [DecidableEq Leg] [Inhabited Leg] [DecidableEq Cont] [Inhabited Cont]

theorem cellsBal : Try.prog.cellsOf 131 = 3 := by kernel_rfl
theorem openBal {H : Type} {enc : TypeId × Value → H} {W : World} {sp : Nat → Bool} {held : Bool} {n : Nat} {cs : List Value} {y : DataW H × List MemPlace}
    (ht : DataW.trod enc Try.prog W 0 sp held n 131 cs = some y) (hl : cs.length = 3) : ∃ x : Bal, cs = balC x := by
  obtain ⟨y0, y1, y2, m, hy, hlen, h0, h1, h2⟩ := Go.Deep.trod_struct3 Try.underlying131 ht
  simp only [cellsInt'] at h0 h1 h2
  match cs, hl with
  | [c0, c1, c2], _ =>
    obtain ⟨x0, e0, _⟩ := DataW.trod_int Try.underlying2 h0
    obtain ⟨x1, e1, _⟩ := DataW.trod_int Try.underlying2 h1
    obtain ⟨x2, e2, _⟩ := DataW.trod_int Try.underlying2 h2
    simp at e0 e1 e2
    subst e0 e1 e2
    exact ⟨⟨x0, x1, x2⟩, rfl⟩
theorem openBals {H : Type} {enc : TypeId × Value → H} {W : World} {sp : Nat → Bool} {held : Bool} {n : Nat} {v : Value} {y : DataW H × List MemPlace}
    (ht : DataW.trod enc Try.prog W 0 sp held n 69 [v] = some y) : ∃ xs : List Bal, balsR.V W v xs := by
  obtain ⟨a, cap, xs, cs, rfl, h1, h2, h3⟩ := openRow (q := fun cs x => cs = balC x) Try.underlying69 cellsBal (by omega) (fun n cs y h hl => openBal h hl) ht
  refine ⟨xs, a, cap, rfl, h1, h2, fun i hi => ?_⟩
  obtain ⟨g1, g3, b, o, g4, g5⟩ := h3 i hi
  rw [g1] at g5
  exact ⟨b, o, g4, g5 0 (by omega), g5 1 (by omega), g5 2 (by omega)⟩
set_option maxRecDepth 20000 in
theorem openBalsT {H : Type} {enc : TypeId × Value → H} {W : World} {sp : Nat → Bool} {held : Bool} {v : Value} {d : DataW H} {p : List MemPlace} {base : Nat} {r : Reach}
    (hv : Value.okWide Try.prog W r base 69 v) (h : DataW.Trod enc Try.prog W 0 sp held 69 v d p) : ∃ x, balsR.V W v x := by
  obtain ⟨a, l, c, rfl⟩ := okWide_slice Try.underlying69 hv
  obtain ⟨fuel, hf⟩ := h
  exact openBals (by simpa [Value.cells] using hf)
end Go.Proofs.Ytncmdeijimgchaa

