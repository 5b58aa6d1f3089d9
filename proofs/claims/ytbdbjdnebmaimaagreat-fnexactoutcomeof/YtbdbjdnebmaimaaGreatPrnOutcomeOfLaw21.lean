import Derived.Test.YtbdbjdnebmaimaaGreatPrnOutcomeOfLaw20
import Derived.Test.YtbdbjdnebmaimaaGreatPrnOutcomeOfLaw6
import Derived.Carry
import Derived.Test.YtbdbjdnebmaimaaGreatPrnOutcomeOfLaw14
import Derived.Deep.Strs

/-
  Acceptors handed in.
-/
namespace Go.Proofs.YtbdbjdnebmaimaaGreat
open Go.ChangeShapes Go.WideShapes Go.ChangeAt Go.RowKit Go.Joins
set_option linter.unusedSectionVars false
variable [DecidableEq Vot] [Inhabited Vot] [DecidableEq Slt] [Inhabited Slt] [DecidableEq Acc] [Inhabited Acc]

theorem openAcc {H : Type} {enc : TypeId × Value → H} {W : World} {sp : Nat → Bool} {held : Bool} {n : Nat} {cs : List Value} {y : DataW H × List MemPlace}
    (ht : DataW.trod enc Tryz.prog W 0 sp held n 44 cs = some y) (hl : cs.length = 1) : ∃ (x : Acc) (u : Value), cs = [u] ∧ sltsR.V W u x.slots := by
  match cs, hl with
  | [c], _ =>
    obtain ⟨y0, m, hx, _, h0⟩ := trod_struct1 Tryz.underlying44 ht
    have hz : Tryz.prog.cellsOf 42 = 1 := by kernel_rfl
    have h0' : DataW.trod enc Tryz.prog W 0 sp held m 42 [c] = some y0 := by simpa [Value.cells, hz] using h0
    obtain ⟨xs, hxs⟩ := openSlts h0'
    exact ⟨⟨xs⟩, c, rfl, hxs⟩
theorem openAccs {H : Type} {enc : TypeId × Value → H} {W : World} {sp : Nat → Bool} {held : Bool} {n : Nat} {v : Value} {y : DataW H × List MemPlace}
    (ht : DataW.trod enc Tryz.prog W 0 sp held n 22 [v] = some y) : ∃ xs, accsR.V W v xs := by
  refine openN Tryz.underlying22 (by kernel_rfl) (by omega) (fun n cs y h hl => ?_) ht
  obtain ⟨x, u, rfl, hx⟩ := openAcc h hl
  exact ⟨x, .agg #[u], rfl, u, rfl, hx⟩
set_option maxRecDepth 20000 in
theorem openAccsT {H : Type} {enc : TypeId × Value → H} {W : World} {sp : Nat → Bool} {held : Bool} {v : Value} {d : DataW H} {p : List MemPlace} {base : Nat} {r : Reach}
    (hv : Value.okWide Tryz.prog W r base 22 v) (h : DataW.Trod enc Tryz.prog W 0 sp held 22 v d p) : ∃ x, accsR.V W v x := by
  obtain ⟨a, l, c, rfl⟩ := okWide_slice Tryz.underlying22 hv
  obtain ⟨fuel, hf⟩ := h
  exact openAccs (by simpa [Value.cells] using hf)
end Go.Proofs.YtbdbjdnebmaimaaGreat

/-
  A contract handed in.
-/
namespace Go.Proofs.YtbdbjdnebmaimaaGreat
open Go.ChangeShapes Go.WideShapes Go.ChangeAt Go.RowKit Go.Joins
set_option linter.unusedSectionVars false
variable [DecidableEq Leg] [Inhabited Leg] [DecidableEq Cont] [Inhabited Cont]

theorem cellsInt' : Tryz.prog.cellsOf 2 = 1 := by kernel_rfl
theorem cellsLeg' : Tryz.prog.cellsOf 81 = 4 := by kernel_rfl
theorem openLeg' {H : Type} {enc : TypeId × Value → H} {W : World} {sp : Nat → Bool} {held : Bool} {n : Nat} {cs : List Value} {y : DataW H × List MemPlace}
    (ht : DataW.trod enc Tryz.prog W 0 sp held n 81 cs = some y) (hl : cs.length = 4) : ∃ x : Leg, cs = legC x := by
  obtain ⟨y0, y1, y2, y3, m, hy, hlen, h0, h1, h2, h3⟩ := trod_struct4 Tryz.underlying81 ht
  simp only [cellsInt'] at h0 h1 h2 h3
  match cs, hl with
  | [c0, c1, c2, c3], _ =>
    obtain ⟨x0, e0, _⟩ := DataW.trod_int Tryz.underlying2 h0
    obtain ⟨x1, e1, _⟩ := DataW.trod_int Tryz.underlying2 h1
    obtain ⟨x2, e2, _⟩ := DataW.trod_int Tryz.underlying2 h2
    obtain ⟨x3, e3, _⟩ := DataW.trod_int Tryz.underlying2 h3
    simp at e0 e1 e2 e3
    subst e0 e1 e2 e3
    exact ⟨⟨x0, x1, x2, x3⟩, rfl⟩
theorem openLegs' {H : Type} {enc : TypeId × Value → H} {W : World} {sp : Nat → Bool} {held : Bool} {n : Nat} {v : Value} {y : DataW H × List MemPlace}
    (ht : DataW.trod enc Tryz.prog W 0 sp held n 23 [v] = some y) : ∃ xs : List Leg, legsR.V W v xs := by
  obtain ⟨a, cap, xs, cs, rfl, h1, h2, h3⟩ := openRow (q := fun cs x => cs = legC x) Tryz.underlying23 cellsLeg' (by omega) (fun n cs y h hl => openLeg' h hl) ht
  refine ⟨xs, a, cap, rfl, h1, h2, fun i hi => ?_⟩
  obtain ⟨g1, g3, b, o, g4, g5⟩ := h3 i hi
  rw [g1] at g5
  exact ⟨b, o, g4, g5 0 (by omega), g5 1 (by omega), g5 2 (by omega), g5 3 (by omega)⟩
set_option maxRecDepth 20000 in
theorem openContract' {H : Type} {enc : TypeId × Value → H} {W : World} {sp : Nat → Bool} {held : Bool} {v : Value} {d : DataW H} {p : List MemPlace} {base : Nat} {r : Reach}
    (hv : Value.okWide Tryz.prog W r base 25 v) (h : DataW.Trod enc Tryz.prog W 0 sp held 25 v d p) : ∃ x, contR.V W v x := by
  obtain ⟨c0, c1, y0, y1, m, rfl, _, _, hy0, hy1⟩ := open_agg2 Tryz.underlying25 (by kernel_rfl) (by kernel_rfl) hv h
  obtain ⟨a, e0, _⟩ := DataW.trod_int Tryz.underlying2 hy0
  simp at e0
  subst e0
  obtain ⟨xs, hx⟩ := openLegs' hy1
  exact ⟨⟨a, xs⟩, c1, rfl, hx⟩
end Go.Proofs.YtbdbjdnebmaimaaGreat

