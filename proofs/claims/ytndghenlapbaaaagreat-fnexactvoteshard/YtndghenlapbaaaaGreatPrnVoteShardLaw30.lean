import Derived.Test.YtndghenlapbaaaaGreatPrnVoteShardLaw29
import Derived.Test.YtndghenlapbaaaaGreatPrnVoteShardLaw9
import Derived.Deep.Strs
import Derived.Test.YtndghenlapbaaaaGreatPrnVoteShardLaw3
import Derived.Test.YtndghenlapbaaaaGreatPrnVoteShardLaw13
import Derived.Test.YtndghenlapbaaaaGreatPrnVoteShardLaw12
import Derived.Carry
set_option linter.unusedSectionVars false

/-
 A contract handed in.
-/
namespace Go.Proofs.YtndghenlapbaaaaGreat
open Go.ChangeShapes Go.WideShapes Go.ChangeAt Go.RowKit Go.Joins
variable [DecidableEq Leg] [Inhabited Leg] [DecidableEq Cont] [Inhabited Cont]

theorem cellsInt' : Tryz.prog.cellsOf 2 = 1 := by kernel_rfl
theorem cellsLeg' : Tryz.prog.cellsOf 105 = 4 := by kernel_rfl
theorem openLeg' {H : Type} {enc : TypeId × Value → H} {W : World} {sp : Nat → Bool} {held : Bool} {n : Nat} {cs : List Value} {y : DataW H × List MemPlace}
  (ht : DataW.trod enc Tryz.prog W 0 sp held n 105 cs = some y) (hl : cs.length = 4) : ∃ x : Leg, cs = legC x := by
 obtain ⟨y0, y1, y2, y3, m, hy, hlen, h0, h1, h2, h3⟩ := trod_struct4 Tryz.underlying105 ht
 simp only [cellsInt'] at h0 h1 h2 h3
 match cs, hl with
 | [c0, c1, c2, c3], _ =>
  obtain ⟨x0, e0, _⟩ := DataW.trod_int Tryz.underlying2 h0
  obtain ⟨x1, e1, _⟩ := DataW.trod_int Tryz.underlying2 h1
  obtain ⟨x2, e2, _⟩ := DataW.trod_int Tryz.underlying2 h2
  obtain ⟨x3, e3, _⟩ := DataW.trod_int Tryz.underlying2 h3
  simp at e0 e1 e2 e3
  subst e0 e1 e2 e3
  exact ⟨⟨x0, x1, x2, x3⟩, rfl⟩
theorem openLegs' {H : Type} {enc : TypeId × Value → H} {W : World} {sp : Nat → Bool} {held : Bool} {n : Nat} {v : Value} {y : DataW H × List MemPlace}
  (ht : DataW.trod enc Tryz.prog W 0 sp held n 28 [v] = some y) : ∃ xs : List Leg, legsR.V W v xs := by
 obtain ⟨a, cap, xs, cs, rfl, h1, h2, h3⟩ := openRow (q := fun cs x => cs = legC x) Tryz.underlying28 cellsLeg' (by omega) (fun n cs y h hl => openLeg' h hl) ht
 refine ⟨xs, a, cap, rfl, h1, h2, fun i hi => ?_⟩
 obtain ⟨g1, g3, b, o, g4, g5⟩ := h3 i hi
 rw [g1] at g5
 exact ⟨b, o, g4, g5 0 (by omega), g5 1 (by omega), g5 2 (by omega), g5 3 (by omega)⟩
set_option maxRecDepth 20000 in
theorem openContract' {H : Type} {enc : TypeId × Value → H} {W : World} {sp : Nat → Bool} {held : Bool} {v : Value} {d : DataW H} {p : List MemPlace} {base : Nat} {r : Reach}
  (hv : Value.okWide Tryz.prog W r base 30 v) (h : DataW.Trod enc Tryz.prog W 0 sp held 30 v d p) : ∃ x, contR.V W v x := by
 obtain ⟨c0, c1, y0, y1, m, rfl, _, _, hy0, hy1⟩ := open_agg2 Tryz.underlying30 (by kernel_rfl) (by kernel_rfl) hv h
 obtain ⟨a, e0, _⟩ := DataW.trod_int Tryz.underlying2 hy0
 simp at e0
 subst e0
 obtain ⟨xs, hx⟩ := openLegs' hy1
 exact ⟨⟨a, xs⟩, c1, rfl, hx⟩
end Go.Proofs.YtndghenlapbaaaaGreat

/-
 A ledger and balances handed in.
-/
namespace Go.Proofs.YtndghenlapbaaaaGreat
open Go.ChangeShapes Go.WideShapes Go.ChangeAt Go.RowKit Go.Joins
variable [DecidableEq Bal] [Inhabited Bal] [DecidableEq Ledg] [Inhabited Ledg] [DecidableEq Leg] [Inhabited Leg] [DecidableEq Cont] [Inhabited Cont]

theorem cellsBal : Tryz.prog.cellsOf 101 = 3 := by kernel_rfl
theorem openBal {H : Type} {enc : TypeId × Value → H} {W : World} {sp : Nat → Bool} {held : Bool} {n : Nat} {cs : List Value} {y : DataW H × List MemPlace}
  (ht : DataW.trod enc Tryz.prog W 0 sp held n 101 cs = some y) (hl : cs.length = 3) : ∃ x : Bal, cs = balC x := by
 obtain ⟨y0, y1, y2, m, hy, hlen, h0, h1, h2⟩ := Go.Deep.trod_struct3 Tryz.underlying101 ht
 simp only [cellsInt'] at h0 h1 h2
 match cs, hl with
 | [c0, c1, c2], _ =>
  obtain ⟨x0, e0, _⟩ := DataW.trod_int Tryz.underlying2 h0
  obtain ⟨x1, e1, _⟩ := DataW.trod_int Tryz.underlying2 h1
  obtain ⟨x2, e2, _⟩ := DataW.trod_int Tryz.underlying2 h2
  simp at e0 e1 e2
  subst e0 e1 e2
  exact ⟨⟨x0, x1, x2⟩, rfl⟩
theorem openBals {H : Type} {enc : TypeId × Value → H} {W : World} {sp : Nat → Bool} {held : Bool} {n : Nat} {v : Value} {y : DataW H × List MemPlace}
  (ht : DataW.trod enc Tryz.prog W 0 sp held n 22 [v] = some y) : ∃ xs : List Bal, balsR.V W v xs := by
 obtain ⟨a, cap, xs, cs, rfl, h1, h2, h3⟩ := openRow (q := fun cs x => cs = balC x) Tryz.underlying22 cellsBal (by omega) (fun n cs y h hl => openBal h hl) ht
 refine ⟨xs, a, cap, rfl, h1, h2, fun i hi => ?_⟩
 obtain ⟨g1, g3, b, o, g4, g5⟩ := h3 i hi
 rw [g1] at g5
 exact ⟨b, o, g4, g5 0 (by omega), g5 1 (by omega), g5 2 (by omega)⟩
end Go.Proofs.YtndghenlapbaaaaGreat

/-
 Contracts handed in.
-/
namespace Go.Proofs.YtndghenlapbaaaaGreat
open Go.ChangeShapes Go.WideShapes Go.ChangeAt Go.RowKit Go.Joins
variable [DecidableEq Bal] [Inhabited Bal] [DecidableEq Ledg] [Inhabited Ledg] [DecidableEq Leg] [Inhabited Leg] [DecidableEq Cont] [Inhabited Cont]

set_option maxRecDepth 20000 in
theorem openContracts {H : Type} {enc : TypeId × Value → H} {W : World} {sp : Nat → Bool} {held : Bool} {n : Nat} {v : Value} {y : DataW H × List MemPlace}
  (ht : DataW.trod enc Tryz.prog W 0 sp held n 24 [v] = some y) : ∃ xs, contsR.V W v xs := by
 refine openN Tryz.underlying24 (by kernel_rfl) (by omega) (fun n cs y h hl => ?_) ht
 obtain ⟨y0, y1, m, hy, hlen, h0, h1⟩ := trod_struct2 Tryz.underlying30 h
 have hz : Tryz.prog.cellsOf 28 = 1 := by kernel_rfl
 match cs, hl with
 | [c0, c1], _ =>
  simp only [cellsInt', hz] at h0 h1
  obtain ⟨x0, e0, _⟩ := DataW.trod_int Tryz.underlying2 h0
  simp at e0
  subst e0
  obtain ⟨xs, hx⟩ := openLegs' h1
  exact ⟨⟨x0, xs⟩, .agg #[.int .i64 x0, c1], rfl, c1, rfl, hx⟩
end Go.Proofs.YtndghenlapbaaaaGreat

/-
 Numbers handed in.
-/
namespace Go.Proofs.YtndghenlapbaaaaGreat
open Go.ChangeShapes Go.WideShapes Go.ChangeAt Go.RowKit Go.Joins
variable [DecidableEq Leg] [Inhabited Leg]

theorem cellsNu : Tryz.prog.cellsOf 2 = 1 := by kernel_rfl
theorem openNu {H : Type} {enc : TypeId × Value → H} {W : World} {sp : Nat → Bool} {held : Bool} {n : Nat} {cs : List Value} {y : DataW H × List MemPlace}
  (ht : DataW.trod enc Tryz.prog W 0 sp held n 2 cs = some y) (hl : cs.length = 1) : ∃ x : Int, cs = [.int .i64 x] := by
 match cs, hl with
 | [c], _ =>
  obtain ⟨x, e, _⟩ := DataW.trod_int Tryz.underlying2 ht
  simp at e
  exact ⟨x, by rw [e]⟩
theorem openNus {H : Type} {enc : TypeId × Value → H} {W : World} {sp : Nat → Bool} {held : Bool} {n : Nat} {v : Value} {y : DataW H × List MemPlace}
  (ht : DataW.trod enc Tryz.prog W 0 sp held n 25 [v] = some y) : ∃ xs : List Int, intsR.V W v xs := by
 obtain ⟨a, cap, xs, cs, rfl, h1, h2, h3⟩ := openRow (q := fun cs x => cs = [.int .i64 x]) Tryz.underlying25 cellsNu (by omega) (fun n cs y h hl => openNu h hl) ht
 refine ⟨xs, a, cap, rfl, h1, h2, fun i hi => ?_⟩
 obtain ⟨g1, g3, b, o, g4, g5⟩ := h3 i hi
 rw [g1] at g5
 have h := g5 0 (by omega)
 exact ⟨b, o, g4, by simpa [List.getD] using h⟩
end Go.Proofs.YtndghenlapbaaaaGreat

