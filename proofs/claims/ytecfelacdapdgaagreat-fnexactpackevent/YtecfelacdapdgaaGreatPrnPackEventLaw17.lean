import Derived.Test.YtecfelacdapdgaaGreatPrnPackEventLaw16
import Derived.Test.YtecfelacdapdgaaGreatPrnPackEventLaw3
import Derived.Deep.Strs
import Derived.Test.YtecfelacdapdgaaGreatPrnPackEventLaw11
import Derived.Test.YtecfelacdapdgaaGreatPrnPackEventLaw2
import Derived.Test.YtecfelacdapdgaaGreatPrnPackEventLaw9
import Derived.Test.YtecfelacdapdgaaGreatPrnPackEventLaw13
import Derived.Test.YtecfelacdapdgaaGreatPrnPackEventLaw5
import Derived.Carry

/-
  A contract handed in.
-/
namespace Go.Proofs.YtecfelacdapdgaaGreat
open Go.ChangeShapes Go.WideShapes Go.ChangeAt Go.RowKit Go.Joins
set_option linter.unusedSectionVars false
variable [DecidableEq Leg] [Inhabited Leg] [DecidableEq Cont] [Inhabited Cont]

theorem cellsInt' : Tryz.prog.cellsOf 2 = 1 := by kernel_rfl
theorem cellsLeg' : Tryz.prog.cellsOf 140 = 4 := by kernel_rfl
theorem openLeg' {H : Type} {enc : TypeId × Value → H} {W : World} {sp : Nat → Bool} {held : Bool} {n : Nat} {cs : List Value} {y : DataW H × List MemPlace}
    (ht : DataW.trod enc Tryz.prog W 0 sp held n 140 cs = some y) (hl : cs.length = 4) : ∃ x : Leg, cs = legC x := by
  obtain ⟨y0, y1, y2, y3, m, hy, hlen, h0, h1, h2, h3⟩ := trod_struct4 Tryz.underlying140 ht
  simp only [cellsInt'] at h0 h1 h2 h3
  match cs, hl with
  | [c0, c1, c2, c3], _ =>
    obtain ⟨x0, e0, _⟩ := DataW.trod_int Tryz.underlying2 h0
    obtain ⟨x1, e1, _⟩ := DataW.trod_int Tryz.underlying2 h1
    obtain ⟨x2, e2, _⟩ := DataW.trod_int Tryz.underlying2 h2
    obtain ⟨x3, e3, _⟩ := DataW.trod_int Tryz.underlying2 h3
    simp at e0 e1 e2 e3
    subst e0 e1 e2 e3
    exact ⟨⟨x0, x1, x2, x3⟩, rfl⟩
theorem openLegs' {H : Type} {enc : TypeId × Value → H} {W : World} {sp : Nat → Bool} {held : Bool} {n : Nat} {v : Value} {y : DataW H × List MemPlace}
    (ht : DataW.trod enc Tryz.prog W 0 sp held n 22 [v] = some y) : ∃ xs : List Leg, legsR.V W v xs := by
  obtain ⟨a, cap, xs, cs, rfl, h1, h2, h3⟩ := openRow (q := fun cs x => cs = legC x) Tryz.underlying22 cellsLeg' (by omega) (fun n cs y h hl => openLeg' h hl) ht
  refine ⟨xs, a, cap, rfl, h1, h2, fun i hi => ?_⟩
  obtain ⟨g1, g3, b, o, g4, g5⟩ := h3 i hi
  rw [g1] at g5
  exact ⟨b, o, g4, g5 0 (by omega), g5 1 (by omega), g5 2 (by omega), g5 3 (by omega)⟩
end Go.Proofs.YtecfelacdapdgaaGreat

/-
  Journal. (Written by program: nest.py.)
-/
namespace Go.Proofs.YtecfelacdapdgaaGreat
open Go.RowKit
set_option linter.unusedSectionVars false
variable [DecidableEq Bal] [Inhabited Bal] [DecidableEq Logg] [Inhabited Logg]
attribute [local go_sem ↓] Go.wp_at_zero Go.wp_at_succ

set_option linter.unusedSimpArgs false

structure Jrn where
  idx : Int
  start : List Bal
  log : Logg
variable [DecidableEq Jrn] [Inhabited Jrn]

end Go.Proofs.YtecfelacdapdgaaGreat

/-
  Events, journals handed in.
-/
namespace Go.Proofs.YtecfelacdapdgaaGreat
open Go.ChangeShapes Go.WideShapes Go.ChangeAt Go.RowKit Go.Joins
set_option linter.unusedSectionVars false
variable [DecidableEq Leg] [Inhabited Leg] [DecidableEq Cont] [Inhabited Cont] [DecidableEq Bal] [Inhabited Bal] [DecidableEq Ledg] [Inhabited Ledg] [DecidableEq Logg] [Inhabited Logg] [DecidableEq Evt] [Inhabited Evt] [DecidableEq Jrn] [Inhabited Jrn]

theorem trod_struct3E {H : Type} {enc : TypeId × Value → H} {P : Program} {w : World} {base : Nat} {spare : Nat → Bool} {held : Bool} {t : TypeId} {f0 f1 f2 : Field} {fuel : Nat} {cs : List Value} {x : DataW H × List MemPlace} (ht : P.underlying t = some (.struct #[f0, f1, f2])) (h : DataW.trod enc P w base spare held fuel t cs = some x) :
    ∃ y0 y1 y2 n, cs.length = P.cellsOf t ∧ DataW.trod enc P w base spare held n f0.type ((cs.drop f0.offset).take (P.cellsOf f0.type)) = some y0 ∧
      DataW.trod enc P w base spare held n f1.type ((cs.drop f1.offset).take (P.cellsOf f1.type)) = some y1 ∧ DataW.trod enc P w base spare held n f2.type ((cs.drop f2.offset).take (P.cellsOf f2.type)) = some y2 := by
  obtain ⟨xs, n, _, rfl, hl, hlen, hf⟩ := DataW.trod_struct ht h
  match xs, hlen with
  | [y0, y1, y2], _ => exact ⟨y0, y1, y2, n, hl, by simpa using hf 0 f0 rfl, by simpa using hf 1 f1 rfl, by simpa using hf 2 f2 rfl⟩
theorem trod_struct2E {H : Type} {enc : TypeId × Value → H} {P : Program} {w : World} {base : Nat} {spare : Nat → Bool} {held : Bool} {t : TypeId} {f0 f1 : Field} {fuel : Nat} {cs : List Value} {x : DataW H × List MemPlace} (ht : P.underlying t = some (.struct #[f0, f1])) (h : DataW.trod enc P w base spare held fuel t cs = some x) :
    ∃ y0 y1 n, cs.length = P.cellsOf t ∧ DataW.trod enc P w base spare held n f0.type ((cs.drop f0.offset).take (P.cellsOf f0.type)) = some y0 ∧
      DataW.trod enc P w base spare held n f1.type ((cs.drop f1.offset).take (P.cellsOf f1.type)) = some y1 := by
  obtain ⟨xs, n, _, rfl, hl, hlen, hf⟩ := DataW.trod_struct ht h
  match xs, hlen with
  | [y0, y1], _ => exact ⟨y0, y1, n, hl, by simpa using hf 0 f0 rfl, by simpa using hf 1 f1 rfl⟩
set_option maxRecDepth 100000 in
theorem openEvt {H : Type} {enc : TypeId × Value → H} {W : World} {sp : Nat → Bool} {held : Bool} {v : Value} {d : DataW H} {p : List MemPlace} {base : Nat} {r : Reach}
    (hv : Value.okWide Tryz.prog W r base 26 v) (h : DataW.Trod enc Tryz.prog W 0 sp held 26 v d p) : ∃ x, evtR.V W v x := by
  obtain ⟨cs, rfl, hsz⟩ := okWide_struct Tryz.underlying26 hv
  have hC : Tryz.prog.cellsOf 26 = 4 := by kernel_rfl
  have z0 : Tryz.prog.cellsOf 4 = 1 := by kernel_rfl
  have z1 : Tryz.prog.cellsOf 24 = 2 := by kernel_rfl
  have z2 : Tryz.prog.cellsOf 2 = 1 := by kernel_rfl
  have z3 : Tryz.prog.cellsOf 22 = 1 := by kernel_rfl
  obtain ⟨l⟩ := cs
  match l, hsz.trans hC with
  | [c0, c1, c2, c3], _ =>
    obtain ⟨fuel, hf⟩ := h
    obtain ⟨y0, y1, y2, m, _, h0, h1, h2⟩ := trod_struct3E Tryz.underlying26 hf
    have h0' : DataW.trod enc Tryz.prog W 0 sp held m 4 [c0] = some y0 := by simpa [Value.cells, z0] using h0
    have h1' : DataW.trod enc Tryz.prog W 0 sp held m 24 [c1, c2] = some y1 := by simpa [Value.cells, z1] using h1
    have h2' : DataW.trod enc Tryz.prog W 0 sp held m 2 [c3] = some y2 := by simpa [Value.cells, z2] using h2
    obtain ⟨b, eb, _⟩ := DataW.trod_bool Tryz.underlying4 h0'
    obtain ⟨o, eo, _⟩ := DataW.trod_int Tryz.underlying2 h2'
    simp at eb eo
    subst eb eo
    obtain ⟨x0, x1, m1, _, g0, g1⟩ := trod_struct2E Tryz.underlying24 h1'
    have g0' : DataW.trod enc Tryz.prog W 0 sp held m1 2 [c1] = some x0 := by simpa [z2] using g0
    have g1' : DataW.trod enc Tryz.prog W 0 sp held m1 22 [c2] = some x1 := by simpa [z3] using g1
    obtain ⟨i, ei, _⟩ := DataW.trod_int Tryz.underlying2 g0'
    simp at ei
    subst ei
    obtain ⟨ls, hl⟩ := openLegs' g1'
    exact ⟨⟨b, ⟨i, ls⟩, o⟩, evtf_V.1 ⟨c2, rfl, hl⟩⟩
end Go.Proofs.YtecfelacdapdgaaGreat

