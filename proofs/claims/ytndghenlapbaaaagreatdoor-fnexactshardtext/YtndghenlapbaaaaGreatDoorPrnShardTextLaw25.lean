import Derived.Test.YtndghenlapbaaaaGreatDoorPrnShardTextLaw24
import Derived.Test.YtndghenlapbaaaaGreatDoorPrnShardTextLaw7
import Derived.Test.YtndghenlapbaaaaGreatDoorPrnShardTextLaw8
import Derived.Carry

/-
  Contracts handed in.
-/
namespace Go.Proofs.YtndghenlapbaaaaGreatDoor
open Go.ChangeShapes Go.WideShapes Go.ChangeAt Go.RowKit Go.Joins
set_option linter.unusedSectionVars false
variable [DecidableEq Bal] [Inhabited Bal] [DecidableEq Ledg] [Inhabited Ledg] [DecidableEq Leg] [Inhabited Leg] [DecidableEq Cont] [Inhabited Cont]

set_option maxRecDepth 20000 in
theorem openContracts {H : Type} {enc : TypeId × Value → H} {W : World} {sp : Nat → Bool} {held : Bool} {n : Nat} {v : Value} {y : DataW H × List MemPlace}
    (ht : DataW.trod enc Tryz.prog W 0 sp held n 24 [v] = some y) : ∃ xs, contsR.V W v xs := by
  refine openN Tryz.underlying24 (by kernel_rfl) (by omega) (fun n cs y h hl => ?_) ht
  obtain ⟨y0, y1, m, hy, hlen, h0, h1⟩ := trod_struct2 Tryz.underlying75 h
  have hz : Tryz.prog.cellsOf 73 = 1 := by kernel_rfl
  match cs, hl with
  | [c0, c1], _ =>
    simp only [cellsInt', hz] at h0 h1
    obtain ⟨x0, e0, _⟩ := DataW.trod_int Tryz.underlying2 h0
    simp at e0
    subst e0
    obtain ⟨xs, hx⟩ := openLegs' h1
    exact ⟨⟨x0, xs⟩, .agg #[.int .i64 x0, c1], rfl, c1, rfl, hx⟩
end Go.Proofs.YtndghenlapbaaaaGreatDoor

/-
  Numbers handed in.
-/
namespace Go.Proofs.YtndghenlapbaaaaGreatDoor
open Go.ChangeShapes Go.WideShapes Go.ChangeAt Go.RowKit Go.Joins
set_option linter.unusedSectionVars false
variable [DecidableEq Leg] [Inhabited Leg]

theorem cellsNu : Tryz.prog.cellsOf 2 = 1 := by kernel_rfl
theorem openNu {H : Type} {enc : TypeId × Value → H} {W : World} {sp : Nat → Bool} {held : Bool} {n : Nat} {cs : List Value} {y : DataW H × List MemPlace}
    (ht : DataW.trod enc Tryz.prog W 0 sp held n 2 cs = some y) (hl : cs.length = 1) : ∃ x : Int, cs = [.int .i64 x] := by
  match cs, hl with
  | [c], _ =>
    obtain ⟨x, e, _⟩ := DataW.trod_int Tryz.underlying2 ht
    simp at e
    exact ⟨x, by rw [e]⟩
theorem openNus {H : Type} {enc : TypeId × Value → H} {W : World} {sp : Nat → Bool} {held : Bool} {n : Nat} {v : Value} {y : DataW H × List MemPlace}
    (ht : DataW.trod enc Tryz.prog W 0 sp held n 25 [v] = some y) : ∃ xs : List Int, intsR.V W v xs := by
  obtain ⟨a, cap, xs, cs, rfl, h1, h2, h3⟩ := openRow (q := fun cs x => cs = [.int .i64 x]) Tryz.underlying25 cellsNu (by omega) (fun n cs y h hl => openNu h hl) ht
  refine ⟨xs, a, cap, rfl, h1, h2, fun i hi => ?_⟩
  obtain ⟨g1, g3, b, o, g4, g5⟩ := h3 i hi
  rw [g1] at g5
  have h := g5 0 (by omega)
  exact ⟨b, o, g4, by simpa [List.getD] using h⟩
end Go.Proofs.YtndghenlapbaaaaGreatDoor

/-
  Marks, shards handed in.
-/
namespace Go.Proofs.YtndghenlapbaaaaGreatDoor
open Go.ChangeShapes Go.WideShapes Go.ChangeAt Go.RowKit Go.Joins
set_option linter.unusedSectionVars false
variable [DecidableEq Bal] [Inhabited Bal] [DecidableEq Ledg] [Inhabited Ledg] [DecidableEq Leg] [Inhabited Leg] [DecidableEq Cont] [Inhabited Cont] [DecidableEq Mrk] [Inhabited Mrk] [DecidableEq Shd] [Inhabited Shd]

theorem trod_struct6 {H : Type} {enc : TypeId × Value → H} {P : Program} {w : World} {base : Nat} {spare : Nat → Bool} {held : Bool} {t : TypeId} {f0 f1 f2 f3 f4 f5 : Field} {fuel : Nat} {cs : List Value} {x : DataW H × List MemPlace} (ht : P.underlying t = some (.struct #[f0, f1, f2, f3, f4, f5])) (h : DataW.trod enc P w base spare held fuel t cs = some x) :
    ∃ y0 y1 y2 y3 y4 y5 n, cs.length = P.cellsOf t ∧ DataW.trod enc P w base spare held n f0.type ((cs.drop f0.offset).take (P.cellsOf f0.type)) = some y0 ∧
      DataW.trod enc P w base spare held n f1.type ((cs.drop f1.offset).take (P.cellsOf f1.type)) = some y1 ∧ DataW.trod enc P w base spare held n f2.type ((cs.drop f2.offset).take (P.cellsOf f2.type)) = some y2 ∧
      DataW.trod enc P w base spare held n f3.type ((cs.drop f3.offset).take (P.cellsOf f3.type)) = some y3 ∧ DataW.trod enc P w base spare held n f4.type ((cs.drop f4.offset).take (P.cellsOf f4.type)) = some y4 ∧ DataW.trod enc P w base spare held n f5.type ((cs.drop f5.offset).take (P.cellsOf f5.type)) = some y5 := by
  obtain ⟨xs, n, _, rfl, hl, hlen, hf⟩ := DataW.trod_struct ht h
  match xs, hlen with
  | [y0, y1, y2, y3, y4, y5], _ => exact ⟨y0, y1, y2, y3, y4, y5, n, hl, by simpa using hf 0 f0 rfl, by simpa using hf 1 f1 rfl, by simpa using hf 2 f2 rfl, by simpa using hf 3 f3 rfl, by simpa using hf 4 f4 rfl, by simpa using hf 5 f5 rfl⟩
theorem cellsMrk : Tryz.prog.cellsOf 81 = 2 := by kernel_rfl
theorem openMrk {H : Type} {enc : TypeId × Value → H} {W : World} {sp : Nat → Bool} {held : Bool} {n : Nat} {cs : List Value} {y : DataW H × List MemPlace}
    (ht : DataW.trod enc Tryz.prog W 0 sp held n 81 cs = some y) (hl : cs.length = 2) : ∃ x : Mrk, cs = mrkC x := by
  obtain ⟨y0, y1, m, hy, hlen, h0, h1⟩ := trod_struct2 Tryz.underlying81 ht
  simp only [cellsNu] at h0 h1
  match cs, hl with
  | [c0, c1], _ =>
    obtain ⟨x0, e0, _⟩ := DataW.trod_int Tryz.underlying2 h0
    obtain ⟨x1, e1, _⟩ := DataW.trod_int Tryz.underlying2 h1
    simp at e0 e1
    subst e0 e1
    exact ⟨⟨x0, x1⟩, rfl⟩
theorem openMrks {H : Type} {enc : TypeId × Value → H} {W : World} {sp : Nat → Bool} {held : Bool} {n : Nat} {v : Value} {y : DataW H × List MemPlace}
    (ht : DataW.trod enc Tryz.prog W 0 sp held n 23 [v] = some y) : ∃ xs : List Mrk, mrksR.V W v xs := by
  obtain ⟨a, cap, xs, cs, rfl, h1, h2, h3⟩ := openRow (q := fun cs x => cs = mrkC x) Tryz.underlying23 cellsMrk (by omega) (fun n cs y h hl => openMrk h hl) ht
  refine ⟨xs, a, cap, rfl, h1, h2, fun i hi => ?_⟩
  obtain ⟨g1, g3, b, o, g4, g5⟩ := h3 i hi
  rw [g1] at g5
  exact ⟨b, o, g4, g5 0 (by omega), g5 1 (by omega)⟩
set_option maxRecDepth 100000 in
theorem openShd {H : Type} {enc : TypeId × Value → H} {W : World} {sp : Nat → Bool} {held : Bool} {v : Value} {d : DataW H} {p : List MemPlace} {base : Nat} {r : Reach}
    (hv : Value.okWide Tryz.prog W r base 27 v) (h : DataW.Trod enc Tryz.prog W 0 sp held 27 v d p) : ∃ x, shdR.V W v x := by
  obtain ⟨cs, rfl, hsz⟩ := okWide_struct Tryz.underlying27 hv
  have hC : Tryz.prog.cellsOf 27 = 6 := by kernel_rfl
  have z1 : Tryz.prog.cellsOf 22 = 1 := by kernel_rfl
  have z2 : Tryz.prog.cellsOf 23 = 1 := by kernel_rfl
  have z3 : Tryz.prog.cellsOf 24 = 1 := by kernel_rfl
  have z4 : Tryz.prog.cellsOf 25 = 1 := by kernel_rfl
  obtain ⟨l⟩ := cs
  match l, hsz.trans hC with
  | [c0, c1, c2, c3, c4, c5], _ =>
    obtain ⟨fuel, hf⟩ := h
    obtain ⟨y0, y1, y2, y3, y4, y5, m, _, h0, h1, h2, h3, h4, h5⟩ := trod_struct6 Tryz.underlying27 hf
    have h0' : DataW.trod enc Tryz.prog W 0 sp held m 2 [c0] = some y0 := by simpa [Value.cells, cellsNu] using h0
    have h1' : DataW.trod enc Tryz.prog W 0 sp held m 22 [c1] = some y1 := by simpa [Value.cells, z1] using h1
    have h2' : DataW.trod enc Tryz.prog W 0 sp held m 23 [c2] = some y2 := by simpa [Value.cells, z2] using h2
    have h3' : DataW.trod enc Tryz.prog W 0 sp held m 24 [c3] = some y3 := by simpa [Value.cells, z3] using h3
    have h4' : DataW.trod enc Tryz.prog W 0 sp held m 23 [c4] = some y4 := by simpa [Value.cells, z2] using h4
    have h5' : DataW.trod enc Tryz.prog W 0 sp held m 25 [c5] = some y5 := by simpa [Value.cells, z4] using h5
    obtain ⟨x, ex, _⟩ := DataW.trod_int Tryz.underlying2 h0'
    simp at ex
    subst ex
    obtain ⟨bs, hbs⟩ := openBals h1'
    obtain ⟨vs, hvs⟩ := openMrks h2'
    obtain ⟨hs, hhs⟩ := openContracts h3'
    obtain ⟨ds, hds⟩ := openMrks h4'
    obtain ⟨aps, has⟩ := openNus h5'
    exact ⟨⟨x, bs, vs, hs, ds, aps⟩, c1, c2, c3, c4, c5, rfl, hbs, hvs, hhs, hds, has⟩
end Go.Proofs.YtndghenlapbaaaaGreatDoor

