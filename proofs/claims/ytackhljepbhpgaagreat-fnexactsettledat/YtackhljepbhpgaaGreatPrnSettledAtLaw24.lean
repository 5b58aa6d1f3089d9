import Derived.Test.YtackhljepbhpgaaGreatPrnSettledAtLaw23
import Derived.Carry
import Derived.Deep.Strs
set_option linter.unusedSectionVars false
set_option linter.unusedSimpArgs false

namespace Go.Proofs.YtackhljepbhpgaaGreat
open Go.ChangeShapes Go.WideShapes Go.ChangeAt Go.RowKit Go.Joins
variable [DecidableEq Bal] [Inhabited Bal] [DecidableEq Ledg] [Inhabited Ledg] [DecidableEq Leg] [Inhabited Leg] [DecidableEq Cont] [Inhabited Cont]

set_option maxRecDepth 20000 in
theorem openContracts {H : Type} {enc : TypeId × Value → H} {W : World} {sp : Nat → Bool} {held : Bool} {n : Nat} {v : Value} {y : DataW H × List MemPlace}
  (ht : DataW.trod enc Tryz.prog W 0 sp held n 22 [v] = some y) : ∃ xs, contsR.V W v xs := by
 refine openN Tryz.underlying22 (by kernel_rfl) (by omega) (fun n cs y h hl => ?_) ht
 obtain ⟨y0, y1, m, hy, hlen, h0, h1⟩ := trod_struct2 Tryz.underlying68 h
 have hz : Tryz.prog.cellsOf 66 = 1 := by kernel_rfl
 match cs, hl with
 | [c0, c1], _ =>
  simp only [cellsInt', hz] at h0 h1
  obtain ⟨x0, e0, _⟩ := DataW.trod_int Tryz.underlying2 h0
  simp at e0
  subst e0
  obtain ⟨xs, hx⟩ := openLegs' h1
  exact ⟨⟨x0, xs⟩, .agg #[.int .i64 x0, c1], rfl, c1, rfl, hx⟩
end Go.Proofs.YtackhljepbhpgaaGreat

namespace Go.Proofs.YtackhljepbhpgaaGreat
open Go.ChangeShapes Go.WideShapes Go.ChangeAt Go.RowKit Go.Joins
variable [DecidableEq Leg] [Inhabited Leg]

theorem cellsNu : Tryz.prog.cellsOf 2 = 1 := by kernel_rfl
theorem openNu {H : Type} {enc : TypeId × Value → H} {W : World} {sp : Nat → Bool} {held : Bool} {n : Nat} {cs : List Value} {y : DataW H × List MemPlace}
  (ht : DataW.trod enc Tryz.prog W 0 sp held n 2 cs = some y) (hl : cs.length = 1) : ∃ x : Int, cs = [.int .i64 x] := by
 match cs, hl with
 | [c], _ =>
  obtain ⟨x, e, _⟩ := DataW.trod_int Tryz.underlying2 ht
  simp at e
  exact ⟨x, by rw [e]⟩
theorem openNus {H : Type} {enc : TypeId × Value → H} {W : World} {sp : Nat → Bool} {held : Bool} {n : Nat} {v : Value} {y : DataW H × List MemPlace}
  (ht : DataW.trod enc Tryz.prog W 0 sp held n 72 [v] = some y) : ∃ xs : List Int, intsR.V W v xs := by
 obtain ⟨a, cap, xs, cs, rfl, h1, h2, h3⟩ := openRow (q := fun cs x => cs = [.int .i64 x]) Tryz.underlying72 cellsNu (by omega) (fun n cs y h hl => openNu h hl) ht
 refine ⟨xs, a, cap, rfl, h1, h2, fun i hi => ?_⟩
 obtain ⟨g1, g3, b, o, g4, g5⟩ := h3 i hi
 rw [g1] at g5
 have h := g5 0 (by omega)
 exact ⟨b, o, g4, by simpa [List.getD] using h⟩
variable [DecidableEq Bal] [Inhabited Bal] [DecidableEq Ledg] [Inhabited Ledg] [DecidableEq Cont] [Inhabited Cont] [DecidableEq Mrk] [Inhabited Mrk] [DecidableEq Shd] [Inhabited Shd]
theorem cellsMrk : Tryz.prog.cellsOf 203 = 2 := by kernel_rfl
theorem openMrk {H : Type} {enc : TypeId × Value → H} {W : World} {sp : Nat → Bool} {held : Bool} {n : Nat} {cs : List Value} {y : DataW H × List MemPlace}
  (ht : DataW.trod enc Tryz.prog W 0 sp held n 203 cs = some y) (hl : cs.length = 2) : ∃ x : Mrk, cs = mrkC x := by
 obtain ⟨y0, y1, m, hy, hlen, h0, h1⟩ := trod_struct2 Tryz.underlying203 ht
 simp only [cellsNu] at h0 h1
 match cs, hl with
 | [c0, c1], _ =>
  obtain ⟨x0, e0, _⟩ := DataW.trod_int Tryz.underlying2 h0
  obtain ⟨x1, e1, _⟩ := DataW.trod_int Tryz.underlying2 h1
  simp at e0 e1
  subst e0 e1
  exact ⟨⟨x0, x1⟩, rfl⟩
theorem openMrks {H : Type} {enc : TypeId × Value → H} {W : World} {sp : Nat → Bool} {held : Bool} {n : Nat} {v : Value} {y : DataW H × List MemPlace}
  (ht : DataW.trod enc Tryz.prog W 0 sp held n 71 [v] = some y) : ∃ xs : List Mrk, mrksR.V W v xs := by
 obtain ⟨a, cap, xs, cs, rfl, h1, h2, h3⟩ := openRow (q := fun cs x => cs = mrkC x) Tryz.underlying71 cellsMrk (by omega) (fun n cs y h hl => openMrk h hl) ht
 refine ⟨xs, a, cap, rfl, h1, h2, fun i hi => ?_⟩
 obtain ⟨g1, g3, b, o, g4, g5⟩ := h3 i hi
 rw [g1] at g5
 exact ⟨b, o, g4, g5 0 (by omega), g5 1 (by omega)⟩
end Go.Proofs.YtackhljepbhpgaaGreat

namespace Go.Proofs.YtackhljepbhpgaaGreat
open Go.ChangeShapes Go.WideShapes Go.ChangeAt Go.RowKit Go.Joins
variable [DecidableEq Vot] [Inhabited Vot] [DecidableEq Slt] [Inhabited Slt]

theorem cellsNum : Tryz.prog.cellsOf 2 = 1 := by kernel_rfl
theorem cellsVot : Tryz.prog.cellsOf 109 = 2 := by kernel_rfl
theorem cellsVots : Tryz.prog.cellsOf 184 = 1 := by kernel_rfl
theorem trod_struct5 {H : Type} {enc : TypeId × Value → H} {P : Program} {w : World} {base : Nat} {spare : Nat → Bool} {held : Bool} {t : TypeId} {f0 f1 f2 f3 f4 : Field} {fuel : Nat} {cs : List Value} {x : DataW H × List MemPlace} (ht : P.underlying t = some (.struct #[f0, f1, f2, f3, f4])) (h : DataW.trod enc P w base spare held fuel t cs = some x) :
  ∃ y0 y1 y2 y3 y4 n, cs.length = P.cellsOf t ∧ DataW.trod enc P w base spare held n f0.type ((cs.drop f0.offset).take (P.cellsOf f0.type)) = some y0 ∧
   DataW.trod enc P w base spare held n f1.type ((cs.drop f1.offset).take (P.cellsOf f1.type)) = some y1 ∧ DataW.trod enc P w base spare held n f2.type ((cs.drop f2.offset).take (P.cellsOf f2.type)) = some y2 ∧
   DataW.trod enc P w base spare held n f3.type ((cs.drop f3.offset).take (P.cellsOf f3.type)) = some y3 ∧ DataW.trod enc P w base spare held n f4.type ((cs.drop f4.offset).take (P.cellsOf f4.type)) = some y4 := by
 obtain ⟨xs, n, _, rfl, hl, hlen, hf⟩ := DataW.trod_struct ht h
 match xs, hlen with
 | [y0, y1, y2, y3, y4], _ => exact ⟨y0, y1, y2, y3, y4, n, hl, by simpa using hf 0 f0 rfl, by simpa using hf 1 f1 rfl, by simpa using hf 2 f2 rfl, by simpa using hf 3 f3 rfl, by simpa using hf 4 f4 rfl⟩
theorem openVot {H : Type} {enc : TypeId × Value → H} {W : World} {sp : Nat → Bool} {held : Bool} {n : Nat} {cs : List Value} {y : DataW H × List MemPlace}
  (ht : DataW.trod enc Tryz.prog W 0 sp held n 109 cs = some y) (hl : cs.length = 2) : ∃ x : Vot, cs = votC x := by
 obtain ⟨y0, y1, m, hy, hlen, h0, h1⟩ := trod_struct2 Tryz.underlying109 ht
 simp only [cellsNum] at h0 h1
 match cs, hl with
 | [c0, c1], _ =>
  obtain ⟨x0, e0, _⟩ := DataW.trod_int Tryz.underlying2 h0
  obtain ⟨x1, e1, _⟩ := DataW.trod_int Tryz.underlying2 h1
  simp at e0 e1
  subst e0 e1
  exact ⟨⟨x0, x1⟩, rfl⟩
theorem openVots {H : Type} {enc : TypeId × Value → H} {W : World} {sp : Nat → Bool} {held : Bool} {n : Nat} {v : Value} {y : DataW H × List MemPlace}
  (ht : DataW.trod enc Tryz.prog W 0 sp held n 184 [v] = some y) : ∃ xs : List Vot, votsR.V W v xs := by
 obtain ⟨a, cap, xs, cs, rfl, h1, h2, h3⟩ := openRow (q := fun cs x => cs = votC x) Tryz.underlying184 cellsVot (by omega) (fun n cs y h hl => openVot h hl) ht
 refine ⟨xs, a, cap, rfl, h1, h2, fun i hi => ?_⟩
 obtain ⟨g1, g3, b, o, g4, g5⟩ := h3 i hi
 rw [g1] at g5
 exact ⟨b, o, g4, g5 0 (by omega), g5 1 (by omega)⟩
theorem openSlt {H : Type} {enc : TypeId × Value → H} {W : World} {sp : Nat → Bool} {held : Bool} {n : Nat} {cs : List Value} {y : DataW H × List MemPlace}
  (ht : DataW.trod enc Tryz.prog W 0 sp held n 186 cs = some y) (hl : cs.length = 6) : ∃ (x : Slt) (u : Value), cs = [.int .i64 x.con, .int .i64 x.sh, .int .i64 x.pr, .int .i64 x.lb, .int .i64 x.lv, u] ∧ votsR.V W u x.cast := by
 obtain ⟨y0, y1, y2, y3, y4, m, hlen, h0, h1, h2, h3, h4⟩ := trod_struct5 Tryz.underlying186 ht
 simp only [cellsNum, cellsVot, cellsVots] at h0 h1 h2 h3 h4
 match cs, hl with
 | [c0, c1, c2, c3, c4, c5], _ =>
  obtain ⟨x0, e0, _⟩ := DataW.trod_int Tryz.underlying2 h0
  obtain ⟨x1, e1, _⟩ := DataW.trod_int Tryz.underlying2 h1
  obtain ⟨x2, e2, _⟩ := DataW.trod_int Tryz.underlying2 h2
  obtain ⟨l, el⟩ := openVot h3 rfl; obtain ⟨xs, hx⟩ := openVots h4
  simp at e0 e1 e2
  simp [votC] at el
  obtain ⟨rfl, rfl⟩ := el
  subst e0 e1 e2
  exact ⟨⟨x0, x1, x2, l.bal, l.val, xs⟩, c5, rfl, hx⟩
theorem openSlts {H : Type} {enc : TypeId × Value → H} {W : World} {sp : Nat → Bool} {held : Bool} {n : Nat} {v : Value} {y : DataW H × List MemPlace}
  (ht : DataW.trod enc Tryz.prog W 0 sp held n 76 [v] = some y) : ∃ xs, sltsR.V W v xs := by
 refine openN Tryz.underlying76 (by kernel_rfl) (by omega) (fun n cs y h hl => ?_) ht
 obtain ⟨x, u, rfl, hx⟩ := openSlt h hl
 exact ⟨x, .agg #[.int .i64 x.con, .int .i64 x.sh, .int .i64 x.pr, .int .i64 x.lb, .int .i64 x.lv, u], rfl, u, rfl, hx⟩
variable [DecidableEq Acc] [Inhabited Acc]
theorem openAcc {H : Type} {enc : TypeId × Value → H} {W : World} {sp : Nat → Bool} {held : Bool} {n : Nat} {cs : List Value} {y : DataW H × List MemPlace}
  (ht : DataW.trod enc Tryz.prog W 0 sp held n 78 cs = some y) (hl : cs.length = 1) : ∃ (x : Acc) (u : Value), cs = [u] ∧ sltsR.V W u x.slots := by
 match cs, hl with
 | [c], _ =>
  obtain ⟨y0, m, hx, _, h0⟩ := trod_struct1 Tryz.underlying78 ht
  have hz : Tryz.prog.cellsOf 76 = 1 := by kernel_rfl
  have h0' : DataW.trod enc Tryz.prog W 0 sp held m 76 [c] = some y0 := by simpa [Value.cells, hz] using h0
  obtain ⟨xs, hxs⟩ := openSlts h0'
  exact ⟨⟨xs⟩, c, rfl, hxs⟩
theorem openAccs {H : Type} {enc : TypeId × Value → H} {W : World} {sp : Nat → Bool} {held : Bool} {n : Nat} {v : Value} {y : DataW H × List MemPlace}
  (ht : DataW.trod enc Tryz.prog W 0 sp held n 24 [v] = some y) : ∃ xs, accsR.V W v xs := by
 refine openN Tryz.underlying24 (by kernel_rfl) (by omega) (fun n cs y h hl => ?_) ht
 obtain ⟨x, u, rfl, hx⟩ := openAcc h hl
 exact ⟨x, .agg #[u], rfl, u, rfl, hx⟩
end Go.Proofs.YtackhljepbhpgaaGreat

set_option maxRecDepth 100000
namespace Go.Proofs.YtackhljepbhpgaaGreat
open Go.ChangeShapes Go.WideShapes Go.ChangeAt Go.RowKit Go.Joins
variable [DecidableEq Bal] [Inhabited Bal] [DecidableEq Ledg] [Inhabited Ledg] [DecidableEq Leg] [Inhabited Leg] [DecidableEq Cont] [Inhabited Cont] [DecidableEq Mrk] [Inhabited Mrk] [DecidableEq Shd] [Inhabited Shd] [DecidableEq Vot] [Inhabited Vot] [DecidableEq Slt] [Inhabited Slt] [DecidableEq Acc] [Inhabited Acc] [DecidableEq Trr] [Inhabited Trr] [DecidableEq Hrd] [Inhabited Hrd] [DecidableEq Ldr] [Inhabited Ldr] [DecidableEq Msg] [Inhabited Msg] [DecidableEq Clu] [Inhabited Clu]
theorem trod_struct3c {H : Type} {enc : TypeId × Value → H} {P : Program} {w : World} {base : Nat} {spare : Nat → Bool} {held : Bool} {t : TypeId} {f0 f1 f2 : Field} {fuel : Nat} {cs : List Value} {x : DataW H × List MemPlace} (ht : P.underlying t = some (.struct #[f0, f1, f2])) (h : DataW.trod enc P w base spare held fuel t cs = some x) :
  ∃ y0 y1 y2 n, cs.length = P.cellsOf t ∧ DataW.trod enc P w base spare held n f0.type ((cs.drop f0.offset).take (P.cellsOf f0.type)) = some y0 ∧ DataW.trod enc P w base spare held n f1.type ((cs.drop f1.offset).take (P.cellsOf f1.type)) = some y1 ∧ DataW.trod enc P w base spare held n f2.type ((cs.drop f2.offset).take (P.cellsOf f2.type)) = some y2 := by
 obtain ⟨xs, n, _, rfl, hl, hlen, hf⟩ := DataW.trod_struct ht h
 match xs, hlen with
 | [y0, y1, y2], _ => exact ⟨y0, y1, y2, n, hl, by simpa using hf 0 f0 rfl, by simpa using hf 1 f1 rfl, by simpa using hf 2 f2 rfl⟩
theorem trod_struct5c {H : Type} {enc : TypeId × Value → H} {P : Program} {w : World} {base : Nat} {spare : Nat → Bool} {held : Bool} {t : TypeId} {f0 f1 f2 f3 f4 : Field} {fuel : Nat} {cs : List Value} {x : DataW H × List MemPlace} (ht : P.underlying t = some (.struct #[f0, f1, f2, f3, f4])) (h : DataW.trod enc P w base spare held fuel t cs = some x) :
  ∃ y0 y1 y2 y3 y4 n, cs.length = P.cellsOf t ∧ DataW.trod enc P w base spare held n f0.type ((cs.drop f0.offset).take (P.cellsOf f0.type)) = some y0 ∧ DataW.trod enc P w base spare held n f1.type ((cs.drop f1.offset).take (P.cellsOf f1.type)) = some y1 ∧ DataW.trod enc P w base spare held n f2.type ((cs.drop f2.offset).take (P.cellsOf f2.type)) = some y2 ∧ DataW.trod enc P w base spare held n f3.type ((cs.drop f3.offset).take (P.cellsOf f3.type)) = some y3 ∧ DataW.trod enc P w base spare held n f4.type ((cs.drop f4.offset).take (P.cellsOf f4.type)) = some y4 := by
 obtain ⟨xs, n, _, rfl, hl, hlen, hf⟩ := DataW.trod_struct ht h
 match xs, hlen with
 | [y0, y1, y2, y3, y4], _ => exact ⟨y0, y1, y2, y3, y4, n, hl, by simpa using hf 0 f0 rfl, by simpa using hf 1 f1 rfl, by simpa using hf 2 f2 rfl, by simpa using hf 3 f3 rfl, by simpa using hf 4 f4 rfl⟩
theorem trod_struct6c {H : Type} {enc : TypeId × Value → H} {P : Program} {w : World} {base : Nat} {spare : Nat → Bool} {held : Bool} {t : TypeId} {f0 f1 f2 f3 f4 f5 : Field} {fuel : Nat} {cs : List Value} {x : DataW H × List MemPlace} (ht : P.underlying t = some (.struct #[f0, f1, f2, f3, f4, f5])) (h : DataW.trod enc P w base spare held fuel t cs = some x) :
  ∃ y0 y1 y2 y3 y4 y5 n, cs.length = P.cellsOf t ∧ DataW.trod enc P w base spare held n f0.type ((cs.drop f0.offset).take (P.cellsOf f0.type)) = some y0 ∧ DataW.trod enc P w base spare held n f1.type ((cs.drop f1.offset).take (P.cellsOf f1.type)) = some y1 ∧ DataW.trod enc P w base spare held n f2.type ((cs.drop f2.offset).take (P.cellsOf f2.type)) = some y2 ∧ DataW.trod enc P w base spare held n f3.type ((cs.drop f3.offset).take (P.cellsOf f3.type)) = some y3 ∧ DataW.trod enc P w base spare held n f4.type ((cs.drop f4.offset).take (P.cellsOf f4.type)) = some y4 ∧ DataW.trod enc P w base spare held n f5.type ((cs.drop f5.offset).take (P.cellsOf f5.type)) = some y5 := by
 obtain ⟨xs, n, _, rfl, hl, hlen, hf⟩ := DataW.trod_struct ht h
 match xs, hlen with
 | [y0, y1, y2, y3, y4, y5], _ => exact ⟨y0, y1, y2, y3, y4, y5, n, hl, by simpa using hf 0 f0 rfl, by simpa using hf 1 f1 rfl, by simpa using hf 2 f2 rfl, by simpa using hf 3 f3 rfl, by simpa using hf 4 f4 rfl, by simpa using hf 5 f5 rfl⟩
theorem trod_struct8c {H : Type} {enc : TypeId × Value → H} {P : Program} {w : World} {base : Nat} {spare : Nat → Bool} {held : Bool} {t : TypeId} {f0 f1 f2 f3 f4 f5 f6 f7 : Field} {fuel : Nat} {cs : List Value} {x : DataW H × List MemPlace} (ht : P.underlying t = some (.struct #[f0, f1, f2, f3, f4, f5, f6, f7])) (h : DataW.trod enc P w base spare held fuel t cs = some x) :
  ∃ y0 y1 y2 y3 y4 y5 y6 y7 n, cs.length = P.cellsOf t ∧ DataW.trod enc P w base spare held n f0.type ((cs.drop f0.offset).take (P.cellsOf f0.type)) = some y0 ∧ DataW.trod enc P w base spare held n f1.type ((cs.drop f1.offset).take (P.cellsOf f1.type)) = some y1 ∧ DataW.trod enc P w base spare held n f2.type ((cs.drop f2.offset).take (P.cellsOf f2.type)) = some y2 ∧ DataW.trod enc P w base spare held n f3.type ((cs.drop f3.offset).take (P.cellsOf f3.type)) = some y3 ∧ DataW.trod enc P w base spare held n f4.type ((cs.drop f4.offset).take (P.cellsOf f4.type)) = some y4 ∧ DataW.trod enc P w base spare held n f5.type ((cs.drop f5.offset).take (P.cellsOf f5.type)) = some y5 ∧ DataW.trod enc P w base spare held n f6.type ((cs.drop f6.offset).take (P.cellsOf f6.type)) = some y6 ∧ DataW.trod enc P w base spare held n f7.type ((cs.drop f7.offset).take (P.cellsOf f7.type)) = some y7 := by
 obtain ⟨xs, n, _, rfl, hl, hlen, hf⟩ := DataW.trod_struct ht h
 match xs, hlen with
 | [y0, y1, y2, y3, y4, y5, y6, y7], _ => exact ⟨y0, y1, y2, y3, y4, y5, y6, y7, n, hl, by simpa using hf 0 f0 rfl, by simpa using hf 1 f1 rfl, by simpa using hf 2 f2 rfl, by simpa using hf 3 f3 rfl, by simpa using hf 4 f4 rfl, by simpa using hf 5 f5 rfl, by simpa using hf 6 f6 rfl, by simpa using hf 7 f7 rfl⟩
theorem openHrd {H : Type} {enc : TypeId × Value → H} {W : World} {sp : Nat → Bool} {held : Bool} {n : Nat} {cs : List Value} {y : DataW H × List MemPlace}
  (ht : DataW.trod enc Tryz.prog W 0 sp held n 207 cs = some y) (hl : cs.length = 5) : ∃ x : Hrd, cs = hrdC x := by
 obtain ⟨y0, y1, y2, y3, y4, m, hlen, h0, h1, h2, h3, h4⟩ := trod_struct5c Tryz.underlying207 ht
 simp only [cellsNum, cellsVot] at h0 h1 h2 h3 h4
 match cs, hl with
 | [c0, c1, c2, c3, c4], _ =>
  obtain ⟨x0, e0, _⟩ := DataW.trod_int Tryz.underlying2 h0
  obtain ⟨x1, e1, _⟩ := DataW.trod_int Tryz.underlying2 h1
  obtain ⟨x2, e2, _⟩ := DataW.trod_int Tryz.underlying2 h2
  obtain ⟨x3, e3, _⟩ := DataW.trod_int Tryz.underlying2 h3
  obtain ⟨x4, e4, _⟩ := DataW.trod_int Tryz.underlying2 h4
  simp at e0 e1 e2 e3 e4
  subst e0 e1 e2 e3 e4
  exact ⟨⟨x0, x1, x2, x3, x4⟩, rfl⟩
theorem openMsg {H : Type} {enc : TypeId × Value → H} {W : World} {sp : Nat → Bool} {held : Bool} {n : Nat} {cs : List Value} {y : DataW H × List MemPlace}
  (ht : DataW.trod enc Tryz.prog W 0 sp held n 111 cs = some y) (hl : cs.length = 9) : ∃ x : Msg, cs = msgC x := by
 obtain ⟨y0, y1, y2, y3, y4, y5, y6, y7, m, hlen, h0, h1, h2, h3, h4, h5, h6, h7⟩ := trod_struct8c Tryz.underlying111 ht
 simp only [cellsNum, cellsVot] at h0 h1 h2 h3 h4 h5 h6 h7
 match cs, hl with
 | [c0, c1, c2, c3, c4, c5, c6, c7, c7'], _ =>
  obtain ⟨x0, e0, _⟩ := DataW.trod_int Tryz.underlying2 h0
  obtain ⟨x1, e1, _⟩ := DataW.trod_int Tryz.underlying2 h1
  obtain ⟨x2, e2, _⟩ := DataW.trod_int Tryz.underlying2 h2
  obtain ⟨x3, e3, _⟩ := DataW.trod_int Tryz.underlying2 h3
  obtain ⟨x4, e4, _⟩ := DataW.trod_int Tryz.underlying2 h4
  obtain ⟨x5, e5, _⟩ := DataW.trod_int Tryz.underlying2 h5
  obtain ⟨x6, e6, _⟩ := DataW.trod_int Tryz.underlying2 h6
  obtain ⟨l7, e7⟩ := openVot h7 rfl
  simp at e0 e1 e2 e3 e4 e5 e6
  simp [votC] at e7
  obtain ⟨rfl, rfl⟩ := e7
  subst e0 e1 e2 e3 e4 e5 e6
  exact ⟨⟨x0, x1, x2, x3, x4, x5, x6, l7.bal, l7.val⟩, rfl⟩
theorem openHrds {H : Type} {enc : TypeId × Value → H} {W : World} {sp : Nat → Bool} {held : Bool} {n : Nat} {v : Value} {y : DataW H × List MemPlace}
  (ht : DataW.trod enc Tryz.prog W 0 sp held n 81 [v] = some y) : ∃ xs : List Hrd, hrdsR.V W v xs := by
 obtain ⟨a, cap, xs, cs, rfl, h1, h2, h3⟩ := openRow (q := fun cs x => cs = hrdC x) Tryz.underlying81 (by kernel_rfl) (size := 5) (by omega) (fun n cs y h hl => openHrd h hl) ht
 refine ⟨xs, a, cap, rfl, h1, h2, fun i hi => ?_⟩
 obtain ⟨g1, g3, b, o, g4, g5⟩ := h3 i hi
 rw [g1] at g5
 exact ⟨b, o, g4, g5 0 (by omega), g5 1 (by omega), g5 2 (by omega), g5 3 (by omega), g5 4 (by omega)⟩
theorem openMsgs {H : Type} {enc : TypeId × Value → H} {W : World} {sp : Nat → Bool} {held : Bool} {n : Nat} {v : Value} {y : DataW H × List MemPlace}
  (ht : DataW.trod enc Tryz.prog W 0 sp held n 26 [v] = some y) : ∃ xs : List Msg, msgsR.V W v xs := by
 obtain ⟨a, cap, xs, cs, rfl, h1, h2, h3⟩ := openRow (q := fun cs x => cs = msgC x) Tryz.underlying26 (by kernel_rfl) (size := 9) (by omega) (fun n cs y h hl => openMsg h hl) ht
 refine ⟨xs, a, cap, rfl, h1, h2, fun i hi => ?_⟩
 obtain ⟨g1, g3, b, o, g4, g5⟩ := h3 i hi
 rw [g1] at g5
 exact ⟨b, o, g4, g5 0 (by omega), g5 1 (by omega), g5 2 (by omega), g5 3 (by omega), g5 4 (by omega), g5 5 (by omega), g5 6 (by omega), g5 7 (by omega), g5 8 (by omega)⟩
theorem openTrr {H : Type} {enc : TypeId × Value → H} {W : World} {sp : Nat → Bool} {held : Bool} {n : Nat} {cs : List Value} {y : DataW H × List MemPlace}
  (ht : DataW.trod enc Tryz.prog W 0 sp held n 189 cs = some y) (hl : cs.length = 6) : ∃ (x : Trr) (u1 u2 : Value), cs = [.int .i64 x.con, .int .i64 x.sh, .int .i64 x.bal, .int .i64 x.val, u1, u2] ∧ intsR.V W u1 x.frm ∧ votsR.V W u2 x.olds := by
 obtain ⟨y0, y1, y2, y3, y4, y5, m, hlen, h0, h1, h2, h3, h4, h5⟩ := trod_struct6c Tryz.underlying189 ht
 have z0 : Tryz.prog.cellsOf 72 = 1 := by kernel_rfl
 have z1 : Tryz.prog.cellsOf 184 = 1 := by kernel_rfl
 simp only [cellsNum, cellsVot, z0, z1] at h0 h1 h2 h3 h4 h5
 match cs, hl with
 | [c0, c1, c2, c3, c4, c5], _ =>
  obtain ⟨x0, e0, _⟩ := DataW.trod_int Tryz.underlying2 h0
  obtain ⟨x1, e1, _⟩ := DataW.trod_int Tryz.underlying2 h1
  obtain ⟨x2, e2, _⟩ := DataW.trod_int Tryz.underlying2 h2
  obtain ⟨x3, e3, _⟩ := DataW.trod_int Tryz.underlying2 h3
  obtain ⟨x4, g4⟩ := openNus h4; obtain ⟨x5, g5⟩ := openVots h5
  simp at e0 e1 e2 e3
  subst e0 e1 e2 e3
  exact ⟨⟨x0, x1, x2, x3, x4, x5⟩, c4, c5, rfl, g4, g5⟩
theorem openTrys {H : Type} {enc : TypeId × Value → H} {W : World} {sp : Nat → Bool} {held : Bool} {n : Nat} {v : Value} {y : DataW H × List MemPlace}
  (ht : DataW.trod enc Tryz.prog W 0 sp held n 80 [v] = some y) : ∃ xs, trysR.V W v xs := by
 refine openN Tryz.underlying80 (by kernel_rfl) (by omega) (fun n cs y h hl => ?_) ht
 obtain ⟨x, u1, u2, rfl, h1, h2⟩ := openTrr h hl
 exact ⟨x, .agg #[.int .i64 x.con, .int .i64 x.sh, .int .i64 x.bal, .int .i64 x.val, u1, u2], rfl, u1, u2, rfl, h1, h2⟩
theorem openLdr {H : Type} {enc : TypeId × Value → H} {W : World} {sp : Nat → Bool} {held : Bool} {n : Nat} {cs : List Value} {y : DataW H × List MemPlace}
  (ht : DataW.trod enc Tryz.prog W 0 sp held n 83 cs = some y) (hl : cs.length = 3) : ∃ (x : Ldr) (u1 u2 : Value), cs = [.int .i64 x.count, u1, u2] ∧ trysR.V W u1 x.tries ∧ hrdsR.V W u2 x.known := by
 obtain ⟨y0, y1, y2, m, hlen, h0, h1, h2⟩ := trod_struct3c Tryz.underlying83 ht
 have z0 : Tryz.prog.cellsOf 81 = 1 := by kernel_rfl
 have z1 : Tryz.prog.cellsOf 80 = 1 := by kernel_rfl
 simp only [cellsNum, cellsVot, z0, z1] at h0 h1 h2
 match cs, hl with
 | [c0, c1, c2], _ =>
  obtain ⟨x0, e0, _⟩ := DataW.trod_int Tryz.underlying2 h0
  obtain ⟨x1, g1⟩ := openTrys h1; obtain ⟨x2, g2⟩ := openHrds h2
  simp at e0
  subst e0
  exact ⟨⟨x0, x1, x2⟩, c1, c2, rfl, g1, g2⟩
theorem openLdrs {H : Type} {enc : TypeId × Value → H} {W : World} {sp : Nat → Bool} {held : Bool} {n : Nat} {v : Value} {y : DataW H × List MemPlace}
  (ht : DataW.trod enc Tryz.prog W 0 sp held n 25 [v] = some y) : ∃ xs, ldrsR.V W v xs := by
 refine openN Tryz.underlying25 (by kernel_rfl) (by omega) (fun n cs y h hl => ?_) ht
 obtain ⟨x, u1, u2, rfl, h1, h2⟩ := openLdr h hl
 exact ⟨x, .agg #[.int .i64 x.count, u1, u2], rfl, u1, u2, rfl, h1, h2⟩
theorem openShdE {H : Type} {enc : TypeId × Value → H} {W : World} {sp : Nat → Bool} {held : Bool} {n : Nat} {cs : List Value} {y : DataW H × List MemPlace}
  (ht : DataW.trod enc Tryz.prog W 0 sp held n 74 cs = some y) (hl : cs.length = 6) : ∃ (x : Shd) (u1 u2 u3 u4 u5 : Value), cs = [.int .i64 x.idx, u1, u2, u3, u4, u5] ∧ balsR.V W u1 x.bals ∧ mrksR.V W u2 x.votes ∧ contsR.V W u3 x.held ∧ mrksR.V W u4 x.done ∧ intsR.V W u5 x.appl := by
 obtain ⟨y0, y1, y2, y3, y4, y5, m, hlen, h0, h1, h2, h3, h4, h5⟩ := trod_struct6c Tryz.underlying74 ht
 have z0 : Tryz.prog.cellsOf 72 = 1 := by kernel_rfl
 have z1 : Tryz.prog.cellsOf 70 = 1 := by kernel_rfl
 have z2 : Tryz.prog.cellsOf 22 = 1 := by kernel_rfl
 have z3 : Tryz.prog.cellsOf 71 = 1 := by kernel_rfl
 simp only [cellsNum, cellsVot, z0, z1, z2, z3] at h0 h1 h2 h3 h4 h5
 match cs, hl with
 | [c0, c1, c2, c3, c4, c5], _ =>
  obtain ⟨x0, e0, _⟩ := DataW.trod_int Tryz.underlying2 h0
  obtain ⟨x1, g1⟩ := openBals h1; obtain ⟨x2, g2⟩ := openMrks h2; obtain ⟨x3, g3⟩ := openContracts h3; obtain ⟨x4, g4⟩ := openMrks h4; obtain ⟨x5, g5⟩ := openNus h5
  simp at e0
  subst e0
  exact ⟨⟨x0, x1, x2, x3, x4, x5⟩, c1, c2, c3, c4, c5, rfl, g1, g2, g3, g4, g5⟩
theorem openShds {H : Type} {enc : TypeId × Value → H} {W : World} {sp : Nat → Bool} {held : Bool} {n : Nat} {v : Value} {y : DataW H × List MemPlace}
  (ht : DataW.trod enc Tryz.prog W 0 sp held n 23 [v] = some y) : ∃ xs, shdsR.V W v xs := by
 refine openN Tryz.underlying23 (by kernel_rfl) (by omega) (fun n cs y h hl => ?_) ht
 obtain ⟨x, u1, u2, u3, u4, u5, rfl, h1, h2, h3, h4, h5⟩ := openShdE h hl
 exact ⟨x, .agg #[.int .i64 x.idx, u1, u2, u3, u4, u5], rfl, u1, u2, u3, u4, u5, rfl, h1, h2, h3, h4, h5⟩
theorem openCluE {H : Type} {enc : TypeId × Value → H} {W : World} {sp : Nat → Bool} {held : Bool} {n : Nat} {cs : List Value} {y : DataW H × List MemPlace}
  (ht : DataW.trod enc Tryz.prog W 0 sp held n 28 cs = some y) (hl : cs.length = 5) : ∃ x : Clu, cluR.V W (.agg cs.toArray) x := by
 obtain ⟨y0, y1, y2, y3, y4, m, hlen, h0, h1, h2, h3, h4⟩ := trod_struct5c Tryz.underlying28 ht
 have z0 : Tryz.prog.cellsOf 24 = 1 := by kernel_rfl
 have z1 : Tryz.prog.cellsOf 22 = 1 := by kernel_rfl
 have z2 : Tryz.prog.cellsOf 25 = 1 := by kernel_rfl
 have z3 : Tryz.prog.cellsOf 26 = 1 := by kernel_rfl
 have z4 : Tryz.prog.cellsOf 23 = 1 := by kernel_rfl
 simp only [cellsNum, cellsVot, z0, z1, z2, z3, z4] at h0 h1 h2 h3 h4
 match cs, hl with
 | [c0, c1, c2, c3, c4], _ =>
  obtain ⟨x0, g0⟩ := openContracts h0; obtain ⟨x1, g1⟩ := openShds h1; obtain ⟨x2, g2⟩ := openAccs h2; obtain ⟨x3, g3⟩ := openLdrs h3; obtain ⟨x4, g4⟩ := openMsgs h4
  exact ⟨⟨x0, x1, x2, x3, x4⟩, c0, c1, c2, c3, c4, rfl, g0, g1, g2, g3, g4⟩
set_option maxRecDepth 100000 in
theorem openCluT {H : Type} {enc : TypeId × Value → H} {W : World} {sp : Nat → Bool} {held : Bool} {v : Value} {d : DataW H} {p : List MemPlace} {base : Nat} {r : Reach}
  (hv : Value.okWide Tryz.prog W r base 28 v) (h : DataW.Trod enc Tryz.prog W 0 sp held 28 v d p) : ∃ x, cluR.V W v x := by
 obtain ⟨cs, rfl, hsz⟩ := okWide_struct Tryz.underlying28 hv
 have hC : Tryz.prog.cellsOf 28 = 5 := by kernel_rfl
 obtain ⟨l⟩ := cs; obtain ⟨fuel, hf⟩ := h
 obtain ⟨x, hx⟩ := openCluE (cs := l) (by simpa [Value.cells] using hf) (hsz.trans hC)
 exact ⟨x, hx⟩
end Go.Proofs.YtackhljepbhpgaaGreat

