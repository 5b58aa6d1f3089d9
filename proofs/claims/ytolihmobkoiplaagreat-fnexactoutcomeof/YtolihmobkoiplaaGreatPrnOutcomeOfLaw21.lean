import Derived.Test.YtolihmobkoiplaaGreatPrnOutcomeOfLaw1
import Derived.Deep.Slices
import Derived.Lib.SmallJoins
import Derived.Test.YtolihmobkoiplaaGreatPrnOutcomeOfLaw4
import Derived.Deep.Strs
import Derived.Test.YtolihmobkoiplaaGreatPrnOutcomeOfLaw6
import Derived.Carry
import Derived.Test.YtolihmobkoiplaaGreatPrnOutcomeOfLaw14

/-
  What is handed in, read as data, is data in memory: rows and structs of rows.
-/
namespace Go.Proofs.YtolihmobkoiplaaGreat
open Go.ChangeShapes Go.WideShapes Go.ChangeAt Go.RowKit Go.Joins

theorem spot_none {W : World} {base k : Nat} {a : Addr} {cs : List Value} (hk : 0 < k) (hc : W.cells? base a k = some cs) : a.spot = none := by
  obtain ⟨hb, hl, hcell⟩ := World.cells?_some hc
  have q0 := hcell 0 hk
  obtain ⟨b, o, s⟩ := a
  cases s with
  | none => rfl
  | some s =>
    have : 0 < cs.length := by omega
    simp [Addr.add, World.cell?, this] at q0
    split at q0 <;> simp at q0
theorem add_plain (b o i : Nat) : (Addr.mk b o none).add i = ⟨b, o + i, none⟩ := by
  by_cases h : i = 0
  · subst h; simp [Addr.add]
  · simp [Addr.add, h]
theorem openRow {H : Type} {enc : TypeId × Value → H} {W : World} {sp : Nat → Bool} {held : Bool} {n : Nat} {v : Value} {y : DataW H × List MemPlace} {t e size : Nat} {α : Type} [Inhabited α] {q : List Value → α → Prop}
    (ht : Tryz.prog.underlying t = some (.slice e)) (hz : Tryz.prog.cellsOf e = size) (hs : 0 < size)
    (hq : ∀ n cs y, DataW.trod enc Tryz.prog W 0 sp held n e cs = some y → cs.length = size → ∃ x, q cs x) (h : DataW.trod enc Tryz.prog W 0 sp held n t [v] = some y) :
    ∃ (a : Option Addr) (cap : Nat) (xs : List α) (cs : Nat → List Value), v = .slice a xs.length cap ∧ xs.length ≤ cap ∧ cap ≤ maxLen ∧ ∀ i, i < xs.length → q (cs i) (xs.getD i default) ∧ (cs i).length = size ∧ ∃ b o, a = some ⟨b, o, none⟩ ∧ ∀ j, j < size → W.cell? ⟨b, o + i * size + j, none⟩ = (cs i)[j]? := by
  rcases Go.Deep.open_slice ht h with ⟨hcs, _⟩ | ⟨a, len, cap, m, n', D, Pl, hcs, hb, hl, hm, hmm, _, hc⟩
  · simp at hcs
    subst hcs
    exact ⟨none, 0, [], fun _ => [], rfl, by simp, by unfold maxLen; omega, fun i hi => by simp at hi⟩
  · simp at hcs
    subst hcs
    have hlm : len ≤ m := by rw [hmm]; split <;> omega
    rw [hz] at hc
    have h1 : ∀ i, i < len → ∃ z : List Value × α, q z.1 z.2 ∧ z.1.length = size ∧ ∃ b o, a = ⟨b, o, none⟩ ∧ ∀ j, j < size → W.cell? ⟨b, o + i * size + j, none⟩ = z.1[j]? := by
      intro i hi
      obtain ⟨cs', h1, h2⟩ := hc i (by omega)
      obtain ⟨_, hl', hcell⟩ := World.cells?_some h1
      obtain ⟨x, hx⟩ := hq _ _ _ h2 hl'
      obtain ⟨cs0, k1, _⟩ := hc 0 (by omega)
      have hsp := spot_none hs k1
      obtain ⟨b, o, s⟩ := a
      have hs0 : s = none := by simpa [Addr.add] using hsp
      subst hs0
      refine ⟨(cs', x), hx, hl', b, o, rfl, fun j hj => ?_⟩
      have := hcell j hj
      rw [add_plain, add_plain] at this
      exact this
    obtain ⟨f, hf⟩ := Go.Deep.choose_lt h1
    refine ⟨some a, cap, (List.range len).map (fun i => (f i).2), fun i => (f i).1, by simp, by simpa using hl, hm, fun i hi => ?_⟩
    simp at hi
    obtain ⟨g1, g2, b, o, rfl, g3⟩ := hf i hi
    have e : (List.map (fun i => (f i).2) (List.range len)).getD i default = (f i).2 := by simp [List.getD, hi]
    rw [e]
    exact ⟨g1, g2, b, o, rfl, g3⟩
theorem openN {H : Type} {enc : TypeId × Value → H} {W : World} {sp : Nat → Bool} {held : Bool} {n : Nat} {v : Value} {y : DataW H × List MemPlace} {t e size : Nat} {α : Type} [Inhabited α] {R : Rep α} {te : Nat} {lv : Value → List Value}
    (ht : Tryz.prog.underlying t = some (.slice e)) (hz : Tryz.prog.cellsOf e = size) (hs : 0 < size)
    (hq : ∀ n cs y, DataW.trod enc Tryz.prog W 0 sp held n e cs = some y → cs.length = size → ∃ x u, lv u = cs ∧ R.V W u x) (h : DataW.trod enc Tryz.prog W 0 sp held n t [v] = some y) :
    ∃ xs : List α, (nRep R te size lv).V W v xs := by
  obtain ⟨a, cap, xs, cs, rfl, h1, h2, h3⟩ := openRow (q := fun cs x => ∃ u, lv u = cs ∧ R.V W u x) ht hz hs hq h
  refine ⟨xs, a, cap, rfl, h1, h2, fun i hi => ?_⟩
  obtain ⟨⟨u, g1, g2⟩, g3, b, o, g4, g5⟩ := h3 i hi
  exact ⟨b, o, u, g4, by rw [g1]; exact g3, fun j hj => by rw [g1]; exact g5 j hj, g2⟩
end Go.Proofs.YtolihmobkoiplaaGreat

/-
  Votes and slots handed in.
-/
namespace Go.Proofs.YtolihmobkoiplaaGreat
open Go.ChangeShapes Go.WideShapes Go.ChangeAt Go.RowKit Go.Joins
set_option linter.unusedSectionVars false
variable [DecidableEq Vot] [Inhabited Vot] [DecidableEq Slt] [Inhabited Slt]

theorem cellsNum : Tryz.prog.cellsOf 2 = 1 := by kernel_rfl
theorem cellsVot : Tryz.prog.cellsOf 92 = 2 := by kernel_rfl
theorem cellsVots : Tryz.prog.cellsOf 93 = 1 := by kernel_rfl
theorem trod_struct5 {H : Type} {enc : TypeId × Value → H} {P : Program} {w : World} {base : Nat} {spare : Nat → Bool} {held : Bool} {t : TypeId} {f0 f1 f2 f3 f4 : Field} {fuel : Nat} {cs : List Value} {x : DataW H × List MemPlace} (ht : P.underlying t = some (.struct #[f0, f1, f2, f3, f4])) (h : DataW.trod enc P w base spare held fuel t cs = some x) :
    ∃ y0 y1 y2 y3 y4 n, cs.length = P.cellsOf t ∧ DataW.trod enc P w base spare held n f0.type ((cs.drop f0.offset).take (P.cellsOf f0.type)) = some y0 ∧
      DataW.trod enc P w base spare held n f1.type ((cs.drop f1.offset).take (P.cellsOf f1.type)) = some y1 ∧ DataW.trod enc P w base spare held n f2.type ((cs.drop f2.offset).take (P.cellsOf f2.type)) = some y2 ∧
      DataW.trod enc P w base spare held n f3.type ((cs.drop f3.offset).take (P.cellsOf f3.type)) = some y3 ∧ DataW.trod enc P w base spare held n f4.type ((cs.drop f4.offset).take (P.cellsOf f4.type)) = some y4 := by
  obtain ⟨xs, n, _, rfl, hl, hlen, hf⟩ := DataW.trod_struct ht h
  match xs, hlen with
  | [y0, y1, y2, y3, y4], _ => exact ⟨y0, y1, y2, y3, y4, n, hl, by simpa using hf 0 f0 rfl, by simpa using hf 1 f1 rfl, by simpa using hf 2 f2 rfl, by simpa using hf 3 f3 rfl, by simpa using hf 4 f4 rfl⟩
theorem openVot {H : Type} {enc : TypeId × Value → H} {W : World} {sp : Nat → Bool} {held : Bool} {n : Nat} {cs : List Value} {y : DataW H × List MemPlace}
    (ht : DataW.trod enc Tryz.prog W 0 sp held n 92 cs = some y) (hl : cs.length = 2) : ∃ x : Vot, cs = votC x := by
  obtain ⟨y0, y1, m, hy, hlen, h0, h1⟩ := trod_struct2 Tryz.underlying92 ht
  simp only [cellsNum] at h0 h1
  match cs, hl with
  | [c0, c1], _ =>
    obtain ⟨x0, e0, _⟩ := DataW.trod_int Tryz.underlying2 h0
    obtain ⟨x1, e1, _⟩ := DataW.trod_int Tryz.underlying2 h1
    simp at e0 e1
    subst e0 e1
    exact ⟨⟨x0, x1⟩, rfl⟩
theorem openVots {H : Type} {enc : TypeId × Value → H} {W : World} {sp : Nat → Bool} {held : Bool} {n : Nat} {v : Value} {y : DataW H × List MemPlace}
    (ht : DataW.trod enc Tryz.prog W 0 sp held n 93 [v] = some y) : ∃ xs : List Vot, votsR.V W v xs := by
  obtain ⟨a, cap, xs, cs, rfl, h1, h2, h3⟩ := openRow (q := fun cs x => cs = votC x) Tryz.underlying93 cellsVot (by omega) (fun n cs y h hl => openVot h hl) ht
  refine ⟨xs, a, cap, rfl, h1, h2, fun i hi => ?_⟩
  obtain ⟨g1, g3, b, o, g4, g5⟩ := h3 i hi
  rw [g1] at g5
  exact ⟨b, o, g4, g5 0 (by omega), g5 1 (by omega)⟩
theorem openSlt {H : Type} {enc : TypeId × Value → H} {W : World} {sp : Nat → Bool} {held : Bool} {n : Nat} {cs : List Value} {y : DataW H × List MemPlace}
    (ht : DataW.trod enc Tryz.prog W 0 sp held n 95 cs = some y) (hl : cs.length = 6) : ∃ (x : Slt) (u : Value), cs = [.int .i64 x.con, .int .i64 x.sh, .int .i64 x.pr, .int .i64 x.lb, .int .i64 x.lv, u] ∧ votsR.V W u x.cast := by
  obtain ⟨y0, y1, y2, y3, y4, m, hlen, h0, h1, h2, h3, h4⟩ := trod_struct5 Tryz.underlying95 ht
  simp only [cellsNum, cellsVot, cellsVots] at h0 h1 h2 h3 h4
  match cs, hl with
  | [c0, c1, c2, c3, c4, c5], _ =>
    obtain ⟨x0, e0, _⟩ := DataW.trod_int Tryz.underlying2 h0
    obtain ⟨x1, e1, _⟩ := DataW.trod_int Tryz.underlying2 h1
    obtain ⟨x2, e2, _⟩ := DataW.trod_int Tryz.underlying2 h2
    obtain ⟨l, el⟩ := openVot h3 rfl
    obtain ⟨xs, hx⟩ := openVots h4
    simp at e0 e1 e2
    simp [votC] at el
    obtain ⟨rfl, rfl⟩ := el
    subst e0 e1 e2
    exact ⟨⟨x0, x1, x2, l.bal, l.val, xs⟩, c5, rfl, hx⟩
theorem openSlts {H : Type} {enc : TypeId × Value → H} {W : World} {sp : Nat → Bool} {held : Bool} {n : Nat} {v : Value} {y : DataW H × List MemPlace}
    (ht : DataW.trod enc Tryz.prog W 0 sp held n 42 [v] = some y) : ∃ xs, sltsR.V W v xs := by
  refine openN Tryz.underlying42 (by kernel_rfl) (by omega) (fun n cs y h hl => ?_) ht
  obtain ⟨x, u, rfl, hx⟩ := openSlt h hl
  exact ⟨x, .agg #[.int .i64 x.con, .int .i64 x.sh, .int .i64 x.pr, .int .i64 x.lb, .int .i64 x.lv, u], rfl, u, rfl, hx⟩
end Go.Proofs.YtolihmobkoiplaaGreat

/-
  Acceptors handed in.
-/
namespace Go.Proofs.YtolihmobkoiplaaGreat
open Go.ChangeShapes Go.WideShapes Go.ChangeAt Go.RowKit Go.Joins
set_option linter.unusedSectionVars false
variable [DecidableEq Vot] [Inhabited Vot] [DecidableEq Slt] [Inhabited Slt] [DecidableEq Acc] [Inhabited Acc]

theorem openAcc {H : Type} {enc : TypeId × Value → H} {W : World} {sp : Nat → Bool} {held : Bool} {n : Nat} {cs : List Value} {y : DataW H × List MemPlace}
    (ht : DataW.trod enc Tryz.prog W 0 sp held n 44 cs = some y) (hl : cs.length = 1) : ∃ (x : Acc) (u : Value), cs = [u] ∧ sltsR.V W u x.slots := by
  match cs, hl with
  | [c], _ =>
    obtain ⟨y0, m, hx, _, h0⟩ := trod_struct1 Tryz.underlying44 ht
    have hz : Tryz.prog.cellsOf 42 = 1 := by kernel_rfl
    have h0' : DataW.trod enc Tryz.prog W 0 sp held m 42 [c] = some y0 := by simpa [Value.cells, hz] using h0
    obtain ⟨xs, hxs⟩ := openSlts h0'
    exact ⟨⟨xs⟩, c, rfl, hxs⟩
theorem openAccs {H : Type} {enc : TypeId × Value → H} {W : World} {sp : Nat → Bool} {held : Bool} {n : Nat} {v : Value} {y : DataW H × List MemPlace}
    (ht : DataW.trod enc Tryz.prog W 0 sp held n 22 [v] = some y) : ∃ xs, accsR.V W v xs := by
  refine openN Tryz.underlying22 (by kernel_rfl) (by omega) (fun n cs y h hl => ?_) ht
  obtain ⟨x, u, rfl, hx⟩ := openAcc h hl
  exact ⟨x, .agg #[u], rfl, u, rfl, hx⟩
set_option maxRecDepth 20000 in
theorem openAccsT {H : Type} {enc : TypeId × Value → H} {W : World} {sp : Nat → Bool} {held : Bool} {v : Value} {d : DataW H} {p : List MemPlace} {base : Nat} {r : Reach}
    (hv : Value.okWide Tryz.prog W r base 22 v) (h : DataW.Trod enc Tryz.prog W 0 sp held 22 v d p) : ∃ x, accsR.V W v x := by
  obtain ⟨a, l, c, rfl⟩ := okWide_slice Tryz.underlying22 hv
  obtain ⟨fuel, hf⟩ := h
  exact openAccs (by simpa [Value.cells] using hf)
end Go.Proofs.YtolihmobkoiplaaGreat

/-
  A contract handed in.
-/
namespace Go.Proofs.YtolihmobkoiplaaGreat
open Go.ChangeShapes Go.WideShapes Go.ChangeAt Go.RowKit Go.Joins
set_option linter.unusedSectionVars false
variable [DecidableEq Leg] [Inhabited Leg] [DecidableEq Cont] [Inhabited Cont]

theorem cellsInt' : Tryz.prog.cellsOf 2 = 1 := by kernel_rfl
theorem cellsLeg' : Tryz.prog.cellsOf 83 = 4 := by kernel_rfl
theorem openLeg' {H : Type} {enc : TypeId × Value → H} {W : World} {sp : Nat → Bool} {held : Bool} {n : Nat} {cs : List Value} {y : DataW H × List MemPlace}
    (ht : DataW.trod enc Tryz.prog W 0 sp held n 83 cs = some y) (hl : cs.length = 4) : ∃ x : Leg, cs = legC x := by
  obtain ⟨y0, y1, y2, y3, m, hy, hlen, h0, h1, h2, h3⟩ := trod_struct4 Tryz.underlying83 ht
  simp only [cellsInt'] at h0 h1 h2 h3
  match cs, hl with
  | [c0, c1, c2, c3], _ =>
    obtain ⟨x0, e0, _⟩ := DataW.trod_int Tryz.underlying2 h0
    obtain ⟨x1, e1, _⟩ := DataW.trod_int Tryz.underlying2 h1
    obtain ⟨x2, e2, _⟩ := DataW.trod_int Tryz.underlying2 h2
    obtain ⟨x3, e3, _⟩ := DataW.trod_int Tryz.underlying2 h3
    simp at e0 e1 e2 e3
    subst e0 e1 e2 e3
    exact ⟨⟨x0, x1, x2, x3⟩, rfl⟩
theorem openLegs' {H : Type} {enc : TypeId × Value → H} {W : World} {sp : Nat → Bool} {held : Bool} {n : Nat} {v : Value} {y : DataW H × List MemPlace}
    (ht : DataW.trod enc Tryz.prog W 0 sp held n 23 [v] = some y) : ∃ xs : List Leg, legsR.V W v xs := by
  obtain ⟨a, cap, xs, cs, rfl, h1, h2, h3⟩ := openRow (q := fun cs x => cs = legC x) Tryz.underlying23 cellsLeg' (by omega) (fun n cs y h hl => openLeg' h hl) ht
  refine ⟨xs, a, cap, rfl, h1, h2, fun i hi => ?_⟩
  obtain ⟨g1, g3, b, o, g4, g5⟩ := h3 i hi
  rw [g1] at g5
  exact ⟨b, o, g4, g5 0 (by omega), g5 1 (by omega), g5 2 (by omega), g5 3 (by omega)⟩
set_option maxRecDepth 20000 in
theorem openContract' {H : Type} {enc : TypeId × Value → H} {W : World} {sp : Nat → Bool} {held : Bool} {v : Value} {d : DataW H} {p : List MemPlace} {base : Nat} {r : Reach}
    (hv : Value.okWide Tryz.prog W r base 25 v) (h : DataW.Trod enc Tryz.prog W 0 sp held 25 v d p) : ∃ x, contR.V W v x := by
  obtain ⟨c0, c1, y0, y1, m, rfl, _, _, hy0, hy1⟩ := open_agg2 Tryz.underlying25 (by kernel_rfl) (by kernel_rfl) hv h
  obtain ⟨a, e0, _⟩ := DataW.trod_int Tryz.underlying2 hy0
  simp at e0
  subst e0
  obtain ⟨xs, hx⟩ := openLegs' hy1
  exact ⟨⟨a, xs⟩, c1, rfl, hx⟩
end Go.Proofs.YtolihmobkoiplaaGreat

