import Derived.Test.YtndghenlapbaaaaGreatPrnDecideShardLaw1
import Derived.Deep.Slices
import Derived.Lib.SmallJoins
import Derived.Test.YtndghenlapbaaaaGreatPrnDecideShardLaw10
import Derived.Deep.Strs
import Derived.Test.YtndghenlapbaaaaGreatPrnDecideShardLaw3
set_option linter.unusedSectionVars false

/-
 Cells that are kept, still more.
-/
namespace Go.Proofs.YtndghenlapbaaaaGreat
open Go.RowKit
theorem keepN28 {w w' : World} {a0 : Addr} {x0 : Value} {a1 : Addr} {x1 : Value} {a2 : Addr} {x2 : Value} {a3 : Addr} {x3 : Value} {a4 : Addr} {x4 : Value} {a5 : Addr} {x5 : Value} {a6 : Addr} {x6 : Value} {a7 : Addr} {x7 : Value} {a8 : Addr} {x8 : Value} {a9 : Addr} {x9 : Value} {a10 : Addr} {x10 : Value} {a11 : Addr} {x11 : Value} {a12 : Addr} {x12 : Value} {a13 : Addr} {x13 : Value} {a14 : Addr} {x14 : Value} {a15 : Addr} {x15 : Value} {a16 : Addr} {x16 : Value} {a17 : Addr} {x17 : Value} {a18 : Addr} {x18 : Value} {a19 : Addr} {x19 : Value} {a20 : Addr} {x20 : Value} {a21 : Addr} {x21 : Value} {a22 : Addr} {x22 : Value} {a23 : Addr} {x23 : Value} {a24 : Addr} {x24 : Value} {a25 : Addr} {x25 : Value} {a26 : Addr} {x26 : Value} {a27 : Addr} {x27 : Value} (hb : Below w.heap.size w w') (g0 : w.cell? a0 = some x0) (g1 : w.cell? a1 = some x1) (g2 : w.cell? a2 = some x2) (g3 : w.cell? a3 = some x3) (g4 : w.cell? a4 = some x4) (g5 : w.cell? a5 = some x5) (g6 : w.cell? a6 = some x6) (g7 : w.cell? a7 = some x7) (g8 : w.cell? a8 = some x8) (g9 : w.cell? a9 = some x9) (g10 : w.cell? a10 = some x10) (g11 : w.cell? a11 = some x11) (g12 : w.cell? a12 = some x12) (g13 : w.cell? a13 = some x13) (g14 : w.cell? a14 = some x14) (g15 : w.cell? a15 = some x15) (g16 : w.cell? a16 = some x16) (g17 : w.cell? a17 = some x17) (g18 : w.cell? a18 = some x18) (g19 : w.cell? a19 = some x19) (g20 : w.cell? a20 = some x20) (g21 : w.cell? a21 = some x21) (g22 : w.cell? a22 = some x22) (g23 : w.cell? a23 = some x23) (g24 : w.cell? a24 = some x24) (g25 : w.cell? a25 = some x25) (g26 : w.cell? a26 = some x26) (g27 : w.cell? a27 = some x27) : Below w.heap.size w w' ∧ w'.cell? a0 = some x0 ∧ w'.cell? a1 = some x1 ∧ w'.cell? a2 = some x2 ∧ w'.cell? a3 = some x3 ∧ w'.cell? a4 = some x4 ∧ w'.cell? a5 = some x5 ∧ w'.cell? a6 = some x6 ∧ w'.cell? a7 = some x7 ∧ w'.cell? a8 = some x8 ∧ w'.cell? a9 = some x9 ∧ w'.cell? a10 = some x10 ∧ w'.cell? a11 = some x11 ∧ w'.cell? a12 = some x12 ∧ w'.cell? a13 = some x13 ∧ w'.cell? a14 = some x14 ∧ w'.cell? a15 = some x15 ∧ w'.cell? a16 = some x16 ∧ w'.cell? a17 = some x17 ∧ w'.cell? a18 = some x18 ∧ w'.cell? a19 = some x19 ∧ w'.cell? a20 = some x20 ∧ w'.cell? a21 = some x21 ∧ w'.cell? a22 = some x22 ∧ w'.cell? a23 = some x23 ∧ w'.cell? a24 = some x24 ∧ w'.cell? a25 = some x25 ∧ w'.cell? a26 = some x26 ∧ w'.cell? a27 = some x27 :=
 ⟨hb, cK hb g0, cK hb g1, cK hb g2, cK hb g3, cK hb g4, cK hb g5, cK hb g6, cK hb g7, cK hb g8, cK hb g9, cK hb g10, cK hb g11, cK hb g12, cK hb g13, cK hb g14, cK hb g15, cK hb g16, cK hb g17, cK hb g18, cK hb g19, cK hb g20, cK hb g21, cK hb g22, cK hb g23, cK hb g24, cK hb g25, cK hb g26, cK hb g27⟩
end Go.Proofs.YtndghenlapbaaaaGreat

/-
 What is handed in, read as data, is data in memory: rows and structs of rows.
-/
namespace Go.Proofs.YtndghenlapbaaaaGreat
open Go.ChangeShapes Go.WideShapes Go.ChangeAt Go.RowKit Go.Joins

theorem spot_none {W : World} {base k : Nat} {a : Addr} {cs : List Value} (hk : 0 < k) (hc : W.cells? base a k = some cs) : a.spot = none := by
 obtain ⟨hb, hl, hcell⟩ := World.cells?_some hc
 have q0 := hcell 0 hk
 obtain ⟨b, o, s⟩ := a
 cases s with
 | none => rfl
 | some s =>
  have : 0 < cs.length := by omega
  simp [Addr.add, World.cell?, this] at q0
  split at q0 <;> simp at q0
theorem add_plain (b o i : Nat) : (Addr.mk b o none).add i = ⟨b, o + i, none⟩ := by
 by_cases h : i = 0
 ·
  subst h; simp [Addr.add]
 ·
  simp [Addr.add, h]
theorem openRow {H : Type} {enc : TypeId × Value → H} {W : World} {sp : Nat → Bool} {held : Bool} {n : Nat} {v : Value} {y : DataW H × List MemPlace} {t e size : Nat} {α : Type} [Inhabited α] {q : List Value → α → Prop}
  (ht : Tryz.prog.underlying t = some (.slice e)) (hz : Tryz.prog.cellsOf e = size) (hs : 0 < size)
  (hq : ∀ n cs y, DataW.trod enc Tryz.prog W 0 sp held n e cs = some y → cs.length = size → ∃ x, q cs x) (h : DataW.trod enc Tryz.prog W 0 sp held n t [v] = some y) :
  ∃ (a : Option Addr) (cap : Nat) (xs : List α) (cs : Nat → List Value), v = .slice a xs.length cap ∧ xs.length ≤ cap ∧ cap ≤ maxLen ∧ ∀ i, i < xs.length → q (cs i) (xs.getD i default) ∧ (cs i).length = size ∧ ∃ b o, a = some ⟨b, o, none⟩ ∧ ∀ j, j < size → W.cell? ⟨b, o + i * size + j, none⟩ = (cs i)[j]? := by
 rcases Go.Deep.open_slice ht h with ⟨hcs, _⟩ | ⟨a, len, cap, m, n', D, Pl, hcs, hb, hl, hm, hmm, _, hc⟩
 ·
  simp at hcs
  subst hcs
  exact ⟨none, 0, [], fun _ => [], rfl, by simp, by unfold maxLen; omega, fun i hi => by simp at hi⟩
 ·
  simp at hcs
  subst hcs
  have hlm : len ≤ m := by rw [hmm]; split <;> omega
  rw [hz] at hc
  have h1 : ∀ i, i < len → ∃ z : List Value × α, q z.1 z.2 ∧ z.1.length = size ∧ ∃ b o, a = ⟨b, o, none⟩ ∧ ∀ j, j < size → W.cell? ⟨b, o + i * size + j, none⟩ = z.1[j]? := by
   intro i hi
   obtain ⟨cs', h1, h2⟩ := hc i (by omega)
   obtain ⟨_, hl', hcell⟩ := World.cells?_some h1
   obtain ⟨x, hx⟩ := hq _ _ _ h2 hl'
   obtain ⟨cs0, k1, _⟩ := hc 0 (by omega)
   have hsp := spot_none hs k1
   obtain ⟨b, o, s⟩ := a
   have hs0 : s = none := by simpa [Addr.add] using hsp
   subst hs0
   refine ⟨(cs', x), hx, hl', b, o, rfl, fun j hj => ?_⟩
   have := hcell j hj
   rw [add_plain, add_plain] at this
   exact this
  obtain ⟨f, hf⟩ := Go.Deep.choose_lt h1
  refine ⟨some a, cap, (List.range len).map (fun i => (f i).2), fun i => (f i).1, by simp, by simpa using hl, hm, fun i hi => ?_⟩
  simp at hi
  obtain ⟨g1, g2, b, o, rfl, g3⟩ := hf i hi
  have e : (List.map (fun i => (f i).2) (List.range len)).getD i default = (f i).2 := by simp [List.getD, hi]
  rw [e]
  exact ⟨g1, g2, b, o, rfl, g3⟩
theorem openN {H : Type} {enc : TypeId × Value → H} {W : World} {sp : Nat → Bool} {held : Bool} {n : Nat} {v : Value} {y : DataW H × List MemPlace} {t e size : Nat} {α : Type} [Inhabited α] {R : Rep α} {te : Nat} {lv : Value → List Value}
  (ht : Tryz.prog.underlying t = some (.slice e)) (hz : Tryz.prog.cellsOf e = size) (hs : 0 < size)
  (hq : ∀ n cs y, DataW.trod enc Tryz.prog W 0 sp held n e cs = some y → cs.length = size → ∃ x u, lv u = cs ∧ R.V W u x) (h : DataW.trod enc Tryz.prog W 0 sp held n t [v] = some y) :
  ∃ xs : List α, (nRep R te size lv).V W v xs := by
 obtain ⟨a, cap, xs, cs, rfl, h1, h2, h3⟩ := openRow (q := fun cs x => ∃ u, lv u = cs ∧ R.V W u x) ht hz hs hq h
 refine ⟨xs, a, cap, rfl, h1, h2, fun i hi => ?_⟩
 obtain ⟨⟨u, g1, g2⟩, g3, b, o, g4, g5⟩ := h3 i hi
 exact ⟨b, o, u, g4, by rw [g1]; exact g3, fun j hj => by rw [g1]; exact g5 j hj, g2⟩
end Go.Proofs.YtndghenlapbaaaaGreat

/-
 A contract handed in.
-/
namespace Go.Proofs.YtndghenlapbaaaaGreat
open Go.ChangeShapes Go.WideShapes Go.ChangeAt Go.RowKit Go.Joins
variable [DecidableEq Leg] [Inhabited Leg] [DecidableEq Cont] [Inhabited Cont]

theorem cellsInt' : Tryz.prog.cellsOf 2 = 1 := by kernel_rfl
theorem cellsLeg' : Tryz.prog.cellsOf 105 = 4 := by kernel_rfl
theorem openLeg' {H : Type} {enc : TypeId × Value → H} {W : World} {sp : Nat → Bool} {held : Bool} {n : Nat} {cs : List Value} {y : DataW H × List MemPlace}
  (ht : DataW.trod enc Tryz.prog W 0 sp held n 105 cs = some y) (hl : cs.length = 4) : ∃ x : Leg, cs = legC x := by
 obtain ⟨y0, y1, y2, y3, m, hy, hlen, h0, h1, h2, h3⟩ := trod_struct4 Tryz.underlying105 ht
 simp only [cellsInt'] at h0 h1 h2 h3
 match cs, hl with
 | [c0, c1, c2, c3], _ =>
  obtain ⟨x0, e0, _⟩ := DataW.trod_int Tryz.underlying2 h0
  obtain ⟨x1, e1, _⟩ := DataW.trod_int Tryz.underlying2 h1
  obtain ⟨x2, e2, _⟩ := DataW.trod_int Tryz.underlying2 h2
  obtain ⟨x3, e3, _⟩ := DataW.trod_int Tryz.underlying2 h3
  simp at e0 e1 e2 e3
  subst e0 e1 e2 e3
  exact ⟨⟨x0, x1, x2, x3⟩, rfl⟩
theorem openLegs' {H : Type} {enc : TypeId × Value → H} {W : World} {sp : Nat → Bool} {held : Bool} {n : Nat} {v : Value} {y : DataW H × List MemPlace}
  (ht : DataW.trod enc Tryz.prog W 0 sp held n 28 [v] = some y) : ∃ xs : List Leg, legsR.V W v xs := by
 obtain ⟨a, cap, xs, cs, rfl, h1, h2, h3⟩ := openRow (q := fun cs x => cs = legC x) Tryz.underlying28 cellsLeg' (by omega) (fun n cs y h hl => openLeg' h hl) ht
 refine ⟨xs, a, cap, rfl, h1, h2, fun i hi => ?_⟩
 obtain ⟨g1, g3, b, o, g4, g5⟩ := h3 i hi
 rw [g1] at g5
 exact ⟨b, o, g4, g5 0 (by omega), g5 1 (by omega), g5 2 (by omega), g5 3 (by omega)⟩
end Go.Proofs.YtndghenlapbaaaaGreat

/-
 A ledger and balances handed in.
-/
namespace Go.Proofs.YtndghenlapbaaaaGreat
open Go.ChangeShapes Go.WideShapes Go.ChangeAt Go.RowKit Go.Joins
variable [DecidableEq Bal] [Inhabited Bal] [DecidableEq Ledg] [Inhabited Ledg] [DecidableEq Leg] [Inhabited Leg] [DecidableEq Cont] [Inhabited Cont]

theorem cellsBal : Tryz.prog.cellsOf 101 = 3 := by kernel_rfl
theorem openBal {H : Type} {enc : TypeId × Value → H} {W : World} {sp : Nat → Bool} {held : Bool} {n : Nat} {cs : List Value} {y : DataW H × List MemPlace}
  (ht : DataW.trod enc Tryz.prog W 0 sp held n 101 cs = some y) (hl : cs.length = 3) : ∃ x : Bal, cs = balC x := by
 obtain ⟨y0, y1, y2, m, hy, hlen, h0, h1, h2⟩ := Go.Deep.trod_struct3 Tryz.underlying101 ht
 simp only [cellsInt'] at h0 h1 h2
 match cs, hl with
 | [c0, c1, c2], _ =>
  obtain ⟨x0, e0, _⟩ := DataW.trod_int Tryz.underlying2 h0
  obtain ⟨x1, e1, _⟩ := DataW.trod_int Tryz.underlying2 h1
  obtain ⟨x2, e2, _⟩ := DataW.trod_int Tryz.underlying2 h2
  simp at e0 e1 e2
  subst e0 e1 e2
  exact ⟨⟨x0, x1, x2⟩, rfl⟩
theorem openBals {H : Type} {enc : TypeId × Value → H} {W : World} {sp : Nat → Bool} {held : Bool} {n : Nat} {v : Value} {y : DataW H × List MemPlace}
  (ht : DataW.trod enc Tryz.prog W 0 sp held n 22 [v] = some y) : ∃ xs : List Bal, balsR.V W v xs := by
 obtain ⟨a, cap, xs, cs, rfl, h1, h2, h3⟩ := openRow (q := fun cs x => cs = balC x) Tryz.underlying22 cellsBal (by omega) (fun n cs y h hl => openBal h hl) ht
 refine ⟨xs, a, cap, rfl, h1, h2, fun i hi => ?_⟩
 obtain ⟨g1, g3, b, o, g4, g5⟩ := h3 i hi
 rw [g1] at g5
 exact ⟨b, o, g4, g5 0 (by omega), g5 1 (by omega), g5 2 (by omega)⟩
end Go.Proofs.YtndghenlapbaaaaGreat

