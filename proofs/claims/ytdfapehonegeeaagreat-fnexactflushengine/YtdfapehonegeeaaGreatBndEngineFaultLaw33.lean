import Derived.Test.YtdfapehonegeeaaGreatBndEngineFaultLaw1
import Derived.Deep.Slices
import Derived.Lib.SmallJoins
import Derived.Test.YtdfapehonegeeaaGreatBndEngineFaultLaw4
import Derived.Test.YtdfapehonegeeaaGreatBndEngineFaultLaw7
import Derived.Deep.Strs

/-
  What is handed in, read as data, is data in memory: rows and structs of rows.
-/
namespace Go.Proofs.YtdfapehonegeeaaGreat
open Go.ChangeShapes Go.WideShapes Go.ChangeAt Go.RowKit Go.Joins

theorem spot_none {W : World} {base k : Nat} {a : Addr} {cs : List Value} (hk : 0 < k) (hc : W.cells? base a k = some cs) : a.spot = none := by
  obtain ⟨hb, hl, hcell⟩ := World.cells?_some hc
  have q0 := hcell 0 hk
  obtain ⟨b, o, s⟩ := a
  cases s with
  | none => rfl
  | some s =>
    have : 0 < cs.length := by omega
    simp [Addr.add, World.cell?, this] at q0
    split at q0 <;> simp at q0

theorem add_plain (b o i : Nat) : (Addr.mk b o none).add i = ⟨b, o + i, none⟩ := by
  by_cases h : i = 0
  · subst h; simp [Addr.add]
  · simp [Addr.add, h]

/-- a row handed in, its elements read each by itself -/
theorem openRow {H : Type} {enc : TypeId × Value → H} {W : World} {sp : Nat → Bool} {held : Bool} {n : Nat} {v : Value} {y : DataW H × List MemPlace} {t e size : Nat} {α : Type} [Inhabited α] {q : List Value → α → Prop}
    (ht : Tryz.prog.underlying t = some (.slice e)) (hz : Tryz.prog.cellsOf e = size) (hs : 0 < size)
    (hq : ∀ n cs y, DataW.trod enc Tryz.prog W 0 sp held n e cs = some y → cs.length = size → ∃ x, q cs x) (h : DataW.trod enc Tryz.prog W 0 sp held n t [v] = some y) :
    ∃ (a : Option Addr) (cap : Nat) (xs : List α) (cs : Nat → List Value), v = .slice a xs.length cap ∧ xs.length ≤ cap ∧ cap ≤ maxLen ∧ ∀ i, i < xs.length → q (cs i) (xs.getD i default) ∧ (cs i).length = size ∧ ∃ b o, a = some ⟨b, o, none⟩ ∧ ∀ j, j < size → W.cell? ⟨b, o + i * size + j, none⟩ = (cs i)[j]? := by
  rcases Go.Deep.open_slice ht h with ⟨hcs, _⟩ | ⟨a, len, cap, m, n', D, Pl, hcs, hb, hl, hm, hmm, _, hc⟩
  · simp at hcs
    subst hcs
    exact ⟨none, 0, [], fun _ => [], rfl, by simp, by unfold maxLen; omega, fun i hi => by simp at hi⟩
  · simp at hcs
    subst hcs
    have hlm : len ≤ m := by rw [hmm]; split <;> omega
    rw [hz] at hc
    have h1 : ∀ i, i < len → ∃ z : List Value × α, q z.1 z.2 ∧ z.1.length = size ∧ ∃ b o, a = ⟨b, o, none⟩ ∧ ∀ j, j < size → W.cell? ⟨b, o + i * size + j, none⟩ = z.1[j]? := by
      intro i hi
      obtain ⟨cs', h1, h2⟩ := hc i (by omega)
      obtain ⟨_, hl', hcell⟩ := World.cells?_some h1
      obtain ⟨x, hx⟩ := hq _ _ _ h2 hl'
      obtain ⟨cs0, k1, _⟩ := hc 0 (by omega)
      have hsp := spot_none hs k1
      obtain ⟨b, o, s⟩ := a
      have hs0 : s = none := by simpa [Addr.add] using hsp
      subst hs0
      refine ⟨(cs', x), hx, hl', b, o, rfl, fun j hj => ?_⟩
      have := hcell j hj
      rw [add_plain, add_plain] at this
      exact this
    obtain ⟨f, hf⟩ := Go.Deep.choose_lt h1
    refine ⟨some a, cap, (List.range len).map (fun i => (f i).2), fun i => (f i).1, by simp, by simpa using hl, hm, fun i hi => ?_⟩
    simp at hi
    obtain ⟨g1, g2, b, o, rfl, g3⟩ := hf i hi
    have e : (List.map (fun i => (f i).2) (List.range len)).getD i default = (f i).2 := by simp [List.getD, hi]
    rw [e]
    exact ⟨g1, g2, b, o, rfl, g3⟩

theorem openN {H : Type} {enc : TypeId × Value → H} {W : World} {sp : Nat → Bool} {held : Bool} {n : Nat} {v : Value} {y : DataW H × List MemPlace} {t e size : Nat} {α : Type} [Inhabited α] {R : Rep α} {te : Nat} {lv : Value → List Value}
    (ht : Tryz.prog.underlying t = some (.slice e)) (hz : Tryz.prog.cellsOf e = size) (hs : 0 < size)
    (hq : ∀ n cs y, DataW.trod enc Tryz.prog W 0 sp held n e cs = some y → cs.length = size → ∃ x u, lv u = cs ∧ R.V W u x) (h : DataW.trod enc Tryz.prog W 0 sp held n t [v] = some y) :
    ∃ xs : List α, (nRep R te size lv).V W v xs := by
  obtain ⟨a, cap, xs, cs, rfl, h1, h2, h3⟩ := openRow (q := fun cs x => ∃ u, lv u = cs ∧ R.V W u x) ht hz hs hq h
  refine ⟨xs, a, cap, rfl, h1, h2, fun i hi => ?_⟩
  obtain ⟨⟨u, g1, g2⟩, g3, b, o, g4, g5⟩ := h3 i hi
  exact ⟨b, o, u, g4, by rw [g1]; exact g3, fun j hj => by rw [g1]; exact g5 j hj, g2⟩

end Go.Proofs.YtdfapehonegeeaaGreat

/-
  Bytes handed in.
-/
namespace Go.Proofs.YtdfapehonegeeaaGreat
open Go.ChangeShapes Go.WideShapes Go.ChangeAt Go.RowKit Go.Joins

theorem cellsByte : Tryz.prog.cellsOf 5 = 1 := by kernel_rfl

theorem openByte {H : Type} {enc : TypeId × Value → H} {W : World} {sp : Nat → Bool} {held : Bool} {n : Nat} {cs : List Value} {y : DataW H × List MemPlace}
    (ht : DataW.trod enc Tryz.prog W 0 sp held n 5 cs = some y) : ∃ x : Byte, cs = [.int .u8 (x.val : Int)] := by
  obtain ⟨x0, e0, _, hw⟩ := DataW.trod_int Tryz.underlying5 ht
  have hb := bounds_u8 hw
  refine ⟨toB x0, ?_⟩
  rw [e0, toB_val]
  congr 2
  omega

theorem openBytes {H : Type} {enc : TypeId × Value → H} {W : World} {sp : Nat → Bool} {held : Bool} {n : Nat} {v : Value} {y : DataW H × List MemPlace}
    (ht : DataW.trod enc Tryz.prog W 0 sp held n 22 [v] = some y) : ∃ xs : List Byte, bytesR.V W v xs := by
  obtain ⟨a, cap, xs, cs, rfl, h1, h2, h3⟩ := openRow (q := fun cs x => cs = [.int .u8 ((x : Byte).val : Int)]) Tryz.underlying22 cellsByte (by omega) (fun n cs y h _ => openByte h) ht
  refine ⟨xs, a, cap, rfl, h1, h2, fun i hi => ?_⟩
  obtain ⟨g1, g3, b, o, g4, g5⟩ := h3 i hi
  rw [g1] at g5
  refine ⟨b, o, g4, ?_⟩
  have h := g5 0 (by omega)
  have e : xs.getD i default = xs.getD i 0 := rfl
  rw [e] at h
  simpa using h

set_option maxRecDepth 20000 in
theorem openBytesT {H : Type} {enc : TypeId × Value → H} {W : World} {sp : Nat → Bool} {held : Bool} {v : Value} {d : DataW H} {p : List MemPlace} {base : Nat} {r : Reach}
    (hv : Value.okWide Tryz.prog W r base 22 v) (h : DataW.Trod enc Tryz.prog W 0 sp held 22 v d p) : ∃ x, bytesR.V W v x := by
  obtain ⟨a, l, c, rfl⟩ := okWide_slice Tryz.underlying22 hv
  obtain ⟨fuel, hf⟩ := h
  exact openBytes (by simpa [Value.cells] using hf)

end Go.Proofs.YtdfapehonegeeaaGreat

/-
  Rows of a table handed in.
-/
namespace Go.Proofs.YtdfapehonegeeaaGreat
open Go.ChangeShapes Go.WideShapes Go.ChangeAt Go.RowKit Go.Joins
set_option linter.unusedSectionVars false
variable [DecidableEq Rw] [Inhabited Rw]

theorem cellsRw : Tryz.prog.cellsOf 128 = 4 := by kernel_rfl
theorem cellsI64 : Tryz.prog.cellsOf 2 = 1 := by kernel_rfl
theorem cellsStr : Tryz.prog.cellsOf 9 = 1 := by kernel_rfl
theorem cellsBool : Tryz.prog.cellsOf 4 = 1 := by kernel_rfl

set_option maxRecDepth 100000 in
theorem openRw {H : Type} {enc : TypeId × Value → H} {W : World} {sp : Nat → Bool} {held : Bool} {n : Nat} {cs : List Value} {y : DataW H × List MemPlace}
    (ht : DataW.trod enc Tryz.prog W 0 sp held n 128 cs = some y) (hl : cs.length = 4) : ∃ x : Rw, cs = rowC x ∧ x.key.size ≤ maxLen ∧ x.val.size ≤ maxLen := by
  obtain ⟨y0, y1, y2, y3, m, hy, hlen, h0, h1, h2, h3⟩ := trod_struct4 Tryz.underlying128 ht
  simp only [cellsI64, cellsStr, cellsBool] at h0 h1 h2 h3
  match cs, hl with
  | [c0, c1, c2, c3], _ =>
    obtain ⟨x0, e0, _, g0⟩ := DataW.trod_string Tryz.underlying9 h0
    obtain ⟨x1, e1, _⟩ := DataW.trod_int Tryz.underlying2 h1
    obtain ⟨x2, e2, _, g2⟩ := DataW.trod_string Tryz.underlying9 h2
    obtain ⟨x3, e3, _⟩ := DataW.trod_bool Tryz.underlying4 h3
    simp at e0 e1 e2 e3
    subst e0 e1 e2 e3
    exact ⟨⟨x0, x1, x2, x3⟩, rfl, g0, g2⟩

set_option maxRecDepth 100000 in
theorem openRows {H : Type} {enc : TypeId × Value → H} {W : World} {sp : Nat → Bool} {held : Bool} {n : Nat} {v : Value} {y : DataW H × List MemPlace}
    (ht : DataW.trod enc Tryz.prog W 0 sp held n 25 [v] = some y) : ∃ xs : List Rw, rowsR.V W v xs := by
  obtain ⟨a, cap, xs, cs, rfl, h1, h2, h3⟩ := openRow (q := fun cs x => cs = rowC x ∧ x.key.size ≤ maxLen ∧ x.val.size ≤ maxLen) Tryz.underlying25 cellsRw (by omega) (fun n cs y h hl => openRw h hl) ht
  refine ⟨xs, ⟨a, cap, rfl, h1, h2, fun i hi => ?_⟩, fun i hi => (h3 i hi).1.2⟩
  obtain ⟨⟨g1, _⟩, g3, b, o, g4, g5⟩ := h3 i hi
  rw [g1] at g5
  exact ⟨b, o, g4, g5 0 (by omega), g5 1 (by omega), g5 2 (by omega), g5 3 (by omega)⟩

set_option maxRecDepth 100000 in
theorem openRowsT {H : Type} {enc : TypeId × Value → H} {W : World} {sp : Nat → Bool} {held : Bool} {v : Value} {d : DataW H} {p : List MemPlace} {base : Nat} {r : Reach}
    (hv : Value.okWide Tryz.prog W r base 25 v) (h : DataW.Trod enc Tryz.prog W 0 sp held 25 v d p) : ∃ xs, rowsR.V W v xs := by
  obtain ⟨a, n, c, rfl⟩ := okWide_slice Tryz.underlying25 hv
  obtain ⟨fuel, hf⟩ := h
  exact openRows (by simpa [Value.cells] using hf)

set_option maxRecDepth 100000 in
theorem openRowss {H : Type} {enc : TypeId × Value → H} {W : World} {sp : Nat → Bool} {held : Bool} {n : Nat} {v : Value} {y : DataW H × List MemPlace} {te : Nat}
    (ht : DataW.trod enc Tryz.prog W 0 sp held n 26 [v] = some y) : ∃ xs : List (List Rw), (nRep rowsR te 1 one).V W v xs := by
  refine openN Tryz.underlying26 (by kernel_rfl) (by omega) (fun n cs y h hl => ?_) ht
  match cs, hl with
  | [c], _ =>
    obtain ⟨x, hx⟩ := openRows h
    exact ⟨x, c, rfl, hx⟩

set_option maxRecDepth 100000 in
theorem openRowssT {H : Type} {enc : TypeId × Value → H} {W : World} {sp : Nat → Bool} {held : Bool} {v : Value} {d : DataW H} {p : List MemPlace} {base : Nat} {r : Reach} {te : Nat}
    (hv : Value.okWide Tryz.prog W r base 26 v) (h : DataW.Trod enc Tryz.prog W 0 sp held 26 v d p) : ∃ xs : List (List Rw), (nRep rowsR te 1 one).V W v xs := by
  obtain ⟨a, n, c, rfl⟩ := okWide_slice Tryz.underlying26 hv
  obtain ⟨fuel, hf⟩ := h
  exact openRowss (by simpa [Value.cells] using hf)

end Go.Proofs.YtdfapehonegeeaaGreat

