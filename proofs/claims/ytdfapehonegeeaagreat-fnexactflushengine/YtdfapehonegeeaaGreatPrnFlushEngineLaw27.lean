import Derived.Test.YtdfapehonegeeaaGreatPrnFlushEngineLaw26
import Derived.Test.YtdfapehonegeeaaGreatPrnFlushEngineLaw4
import Derived.Test.YtdfapehonegeeaaGreatPrnFlushEngineLaw1
import Derived.Deep.Slices
import Derived.Lib.SmallJoins
import Derived.Test.YtdfapehonegeeaaGreatPrnFlushEngineLaw3

/-
  How great engines can be.
-/
namespace Go.Proofs.YtdfapehonegeeaaGreat
open Go.RowKit
set_option linter.unusedSectionVars false
variable [DecidableEq Wri] [Inhabited Wri] [DecidableEq BytesR] [Inhabited BytesR] [DecidableEq Rw] [Inhabited Rw] [DecidableEq TabR] [Inhabited TabR] [DecidableEq Logg] [Inhabited Logg] [DecidableEq Engn] [Inhabited Engn] [DecidableEq LoggR] [Inhabited LoggR] [DecidableEq RecsR] [Inhabited RecsR] [DecidableEq Leg] [Inhabited Leg] [DecidableEq EngR] [Inhabited EngR]
set_option linter.unusedVariables false
set_option linter.unusedSimpArgs false

theorem cntTo_max {α : Type} [Inhabited α] {f : α → Nat} {M : Nat} : ∀ (k : Nat) (xs : List α), (∀ i, i < xs.length → f (xs.getD i default) ≤ M) → cntTo f k xs ≤ k * M
  | 0, _, _ => by simp [cntTo]
  | k + 1, [], _ => by simp [cntTo]
  | k + 1, x :: xs, h => by
    have h0 := h 0 (by simp)
    have ih := cntTo_max k xs (fun i hi => by have := h (i + 1) (by simpa using hi); simpa [List.getD] using this)
    simp only [List.getD, List.getElem?_cons_zero, Option.getD_some] at h0
    show f x + cntTo f k xs ≤ _
    rw [Nat.succ_mul]
    omega
theorem wt_tab {xs : List Rw} (h : tabF xs = 0) : wtRows xs ≤ 24200 := by
  have h1 := wt_small (tab_small h)
  have h2 := (tabF_all h).1
  omega
theorem wt_tabs {xss : List (List Rw)} {n : Nat} (hn : xss.length ≤ n) (h : ∀ i, i < xss.length → tabF (xss.getD i default) = 0) : wtRowss xss ≤ n * 24201 := by
  have h1 := cntTo_max (f := wtRows) (M := 24200) xss.length xss (fun i hi => wt_tab (h i hi))
  unfold wtRowss wtL
  have h2 : xss.length * 24200 ≤ n * 24200 := Nat.mul_le_mul_right _ hn
  omega
theorem codeE_le (c : Int) : wtEngR (codeE c) = 0 := rfl
theorem flushD_le (d : Engn) : wtEngR (flushD d) ≤ 200000 := by
  unfold flushD
  split
  · rw [codeE_le]; omega
  · rename_i h
    split
    · rw [codeE_le]; omega
    · split
      · rw [codeE_le]; omega
      · obtain ⟨h1, h2, h3, h4⟩ := partsF_inv (engF_inv (by simpa using h)).1
        have h5 := wt_tabs (xss := d.mem :: d.tables) (n := 7) (by simp; omega) (fun i hi => by
          cases i with
          | zero => simpa using h2
          | succ i => simpa [List.getD] using h4 i (by simpa using hi))
        show wtLogg ⟨[], []⟩ + wtRows [] + wtRowss (d.mem :: d.tables) ≤ 200000
        have h6 : wtLogg ⟨[], []⟩ = 0 := rfl
        have h7 : wtRows [] = 0 := rfl
        omega
end Go.Proofs.YtdfapehonegeeaaGreat

/-
  Cells that are kept: many. (Written by program.)
-/
namespace Go.Proofs.YtdfapehonegeeaaGreat
open Go.RowKit
theorem keepN24 {w w' : World} {a0 : Addr} {x0 : Value} {a1 : Addr} {x1 : Value} {a2 : Addr} {x2 : Value} {a3 : Addr} {x3 : Value} {a4 : Addr} {x4 : Value} {a5 : Addr} {x5 : Value} {a6 : Addr} {x6 : Value} {a7 : Addr} {x7 : Value} {a8 : Addr} {x8 : Value} {a9 : Addr} {x9 : Value} {a10 : Addr} {x10 : Value} {a11 : Addr} {x11 : Value} {a12 : Addr} {x12 : Value} {a13 : Addr} {x13 : Value} {a14 : Addr} {x14 : Value} {a15 : Addr} {x15 : Value} {a16 : Addr} {x16 : Value} {a17 : Addr} {x17 : Value} {a18 : Addr} {x18 : Value} {a19 : Addr} {x19 : Value} {a20 : Addr} {x20 : Value} {a21 : Addr} {x21 : Value} {a22 : Addr} {x22 : Value} {a23 : Addr} {x23 : Value} (hb : Below w.heap.size w w') (g0 : w.cell? a0 = some x0) (g1 : w.cell? a1 = some x1) (g2 : w.cell? a2 = some x2) (g3 : w.cell? a3 = some x3) (g4 : w.cell? a4 = some x4) (g5 : w.cell? a5 = some x5) (g6 : w.cell? a6 = some x6) (g7 : w.cell? a7 = some x7) (g8 : w.cell? a8 = some x8) (g9 : w.cell? a9 = some x9) (g10 : w.cell? a10 = some x10) (g11 : w.cell? a11 = some x11) (g12 : w.cell? a12 = some x12) (g13 : w.cell? a13 = some x13) (g14 : w.cell? a14 = some x14) (g15 : w.cell? a15 = some x15) (g16 : w.cell? a16 = some x16) (g17 : w.cell? a17 = some x17) (g18 : w.cell? a18 = some x18) (g19 : w.cell? a19 = some x19) (g20 : w.cell? a20 = some x20) (g21 : w.cell? a21 = some x21) (g22 : w.cell? a22 = some x22) (g23 : w.cell? a23 = some x23) : Below w.heap.size w w' ∧ w'.cell? a0 = some x0 ∧ w'.cell? a1 = some x1 ∧ w'.cell? a2 = some x2 ∧ w'.cell? a3 = some x3 ∧ w'.cell? a4 = some x4 ∧ w'.cell? a5 = some x5 ∧ w'.cell? a6 = some x6 ∧ w'.cell? a7 = some x7 ∧ w'.cell? a8 = some x8 ∧ w'.cell? a9 = some x9 ∧ w'.cell? a10 = some x10 ∧ w'.cell? a11 = some x11 ∧ w'.cell? a12 = some x12 ∧ w'.cell? a13 = some x13 ∧ w'.cell? a14 = some x14 ∧ w'.cell? a15 = some x15 ∧ w'.cell? a16 = some x16 ∧ w'.cell? a17 = some x17 ∧ w'.cell? a18 = some x18 ∧ w'.cell? a19 = some x19 ∧ w'.cell? a20 = some x20 ∧ w'.cell? a21 = some x21 ∧ w'.cell? a22 = some x22 ∧ w'.cell? a23 = some x23 :=
  ⟨hb, cell_keep hb g0, cell_keep hb g1, cell_keep hb g2, cell_keep hb g3, cell_keep hb g4, cell_keep hb g5, cell_keep hb g6, cell_keep hb g7, cell_keep hb g8, cell_keep hb g9, cell_keep hb g10, cell_keep hb g11, cell_keep hb g12, cell_keep hb g13, cell_keep hb g14, cell_keep hb g15, cell_keep hb g16, cell_keep hb g17, cell_keep hb g18, cell_keep hb g19, cell_keep hb g20, cell_keep hb g21, cell_keep hb g22, cell_keep hb g23⟩
end Go.Proofs.YtdfapehonegeeaaGreat

/-
  What is handed in, read as data, is data in memory: rows and structs of rows.
-/
namespace Go.Proofs.YtdfapehonegeeaaGreat
open Go.ChangeShapes Go.WideShapes Go.ChangeAt Go.RowKit Go.Joins

theorem spot_none {W : World} {base k : Nat} {a : Addr} {cs : List Value} (hk : 0 < k) (hc : W.cells? base a k = some cs) : a.spot = none := by
  obtain ⟨hb, hl, hcell⟩ := World.cells?_some hc
  have q0 := hcell 0 hk
  obtain ⟨b, o, s⟩ := a
  cases s with
  | none => rfl
  | some s =>
    have : 0 < cs.length := by omega
    simp [Addr.add, World.cell?, this] at q0
    split at q0 <;> simp at q0
theorem add_plain (b o i : Nat) : (Addr.mk b o none).add i = ⟨b, o + i, none⟩ := by
  by_cases h : i = 0
  · subst h; simp [Addr.add]
  · simp [Addr.add, h]
theorem openRow {H : Type} {enc : TypeId × Value → H} {W : World} {sp : Nat → Bool} {held : Bool} {n : Nat} {v : Value} {y : DataW H × List MemPlace} {t e size : Nat} {α : Type} [Inhabited α] {q : List Value → α → Prop}
    (ht : Tryz.prog.underlying t = some (.slice e)) (hz : Tryz.prog.cellsOf e = size) (hs : 0 < size)
    (hq : ∀ n cs y, DataW.trod enc Tryz.prog W 0 sp held n e cs = some y → cs.length = size → ∃ x, q cs x) (h : DataW.trod enc Tryz.prog W 0 sp held n t [v] = some y) :
    ∃ (a : Option Addr) (cap : Nat) (xs : List α) (cs : Nat → List Value), v = .slice a xs.length cap ∧ xs.length ≤ cap ∧ cap ≤ maxLen ∧ ∀ i, i < xs.length → q (cs i) (xs.getD i default) ∧ (cs i).length = size ∧ ∃ b o, a = some ⟨b, o, none⟩ ∧ ∀ j, j < size → W.cell? ⟨b, o + i * size + j, none⟩ = (cs i)[j]? := by
  rcases Go.Deep.open_slice ht h with ⟨hcs, _⟩ | ⟨a, len, cap, m, n', D, Pl, hcs, hb, hl, hm, hmm, _, hc⟩
  · simp at hcs
    subst hcs
    exact ⟨none, 0, [], fun _ => [], rfl, by simp, by unfold maxLen; omega, fun i hi => by simp at hi⟩
  · simp at hcs
    subst hcs
    have hlm : len ≤ m := by rw [hmm]; split <;> omega
    rw [hz] at hc
    have h1 : ∀ i, i < len → ∃ z : List Value × α, q z.1 z.2 ∧ z.1.length = size ∧ ∃ b o, a = ⟨b, o, none⟩ ∧ ∀ j, j < size → W.cell? ⟨b, o + i * size + j, none⟩ = z.1[j]? := by
      intro i hi
      obtain ⟨cs', h1, h2⟩ := hc i (by omega)
      obtain ⟨_, hl', hcell⟩ := World.cells?_some h1
      obtain ⟨x, hx⟩ := hq _ _ _ h2 hl'
      obtain ⟨cs0, k1, _⟩ := hc 0 (by omega)
      have hsp := spot_none hs k1
      obtain ⟨b, o, s⟩ := a
      have hs0 : s = none := by simpa [Addr.add] using hsp
      subst hs0
      refine ⟨(cs', x), hx, hl', b, o, rfl, fun j hj => ?_⟩
      have := hcell j hj
      rw [add_plain, add_plain] at this
      exact this
    obtain ⟨f, hf⟩ := Go.Deep.choose_lt h1
    refine ⟨some a, cap, (List.range len).map (fun i => (f i).2), fun i => (f i).1, by simp, by simpa using hl, hm, fun i hi => ?_⟩
    simp at hi
    obtain ⟨g1, g2, b, o, rfl, g3⟩ := hf i hi
    have e : (List.map (fun i => (f i).2) (List.range len)).getD i default = (f i).2 := by simp [List.getD, hi]
    rw [e]
    exact ⟨g1, g2, b, o, rfl, g3⟩
theorem openN {H : Type} {enc : TypeId × Value → H} {W : World} {sp : Nat → Bool} {held : Bool} {n : Nat} {v : Value} {y : DataW H × List MemPlace} {t e size : Nat} {α : Type} [Inhabited α] {R : Rep α} {te : Nat} {lv : Value → List Value}
    (ht : Tryz.prog.underlying t = some (.slice e)) (hz : Tryz.prog.cellsOf e = size) (hs : 0 < size)
    (hq : ∀ n cs y, DataW.trod enc Tryz.prog W 0 sp held n e cs = some y → cs.length = size → ∃ x u, lv u = cs ∧ R.V W u x) (h : DataW.trod enc Tryz.prog W 0 sp held n t [v] = some y) :
    ∃ xs : List α, (nRep R te size lv).V W v xs := by
  obtain ⟨a, cap, xs, cs, rfl, h1, h2, h3⟩ := openRow (q := fun cs x => ∃ u, lv u = cs ∧ R.V W u x) ht hz hs hq h
  refine ⟨xs, a, cap, rfl, h1, h2, fun i hi => ?_⟩
  obtain ⟨⟨u, g1, g2⟩, g3, b, o, g4, g5⟩ := h3 i hi
  exact ⟨b, o, u, g4, by rw [g1]; exact g3, fun j hj => by rw [g1]; exact g5 j hj, g2⟩
end Go.Proofs.YtdfapehonegeeaaGreat

/-
  Bytes handed in.
-/
namespace Go.Proofs.YtdfapehonegeeaaGreat
open Go.ChangeShapes Go.WideShapes Go.ChangeAt Go.RowKit Go.Joins

theorem cellsByte : Tryz.prog.cellsOf 5 = 1 := by kernel_rfl
theorem openByte {H : Type} {enc : TypeId × Value → H} {W : World} {sp : Nat → Bool} {held : Bool} {n : Nat} {cs : List Value} {y : DataW H × List MemPlace}
    (ht : DataW.trod enc Tryz.prog W 0 sp held n 5 cs = some y) : ∃ x : Byte, cs = [.int .u8 (x.val : Int)] := by
  obtain ⟨x0, e0, _, hw⟩ := DataW.trod_int Tryz.underlying5 ht
  have hb := bounds_u8 hw
  refine ⟨toB x0, ?_⟩
  rw [e0, toB_val]
  congr 2
  omega
theorem openBytes {H : Type} {enc : TypeId × Value → H} {W : World} {sp : Nat → Bool} {held : Bool} {n : Nat} {v : Value} {y : DataW H × List MemPlace}
    (ht : DataW.trod enc Tryz.prog W 0 sp held n 22 [v] = some y) : ∃ xs : List Byte, bytesR.V W v xs := by
  obtain ⟨a, cap, xs, cs, rfl, h1, h2, h3⟩ := openRow (q := fun cs x => cs = [.int .u8 ((x : Byte).val : Int)]) Tryz.underlying22 cellsByte (by omega) (fun n cs y h _ => openByte h) ht
  refine ⟨xs, a, cap, rfl, h1, h2, fun i hi => ?_⟩
  obtain ⟨g1, g3, b, o, g4, g5⟩ := h3 i hi
  rw [g1] at g5
  refine ⟨b, o, g4, ?_⟩
  have h := g5 0 (by omega)
  have e : xs.getD i default = xs.getD i 0 := rfl
  rw [e] at h
  simpa using h
end Go.Proofs.YtdfapehonegeeaaGreat

