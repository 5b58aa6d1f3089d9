import Derived.Test.YtjemciikdijokaaPrnOpenSessionLaw16
import Derived.Test.YtjemciikdijokaaPrnOpenSessionLaw3
import Derived.Carry

/-
  Sessions handed in.
-/
namespace Go.Proofs.Ytjemciikdijokaa
open Go.ChangeShapes Go.WideShapes Go.ChangeAt Go.RowKit Go.Joins
set_option linter.unusedSectionVars false
variable [DecidableEq Leg] [Inhabited Leg] [DecidableEq Ses] [Inhabited Ses]

theorem trod_struct3Z {H : Type} {enc : TypeId × Value → H} {P : Program} {w : World} {base : Nat} {spare : Nat → Bool} {held : Bool} {t : TypeId} {f0 f1 f2 : Field} {fuel : Nat} {cs : List Value} {x : DataW H × List MemPlace} (ht : P.underlying t = some (.struct #[f0, f1, f2])) (h : DataW.trod enc P w base spare held fuel t cs = some x) :
    ∃ y0 y1 y2 n, cs.length = P.cellsOf t ∧ DataW.trod enc P w base spare held n f0.type ((cs.drop f0.offset).take (P.cellsOf f0.type)) = some y0 ∧
      DataW.trod enc P w base spare held n f1.type ((cs.drop f1.offset).take (P.cellsOf f1.type)) = some y1 ∧ DataW.trod enc P w base spare held n f2.type ((cs.drop f2.offset).take (P.cellsOf f2.type)) = some y2 := by
  obtain ⟨xs, n, _, rfl, hl, hlen, hf⟩ := DataW.trod_struct ht h
  match xs, hlen with
  | [y0, y1, y2], _ => exact ⟨y0, y1, y2, n, hl, by simpa using hf 0 f0 rfl, by simpa using hf 1 f1 rfl, by simpa using hf 2 f2 rfl⟩
theorem openSes {H : Type} {enc : TypeId × Value → H} {W : World} {sp : Nat → Bool} {held : Bool} {n : Nat} {cs : List Value} {y : DataW H × List MemPlace}
    (ht : DataW.trod enc Try.prog W 0 sp held n 51 cs = some y) (hl : cs.length = 3) : ∃ (x : Ses) (u : Value), cs = [.int .i64 x.client, .int .i64 x.next, u] ∧ intsR.V W u x.sent := by
  obtain ⟨y0, y1, y2, m, hlen, h0, h1, h2⟩ := trod_struct3Z Try.underlying51 ht
  have hz : Try.prog.cellsOf 49 = 1 := by kernel_rfl
  simp only [cellsNu, hz] at h0 h1 h2
  match cs, hl with
  | [c0, c1, c2], _ =>
    obtain ⟨x0, e0, _⟩ := DataW.trod_int Try.underlying2 h0
    obtain ⟨x1, e1, _⟩ := DataW.trod_int Try.underlying2 h1
    simp at e0 e1
    subst e0 e1
    obtain ⟨xs, hxs⟩ := openNus (by simpa using h2)
    exact ⟨⟨x0, x1, xs⟩, c2, rfl, hxs⟩
theorem openSess {H : Type} {enc : TypeId × Value → H} {W : World} {sp : Nat → Bool} {held : Bool} {n : Nat} {v : Value} {y : DataW H × List MemPlace}
    (ht : DataW.trod enc Try.prog W 0 sp held n 22 [v] = some y) : ∃ xs, sessR.V W v xs := by
  refine openN Try.underlying22 (by kernel_rfl) (by omega) (fun n cs y h hl => ?_) ht
  obtain ⟨x, u, rfl, hx⟩ := openSes h hl
  exact ⟨x, .agg #[.int .i64 x.client, .int .i64 x.next, u], rfl, u, rfl, hx⟩
set_option maxRecDepth 20000 in
theorem openSessT {H : Type} {enc : TypeId × Value → H} {W : World} {sp : Nat → Bool} {held : Bool} {v : Value} {d : DataW H} {p : List MemPlace} {base : Nat} {r : Reach}
    (hv : Value.okWide Try.prog W r base 22 v) (h : DataW.Trod enc Try.prog W 0 sp held 22 v d p) : ∃ x, sessR.V W v x := by
  obtain ⟨a, l, c, rfl⟩ := okWide_slice Try.underlying22 hv
  obtain ⟨fuel, hf⟩ := h
  exact openSess (by simpa [Value.cells] using hf)
end Go.Proofs.Ytjemciikdijokaa

