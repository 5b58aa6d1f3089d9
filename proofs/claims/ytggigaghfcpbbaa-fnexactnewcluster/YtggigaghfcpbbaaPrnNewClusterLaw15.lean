import Derived.Test.YtggigaghfcpbbaaPrnNewClusterLaw14
import Derived.Test.YtggigaghfcpbbaaPrnNewClusterLaw5
import Derived.Deep.Strs
import Derived.Test.YtggigaghfcpbbaaPrnNewClusterLaw7

/-
  A contract handed in.
-/
namespace Go.Proofs.Ytggigaghfcpbbaa
open Go.ChangeShapes Go.WideShapes Go.ChangeAt Go.RowKit Go.Joins
set_option linter.unusedSectionVars false
variable [DecidableEq Leg] [Inhabited Leg] [DecidableEq Cont] [Inhabited Cont]

theorem cellsInt' : Try.prog.cellsOf 2 = 1 := by kernel_rfl
end Go.Proofs.Ytggigaghfcpbbaa

/-
  A ledger and balances handed in.
-/
namespace Go.Proofs.Ytggigaghfcpbbaa
open Go.ChangeShapes Go.WideShapes Go.ChangeAt Go.RowKit Go.Joins
set_option linter.unusedSectionVars false
variable [DecidableEq Bal] [Inhabited Bal] [DecidableEq Ledg] [Inhabited Ledg] [DecidableEq Leg] [Inhabited Leg] [DecidableEq Cont] [Inhabited Cont]

theorem cellsBal : Try.prog.cellsOf 83 = 3 := by kernel_rfl
theorem openBal {H : Type} {enc : TypeId × Value → H} {W : World} {sp : Nat → Bool} {held : Bool} {n : Nat} {cs : List Value} {y : DataW H × List MemPlace}
    (ht : DataW.trod enc Try.prog W 0 sp held n 83 cs = some y) (hl : cs.length = 3) : ∃ x : Bal, cs = balC x := by
  obtain ⟨y0, y1, y2, m, hy, hlen, h0, h1, h2⟩ := Go.Deep.trod_struct3 Try.underlying83 ht
  simp only [cellsInt'] at h0 h1 h2
  match cs, hl with
  | [c0, c1, c2], _ =>
    obtain ⟨x0, e0, _⟩ := DataW.trod_int Try.underlying2 h0
    obtain ⟨x1, e1, _⟩ := DataW.trod_int Try.underlying2 h1
    obtain ⟨x2, e2, _⟩ := DataW.trod_int Try.underlying2 h2
    simp at e0 e1 e2
    subst e0 e1 e2
    exact ⟨⟨x0, x1, x2⟩, rfl⟩
theorem openBals {H : Type} {enc : TypeId × Value → H} {W : World} {sp : Nat → Bool} {held : Bool} {n : Nat} {v : Value} {y : DataW H × List MemPlace}
    (ht : DataW.trod enc Try.prog W 0 sp held n 62 [v] = some y) : ∃ xs : List Bal, balsR.V W v xs := by
  obtain ⟨a, cap, xs, cs, rfl, h1, h2, h3⟩ := openRow (q := fun cs x => cs = balC x) Try.underlying62 cellsBal (by omega) (fun n cs y h hl => openBal h hl) ht
  refine ⟨xs, a, cap, rfl, h1, h2, fun i hi => ?_⟩
  obtain ⟨g1, g3, b, o, g4, g5⟩ := h3 i hi
  rw [g1] at g5
  exact ⟨b, o, g4, g5 0 (by omega), g5 1 (by omega), g5 2 (by omega)⟩
theorem openBalss {H : Type} {enc : TypeId × Value → H} {W : World} {sp : Nat → Bool} {held : Bool} {n : Nat} {v : Value} {y : DataW H × List MemPlace}
    (ht : DataW.trod enc Try.prog W 0 sp held n 22 [v] = some y) : ∃ xs : List (List Bal), balssR.V W v xs := by
  refine openN Try.underlying22 (by kernel_rfl) (by omega) (fun n cs y h hl => ?_) ht
  match cs, hl with
  | [c], _ =>
    obtain ⟨x, hx⟩ := openBals h
    exact ⟨x, c, rfl, hx⟩
set_option maxRecDepth 20000 in
theorem openLedger {H : Type} {enc : TypeId × Value → H} {W : World} {sp : Nat → Bool} {held : Bool} {v : Value} {d : DataW H} {p : List MemPlace} {base : Nat} {r : Reach}
    (hv : Value.okWide Try.prog W r base 24 v) (h : DataW.Trod enc Try.prog W 0 sp held 24 v d p) : ∃ x, ledgR.V W v x := by
  obtain ⟨cs, rfl, hsz⟩ := okWide_struct Try.underlying24 hv
  have hC : Try.prog.cellsOf 24 = 1 := by kernel_rfl
  obtain ⟨l⟩ := cs
  match l, hsz.trans hC with
  | [c], _ =>
    obtain ⟨fuel, hf⟩ := h
    obtain ⟨y0, m, hx, _, h0⟩ := trod_struct1 Try.underlying24 hf
    have hz : Try.prog.cellsOf 22 = 1 := by kernel_rfl
    have h0' : DataW.trod enc Try.prog W 0 sp held m 22 [c] = some y0 := by simpa [Value.cells, hz] using h0
    obtain ⟨xs, hxs⟩ := openBalss h0'
    exact ⟨⟨xs⟩, c, rfl, hxs⟩
end Go.Proofs.Ytggigaghfcpbbaa

