import Derived.Test.YtncmdeijimgchaaPrnPromiseAtLaw16
import Derived.Test.YtncmdeijimgchaaPrnPromiseAtLaw5
import Derived.Test.YtncmdeijimgchaaPrnPromiseAtLaw1
import Derived.Deep.RegionHeld3
import Derived.Deep.DrawnRows
import Derived.Carry

/-
  Acceptors handed in.
-/
namespace Go.Proofs.Ytncmdeijimgchaa
open Go.ChangeShapes Go.WideShapes Go.ChangeAt Go.RowKit Go.Joins
set_option linter.unusedSectionVars false
variable [DecidableEq Vot] [Inhabited Vot] [DecidableEq Slt] [Inhabited Slt] [DecidableEq Acc] [Inhabited Acc]

theorem openAcc {H : Type} {enc : TypeId × Value → H} {W : World} {sp : Nat → Bool} {held : Bool} {n : Nat} {cs : List Value} {y : DataW H × List MemPlace}
    (ht : DataW.trod enc Try.prog W 0 sp held n 51 cs = some y) (hl : cs.length = 1) : ∃ (x : Acc) (u : Value), cs = [u] ∧ sltsR.V W u x.slots := by
  match cs, hl with
  | [c], _ =>
    obtain ⟨y0, m, hx, _, h0⟩ := trod_struct1 Try.underlying51 ht
    have hz : Try.prog.cellsOf 49 = 1 := by kernel_rfl
    have h0' : DataW.trod enc Try.prog W 0 sp held m 49 [c] = some y0 := by simpa [Value.cells, hz] using h0
    obtain ⟨xs, hxs⟩ := openSlts h0'
    exact ⟨⟨xs⟩, c, rfl, hxs⟩
set_option maxRecDepth 20000 in
theorem openAccT {H : Type} {enc : TypeId × Value → H} {W : World} {sp : Nat → Bool} {held : Bool} {v : Value} {d : DataW H} {p : List MemPlace} {base : Nat} {r : Reach}
    (hv : Value.okWide Try.prog W r base 51 v) (h : DataW.Trod enc Try.prog W 0 sp held 51 v d p) : ∃ x, accR.V W v x := by
  obtain ⟨cs, rfl, hsz⟩ := okWide_struct Try.underlying51 hv
  have hC : Try.prog.cellsOf 51 = 1 := by kernel_rfl
  obtain ⟨fuel, hf⟩ := h
  obtain ⟨x, u, e, hx⟩ := openAcc hf (by simpa [Value.cells] using hsz.trans hC)
  have e' : cs = #[u] := by
    obtain ⟨l⟩ := cs
    simp [Value.cells] at e
    rw [e]
  subst e'
  exact ⟨x, u, rfl, hx⟩
end Go.Proofs.Ytncmdeijimgchaa

