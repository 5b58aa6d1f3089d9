import Derived.Test.YtjhmdnlkpkagiaaPrnPromisesLaw13
import Derived.Test.YtjhmdnlkpkagiaaPrnPromisesLaw9

/-
  Bytes handed in.
-/
namespace Go.Proofs.Ytjhmdnlkpkagiaa
open Go.ChangeShapes Go.WideShapes Go.ChangeAt Go.RowKit Go.Joins

theorem cellsByte : Try.prog.cellsOf 5 = 1 := by kernel_rfl
theorem openByte {H : Type} {enc : TypeId × Value → H} {W : World} {sp : Nat → Bool} {held : Bool} {n : Nat} {cs : List Value} {y : DataW H × List MemPlace}
    (ht : DataW.trod enc Try.prog W 0 sp held n 5 cs = some y) : ∃ x : Byte, cs = [.int .u8 (x.val : Int)] := by
  obtain ⟨x0, e0, _, hw⟩ := DataW.trod_int Try.underlying5 ht
  have hb := bounds_u8 hw
  refine ⟨toB x0, ?_⟩
  rw [e0, toB_val]
  congr 2
  omega
theorem openBytes {H : Type} {enc : TypeId × Value → H} {W : World} {sp : Nat → Bool} {held : Bool} {n : Nat} {v : Value} {y : DataW H × List MemPlace}
    (ht : DataW.trod enc Try.prog W 0 sp held n 22 [v] = some y) : ∃ xs : List Byte, bytesR.V W v xs := by
  obtain ⟨a, cap, xs, cs, rfl, h1, h2, h3⟩ := openRow (q := fun cs x => cs = [.int .u8 ((x : Byte).val : Int)]) Try.underlying22 cellsByte (by omega) (fun n cs y h _ => openByte h) ht
  refine ⟨xs, a, cap, rfl, h1, h2, fun i hi => ?_⟩
  obtain ⟨g1, g3, b, o, g4, g5⟩ := h3 i hi
  rw [g1] at g5
  refine ⟨b, o, g4, ?_⟩
  have h := g5 0 (by omega)
  have e : xs.getD i default = xs.getD i 0 := rfl
  rw [e] at h
  simpa using h
set_option maxRecDepth 20000 in
theorem openBytesT {H : Type} {enc : TypeId × Value → H} {W : World} {sp : Nat → Bool} {held : Bool} {v : Value} {d : DataW H} {p : List MemPlace} {base : Nat} {r : Reach}
    (hv : Value.okWide Try.prog W r base 22 v) (h : DataW.Trod enc Try.prog W 0 sp held 22 v d p) : ∃ x, bytesR.V W v x := by
  obtain ⟨a, l, c, rfl⟩ := okWide_slice Try.underlying22 hv
  obtain ⟨fuel, hf⟩ := h
  exact openBytes (by simpa [Value.cells] using hf)
end Go.Proofs.Ytjhmdnlkpkagiaa

