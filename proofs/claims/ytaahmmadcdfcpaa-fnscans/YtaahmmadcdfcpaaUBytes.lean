/-
  Rows of uint8: the uniform forms. (Written by program: nest.py.)
-/
import Derived.Test.YtaahmmadcdfcpaaBytes
import Derived.Test.YtaahmmadcdfcpaaSep
namespace Go.Proofs.Ytaahmmadcdfcpaa
open Go.RowKit
attribute [local go_sem ↓] Go.wp_at_zero Go.wp_at_succ

def bytesR : Rep (List Byte) := fRep 5 1 bytesC BytesV BytesV_below BytesV_of_owns
def wtBytes (xs : List Byte) : Nat := xs.length
def cntBytes (xs : List Byte) : Nat := xs.length
def mkBytes (k : Int) (xs : List Byte) : List Byte := marksB k xs.length
theorem bytes_form {w : World} {v : Value} {xs : List Byte} (h : bytesR.V w v xs) : ∃ a c, v = .slice a xs.length c := by
  obtain ⟨a, c, rfl, _⟩ := h
  exact ⟨_, _, rfl⟩

theorem bytes_cnt (d : List Byte) : cntBytes d ≤ 1 * wtBytes d := by unfold cntBytes wtBytes; omega

end Go.Proofs.Ytaahmmadcdfcpaa
