/-
  Bytes as text.
-/
import Derived.Test.YtaahmmadcdfcpaaBytes
import Derived.Laws.BytesArg
namespace Go.Proofs.Ytaahmmadcdfcpaa
open Go.RowKit
set_option linter.unusedSimpArgs false

/-- the text that bytes are -/
def bstr (xs : List Byte) : ByteArray := strOfNums (xs.map fun b => (b.val : Int))
theorem size_bstr (xs : List Byte) : (bstr xs).size = xs.length := by
  unfold bstr strOfNums
  simp [ByteArray.size]
theorem conv_bytes {w : World} {v : Value} {xs : List Byte} (h : BytesV w v xs) : (convert 22 9 v).run Try.prog w = .ok (.string (bstr xs)) w := by
  obtain ⟨a, cap, rfl, _, _, hc⟩ := h
  by_cases h0 : xs.length = 0
  · have e : xs = [] := List.eq_nil_of_length_eq_zero h0
    subst e
    show (convert 22 9 (.slice a 0 cap)).run Try.prog w = _
    rw [run_convert_bytes_string w 22 9 5 a 0 cap (by kernel_rfl) (by kernel_rfl) (by kernel_rfl)]
    cases a <;> simp [Conv.bytesToString, loadCells]
    all_goals rfl
  · obtain ⟨b, o, rfl, _⟩ := hc 0 (by omega)
    refine run_convert_bytes_arg w 22 5 (by kernel_rfl) (by kernel_rfl) b o xs.length cap (xs.map fun b => (b.val : Int)) (by simp) (fun i hi => ?_) 9 (by kernel_rfl)
    obtain ⟨b', o', e, hh⟩ := hc i hi
    simp only [Option.some.injEq, Addr.mk.injEq, and_true] at e
    obtain ⟨rfl, rfl⟩ := e
    rw [hh]
    simp [List.getD, hi]

end Go.Proofs.Ytaahmmadcdfcpaa
