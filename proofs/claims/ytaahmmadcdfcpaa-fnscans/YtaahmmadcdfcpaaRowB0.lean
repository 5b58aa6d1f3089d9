/-
  Texts, in small.
-/
import Derived.Test.YtaahmmadcdfcpaaKit
import Derived.Test.YtaahmmadcdfcpaaSep
import Derived.Deep.RegionHeld3
import Derived.Deep.DrawnRows
import Derived.BigQuiet
namespace Go.Proofs.Ytaahmmadcdfcpaa
open Go.RowKit

theorem tl_inj (a b : ByteArray) : (a.toList = b.toList) = (a = b) := by
  rw [ByteArray.toList_eq, ByteArray.toList_eq]
  exact propext ⟨fun h => by cases a; cases b; simp only at h; rw [Array.toList_inj.1 h], fun h => by rw [h]⟩
theorem tl_empty (a : ByteArray) : a.toList.isEmpty = decide (a.size = 0) := by
  rw [ByteArray.toList_eq]
  obtain ⟨⟨l⟩⟩ := a
  cases l <;> simp [ByteArray.size]

theorem tl_nil (a : ByteArray) : (a.toList = []) = (a.size = 0) := by
  have h := tl_empty a
  rw [← List.isEmpty_iff, h]
  simp

end Go.Proofs.Ytaahmmadcdfcpaa
