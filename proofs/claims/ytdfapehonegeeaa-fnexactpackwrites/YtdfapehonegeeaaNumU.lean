/-
  PackNumber and UnpackNumber in the uniform form.
-/
import Derived.Test.YtdfapehonegeeaaNum
import Derived.Test.YtdfapehonegeeaaUBytes
namespace Go.Proofs.Ytdfapehonegeeaa
open Go.RowKit
attribute [local go_sem ↓] Go.wp_at_zero Go.wp_at_succ

theorem specPack_u (n : Int) (w : World) :
    Calls Try.prog 105 #[.int .i64 n] w fun e w' => ∃ v F, e = .returned v ∧ bytesR.O w' w.heap.size F v (hiB n 8) ∧ Below w.heap.size w w' := by
  refine (specPack_any n w).mono ?_
  rintro e w' ⟨v, rfl, ho, hb⟩
  exact ⟨v, _, rfl, ⟨by rw [length_hiB]; exact ho, rfl⟩, hb⟩

theorem implPack_u (n : Int) (w : World) :
    Calls Try.prog 109 #[.int .i64 n] w fun e w' => ∃ v F, e = .returned v ∧ bytesR.O w' w.heap.size F v (hiB n 8) ∧ Below w.heap.size w w' := by
  refine (implPack_any n w).mono ?_
  rintro e w' ⟨v, rfl, ho, hb⟩
  exact ⟨v, _, rfl, ⟨by rw [length_hiB]; exact ho, rfl⟩, hb⟩

def unCode (xs : List Byte) : Int := if xs.length = 8 then 0 else 1
def unVal (xs : List Byte) : Int := if xs.length = 8 then IntKind.i64.wrap (hiN xs) else 0

end Go.Proofs.Ytdfapehonegeeaa
