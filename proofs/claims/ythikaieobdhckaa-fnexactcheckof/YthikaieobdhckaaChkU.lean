/-
  CheckOf in the uniform form.
-/
import Derived.Test.YthikaieobdhckaaChk
namespace Go.Proofs.Ythikaieobdhckaa
open Go.RowKit

theorem specChk_u (x : Value) (xs : List Byte) (w : World) (hx : bytesR.V w x xs) :
    Calls Try.prog 34 #[x] w fun e w' => e = .returned (.int .i64 (chk xs)) ∧ Below w.heap.size w w' := by
  refine (specChk_any x xs w hx).mono ?_
  rintro e w' ⟨rfl, rfl⟩
  exact ⟨rfl, Below.refl _ _⟩
theorem implChk_u (x : Value) (xs : List Byte) (w : World) (hx : bytesR.V w x xs) :
    Calls Try.prog 35 #[x] w fun e w' => e = .returned (.int .i64 (chk xs)) ∧ Below w.heap.size w w' := by
  refine (implChk_any x xs w hx).mono ?_
  rintro e w' ⟨rfl, rfl⟩
  exact ⟨rfl, Below.refl _ _⟩

end Go.Proofs.Ythikaieobdhckaa
