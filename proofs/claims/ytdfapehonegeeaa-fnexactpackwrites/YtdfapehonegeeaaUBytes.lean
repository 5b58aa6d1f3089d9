/-
  Rows of uint8: the uniform forms. (Written by program: nest.py.)
-/
import Derived.Test.YtdfapehonegeeaaBytes
import Derived.Test.YtdfapehonegeeaaSep
namespace Go.Proofs.Ytdfapehonegeeaa
open Go.RowKit
attribute [local go_sem ↓] Go.wp_at_zero Go.wp_at_succ

def bytesR : Rep (List Byte) := fRep 5 1 bytesC BytesV BytesV_below BytesV_of_owns
def wtBytes (xs : List Byte) : Nat := xs.length
def cntBytes (xs : List Byte) : Nat := xs.length
def mkBytes (k : Int) (xs : List Byte) : List Byte := marksB k xs.length
theorem bytes_form {w : World} {v : Value} {xs : List Byte} (h : bytesR.V w v xs) : ∃ a c, v = .slice a xs.length c := by
  obtain ⟨a, c, rfl, _⟩ := h
  exact ⟨_, _, rfl⟩

theorem bytes_cnt (d : List Byte) : cntBytes d ≤ 1 * wtBytes d := by unfold cntBytes wtBytes; omega

theorem toByteS_u (x : Value) (d : List Byte) (w : World) (hx : bytesR.V w x d) (hn : wtBytes d ≤ 1048576) :
    Calls Try.prog 43 #[x] w fun e w' => ∃ v F, e = .returned v ∧ bytesR.O w' w.heap.size F v d ∧ Below w.heap.size w w' := by
  refine (toByteS_any x d w hx hn).mono ?_
  rintro e w' ⟨v, rfl, ho, hb⟩
  exact ⟨v, _, rfl, ⟨ho, rfl⟩, hb⟩

theorem eqByteS_u (x y : Value) (d d' : List Byte) (w : World) (hx : bytesR.V w x d) (hy : bytesR.V w y d') :
    Calls Try.prog 45 #[x, y] w fun e w' => e = .returned (.bool (decide (d = d'))) ∧ Below w.heap.size w w' := eqByteS_any x y d d' w hx hy

theorem markByteS_u (v : Value) (d : List Byte) (base : Nat) (F : Nat → Prop) (k : Int) (w : World) (ho : bytesR.O w base F v d) (hw : wtBytes d ≤ 1048576) (hn : k + cntBytes d ≤ 1073741824) (hk0 : 0 ≤ k) :
    Calls Try.prog 46 #[v, .int .i64 k] w fun r w' => r = .returned (.int .i64 (k + cntBytes d)) ∧ bytesR.O w' base F v (mkBytes k d) ∧ Mod F w w' := by
  refine (markByteS_any v d.length _ base _ k w ho.1 hw hk0 (by omega)).mono ?_
  rintro e w' ⟨rfl, h1, h2⟩
  refine ⟨by simp [cntBytes], ⟨?_, ho.2⟩, by rw [ho.2]; exact Mod.of_grown h2⟩
  unfold mkBytes
  rw [length_marksB]
  exact h1

theorem heldByteS_u (v : Value) (d : List Byte) (k : Int) (w : World) (hv : bytesR.V w v (mkBytes k d)) (hw : wtBytes d ≤ 1048576) (hn : k + cntBytes d ≤ 1073741824) (hk0 : 0 ≤ k) :
    Calls Try.prog 82 #[v, .int .i64 k] w fun r w' => r = .returned (.int .i64 (k + cntBytes d)) ∧ Below w.heap.size w w' := by
  refine (heldByteS_any v d.length k w hv hw hk0 (by omega)).mono ?_
  rintro e w' ⟨rfl, rfl⟩
  exact ⟨by simp [cntBytes], Below.refl _ _⟩

end Go.Proofs.Ytdfapehonegeeaa
