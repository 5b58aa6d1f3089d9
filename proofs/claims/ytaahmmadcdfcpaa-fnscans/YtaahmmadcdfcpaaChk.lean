/-
  CheckOf on both sides.
-/
import Derived.Test.YtaahmmadcdfcpaaNum
import Derived.Test.YtaahmmadcdfcpaaUBytes
namespace Go.Proofs.Ytaahmmadcdfcpaa
open Go.RowKit
attribute [local go_sem ↓] Go.wp_at_zero Go.wp_at_succ

def chk (xs : List Byte) : Int := xs.foldl (fun h b => (h * 257 + (b.val : Int) + 1) % 65521) 1
theorem chk_snoc (xs : List Byte) (b : Byte) : chk (xs ++ [b]) = (chk xs * 257 + (b.val : Int) + 1) % 65521 := by simp [chk]
theorem chk_rng (xs : List Byte) : 0 ≤ chk xs ∧ chk xs < 65521 := by
  suffices h : ∀ (xs : List Byte) (n : Int), (0 ≤ n ∧ n < 65521) → 0 ≤ xs.foldl (fun h b => (h * 257 + (b.val : Int) + 1) % 65521) n ∧ xs.foldl (fun h b => (h * 257 + (b.val : Int) + 1) % 65521) n < 65521 from h xs 1 (by omega)
  intro xs
  induction xs with
  | nil => intro n h; exact h
  | cons b r ih => intro n h; exact ih ((n * 257 + (b.val : Int) + 1) % 65521) (by omega)
theorem chk_take (xs : List Byte) (k : Nat) (h : k < xs.length) : chk (xs.take (k + 1)) = (chk (xs.take k) * 257 + ((xs.getD k 0).val : Int) + 1) % 65521 := by
  rw [take_snocB xs k h, chk_snoc]

end Go.Proofs.Ytaahmmadcdfcpaa
