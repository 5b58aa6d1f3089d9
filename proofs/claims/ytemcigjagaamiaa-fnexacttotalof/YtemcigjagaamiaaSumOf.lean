/-
  SumOf on both sides, and how its answers are compared.
-/
import Derived.Test.YtemcigjagaamiaaSpecFault
import Derived.Test.YtemcigjagaamiaaImplFault2
namespace Go.Proofs.Ytemcigjagaamiaa
open Go.RowKit
set_option linter.unusedSectionVars false
variable [DecidableEq Leg] [Inhabited Leg]
attribute [local go_sem ↓] Go.wp_at_zero Go.wp_at_succ

theorem ok_of_scan {xs : List Leg} (h : scan [] xs = 0) : ∀ k, k ≤ xs.length → okTo xs k
  | 0, _ => fun j hj => by omega
  | k + 1, hk => by
    have ih := ok_of_scan h k (by omega)
    by_cases h0 : legFault (xs.getD k default) = 0
    · cases h1 : hasPlace (xs.take k) (xs.getD k default) with
      | false => exact okTo_succ ih h0 h1
      | true => have := scan_taken (by omega) ih h0 h1; omega
    · have := scan_bad (by omega) ih h0; omega

theorem cf_inv {id : Int} {xs : List Leg} (h : contractFault id xs = 0) : inB id 1 1000000000 = true ∧ 2 ≤ xs.length ∧ xs.length ≤ 8 ∧ okTo xs xs.length ∧ sumA 0 xs = 0 ∧ sumA 1 xs = 0 ∧ sumA 2 xs = 0 := by
  unfold contractFault at h
  split at h
  · rename_i h1
    split at h
    · omega
    · split at h
      · rename_i h3
        split at h
        · rename_i h4
          exact ⟨h1, by omega, by omega, ok_of_scan h3 _ (Nat.le_refl _), h4⟩
        · omega
      · omega
  · omega

def sumCode (id : Int) (xs : List Leg) (asset : Int) : Int := if contractFault id xs = 0 then (if inB asset 0 2 then 0 else 3) else contractFault id xs
def sumVal (id : Int) (xs : List Leg) (asset : Int) : Int := if contractFault id xs = 0 ∧ inB asset 0 2 = true then givenA asset xs else 0

set_option maxHeartbeats 400000 in
theorem eqIntResult_any (a b c d : Int) (w : World) :
    Calls Try.prog 21 #[.agg #[.int .i64 a, .int .i64 b], .agg #[.int .i64 c, .int .i64 d]] w fun e w' => e = .returned (.bool (decide (a = c ∧ b = d))) ∧ Below w.heap.size w w' := by
  go_enter Try.func21, Try.ntmps21
  go_wp2
  all_goals
    go_ret
    exact ⟨by simp_all, balloc (balloc (Below.refl _ _) _) _⟩

end Go.Proofs.Ytemcigjagaamiaa
