/-
  Answers of a code and a number compared.
-/
import Derived.Test.YthikaieobdhckaaKit
namespace Go.Proofs.Ythikaieobdhckaa
open Go.RowKit

set_option maxHeartbeats 400000 in
theorem eqIntR_any (a b c d : Int) (w : World) :
    Calls Try.prog 19 #[.agg #[.int .i64 a, .int .i64 b], .agg #[.int .i64 c, .int .i64 d]] w fun e w' => e = .returned (.bool (decide (a = c ∧ b = d))) ∧ Below w.heap.size w w' := by
  go_enter Try.func19, Try.ntmps19
  go_wp2
  all_goals
    go_ret
    exact ⟨by simp_all, balloc (balloc (Below.refl _ _) _) _⟩

end Go.Proofs.Ythikaieobdhckaa
