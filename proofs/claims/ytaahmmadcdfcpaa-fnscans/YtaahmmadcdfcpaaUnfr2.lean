/-
  UnframeAll on both sides.
-/
import Derived.Test.YtaahmmadcdfcpaaUnfr
namespace Go.Proofs.Ytaahmmadcdfcpaa
open Go.RowKit
set_option linter.unusedSectionVars false
variable [DecidableEq BytesR] [Inhabited BytesR] [DecidableEq RecsR] [Inhabited RecsR]
attribute [local go_sem ↓] Go.wp_at_zero Go.wp_at_succ

def recsD (xs : List Byte) : RecsR := if xs.length ≤ 6000 then ⟨0, recU xs, recL xs⟩ else ⟨2, 0, []⟩
theorem recsR_nil (w : World) (base : Nat) (c u : Int) : recsRR.O w base none_ (.agg #[.int .i64 c, .int .i64 u, .slice none 0 0]) ⟨c, u, []⟩ :=
  ⟨.slice none 0 0, none_, rfl, ⟨[], fun _ => .int .i64 0, fun _ _ => False, ⟨World.ownsRow_nil w base 22 1, fun _ h => absurd h (Nat.not_lt_zero _), fun _ h => absurd h (Nat.not_lt_zero _), fun _ h => absurd h (Nat.not_lt_zero _), fun _ h => absurd h (Nat.not_lt_zero _), fun _ _ h => absurd h (Nat.not_lt_zero _)⟩, fun b => by simp [none_, Value.ownBlock]⟩, fun b => Iff.rfl⟩

theorem recL_wt (xs : List Byte) : (recL xs).length + cntTo List.length (recL xs).length (recL xs) ≤ xs.length := by
  have H : ∀ n (xs : List Byte), xs.length ≤ n → (recL xs).length + cntTo List.length (recL xs).length (recL xs) ≤ xs.length := by
    intro n
    induction n with
    | zero =>
      intro xs h
      rw [recL_end (frameSz_short (by omega))]
      simp [cntTo]
    | succ n ih =>
      intro xs h
      by_cases hz : frameSz xs = 0
      · rw [recL_end hz]
        simp [cntTo]
      · have hp := frameSz_pos hz
        rw [recL_step hz]
        have := ih (xs.drop (frameSz xs)) (by rw [List.length_drop]; omega)
        rw [List.length_drop] at this
        simp only [List.length_cons, cntTo, List.length_take, List.length_drop]
        omega
  exact H _ xs (Nat.le_refl _)
theorem recsD_wt (xs : List Byte) : wtRecsR (recsD xs) ≤ xs.length := by
  unfold recsD
  split
  · unfold wtRecsR wtBytess wtL
    have := recL_wt xs
    have e : wtBytes = (List.length : List Byte → Nat) := rfl
    rw [e]
    exact this
  · simp [wtRecsR, wtBytess, wtL, cntTo]

end Go.Proofs.Ytaahmmadcdfcpaa
