import Derived.Test.YtncmdeijimgchaaPrnAcceptAtLaw2
import Derived.Test.YtncmdeijimgchaaPrnAcceptAtLaw1
import Derived.Deep.RegionHeld3
import Derived.Deep.DrawnRows
import Derived.BigQuiet
import Derived.Deep.QuietTactic

/-
  Ledger. (Written by program: nest.py.)
-/
namespace Go.Proofs.Ytncmdeijimgchaa
open Go.RowKit
set_option linter.unusedSectionVars false
variable [DecidableEq Bal] [Inhabited Bal]
attribute [local go_sem ↓] Go.wp_at_zero Go.wp_at_succ

structure Ledg where
  shards : List (List Bal)
variable [DecidableEq Ledg] [Inhabited Ledg]

end Go.Proofs.Ytncmdeijimgchaa

/-
  A leg as a value: the law's own copy and comparison of one leg.
-/
namespace Go.Proofs.Ytncmdeijimgchaa
open Go.RowKit
set_option linter.unusedSectionVars false

structure Leg where
  sh : Int
  ac : Int
  ast : Int
  am : Int
variable [DecidableEq Leg] [Inhabited Leg]

end Go.Proofs.Ytncmdeijimgchaa

/-
  Contracts of the small functions of chapter 1: a number within bounds, what is asked of one leg, on both sides (specification and program).
-/
namespace Go.Proofs.Ytncmdeijimgchaa
open Go.RowKit
set_option linter.unusedSectionVars false
variable [DecidableEq Leg] [Inhabited Leg]

def inB (n lo hi : Int) : Bool := decide (lo ≤ n) && decide (n ≤ hi)
set_option maxHeartbeats 400000 in
theorem l1In_any (n lo hi : Int) (w : World) :
    Calls Try.prog 99 #[.int .i64 n, .int .i64 lo, .int .i64 hi] w fun e w' => e = .returned (.bool (inB n lo hi)) ∧ w' = w := by
  by_cases h1 : lo ≤ n
  all_goals
    go_enter Try.func99, Try.ntmps99
    go_wp2
    go_ret
    exact ⟨by first | (simp [inB, h1]; done) | (simp [inB]; omega), rfl⟩
set_option maxHeartbeats 400000 in
theorem within_any (n lo hi : Int) (w : World) :
    Calls Try.prog 90 #[.int .i64 n, .int .i64 lo, .int .i64 hi] w fun e w' => e = .returned (.bool (inB n lo hi)) ∧ w' = w := by
  by_cases h1 : lo ≤ n
  all_goals
    go_enter Try.func90, Try.ntmps90
    go_wp2
    go_ret
    exact ⟨by first | (simp [inB, h1]; done) | (simp [inB]; omega), rfl⟩
set_option maxHeartbeats 400000 in
theorem l1Id_any (n : Int) (w : World) :
    Calls Try.prog 127 #[.int .i64 n] w fun e w' => e = .returned (.bool (inB n 1 1000000000)) ∧ w' = w := by
  go_enter Try.func127, Try.ntmps127
  go_wp2_with (go_at_call 99; refine (l1In_any _ _ _ _).mono ?_; rintro e w' ⟨rfl, rfl⟩)
  go_ret
  exact ⟨rfl, rfl⟩
set_option maxHeartbeats 400000 in
theorem isId_any (n : Int) (w : World) :
    Calls Try.prog 85 #[.int .i64 n] w fun e w' => e = .returned (.bool (inB n 1 1000000000)) ∧ w' = w := by
  go_enter Try.func85, Try.ntmps85
  go_wp2_with (go_at_call 90; refine (within_any _ _ _ _).mono ?_; rintro e w' ⟨rfl, rfl⟩)
  go_ret
  exact ⟨rfl, rfl⟩
set_option maxHeartbeats 400000 in
theorem isShard_any (n : Int) (w : World) :
    Calls Try.prog 97 #[.int .i64 n] w fun e w' => e = .returned (.bool (inB n 0 2)) ∧ w' = w := by
  go_enter Try.func97, Try.ntmps97
  go_wp2_with (go_at_call 90; refine (within_any _ _ _ _).mono ?_; rintro e w' ⟨rfl, rfl⟩)
  go_ret
  exact ⟨rfl, rfl⟩
end Go.Proofs.Ytncmdeijimgchaa

/-
  Chapter 2 in plain mathematics: faults of balances and ledgers, what is had, totals, what can be settled.
-/
namespace Go.Proofs.Ytncmdeijimgchaa
open Go.RowKit
set_option linter.unusedSectionVars false
variable [DecidableEq Bal] [Inhabited Bal] [DecidableEq Ledg] [Inhabited Ledg] [DecidableEq Leg] [Inhabited Leg]

theorem wrapId {n : Int} (h0 : -9223372036854775808 ≤ n) (h1 : n ≤ 9223372036854775807) : IntKind.i64.wrap n = n := by
  rw [IntKind.wrap_i64]; omega
theorem bdrewN {B : Nat} {w Y : World} (h : Below B w Y) (n : Nat) : Below B w (Y.drewN n) := h.trans ⟨rfl, rfl, rfl, Nat.le_refl _, fun _ _ => rfl⟩
def scanI (f : Nat → Int) : Nat → Int
  | 0 => 0
  | n + 1 => if scanI f n = 0 then f n else scanI f n
theorem scanI_succ {f : Nat → Int} {k : Nat} (h : scanI f k = 0) (h' : f k = 0) : scanI f (k + 1) = 0 := by simp [scanI, h, h']
theorem scanI_hit {f : Nat → Int} {k : Nat} (h : scanI f k = 0) (h' : f k ≠ 0) : ∀ n, k < n → scanI f n = f k
  | 0, hn => by omega
  | n + 1, hn => by
    by_cases e : k = n
    · subst e; simp [scanI, h]
    · have := scanI_hit h h' n (by omega)
      simp [scanI, this, h']
theorem scanI_zero {f : Nat → Int} : ∀ {n : Nat}, scanI f n = 0 → ∀ k, k < n → f k = 0
  | 0, _, k, hk => by omega
  | n + 1, h, k, hk => by
    unfold scanI at h
    split at h
    · rename_i h1
      by_cases e : k = n
      · subst e; exact h
      · exact scanI_zero h1 k (by omega)
    · exact absurd h (by assumption)
def behind (b a : Bal) : Bool := if b.ac = a.ac then decide (a.ast < b.ast) else decide (a.ac < b.ac)
theorem inBi {n lo hi : Int} : inB n lo hi = true ↔ lo ≤ n ∧ n ≤ hi := by simp [inB]
end Go.Proofs.Ytncmdeijimgchaa

