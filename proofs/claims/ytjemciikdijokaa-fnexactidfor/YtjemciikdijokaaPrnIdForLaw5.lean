import Derived.Test.YtjemciikdijokaaPrnIdForLaw1
import Derived.Deep.RegionHeld3
import Derived.Deep.DrawnRows
import Derived.Test.YtjemciikdijokaaPrnIdForLaw4
import Derived.Test.YtjemciikdijokaaPrnIdForLaw2
import Derived.BigQuiet
import Derived.Deep.QuietTactic

/-
  SessionsResult. (Written by program: nest.py.)
-/
namespace Go.Proofs.Ytjemciikdijokaa
open Go.RowKit
set_option linter.unusedSectionVars false
variable [DecidableEq Leg] [Inhabited Leg] [DecidableEq Ses] [Inhabited Ses] [DecidableEq Cont] [Inhabited Cont] [DecidableEq Bal] [Inhabited Bal] [DecidableEq Mrk] [Inhabited Mrk] [DecidableEq Shd] [Inhabited Shd] [DecidableEq Vot] [Inhabited Vot] [DecidableEq Slt] [Inhabited Slt] [DecidableEq Acc] [Inhabited Acc] [DecidableEq Trr] [Inhabited Trr] [DecidableEq Hrd] [Inhabited Hrd] [DecidableEq Ldr] [Inhabited Ldr] [DecidableEq Msg] [Inhabited Msg] [DecidableEq Clu] [Inhabited Clu]
attribute [local go_sem ↓] Go.wp_at_zero Go.wp_at_succ

set_option linter.unusedSimpArgs false

structure SesR where
  code : Int
  id : Int
  sess : List Ses
  clu : Clu
variable [DecidableEq SesR] [Inhabited SesR]

end Go.Proofs.Ytjemciikdijokaa

/-
  Ledger. (Written by program: nest.py.)
-/
namespace Go.Proofs.Ytjemciikdijokaa
open Go.RowKit
set_option linter.unusedSectionVars false
variable [DecidableEq Bal] [Inhabited Bal]
attribute [local go_sem ↓] Go.wp_at_zero Go.wp_at_succ

structure Ledg where
  shards : List (List Bal)
variable [DecidableEq Ledg] [Inhabited Ledg]

end Go.Proofs.Ytjemciikdijokaa

/-
  Contracts of the small functions of chapter 1: a number within bounds, what is asked of one leg, on both sides (specification and program).
-/
namespace Go.Proofs.Ytjemciikdijokaa
open Go.RowKit
set_option linter.unusedSectionVars false
variable [DecidableEq Leg] [Inhabited Leg]

def inB (n lo hi : Int) : Bool := decide (lo ≤ n) && decide (n ≤ hi)
set_option maxHeartbeats 400000 in
theorem l1In_any (n lo hi : Int) (w : World) :
    Calls Try.prog 21 #[.int .i64 n, .int .i64 lo, .int .i64 hi] w fun e w' => e = .returned (.bool (inB n lo hi)) ∧ w' = w := by
  by_cases h1 : lo ≤ n
  all_goals
    go_enter Try.func21, Try.ntmps21
    go_wp2
    go_ret
    exact ⟨by first | (simp [inB, h1]; done) | (simp [inB]; omega), rfl⟩
set_option maxHeartbeats 400000 in
theorem within_any (n lo hi : Int) (w : World) :
    Calls Try.prog 24 #[.int .i64 n, .int .i64 lo, .int .i64 hi] w fun e w' => e = .returned (.bool (inB n lo hi)) ∧ w' = w := by
  by_cases h1 : lo ≤ n
  all_goals
    go_enter Try.func24, Try.ntmps24
    go_wp2
    go_ret
    exact ⟨by first | (simp [inB, h1]; done) | (simp [inB]; omega), rfl⟩
end Go.Proofs.Ytjemciikdijokaa

/-
  Chapter 2 in plain mathematics: faults of balances and ledgers, what is had, totals, what can be settled.
-/
namespace Go.Proofs.Ytjemciikdijokaa
open Go.RowKit
set_option linter.unusedSectionVars false
variable [DecidableEq Bal] [Inhabited Bal] [DecidableEq Ledg] [Inhabited Ledg] [DecidableEq Leg] [Inhabited Leg]

theorem wrapId {n : Int} (h0 : -9223372036854775808 ≤ n) (h1 : n ≤ 9223372036854775807) : IntKind.i64.wrap n = n := by
  rw [IntKind.wrap_i64]; omega
end Go.Proofs.Ytjemciikdijokaa

