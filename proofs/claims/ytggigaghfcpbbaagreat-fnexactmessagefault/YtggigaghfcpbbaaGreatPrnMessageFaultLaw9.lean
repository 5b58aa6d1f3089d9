import Derived.Test.YtggigaghfcpbbaaGreatPrnMessageFaultLaw3
import Derived.Test.YtggigaghfcpbbaaGreatPrnMessageFaultLaw2
import Derived.Deep.RegionHeld3
import Derived.Deep.DrawnRows
import Derived.Test.YtggigaghfcpbbaaGreatPrnMessageFaultLaw1
import Derived.BigQuiet
import Derived.Deep.QuietTactic
import Derived.Test.YtggigaghfcpbbaaGreatPrnMessageFaultLaw5

/-
  Ledger. (Written by program: nest.py.)
-/
namespace Go.Proofs.YtggigaghfcpbbaaGreat
open Go.RowKit
set_option linter.unusedSectionVars false
variable [DecidableEq Bal] [Inhabited Bal]
attribute [local go_sem ↓] Go.wp_at_zero Go.wp_at_succ

structure Ledg where
  shards : List (List Bal)
variable [DecidableEq Ledg] [Inhabited Ledg]

end Go.Proofs.YtggigaghfcpbbaaGreat

/-
  Contracts of the small functions of chapter 1: a number within bounds, what is asked of one leg, on both sides (specification and program).
-/
namespace Go.Proofs.YtggigaghfcpbbaaGreat
open Go.RowKit
set_option linter.unusedSectionVars false
variable [DecidableEq Leg] [Inhabited Leg]

def inB (n lo hi : Int) : Bool := decide (lo ≤ n) && decide (n ≤ hi)
set_option maxHeartbeats 400000 in
theorem l1In_any (n lo hi : Int) (w : World) :
    Calls Tryz.prog 36 #[.int .i64 n, .int .i64 lo, .int .i64 hi] w fun e w' => e = .returned (.bool (inB n lo hi)) ∧ w' = w := by
  by_cases h1 : lo ≤ n
  all_goals
    go_enter Tryz.func36, Tryz.ntmps36
    go_wp2
    go_ret
    exact ⟨by first | (simp [inB, h1]; done) | (simp [inB]; omega), rfl⟩
set_option maxHeartbeats 400000 in
theorem within_any (n lo hi : Int) (w : World) :
    Calls Tryz.prog 22 #[.int .i64 n, .int .i64 lo, .int .i64 hi] w fun e w' => e = .returned (.bool (inB n lo hi)) ∧ w' = w := by
  by_cases h1 : lo ≤ n
  all_goals
    go_enter Tryz.func22, Tryz.ntmps22
    go_wp2
    go_ret
    exact ⟨by first | (simp [inB, h1]; done) | (simp [inB]; omega), rfl⟩
end Go.Proofs.YtggigaghfcpbbaaGreat

/-
  Chapter 2 in plain mathematics: faults of balances and ledgers, what is had, totals, what can be settled.
-/
namespace Go.Proofs.YtggigaghfcpbbaaGreat
open Go.RowKit
set_option linter.unusedSectionVars false
variable [DecidableEq Bal] [Inhabited Bal] [DecidableEq Ledg] [Inhabited Ledg] [DecidableEq Leg] [Inhabited Leg]

theorem inBi {n lo hi : Int} : inB n lo hi = true ↔ lo ≤ n ∧ n ≤ hi := by simp [inB]
end Go.Proofs.YtggigaghfcpbbaaGreat

/-
  Votes and slots in plain mathematics: what is asked of a slot.
-/
namespace Go.Proofs.YtggigaghfcpbbaaGreat
open Go.RowKit
set_option linter.unusedSectionVars false
variable [DecidableEq Vot] [Inhabited Vot] [DecidableEq Slt] [Inhabited Slt] [DecidableEq Bal] [Inhabited Bal] [DecidableEq Ledg] [Inhabited Ledg] [DecidableEq Leg] [Inhabited Leg]

def votB (x : Vot) : Bool := inB x.bal 0 1000 && inB x.val 1 2
def noV : Vot := ⟨-1, 0⟩
def other (v p : Vot) : Bool := decide (v.bal < p.bal) || (decide (v.bal = p.bal) && !decide (v.val = p.val))
def lastV (xs : List Vot) (n : Nat) : Vot := if n = 0 then noV else xs.getD (n - 1) default
def sltRange (s : Slt) : Bool := inB s.con 1 1000000000 && inB s.sh 0 2 && inB s.pr (-1) 1000
theorem votB_iff {x : Vot} : votB x = true ↔ (0 ≤ x.bal ∧ x.bal ≤ 1000) ∧ (1 ≤ x.val ∧ x.val ≤ 2) := by simp [votB, inBi]
theorem lastV_zero (xs : List Vot) : lastV xs 0 = noV := rfl
theorem lastV_succ (xs : List Vot) (k : Nat) : lastV xs (k + 1) = xs.getD k default := by simp [lastV]
structure SltOk (s : Slt) : Prop where
  range : sltRange s = true
  len : s.cast.length ≤ 60
  at_ : ∀ k, k < s.cast.length → votB (s.cast.getD k default) = true ∧ other (s.cast.getD k default) (lastV s.cast k) = false
  last : s.lb = (lastV s.cast s.cast.length).bal ∧ s.lv = (lastV s.cast s.cast.length).val
  pr : s.lb ≤ s.pr
theorem SltOk.bal {s : Slt} (h : SltOk s) : -1 ≤ s.lb ∧ s.lb ≤ 1000 := by
  obtain ⟨h1, _⟩ := h.last
  have hl := h.len
  cases e : s.cast.length with
  | zero => rw [e, lastV_zero] at h1; rw [h1]; simp [noV]
  | succ n =>
    rw [e, lastV_succ] at h1
    have := votB_iff.1 (h.at_ n (by omega)).1
    rw [h1]
    omega
end Go.Proofs.YtggigaghfcpbbaaGreat

