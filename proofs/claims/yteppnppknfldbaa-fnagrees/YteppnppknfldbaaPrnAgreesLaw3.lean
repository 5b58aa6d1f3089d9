import Derived.Test.YteppnppknfldbaaPrnAgreesLaw1
import Derived.BigQuiet
import Derived.Deep.QuietTactic
import Derived.Test.YteppnppknfldbaaPrnAgreesLaw2

/-
  A leg as a value: the law's own copy and comparison of one leg.
-/
namespace Go.Proofs.Yteppnppknfldbaa
open Go.RowKit
set_option linter.unusedSectionVars false

structure Leg where
  sh : Int
  ac : Int
  ast : Int
  am : Int
variable [DecidableEq Leg] [Inhabited Leg]

end Go.Proofs.Yteppnppknfldbaa

/-
  Contracts of the small functions of chapter 1: a number within bounds, what is asked of one leg, on both sides (specification and program).
-/
namespace Go.Proofs.Yteppnppknfldbaa
open Go.RowKit
set_option linter.unusedSectionVars false
variable [DecidableEq Leg] [Inhabited Leg]

def inB (n lo hi : Int) : Bool := decide (lo ≤ n) && decide (n ≤ hi)
set_option maxHeartbeats 400000 in
theorem within_any (n lo hi : Int) (w : World) :
    Calls Try.prog 29 #[.int .i64 n, .int .i64 lo, .int .i64 hi] w fun e w' => e = .returned (.bool (inB n lo hi)) ∧ w' = w := by
  by_cases h1 : lo ≤ n
  all_goals
    go_enter Try.func29, Try.ntmps29
    go_wp2
    go_ret
    exact ⟨by first | (simp [inB, h1]; done) | (simp [inB]; omega), rfl⟩
set_option maxHeartbeats 400000 in
theorem isId_any (n : Int) (w : World) :
    Calls Try.prog 41 #[.int .i64 n] w fun e w' => e = .returned (.bool (inB n 1 1000000000)) ∧ w' = w := by
  go_enter Try.func41, Try.ntmps41
  go_wp2_with (go_at_call 29; refine (within_any _ _ _ _).mono ?_; rintro e w' ⟨rfl, rfl⟩)
  go_ret
  exact ⟨rfl, rfl⟩
set_option maxHeartbeats 400000 in
theorem isShard_any (n : Int) (w : World) :
    Calls Try.prog 42 #[.int .i64 n] w fun e w' => e = .returned (.bool (inB n 0 2)) ∧ w' = w := by
  go_enter Try.func42, Try.ntmps42
  go_wp2_with (go_at_call 29; refine (within_any _ _ _ _).mono ?_; rintro e w' ⟨rfl, rfl⟩)
  go_ret
  exact ⟨rfl, rfl⟩
end Go.Proofs.Yteppnppknfldbaa

/-
  Chapter 2 in plain mathematics: faults of balances and ledgers, what is had, totals, what can be settled.
-/
namespace Go.Proofs.Yteppnppknfldbaa
open Go.RowKit
set_option linter.unusedSectionVars false
variable [DecidableEq Bal] [Inhabited Bal] [DecidableEq Ledg] [Inhabited Ledg] [DecidableEq Leg] [Inhabited Leg]

theorem wrapId {n : Int} (h0 : -9223372036854775808 ≤ n) (h1 : n ≤ 9223372036854775807) : IntKind.i64.wrap n = n := by
  rw [IntKind.wrap_i64]; omega
theorem bdrewN {B : Nat} {w Y : World} (h : Below B w Y) (n : Nat) : Below B w (Y.drewN n) := h.trans ⟨rfl, rfl, rfl, Nat.le_refl _, fun _ _ => rfl⟩
def scanI (f : Nat → Int) : Nat → Int
  | 0 => 0
  | n + 1 => if scanI f n = 0 then f n else scanI f n
theorem scanI_succ {f : Nat → Int} {k : Nat} (h : scanI f k = 0) (h' : f k = 0) : scanI f (k + 1) = 0 := by simp [scanI, h, h']
theorem scanI_hit {f : Nat → Int} {k : Nat} (h : scanI f k = 0) (h' : f k ≠ 0) : ∀ n, k < n → scanI f n = f k
  | 0, hn => by omega
  | n + 1, hn => by
    by_cases e : k = n
    · subst e; simp [scanI, h]
    · have := scanI_hit h h' n (by omega)
      simp [scanI, this, h']
theorem scanI_zero {f : Nat → Int} : ∀ {n : Nat}, scanI f n = 0 → ∀ k, k < n → f k = 0
  | 0, _, k, hk => by omega
  | n + 1, h, k, hk => by
    unfold scanI at h
    split at h
    · rename_i h1
      by_cases e : k = n
      · subst e; exact h
      · exact scanI_zero h1 k (by omega)
    · exact absurd h (by assumption)
theorem scanI_of {f : Nat → Int} : ∀ {n : Nat}, (∀ k, k < n → f k = 0) → scanI f n = 0
  | 0, _ => rfl
  | n + 1, h => scanI_succ (scanI_of (fun k hk => h k (by omega))) (h n (by omega))
theorem inBi {n lo hi : Int} : inB n lo hi = true ↔ lo ≤ n ∧ n ≤ hi := by simp [inB]
end Go.Proofs.Yteppnppknfldbaa

/-
  Votes and slots in plain mathematics: what is asked of a slot.
-/
namespace Go.Proofs.Yteppnppknfldbaa
open Go.RowKit
set_option linter.unusedSectionVars false
variable [DecidableEq Vot] [Inhabited Vot] [DecidableEq Slt] [Inhabited Slt] [DecidableEq Bal] [Inhabited Bal] [DecidableEq Ledg] [Inhabited Ledg] [DecidableEq Leg] [Inhabited Leg]

def votB (x : Vot) : Bool := inB x.bal 0 1000 && inB x.val 1 2
def noV : Vot := ⟨-1, 0⟩
def other (v p : Vot) : Bool := decide (v.bal < p.bal) || (decide (v.bal = p.bal) && !decide (v.val = p.val))
def lastV (xs : List Vot) (n : Nat) : Vot := if n = 0 then noV else xs.getD (n - 1) default
def votAt (xs : List Vot) (k : Nat) : Int := if votB (xs.getD k default) then (if other (xs.getD k default) (lastV xs k) = true then 1 else 0) else 3
def sltRange (s : Slt) : Bool := inB s.con 1 1000000000 && inB s.sh 0 2 && inB s.pr (-1) 1000
def sltFault (s : Slt) : Int :=
  if sltRange s then (if 60 < s.cast.length then 2 else if scanI (votAt s.cast) s.cast.length = 0 then (if (s.lb = (lastV s.cast s.cast.length).bal ∧ s.lv = (lastV s.cast s.cast.length).val) ∧ s.lb ≤ s.pr then 0 else 1) else scanI (votAt s.cast) s.cast.length) else 3
theorem votB_iff {x : Vot} : votB x = true ↔ (0 ≤ x.bal ∧ x.bal ≤ 1000) ∧ (1 ≤ x.val ∧ x.val ≤ 2) := by simp [votB, inBi]
theorem lastV_zero (xs : List Vot) : lastV xs 0 = noV := rfl
theorem lastV_succ (xs : List Vot) (k : Nat) : lastV xs (k + 1) = xs.getD k default := by simp [lastV]
theorem votAt_bad {xs : List Vot} {k : Nat} (h : votB (xs.getD k default) = false) : votAt xs k = 3 := by unfold votAt; rw [h]; rfl
theorem votAt_ok {xs : List Vot} {k : Nat} (h : votB (xs.getD k default) = true) (h' : other (xs.getD k default) (lastV xs k) = false) : votAt xs k = 0 := by simp only [votAt, h, h']; simp
theorem votAt_other {xs : List Vot} {k : Nat} (h : votB (xs.getD k default) = true) (h' : other (xs.getD k default) (lastV xs k) = true) : votAt xs k = 1 := by simp only [votAt, h, h']; simp
theorem votAt_inv {xs : List Vot} {k : Nat} (h : votAt xs k = 0) : votB (xs.getD k default) = true ∧ other (xs.getD k default) (lastV xs k) = false := by
  unfold votAt at h
  cases e : votB (xs.getD k default) with
  | false => rw [e] at h; simp at h
  | true =>
    cases e' : other (xs.getD k default) (lastV xs k) with
    | false => exact ⟨rfl, rfl⟩
    | true => rw [e, e'] at h; simp at h
theorem sltF_range {s : Slt} (h : sltRange s = false) : sltFault s = 3 := by unfold sltFault; rw [h]; rfl
theorem sltF_many {s : Slt} (h : sltRange s = true) (h' : 60 < s.cast.length) : sltFault s = 2 := by unfold sltFault; rw [h, if_pos rfl, if_pos h']
theorem sltF_hit {s : Slt} {k : Nat} {c : Int} (h : sltRange s = true) (h' : s.cast.length ≤ 60) (hk : k < s.cast.length) (hs : scanI (votAt s.cast) k = 0) (hc : votAt s.cast k = c) (h0 : c ≠ 0) : sltFault s = c := by
  have e := scanI_hit hs (by rw [hc]; exact h0) _ hk
  unfold sltFault
  rw [h, if_pos rfl, if_neg (by omega), e, hc, if_neg h0]
theorem sltF_end {s : Slt} (h : sltRange s = true) (h' : s.cast.length ≤ 60) (hs : scanI (votAt s.cast) s.cast.length = 0) :
    sltFault s = if (s.lb = (lastV s.cast s.cast.length).bal ∧ s.lv = (lastV s.cast s.cast.length).val) ∧ s.lb ≤ s.pr then 0 else 1 := by
  unfold sltFault
  rw [h, if_pos rfl, if_neg (by omega), if_pos hs]
structure SltOk (s : Slt) : Prop where
  range : sltRange s = true
  len : s.cast.length ≤ 60
  at_ : ∀ k, k < s.cast.length → votB (s.cast.getD k default) = true ∧ other (s.cast.getD k default) (lastV s.cast k) = false
  last : s.lb = (lastV s.cast s.cast.length).bal ∧ s.lv = (lastV s.cast s.cast.length).val
  pr : s.lb ≤ s.pr
theorem sltOk_of {s : Slt} (h : sltFault s = 0) : SltOk s := by
  cases e : sltRange s with
  | false => rw [sltF_range e] at h; omega
  | true =>
    by_cases h6 : 60 < s.cast.length
    · rw [sltF_many e h6] at h; omega
    · by_cases hs : scanI (votAt s.cast) s.cast.length = 0
      · rw [sltF_end e (by omega) hs] at h
        split at h
        · rename_i hh
          exact ⟨e, by omega, fun k hk => votAt_inv (scanI_zero hs k hk), hh.1, hh.2⟩
        · omega
      · unfold sltFault at h
        rw [e, if_pos rfl, if_neg h6, if_neg hs] at h
        exact absurd h hs
theorem sltRange_iff {s : Slt} : sltRange s = true ↔ ((1 ≤ s.con ∧ s.con ≤ 1000000000) ∧ (0 ≤ s.sh ∧ s.sh ≤ 2)) ∧ (-1 ≤ s.pr ∧ s.pr ≤ 1000) := by simp [sltRange, inBi]
theorem SltOk.bal {s : Slt} (h : SltOk s) : -1 ≤ s.lb ∧ s.lb ≤ 1000 := by
  obtain ⟨h1, _⟩ := h.last
  have hl := h.len
  cases e : s.cast.length with
  | zero => rw [e, lastV_zero] at h1; rw [h1]; simp [noV]
  | succ n =>
    rw [e, lastV_succ] at h1
    have := votB_iff.1 (h.at_ n (by omega)).1
    rw [h1]
    omega
end Go.Proofs.Yteppnppknfldbaa

