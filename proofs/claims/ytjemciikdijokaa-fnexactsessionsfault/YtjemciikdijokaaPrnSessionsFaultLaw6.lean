import Derived.Test.YtjemciikdijokaaPrnSessionsFaultLaw3
import Derived.Test.YtjemciikdijokaaPrnSessionsFaultLaw1
import Derived.Deep.RegionHeld3
import Derived.Deep.DrawnRows
import Derived.BigQuiet
import Derived.Deep.QuietTactic
import Derived.Maps.AppendAt

/-
  Ledger. (Written by program: nest.py.)
-/
namespace Go.Proofs.Ytjemciikdijokaa
open Go.RowKit
set_option linter.unusedSectionVars false
variable [DecidableEq Bal] [Inhabited Bal]
attribute [local go_sem ↓] Go.wp_at_zero Go.wp_at_succ

structure Ledg where
  shards : List (List Bal)
variable [DecidableEq Ledg] [Inhabited Ledg]

end Go.Proofs.Ytjemciikdijokaa

/-
  Contracts of the small functions of chapter 1: a number within bounds, what is asked of one leg, on both sides (specification and program).
-/
namespace Go.Proofs.Ytjemciikdijokaa
open Go.RowKit
set_option linter.unusedSectionVars false
variable [DecidableEq Leg] [Inhabited Leg]

def inB (n lo hi : Int) : Bool := decide (lo ≤ n) && decide (n ≤ hi)
set_option maxHeartbeats 400000 in
theorem l1In_any (n lo hi : Int) (w : World) :
    Calls Try.prog 21 #[.int .i64 n, .int .i64 lo, .int .i64 hi] w fun e w' => e = .returned (.bool (inB n lo hi)) ∧ w' = w := by
  by_cases h1 : lo ≤ n
  all_goals
    go_enter Try.func21, Try.ntmps21
    go_wp2
    go_ret
    exact ⟨by first | (simp [inB, h1]; done) | (simp [inB]; omega), rfl⟩
set_option maxHeartbeats 400000 in
theorem within_any (n lo hi : Int) (w : World) :
    Calls Try.prog 24 #[.int .i64 n, .int .i64 lo, .int .i64 hi] w fun e w' => e = .returned (.bool (inB n lo hi)) ∧ w' = w := by
  by_cases h1 : lo ≤ n
  all_goals
    go_enter Try.func24, Try.ntmps24
    go_wp2
    go_ret
    exact ⟨by first | (simp [inB, h1]; done) | (simp [inB]; omega), rfl⟩
end Go.Proofs.Ytjemciikdijokaa

/-
  Chapter 2 in plain mathematics: faults of balances and ledgers, what is had, totals, what can be settled.
-/
namespace Go.Proofs.Ytjemciikdijokaa
open Go.RowKit
set_option linter.unusedSectionVars false
variable [DecidableEq Bal] [Inhabited Bal] [DecidableEq Ledg] [Inhabited Ledg] [DecidableEq Leg] [Inhabited Leg]

theorem wrapId {n : Int} (h0 : -9223372036854775808 ≤ n) (h1 : n ≤ 9223372036854775807) : IntKind.i64.wrap n = n := by
  rw [IntKind.wrap_i64]; omega
theorem bdrewN {B : Nat} {w Y : World} (h : Below B w Y) (n : Nat) : Below B w (Y.drewN n) := h.trans ⟨rfl, rfl, rfl, Nat.le_refl _, fun _ _ => rfl⟩
def scanI (f : Nat → Int) : Nat → Int
  | 0 => 0
  | n + 1 => if scanI f n = 0 then f n else scanI f n
theorem scanI_succ {f : Nat → Int} {k : Nat} (h : scanI f k = 0) (h' : f k = 0) : scanI f (k + 1) = 0 := by simp [scanI, h, h']
theorem scanI_hit {f : Nat → Int} {k : Nat} (h : scanI f k = 0) (h' : f k ≠ 0) : ∀ n, k < n → scanI f n = f k
  | 0, hn => by omega
  | n + 1, hn => by
    by_cases e : k = n
    · subst e; simp [scanI, h]
    · have := scanI_hit h h' n (by omega)
      simp [scanI, this, h']
end Go.Proofs.Ytjemciikdijokaa

/-
  Rows of values that hold memory: one put in between or behind them, one put in another's place.
-/
set_option linter.unusedVariables false
namespace Go.Proofs.Ytjemciikdijokaa
open Go.RowKit

theorem PO.putN {α : Type} {R : Rep α} {e size : Nat} {lv : Value → List Value} {W W' : World} {base : Nat} {v : Value} {n i : Nat} {d : Nat → α} {cs cs' : List Value} {us : Nat → Value} {fs : Nat → Nat → Prop} {u : Value} {x : α} {Fu : Nat → Prop}
    (h : PO R e size lv W base v n n d cs us fs) (hi : i < n) (hu : R.O W base Fu u x) (hl : (lv u).length = size) (hd : ∀ j, j < n → ∀ b, fs j b → ¬ Fu b) (hvu : ∀ b, Fu b → v.ownBlock ≠ some b)
    (hr : W'.ownsRow base e size v n cs') (hm : Mod (fun b => v.ownBlock = some b) W W') (hold : ∀ j, j < n → j ≠ i → ∀ o, o < size → cs'[j * size + o]? = cs[j * size + o]?) (hnew : ∀ o, o < size → cs'[i * size + o]? = (lv u)[o]?) :
    PO R e size lv W' base v n n (upd d i x) cs' (upd us i u) (upd fs i Fu) := by
  refine ⟨hr, fun j hj => ?_, fun j hj => ?_, fun j hj o ho => ?_, fun j hj b hb => ?_, fun j k hj hk hjk b h1 h2 => ?_⟩
  · by_cases e1 : j = i
    · subst e1; rw [upd_at, upd_at, upd_at]; exact R.mod hu hm (fun b hb => hvu b hb)
    · rw [upd_ne _ _ e1, upd_ne _ _ e1, upd_ne _ _ e1]; exact R.mod (h.el j hj) hm (fun b hb => h.out j hj b hb)
  · by_cases e1 : j = i
    · subst e1; rw [upd_at]; exact hl
    · rw [upd_ne _ _ e1]; exact h.ln j hj
  · by_cases e1 : j = i
    · subst e1; rw [upd_at]; exact hnew o ho
    · rw [upd_ne _ _ e1, hold j hj e1 o ho]; exact h.cell j hj o ho
  · by_cases e1 : j = i
    · subst e1; rw [upd_at] at hb; exact hvu b hb
    · rw [upd_ne _ _ e1] at hb; exact h.out j hj b hb
  · by_cases e1 : j = i
    · subst e1
      rw [upd_at] at h1
      rw [upd_ne _ _ (Ne.symm hjk)] at h2
      exact hd k hk b h2 h1
    · rw [upd_ne _ _ e1] at h1
      by_cases e2 : k = i
      · subst e2; rw [upd_at] at h2; exact hd j hj b h1 h2
      · rw [upd_ne _ _ e2] at h2; exact h.sep j k hj hk hjk b h1 h2
theorem getD_set {α : Type} [Inhabited α] (xs : List α) (x : α) (i k : Nat) (hi : i < xs.length) : (xs.set i x).getD k default = upd (fun k => xs.getD k default) i x k := by
  simp only [List.getD_eq_getElem?_getD, List.getElem?_set]
  by_cases e : i = k
  · subst e
    rw [if_pos rfl, if_pos hi, upd_at]
    rfl
  · rw [if_neg e, upd_ne _ _ (Ne.symm e)]
theorem NO.put {α : Type} [Inhabited α] {R : Rep α} {e size : Nat} {lv : Value → List Value} {W W' : World} {base : Nat} {v : Value} {i : Nat} {xs : List α} {cs cs' : List Value} {us : Nat → Value} {fs : Nat → Nat → Prop} {u : Value} {x : α} {F Fu : Nat → Prop}
    (h : PO R e size lv W base v xs.length xs.length (fun i => xs.getD i default) cs us fs) (hF : ∀ b, F b ↔ (v.ownBlock = some b ∨ ∃ i, i < xs.length ∧ fs i b)) (hi : i < xs.length) (hu : R.O W base Fu u x) (hl : (lv u).length = size) (hd : ∀ b, F b → ¬ Fu b)
    (hr : W'.ownsRow base e size v xs.length cs') (hm : Mod (fun b => v.ownBlock = some b) W W') (hold : ∀ j, j < xs.length → j ≠ i → ∀ o, o < size → cs'[j * size + o]? = cs[j * size + o]?) (hnew : ∀ o, o < size → cs'[i * size + o]? = (lv u)[o]?) :
    ∃ F', NO R e size lv W' base F' v (xs.set i x) ∧ ∀ b, F' b → F b ∨ Fu b := by
  have hp := h.putN hi hu hl (fun j hj b hb => hd b ((hF b).2 (.inr ⟨j, hj, hb⟩))) (fun b hb e => hd b ((hF b).2 (.inl e)) hb) hr hm hold hnew
  have hlen : (xs.set i x).length = xs.length := by simp
  refine ⟨fun b => v.ownBlock = some b ∨ ∃ k, k < xs.length ∧ upd fs i Fu k b, ⟨cs', upd us i u, upd fs i Fu, ?_, fun b => by rw [hlen]⟩, fun b hb => ?_⟩
  · rw [hlen]
    exact hp.cast (fun k hk => getD_set xs x i k hi)
  · rcases hb with hb | ⟨k, hk, hb⟩
    · exact .inl ((hF b).2 (.inl hb))
    · by_cases e1 : k = i
      · subst e1; rw [upd_at] at hb; exact .inr hb
      · rw [upd_ne _ _ e1] at hb; exact .inl ((hF b).2 (.inr ⟨k, hk, hb⟩))
end Go.Proofs.Ytjemciikdijokaa

