/-
  NewEngine, on both sides.
-/
import Derived.Test.YtdfapehonegeeaaSEngR
import Derived.Test.YtdfapehonegeeaaRowA
namespace Go.Proofs.Ytdfapehonegeeaa
open Go.RowKit
set_option linter.unusedSectionVars false
variable [DecidableEq Logg] [Inhabited Logg] [DecidableEq Rw] [Inhabited Rw] [DecidableEq Engn] [Inhabited Engn] [DecidableEq EngR] [Inhabited EngR]
set_option linter.unusedVariables false
set_option linter.unusedSimpArgs false
attribute [local go_sem ↓] Go.wp_at_zero Go.wp_at_succ

def nilV : Value := .slice none 0 0
theorem nil_own {b : Nat} (h : (Value.slice none 0 0).ownBlock = some b) : False := by simp [Value.ownBlock] at h

theorem logg_nil (w : World) (base : Nat) : loggR.O w base (fun _ => False) (.agg #[.slice none 0 0, .slice none 0 0]) ⟨[], []⟩ :=
  ⟨_, _, fun b => (Value.slice none 0 0).ownBlock = some b, fun b => (Value.slice none 0 0).ownBlock = some b, rfl, ⟨World.ownsRow_nil _ _ _ _, rfl⟩, ⟨World.ownsRow_nil _ _ _ _, rfl⟩, fun _ h => (nil_own h).elim, fun b => ⟨fun h => h.elim, fun h => h.elim nil_own nil_own⟩⟩

theorem rowss_nil (w : World) (base : Nat) : rowssR.O w base (fun _ => False) (.slice none 0 0) [] :=
  ⟨[], fun _ => .nilFunc, fun _ _ => False, ⟨World.ownsRow_nil _ _ _ _, fun i hi => absurd hi (Nat.not_lt_zero _), fun i hi => absurd hi (Nat.not_lt_zero _), fun i hi => absurd hi (Nat.not_lt_zero _), fun i hi => absurd hi (Nat.not_lt_zero _), fun i j hi => absurd hi (Nat.not_lt_zero _)⟩,
    fun b => ⟨fun h => h.elim, fun h => h.elim nil_own (fun ⟨i, hi, _⟩ => absurd hi (Nat.not_lt_zero _))⟩⟩

theorem rows_nilO (w : World) (base : Nat) : rowsR.O w base (fun _ => False) (.slice none 0 0) [] :=
  ⟨⟨World.ownsRow_nil _ _ _ _, by funext b; exact propext ⟨fun h => h.elim, nil_own⟩⟩, fun i hi => absurd hi (Nat.not_lt_zero _)⟩

theorem engn_nil (w : World) (base : Nat) (n : Int) : engnR.O w base (fun _ => False) (.agg #[.slice none 0 0, .slice none 0 0, .slice none 0 0, .slice none 0 0, .int .i64 n]) ⟨⟨[], []⟩, [], [], n⟩ :=
  ⟨_, _, _, _, _, _, _, rfl, logg_nil w base, rows_nilO w base, rowss_nil w base, fun _ h => h.elim, fun _ h => h.elim, fun _ h => h.elim, fun b => ⟨fun h => h.elim, fun h => h.elim id (fun h => h.elim id id)⟩⟩

theorem engR_nil (w : World) (base : Nat) (c v n : Int) : engRR.O w base (fun _ => False) (.agg #[.int .i64 c, .int .i64 v, .slice none 0 0, .slice none 0 0, .slice none 0 0, .slice none 0 0, .int .i64 n]) ⟨c, v, ⟨⟨[], []⟩, [], [], n⟩⟩ :=
  ⟨_, _, _, _, _, rfl, engn_nil w base n, fun _ => Iff.rfl⟩

def newD (k : Int) : EngR := if inR k 1 1000000 = true then ⟨0, 0, ⟨⟨[], []⟩, [], [], k⟩⟩ else ⟨3, 0, ⟨⟨[], []⟩, [], [], 0⟩⟩

theorem isVersion_any (a : Int) (w : World) :
    Calls Try.prog 81 #[.int .i64 a] w fun e w' => e = .returned (.bool (inR a 1 1000000)) ∧ w' = w := by
  go_enter Try.func81, Try.ntmps81
  go_wp2_with (go_at_call 101; refine (withinR_any _ _ _ _).mono ?_; rintro e w' ⟨rfl, rfl⟩)
  go_ret
  exact ⟨rfl, rfl⟩

set_option maxHeartbeats 1000000 in
theorem specNew_u (k : Int) (w : World) :
    Calls Try.prog 47 #[.int .i64 k] w fun e w' => ∃ v F, e = .returned v ∧ engRR.O w' w.heap.size F v (newD k) ∧ Below w.heap.size w w' := by
  unfold newD
  cases hin : inR k 1 1000000
  · go_enter Try.func47, Try.ntmps47
    go_wp2_with (go_at_call 80; refine (l1InR_any _ _ _ _).mono ?_; rintro e w' ⟨rfl, rfl⟩; rw [hin])
    refine bodyPost_ret (v := .agg #[.int .i64 3, .int .i64 0, .slice none 0 0, .slice none 0 0, .slice none 0 0, .slice none 0 0, .int .i64 0]) (by simp [results, Try.results47, go_sem]) rfl ?_
    exact ⟨_, rfl, ⟨_, engR_nil _ _ 3 0 0⟩, by (repeat (first | exact Below.refl _ _ | assumption | refine Below.drew ?_ | refine balloc ?_ _ | refine bset ?_ (by simp; omega) _ | refine bset ?_ (by simp) _ | refine bstep ?_ (by assumption)))⟩
  · go_enter Try.func47, Try.ntmps47
    go_wp2_with (go_at_call 80; refine (l1InR_any _ _ _ _).mono ?_; rintro e w' ⟨rfl, rfl⟩; rw [hin])
    refine bodyPost_ret (v := .agg #[.int .i64 0, .int .i64 0, .slice none 0 0, .slice none 0 0, .slice none 0 0, .slice none 0 0, .int .i64 k]) (by simp [results, Try.results47, go_sem]) rfl ?_
    exact ⟨_, rfl, ⟨_, engR_nil _ _ 0 0 k⟩, by (repeat (first | exact Below.refl _ _ | assumption | refine Below.drew ?_ | refine balloc ?_ _ | refine bset ?_ (by simp; omega) _ | refine bset ?_ (by simp) _ | refine bstep ?_ (by assumption)))⟩

set_option maxHeartbeats 1000000 in
theorem implNew_u (k : Int) (w : World) :
    Calls Try.prog 48 #[.int .i64 k] w fun e w' => ∃ v F, e = .returned v ∧ engRR.O w' w.heap.size F v (newD k) ∧ Below w.heap.size w w' := by
  unfold newD
  cases hin : inR k 1 1000000
  · go_enter Try.func48, Try.ntmps48
    go_wp2_with (go_at_call 81; refine (isVersion_any _ _).mono ?_; rintro e w' ⟨rfl, rfl⟩; rw [hin])
    refine bodyPost_ret (v := .agg #[.int .i64 3, .int .i64 0, .slice none 0 0, .slice none 0 0, .slice none 0 0, .slice none 0 0, .int .i64 0]) (by simp [results, Try.results48, go_sem]) rfl ?_
    exact ⟨_, rfl, ⟨_, engR_nil _ _ 3 0 0⟩, by (repeat (first | exact Below.refl _ _ | assumption | refine Below.drew ?_ | refine balloc ?_ _ | refine bset ?_ (by simp; omega) _ | refine bset ?_ (by simp) _ | refine bstep ?_ (by assumption)))⟩
  · go_enter Try.func48, Try.ntmps48
    go_wp2_with (go_at_call 81; refine (isVersion_any _ _).mono ?_; rintro e w' ⟨rfl, rfl⟩; rw [hin])
    refine bodyPost_ret (v := .agg #[.int .i64 0, .int .i64 0, .slice none 0 0, .slice none 0 0, .slice none 0 0, .slice none 0 0, .int .i64 k]) (by simp [results, Try.results48, go_sem]) rfl ?_
    exact ⟨_, rfl, ⟨_, engR_nil _ _ 0 0 k⟩, by (repeat (first | exact Below.refl _ _ | assumption | refine Below.drew ?_ | refine balloc ?_ _ | refine bset ?_ (by simp; omega) _ | refine bset ?_ (by simp) _ | refine bstep ?_ (by assumption)))⟩

theorem newD_wt (k : Int) : wtEngR (newD k) = 0 := by
  unfold newD
  split <;> rfl

end Go.Proofs.Ytdfapehonegeeaa
