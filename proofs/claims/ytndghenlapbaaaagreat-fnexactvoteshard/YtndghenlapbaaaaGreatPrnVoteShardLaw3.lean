import Derived.Test.YtndghenlapbaaaaGreatPrnVoteShardLaw2
import Derived.Test.YtndghenlapbaaaaGreatPrnVoteShardLaw1
import Derived.Deep.RegionHeld3
import Derived.Deep.DrawnRows
import Derived.BigQuiet
import Derived.Deep.QuietTactic
set_option linter.unusedSectionVars false

/-
 Rows of impl.Balance: the uniform forms. (Written by program: nest.py.)
-/
namespace Go.Proofs.YtndghenlapbaaaaGreat
open Go.RowKit
variable [DecidableEq Bal] [Inhabited Bal]
attribute [local go_sem ↓] Go.wp_at_zero Go.wp_at_succ

def balsR : Rep (List Bal) := fRep 99 3 balsC BalsV BalsV_below BalsV_of_owns
def wtBals (xs : List Bal) : Nat := xs.length
def cntBals (xs : List Bal) : Nat := 3 * xs.length
def mkBals (k : Int) (xs : List Bal) : List Bal := balMarks k xs.length
theorem bals_form {w : World} {v : Value} {xs : List Bal} (h : balsR.V w v xs) : ∃ a c, v = .slice a xs.length c := by
 obtain ⟨a, c, rfl, _⟩ := h
 exact ⟨_, _, rfl⟩
theorem bals_cnt (d : List Bal) : cntBals d ≤ 3 * wtBals d := by unfold cntBals wtBals; omega
theorem toBalanceS_u (x : Value) (d : List Bal) (w : World) (hx : balsR.V w x d) (hn : wtBals d ≤ 1048576) :
  Calls Tryz.prog 29 #[x] w fun e w' => ∃ v F, e = .returned v ∧ balsR.O w' w.heap.size F v d ∧ Below w.heap.size w w' := by
 refine (toBalanceS_any x d w hx hn).mono ?_
 rintro e w' ⟨v, rfl, ho, hb⟩
 exact ⟨v, _, rfl, ⟨ho, rfl⟩, hb⟩
theorem eqBalanceS_u (x y : Value) (d d' : List Bal) (w : World) (hx : balsR.V w x d) (hy : balsR.V w y d') :
  Calls Tryz.prog 41 #[x, y] w fun e w' => e = .returned (.bool (decide (d = d'))) ∧ Below w.heap.size w w' := eqBalanceS_any x y d d' w hx hy
theorem szBalanceS_u (x : Value) (d : List Bal) (left : Int) (w : World) (hx : balsR.V w x d) (h0 : 0 ≤ left) (h1 : left ≤ 1048576) :
  Calls Tryz.prog 20 #[x, .int .i64 left] w fun e w' => e = .returned (.int .i64 (szLen left (wtBals d))) ∧ Below w.heap.size w w' := by
 refine (szBalanceS_any x d left w hx h0 h1).mono ?_
 rintro e w' ⟨rfl, rfl⟩
 exact ⟨rfl, Below.refl _ _⟩
theorem markBalanceS_u (v : Value) (d : List Bal) (base : Nat) (F : Nat → Prop) (k : Int) (w : World) (ho : balsR.O w base F v d) (hw : wtBals d ≤ 1048576) (hn : k + cntBals d ≤ 1073741824) (hk0 : 0 ≤ k) :
  Calls Tryz.prog 46 #[v, .int .i64 k] w fun r w' => r = .returned (.int .i64 (k + cntBals d)) ∧ balsR.O w' base F v (mkBals k d) ∧ Mod F w w' := by
 refine (markBalanceS_any v d.length _ base _ k w ho.1 hw hk0 (by omega)).mono ?_
 rintro e w' ⟨rfl, h1, h2⟩
 refine ⟨by simp [cntBals], ⟨?_, ho.2⟩, by rw [ho.2]; exact Mod.of_grown h2⟩
 unfold mkBals
 rw [length_balMarks]
 exact h1
theorem heldBalanceS_u (v : Value) (d : List Bal) (k : Int) (w : World) (hv : balsR.V w v (mkBals k d)) (hw : wtBals d ≤ 1048576) (hn : k + cntBals d ≤ 1073741824) (hk0 : 0 ≤ k) :
  Calls Tryz.prog 87 #[v, .int .i64 k] w fun r w' => r = .returned (.int .i64 (k + cntBals d)) ∧ Below w.heap.size w w' := by
 refine (heldBalanceS_any v d.length k w hv hw hk0 (by omega)).mono ?_
 rintro e w' ⟨rfl, rfl⟩
 exact ⟨by simp [cntBals], Below.refl _ _⟩
end Go.Proofs.YtndghenlapbaaaaGreat

/-
 Rows of []Balance. (Written by program: nest.py.)
-/
namespace Go.Proofs.YtndghenlapbaaaaGreat
open Go.RowKit
variable [DecidableEq Bal] [Inhabited Bal]
attribute [local go_sem ↓] Go.wp_at_zero Go.wp_at_succ

def balssR : Rep (List (List Bal)) := nRep balsR 33 1 one
end Go.Proofs.YtndghenlapbaaaaGreat

/-
 Ledger. (Written by program: nest.py.)
-/
namespace Go.Proofs.YtndghenlapbaaaaGreat
open Go.RowKit
variable [DecidableEq Bal] [Inhabited Bal]
attribute [local go_sem ↓] Go.wp_at_zero Go.wp_at_succ

structure Ledg where
 shards : List (List Bal)
variable [DecidableEq Ledg] [Inhabited Ledg]

def ledgR : Rep Ledg where
 V := fun w v x => ∃ u1, v = .agg #[u1] ∧ balssR.V w u1 x.shards
 O := fun w base F v x => ∃ u1 F1, v = .agg #[u1] ∧ balssR.O w base F1 u1 x.shards ∧ (∀ b, F b ↔ (F1 b))
 below := fun h hb => by
  obtain ⟨u1, rfl, h1⟩ := h
  exact ⟨u1, rfl, balssR.below h1 hb⟩
 ofO := fun h => by
  obtain ⟨u1, F1, rfl, h1, _⟩ := h
  exact ⟨u1, rfl, balssR.ofO h1⟩
 mod := fun h hm hd => by
  obtain ⟨u1, F1, rfl, h1, hF⟩ := h
  exact ⟨u1, F1, rfl, balssR.mod h1 hm (fun b hb => hd b ((hF b).2 hb)), hF⟩
 rng := fun h b hb => by
  obtain ⟨u1, F1, rfl, h1, hF⟩ := h
  rcases (hF b).1 hb with hb
  ·
   exact balssR.rng h1 b hb
 base := fun h hb => by
  obtain ⟨u1, F1, rfl, h1, hF⟩ := h
  exact ⟨u1, F1, rfl, balssR.base h1 hb, hF⟩
end Go.Proofs.YtndghenlapbaaaaGreat

/-
 A leg as a value: the law's own copy and comparison of one leg.
-/
namespace Go.Proofs.YtndghenlapbaaaaGreat
open Go.RowKit

structure Leg where
 sh : Int
 ac : Int
 ast : Int
 am : Int
variable [DecidableEq Leg] [Inhabited Leg]

def legV (l : Leg) : Value := .agg #[.int .i64 l.sh, .int .i64 l.ac, .int .i64 l.ast, .int .i64 l.am]
set_option maxHeartbeats 400000 in
theorem toLeg_any (l : Leg) (w : World) :
  Calls Tryz.prog 71 #[legV l] w fun e w' => e = .returned (legV l) ∧ Below w.heap.size w w' := by
 obtain ⟨a, b, c, d⟩ := l
 unfold legV
 go_enter Tryz.func71, Tryz.ntmps71
 go_wp2
 exact bodyPost_ret (v := .agg #[.int .i64 a, .int .i64 b, .int .i64 c, .int .i64 d]) (by simp [results, Tryz.results71, go_sem]) rfl ⟨rfl, (by repeat (first | exact Below.refl _ _ | (refine Below.drew ?_) | (refine Below.alloc ?_ (by first | (simp; done) | (simp; omega)) _)))⟩
set_option maxHeartbeats 400000 in
theorem eqLeg_any (x y : Leg) (w : World) :
  Calls Tryz.prog 86 #[legV x, legV y] w fun e w' => e = .returned (.bool (decide (x = y))) ∧ Below w.heap.size w w' := by
 obtain ⟨a, b, c, d⟩ := x
 obtain ⟨a', b', c', d'⟩ := y
 unfold legV
 go_enter Tryz.func86, Tryz.ntmps86
 go_wp2
 all_goals
  go_ret
  exact ⟨by simp_all, (by repeat (first | exact Below.refl _ _ | (refine Below.drew ?_) | (refine Below.alloc ?_ (by first | (simp; done) | (simp; omega)) _)))⟩
end Go.Proofs.YtndghenlapbaaaaGreat

