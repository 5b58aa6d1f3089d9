import Derived.Test.YtndghenlapbaaaaGreatPrnVoteShardLaw3
import Derived.BigQuiet
import Derived.Deep.QuietTactic
import Derived.Test.YtndghenlapbaaaaGreatPrnVoteShardLaw1
import Derived.Test.YtndghenlapbaaaaGreatPrnVoteShardLaw2
import Derived.RangeFuncNested
import Derived.RangeFuncBound
import Derived.RangeFuncCalls
import Derived.RangeFuncLeaves
import Derived.Shelf.Abstract
set_option linter.unusedSectionVars false
set_option linter.unusedVariables false
set_option linter.unusedSimpArgs false

/-
 Contracts of the small functions of chapter 1: a number within bounds, what is asked of one leg, on both sides (specification and program).
-/
namespace Go.Proofs.YtndghenlapbaaaaGreat
open Go.RowKit
variable [DecidableEq Leg] [Inhabited Leg]

def inB (n lo hi : Int) : Bool := decide (lo ≤ n) && decide (n ≤ hi)
set_option maxHeartbeats 400000 in
theorem l1In_any (n lo hi : Int) (w : World) :
  Calls Tryz.prog 53 #[.int .i64 n, .int .i64 lo, .int .i64 hi] w fun e w' => e = .returned (.bool (inB n lo hi)) ∧ w' = w := by
 by_cases h1 : lo ≤ n
 all_goals
  go_enter Tryz.func53, Tryz.ntmps53
  go_wp2
  go_ret
  exact ⟨by first | (simp [inB, h1]; done) | (simp [inB]; omega), rfl⟩
set_option maxHeartbeats 400000 in
theorem within_any (n lo hi : Int) (w : World) :
  Calls Tryz.prog 95 #[.int .i64 n, .int .i64 lo, .int .i64 hi] w fun e w' => e = .returned (.bool (inB n lo hi)) ∧ w' = w := by
 by_cases h1 : lo ≤ n
 all_goals
  go_enter Tryz.func95, Tryz.ntmps95
  go_wp2
  go_ret
  exact ⟨by first | (simp [inB, h1]; done) | (simp [inB]; omega), rfl⟩
set_option maxHeartbeats 400000 in
theorem l1Id_any (n : Int) (w : World) :
  Calls Tryz.prog 52 #[.int .i64 n] w fun e w' => e = .returned (.bool (inB n 1 1000000000)) ∧ w' = w := by
 go_enter Tryz.func52, Tryz.ntmps52
 go_wp2_with (go_at_call 53; refine (l1In_any _ _ _ _).mono ?_; rintro e w' ⟨rfl, rfl⟩)
 go_ret
 exact ⟨rfl, rfl⟩
set_option maxHeartbeats 400000 in
theorem isId_any (n : Int) (w : World) :
  Calls Tryz.prog 56 #[.int .i64 n] w fun e w' => e = .returned (.bool (inB n 1 1000000000)) ∧ w' = w := by
 go_enter Tryz.func56, Tryz.ntmps56
 go_wp2_with (go_at_call 95; refine (within_any _ _ _ _).mono ?_; rintro e w' ⟨rfl, rfl⟩)
 go_ret
 exact ⟨rfl, rfl⟩
set_option maxHeartbeats 400000 in
theorem isShard_any (n : Int) (w : World) :
  Calls Tryz.prog 143 #[.int .i64 n] w fun e w' => e = .returned (.bool (inB n 0 2)) ∧ w' = w := by
 go_enter Tryz.func143, Tryz.ntmps143
 go_wp2_with (go_at_call 95; refine (within_any _ _ _ _).mono ?_; rintro e w' ⟨rfl, rfl⟩)
 go_ret
 exact ⟨rfl, rfl⟩
set_option maxHeartbeats 400000 in
theorem isAccount_any (n : Int) (w : World) :
  Calls Tryz.prog 155 #[.int .i64 n] w fun e w' => e = .returned (.bool (inB n 0 5)) ∧ w' = w := by
 go_enter Tryz.func155, Tryz.ntmps155
 go_wp2_with (go_at_call 95; refine (within_any _ _ _ _).mono ?_; rintro e w' ⟨rfl, rfl⟩)
 go_ret
 exact ⟨rfl, rfl⟩
set_option maxHeartbeats 400000 in
theorem isAsset_any (n : Int) (w : World) :
  Calls Tryz.prog 156 #[.int .i64 n] w fun e w' => e = .returned (.bool (inB n 0 2)) ∧ w' = w := by
 go_enter Tryz.func156, Tryz.ntmps156
 go_wp2_with (go_at_call 95; refine (within_any _ _ _ _).mono ?_; rintro e w' ⟨rfl, rfl⟩)
 go_ret
 exact ⟨rfl, rfl⟩
def placeB (l : Leg) : Bool := inB l.sh 0 2 && inB l.ac 0 5 && inB l.ast 0 2
def legFault (l : Leg) : Int := if placeB l && inB l.am (-1000000000000) 1000000000000 then (if l.am = 0 then 1 else 0) else 3
set_option maxHeartbeats 400000 in
theorem isPlace_any (l : Leg) (w : World) :
  Calls Tryz.prog 135 #[legV l] w fun e w' => e = .returned (.bool (placeB l)) ∧ Below w.heap.size w w' := by
 obtain ⟨a, b, c, d⟩ := l
 unfold legV placeB
 go_enter Tryz.func135, Tryz.ntmps135
 go_wp2_with (first | (go_at_call 143; refine (isShard_any _ _).mono ?_; rintro e w' ⟨rfl, rfl⟩) | (go_at_call 155; refine (isAccount_any _ _).mono ?_; rintro e w' ⟨rfl, rfl⟩) | (go_at_call 156; refine (isAsset_any _ _).mono ?_; rintro e w' ⟨rfl, rfl⟩))
 all_goals
  go_ret
  exact ⟨by simp [*], (by repeat (first | exact Below.refl _ _ | (refine Below.drew ?_) | (refine Below.alloc ?_ (by first | (simp; done) | (simp; omega)) _)))⟩
set_option maxHeartbeats 400000 in
theorem specLegFault_any (l : Leg) (w : World) :
  Calls Tryz.prog 63 #[legV l] w fun e w' => e = .returned (.int .i64 (legFault l)) ∧ Below w.heap.size w w' := by
 obtain ⟨a, b, c, d⟩ := l
 unfold legV
 go_enter Tryz.func63, Tryz.ntmps63
 go_wp2_with (go_at_call 53; refine (l1In_any _ _ _ _).mono ?_; rintro e w' ⟨rfl, rfl⟩)
 all_goals
  go_ret
  exact ⟨by simp_all [legFault, placeB], (by repeat (first | exact Below.refl _ _ | (refine Below.drew ?_) | (refine Below.alloc ?_ (by first | (simp; done) | (simp; omega)) _)))⟩
set_option maxHeartbeats 400000 in
theorem implLegFault_any (l : Leg) (w : World) :
  Calls Tryz.prog 104 #[legV l] w fun e w' => e = .returned (.int .i64 (legFault l)) ∧ Below w.heap.size w w' := by
 obtain ⟨a, b, c, d⟩ := l
 unfold legV
 go_enter Tryz.func104, Tryz.ntmps104
 go_wp2_with (first | (go_at_call 135; refine (isPlace_any ⟨a, b, c, d⟩ _).mono ?_; rintro e w' ⟨rfl, hb⟩; obtain ⟨hc, hf⟩ := bcell hb) | (go_at_call 95; refine (within_any _ _ _ _).mono ?_; rintro e w' ⟨rfl, rfl⟩))
 all_goals
  go_ret
  exact ⟨by simp_all [legFault], ((Below.refl _ _).alloc (Nat.le_refl _) _).trans (hb.mono (by simp))⟩
set_option maxHeartbeats 400000 in
theorem placeOf_any (l : Leg) (w : World) :
  Calls Tryz.prog 136 #[legV l] w fun e w' => e = .returned (legV ⟨l.sh, l.ac, l.ast, 0⟩) ∧ Below w.heap.size w w' := by
 obtain ⟨a, b, c, d⟩ := l
 unfold legV
 go_enter Tryz.func136, Tryz.ntmps136
 go_wp2
 exact bodyPost_ret (v := .agg #[.int .i64 a, .int .i64 b, .int .i64 c, .int .i64 0]) (by simp [results, Tryz.results136, go_sem]) rfl ⟨rfl, (by repeat (first | exact Below.refl _ _ | (refine Below.drew ?_) | (refine Below.alloc ?_ (by first | (simp; done) | (simp; omega)) _)))⟩
end Go.Proofs.YtndghenlapbaaaaGreat

/-
 Chapter 2 in plain mathematics: faults of balances and ledgers, what is had, totals, what can be settled.
-/
namespace Go.Proofs.YtndghenlapbaaaaGreat
open Go.RowKit
variable [DecidableEq Bal] [Inhabited Bal] [DecidableEq Ledg] [Inhabited Ledg] [DecidableEq Leg] [Inhabited Leg]

theorem wrapId {n : Int} (h0 : -9223372036854775808 ≤ n) (h1 : n ≤ 9223372036854775807) : IntKind.i64.wrap n = n := by
 rw [IntKind.wrap_i64]; omega
theorem bdrewN {B : Nat} {w Y : World} (h : Below B w Y) (n : Nat) : Below B w (Y.drewN n) := h.trans ⟨rfl, rfl, rfl, Nat.le_refl _, fun _ _ => rfl⟩
def scanI (f : Nat → Int) : Nat → Int
 | 0 => 0
 | n + 1 => if scanI f n = 0 then f n else scanI f n
theorem scanI_succ {f : Nat → Int} {k : Nat} (h : scanI f k = 0) (h' : f k = 0) : scanI f (k + 1) = 0 := by simp [scanI, h, h']
theorem scanI_hit {f : Nat → Int} {k : Nat} (h : scanI f k = 0) (h' : f k ≠ 0) : ∀ n, k < n → scanI f n = f k
 | 0, hn => by omega
 | n + 1, hn => by
  by_cases e : k = n
  ·
   subst e; simp [scanI, h]
  ·
   have := scanI_hit h h' n (by omega)
   simp [scanI, this, h']
theorem scanI_zero {f : Nat → Int} : ∀ {n : Nat}, scanI f n = 0 → ∀ k, k < n → f k = 0
 | 0, _, k, hk => by omega
 | n + 1, h, k, hk => by
  unfold scanI at h
  split at h
  ·
   rename_i h1
   by_cases e : k = n
   ·
    subst e; exact h
   ·
    exact scanI_zero h1 k (by omega)
  ·
   exact absurd h (by assumption)
theorem scanI_of {f : Nat → Int} : ∀ {n : Nat}, (∀ k, k < n → f k = 0) → scanI f n = 0
 | 0, _ => rfl
 | n + 1, h => scanI_succ (scanI_of (fun k hk => h k (by omega))) (h n (by omega))
def keyOk (ac ast : Int) : Bool := inB ac 0 5 && inB ast 0 2
def balOk (x : Bal) : Bool := keyOk x.ac x.ast && inB x.am 1 1000000000000
def behind (b a : Bal) : Bool := if b.ac = a.ac then decide (a.ast < b.ast) else decide (a.ac < b.ac)
def balAt (xs : List Bal) (k : Nat) : Int := if balOk (xs.getD k default) then (if 0 < k ∧ behind (xs.getD k default) (xs.getD (k - 1) default) = false then 1 else 0) else 3
def balFault (xs : List Bal) : Int := if 18 < xs.length then 2 else scanI (balAt xs) xs.length
def ledAt (g : Ledg) (k : Nat) : Int := balFault (g.shards.getD k default)
def ledFault (g : Ledg) : Int := if g.shards.length < 1 ∨ 3 < g.shards.length then 2 else scanI (ledAt g) g.shards.length
theorem inBi {n lo hi : Int} : inB n lo hi = true ↔ lo ≤ n ∧ n ≤ hi := by simp [inB]
theorem keyOk_iff {a s : Int} : keyOk a s = true ↔ (0 ≤ a ∧ a ≤ 5) ∧ (0 ≤ s ∧ s ≤ 2) := by simp [keyOk, inBi]
theorem balOk_iff {x : Bal} : balOk x = true ↔ ((0 ≤ x.ac ∧ x.ac ≤ 5) ∧ (0 ≤ x.ast ∧ x.ast ≤ 2)) ∧ (1 ≤ x.am ∧ x.am ≤ 1000000000000) := by simp [balOk, keyOk_iff, inBi]
theorem behind_iff {b a : Bal} (hb : keyOk b.ac b.ast = true) (ha : keyOk a.ac a.ast = true) : behind b a = false ↔ b.ac * 3 + b.ast ≤ a.ac * 3 + a.ast := by
 obtain ⟨⟨_, _⟩, _, _⟩ := keyOk_iff.1 hb
 obtain ⟨⟨_, _⟩, _, _⟩ := keyOk_iff.1 ha
 unfold behind
 split <;> simp <;> omega
theorem balOk_key {x : Bal} (h : balOk x = true) : keyOk x.ac x.ast = true := by
 rw [balOk, Bool.and_eq_true] at h; exact h.1
structure BalsOk (xs : List Bal) : Prop where
 len : xs.length ≤ 18
 ok : ∀ k, k < xs.length → balOk (xs.getD k default) = true
 ord : ∀ k, k + 1 < xs.length → behind (xs.getD (k + 1) default) (xs.getD k default) = true
theorem balsOk_of {xs : List Bal} (h : balFault xs = 0) : BalsOk xs := by
 unfold balFault at h
 split at h
 ·
  omega
 ·
  have hz := scanI_zero h
  refine ⟨by omega, fun k hk => ?_, fun k hk => ?_⟩
  ·
   have := hz k hk
   unfold balAt at this
   split at this
   ·
    assumption
   ·
    omega
  ·
   have := hz (k + 1) hk
   unfold balAt at this
   split at this
   ·
    split at this
    ·
     omega
    ·
     rename_i h1 h2
     simp at h2
     simpa using h2
   ·
    omega
theorem ledOk_of {g : Ledg} (h : ledFault g = 0) : 1 ≤ g.shards.length ∧ g.shards.length ≤ 3 ∧ ∀ k, k < g.shards.length → BalsOk (g.shards.getD k default) := by
 unfold ledFault at h
 split at h
 ·
  omega
 ·
  exact ⟨by omega, by omega, fun k hk => balsOk_of (scanI_zero h k hk)⟩
def hasB (a s : Int) : List Bal → Int
 | [] => 0
 | x :: r => if x.ac = a ∧ x.ast = s then x.am else hasB a s r
theorem drop_get (xs : List Bal) (k : Nat) (h : k < xs.length) : xs.drop k = xs.getD k default :: xs.drop (k + 1) := by
 rw [List.drop_eq_getElem_cons h]; simp [List.getD, h]
theorem hasB_drop {a s : Int} {xs : List Bal} {k : Nat} (h : k < xs.length) : hasB a s (xs.drop k) = if (xs.getD k default).ac = a ∧ (xs.getD k default).ast = s then (xs.getD k default).am else hasB a s (xs.drop (k + 1)) := by
 rw [drop_get xs k h]; rfl
end Go.Proofs.YtndghenlapbaaaaGreat

/-
 compareKeys: keys of the ledger's book, compared place by place.
-/
namespace Go.Proofs.YtndghenlapbaaaaGreat
open Go.RowKit
variable [DecidableEq Rw] [Inhabited Rw] [DecidableEq Bal] [Inhabited Bal] [DecidableEq Ledg] [Inhabited Ledg] [DecidableEq Leg] [Inhabited Leg]
attribute [local go_sem ↓] Go.wp_at_zero Go.wp_at_succ

def k3 (s a t : Int) (i : Nat) : Int := if i = 0 then s else if i = 1 then a else t
end Go.Proofs.YtndghenlapbaaaaGreat

/-
 Ranges over functions whose iterators change memory of their own, and call other rounds: contracts with the set of blocks that the iterator may change.
-/
namespace Go.Proofs.YtndghenlapbaaaaGreat
open Go.RowKit

def Stb {β : Type} (J : β → World → (Nat → Prop) → Prop) : Prop :=
 ∀ s W W' X X', J s W X → Mod X W W' → (∀ b, X b → X' b) → (∀ b, X' b → (X b ∨ W.heap.size ≤ b) ∧ b < W'.heap.size) → J s W' X'
abbrev Kp (R X : Nat → Prop) (W W' : World) : Prop := Mod (fun k => ¬ (R k ∨ X k)) W W'
def postX {α : Type} (R X : Nat → Prop) (I : List α → World → (Nat → Prop) → Prop) (Ix : Code → List α → World → (Nat → Prop) → Prop) (ys : List α) (W : World) : Exit → Act → World → Prop
 | .normal, _, W' => Kp R X W W' ∧ I ys W' X
 | .ret, _, W' => Kp R X W W' ∧ Ix .ret ys W' X
 | .exit id, _, W' => Kp R X W W' ∧ Ix (.exit id) ys W' X
 | .goto t, _, W' => Kp R X W W' ∧ Ix (.goto t) ys W' X
 | .panic _, _, _ => False
 | .outgrown, _, _ => False
theorem mod_put (W : World) (l : Nat) (o : Obj) : Mod (fun b => b = l) W (W.putObj l o) :=
 ⟨rfl, rfl, rfl, by simp [World.putObj], fun _ _ hn => World.putObj_heap_other hn⟩
theorem mod_alloc (F : Nat → Prop) (W : World) (o : Obj) : Mod F W (W.alloc o) := (Mod.refl F W).alloc o
end Go.Proofs.YtndghenlapbaaaaGreat

