import Derived.Test.YtndghenlapbaaaaGreatDoorPrnShardTextLaw9
import Derived.Test.YtndghenlapbaaaaGreatDoorPrnShardTextLaw4
import Derived.Lib.Bytealg
import Derived.Lib.Walk
import Derived.Test.YtndghenlapbaaaaGreatDoorPrnShardTextLaw6
import Derived.Deep.RegionHeld3
import Derived.Deep.DrawnRows
import Derived.Test.YtndghenlapbaaaaGreatDoorPrnShardTextLaw2

/-
  The order of rows, on both sides. (Written by program: tab_gen2.py.)
-/
namespace Go.Proofs.YtndghenlapbaaaaGreatDoor
open Go.RowKit
set_option linter.unusedSectionVars false
variable [DecidableEq Rw] [Inhabited Rw]
attribute [local go_sem ↓] Go.wp_at_zero Go.wp_at_succ

def cmpB (a b : ByteArray) : Int := Lib.compareBytes a.data.toList b.data.toList
def cmpI (x y : Int) : Int := if x < y then -1 else if y < x then 1 else 0
def orI (x y : Int) : Int := if x = 0 then y else x
def cmpR (a b : Rw) : Int := orI (cmpB a.key b.key) (cmpI b.ver a.ver)
def ahead (a b : Rw) : Bool := decide (cmpR a b < 0)
end Go.Proofs.YtndghenlapbaaaaGreatDoor

/-
  Rows of []Balance. (Written by program: nest.py.)
-/
namespace Go.Proofs.YtndghenlapbaaaaGreatDoor
open Go.RowKit
set_option linter.unusedSectionVars false
variable [DecidableEq Bal] [Inhabited Bal]
attribute [local go_sem ↓] Go.wp_at_zero Go.wp_at_succ

def balssR : Rep (List (List Bal)) := nRep balsR 32 1 one
end Go.Proofs.YtndghenlapbaaaaGreatDoor

/-
  Ledger. (Written by program: nest.py.)
-/
namespace Go.Proofs.YtndghenlapbaaaaGreatDoor
open Go.RowKit
set_option linter.unusedSectionVars false
variable [DecidableEq Bal] [Inhabited Bal]
attribute [local go_sem ↓] Go.wp_at_zero Go.wp_at_succ

structure Ledg where
  shards : List (List Bal)
variable [DecidableEq Ledg] [Inhabited Ledg]

def ledgR : Rep Ledg where
  V := fun w v x => ∃ u1, v = .agg #[u1] ∧ balssR.V w u1 x.shards
  O := fun w base F v x => ∃ u1 F1, v = .agg #[u1] ∧ balssR.O w base F1 u1 x.shards ∧ (∀ b, F b ↔ (F1 b))
  below := fun h hb => by
    obtain ⟨u1, rfl, h1⟩ := h
    exact ⟨u1, rfl, balssR.below h1 hb⟩
  ofO := fun h => by
    obtain ⟨u1, F1, rfl, h1, _⟩ := h
    exact ⟨u1, rfl, balssR.ofO h1⟩
  mod := fun h hm hd => by
    obtain ⟨u1, F1, rfl, h1, hF⟩ := h
    exact ⟨u1, F1, rfl, balssR.mod h1 hm (fun b hb => hd b ((hF b).2 hb)), hF⟩
  rng := fun h b hb => by
    obtain ⟨u1, F1, rfl, h1, hF⟩ := h
    rcases (hF b).1 hb with hb
    · exact balssR.rng h1 b hb
  base := fun h hb => by
    obtain ⟨u1, F1, rfl, h1, hF⟩ := h
    exact ⟨u1, F1, rfl, balssR.base h1 hb, hF⟩
end Go.Proofs.YtndghenlapbaaaaGreatDoor

/-
  Chapter 2 in plain mathematics: faults of balances and ledgers, what is had, totals, what can be settled.
-/
namespace Go.Proofs.YtndghenlapbaaaaGreatDoor
open Go.RowKit
set_option linter.unusedSectionVars false
variable [DecidableEq Bal] [Inhabited Bal] [DecidableEq Ledg] [Inhabited Ledg] [DecidableEq Leg] [Inhabited Leg]

theorem wrapId {n : Int} (h0 : -9223372036854775808 ≤ n) (h1 : n ≤ 9223372036854775807) : IntKind.i64.wrap n = n := by
  rw [IntKind.wrap_i64]; omega
theorem bdrewN {B : Nat} {w Y : World} (h : Below B w Y) (n : Nat) : Below B w (Y.drewN n) := h.trans ⟨rfl, rfl, rfl, Nat.le_refl _, fun _ _ => rfl⟩
def scanI (f : Nat → Int) : Nat → Int
  | 0 => 0
  | n + 1 => if scanI f n = 0 then f n else scanI f n
theorem scanI_succ {f : Nat → Int} {k : Nat} (h : scanI f k = 0) (h' : f k = 0) : scanI f (k + 1) = 0 := by simp [scanI, h, h']
theorem scanI_hit {f : Nat → Int} {k : Nat} (h : scanI f k = 0) (h' : f k ≠ 0) : ∀ n, k < n → scanI f n = f k
  | 0, hn => by omega
  | n + 1, hn => by
    by_cases e : k = n
    · subst e; simp [scanI, h]
    · have := scanI_hit h h' n (by omega)
      simp [scanI, this, h']
theorem scanI_zero {f : Nat → Int} : ∀ {n : Nat}, scanI f n = 0 → ∀ k, k < n → f k = 0
  | 0, _, k, hk => by omega
  | n + 1, h, k, hk => by
    unfold scanI at h
    split at h
    · rename_i h1
      by_cases e : k = n
      · subst e; exact h
      · exact scanI_zero h1 k (by omega)
    · exact absurd h (by assumption)
theorem scanI_of {f : Nat → Int} : ∀ {n : Nat}, (∀ k, k < n → f k = 0) → scanI f n = 0
  | 0, _ => rfl
  | n + 1, h => scanI_succ (scanI_of (fun k hk => h k (by omega))) (h n (by omega))
def keyOk (ac ast : Int) : Bool := inB ac 0 5 && inB ast 0 2
def balOk (x : Bal) : Bool := keyOk x.ac x.ast && inB x.am 1 1000000000000
def behind (b a : Bal) : Bool := if b.ac = a.ac then decide (a.ast < b.ast) else decide (a.ac < b.ac)
def balAt (xs : List Bal) (k : Nat) : Int := if balOk (xs.getD k default) then (if 0 < k ∧ behind (xs.getD k default) (xs.getD (k - 1) default) = false then 1 else 0) else 3
def balFault (xs : List Bal) : Int := if 18 < xs.length then 2 else scanI (balAt xs) xs.length
def ledAt (g : Ledg) (k : Nat) : Int := balFault (g.shards.getD k default)
def ledFault (g : Ledg) : Int := if g.shards.length < 1 ∨ 3 < g.shards.length then 2 else scanI (ledAt g) g.shards.length
theorem inBi {n lo hi : Int} : inB n lo hi = true ↔ lo ≤ n ∧ n ≤ hi := by simp [inB]
theorem keyOk_iff {a s : Int} : keyOk a s = true ↔ (0 ≤ a ∧ a ≤ 5) ∧ (0 ≤ s ∧ s ≤ 2) := by simp [keyOk, inBi]
theorem balOk_iff {x : Bal} : balOk x = true ↔ ((0 ≤ x.ac ∧ x.ac ≤ 5) ∧ (0 ≤ x.ast ∧ x.ast ≤ 2)) ∧ (1 ≤ x.am ∧ x.am ≤ 1000000000000) := by simp [balOk, keyOk_iff, inBi]
theorem behind_iff {b a : Bal} (hb : keyOk b.ac b.ast = true) (ha : keyOk a.ac a.ast = true) : behind b a = false ↔ b.ac * 3 + b.ast ≤ a.ac * 3 + a.ast := by
  obtain ⟨⟨_, _⟩, _, _⟩ := keyOk_iff.1 hb
  obtain ⟨⟨_, _⟩, _, _⟩ := keyOk_iff.1 ha
  unfold behind
  split <;> simp <;> omega
theorem balOk_key {x : Bal} (h : balOk x = true) : keyOk x.ac x.ast = true := by
  rw [balOk, Bool.and_eq_true] at h; exact h.1
structure BalsOk (xs : List Bal) : Prop where
  len : xs.length ≤ 18
  ok : ∀ k, k < xs.length → balOk (xs.getD k default) = true
  ord : ∀ k, k + 1 < xs.length → behind (xs.getD (k + 1) default) (xs.getD k default) = true
theorem balsOk_of {xs : List Bal} (h : balFault xs = 0) : BalsOk xs := by
  unfold balFault at h
  split at h
  · omega
  · have hz := scanI_zero h
    refine ⟨by omega, fun k hk => ?_, fun k hk => ?_⟩
    · have := hz k hk
      unfold balAt at this
      split at this
      · assumption
      · omega
    · have := hz (k + 1) hk
      unfold balAt at this
      split at this
      · split at this
        · omega
        · rename_i h1 h2
          simp at h2
          simpa using h2
      · omega
theorem ledOk_of {g : Ledg} (h : ledFault g = 0) : 1 ≤ g.shards.length ∧ g.shards.length ≤ 3 ∧ ∀ k, k < g.shards.length → BalsOk (g.shards.getD k default) := by
  unfold ledFault at h
  split at h
  · omega
  · exact ⟨by omega, by omega, fun k hk => balsOk_of (scanI_zero h k hk)⟩
def hasB (a s : Int) : List Bal → Int
  | [] => 0
  | x :: r => if x.ac = a ∧ x.ast = s then x.am else hasB a s r
theorem drop_get (xs : List Bal) (k : Nat) (h : k < xs.length) : xs.drop k = xs.getD k default :: xs.drop (k + 1) := by
  rw [List.drop_eq_getElem_cons h]; simp [List.getD, h]
theorem hasB_drop {a s : Int} {xs : List Bal} {k : Nat} (h : k < xs.length) : hasB a s (xs.drop k) = if (xs.getD k default).ac = a ∧ (xs.getD k default).ast = s then (xs.getD k default).am else hasB a s (xs.drop (k + 1)) := by
  rw [drop_get xs k h]; rfl
end Go.Proofs.YtndghenlapbaaaaGreatDoor

