import Derived.Test.YtecfelacdapdgaaGreatPrnUnpackEventLaw10
import Derived.Test.YtecfelacdapdgaaGreatPrnUnpackEventLaw2
import Derived.Lib.Bytealg
import Derived.Lib.Walk
import Derived.Test.YtecfelacdapdgaaGreatPrnUnpackEventLaw7
import Derived.Test.YtecfelacdapdgaaGreatPrnUnpackEventLaw11
import Derived.Shelf.SlSortCmp.WholeK
import Derived.Test.YtecfelacdapdgaaGreatPrnUnpackEventLaw12
import Derived.Test.YtecfelacdapdgaaGreatPrnUnpackEventLaw5
import Derived.Test.YtecfelacdapdgaaGreatPrnUnpackEventLaw6
import Derived.RegionTactic
import Derived.ChangeAlike
import Derived.BigRegion
import Derived.BigQuiet
import Derived.Deep.QuietTactic
import Derived.Test.YtecfelacdapdgaaGreatPrnUnpackEventLaw3
import Derived.WideKeyEntry
import Derived.Test.YtecfelacdapdgaaGreatPrnUnpackEventLaw1
import Derived.Deep.RegionHeld3
import Derived.Deep.DrawnRows

/-
  The keys of a book, sorted and laid shard by shard: what lies there rises and tells the book.
-/
namespace Go.Proofs.YtecfelacdapdgaaGreat
open Go.RowKit Go.Sort Go.Shelf
set_option linter.unusedSectionVars false
variable [DecidableEq Rw] [Inhabited Rw] [DecidableEq Bal] [Inhabited Bal] [DecidableEq Ledg] [Inhabited Ledg] [DecidableEq Leg] [Inhabited Leg] [DecidableEq Cont] [Inhabited Cont] [DecidableEq LedgR] [Inhabited LedgR]
set_option linter.unusedVariables false
set_option linter.unusedSimpArgs false

theorem nodup_lt : ∀ (N : Nat) (l : List Nat), l.Nodup → (∀ x ∈ l, x < N) → l.length ≤ N
  | 0, l, _, h => by
    cases l with
    | nil => simp
    | cons x r => exact absurd (h x (by simp)) (Nat.not_lt_zero _)
  | N + 1, l, hn, h => by
    have h1 := nodup_lt N (l.erase N) (hn.erase N) (fun x hx => by
      obtain ⟨h2, h3⟩ := (hn.mem_erase_iff).1 hx
      have := h x h3
      omega)
    rw [List.length_erase] at h1
    split at h1 <;> omega
def KDom (n : Nat) (f : Int → Int → Int → Option Int) : Prop := ∀ s a t, (f s a t).isSome = true → (0 ≤ s ∧ s < (n : Int)) ∧ keyOk a t = true
theorem KDom.len {n : Nat} {f : Int → Int → Int → Option Int} (h : KDom n f) {ys : List K3} (hy : KOk f ys) : ys.length ≤ n * 18 := by
  have h1 := nodup_lt (n * 18) (ys.map (fun k : K3 => k.1.toNat * 18 + k.2.1.toNat * 3 + k.2.2.toNat)) ?_ ?_
  · simpa using h1
  · rw [List.Nodup, List.pairwise_map]
    refine List.Pairwise.imp_of_mem ?_ hy.1
    rintro ⟨s, a, t⟩ ⟨s', a', t'⟩ hx hx' hne e
    obtain ⟨⟨_, _⟩, hk⟩ := h s a t (hy.2 _ hx)
    obtain ⟨⟨_, _⟩, hk'⟩ := h s' a' t' (hy.2 _ hx')
    obtain ⟨⟨_, _⟩, _, _⟩ := keyOk_iff.1 hk
    obtain ⟨⟨_, _⟩, _, _⟩ := keyOk_iff.1 hk'
    apply hne
    dsimp only at e
    have e1 : s = s' := by omega
    have e2 : a = a' := by omega
    have e3 : t = t' := by omega
    rw [e1, e2, e3]
  · intro x hx
    obtain ⟨⟨s, a, t⟩, hm, rfl⟩ := List.mem_map.1 hx
    obtain ⟨⟨_, _⟩, hk⟩ := h s a t (hy.2 _ hm)
    obtain ⟨⟨_, _⟩, _, _⟩ := keyOk_iff.1 hk
    dsimp only
    omega
end Go.Proofs.YtecfelacdapdgaaGreat

/-
  OutcomesResult. (Written by program: nest.py.)
-/
namespace Go.Proofs.YtecfelacdapdgaaGreat
open Go.RowKit
set_option linter.unusedSectionVars false
variable [DecidableEq Leg] [Inhabited Leg] [DecidableEq Bal] [Inhabited Bal] [DecidableEq Ledg] [Inhabited Ledg]
attribute [local go_sem ↓] Go.wp_at_zero Go.wp_at_succ

set_option linter.unusedSimpArgs false

structure OutcR where
  code : Int
  outcomes : List Int
  ledger : Ledg
variable [DecidableEq OutcR] [Inhabited OutcR]

end Go.Proofs.YtecfelacdapdgaaGreat

/-
  Slices of Mark: the law's own copy, comparison, count, marks. (Written by program after my texts on legs.)
-/
namespace Go.Proofs.YtecfelacdapdgaaGreat
open Go.RowKit
set_option linter.unusedSectionVars false
attribute [local go_sem ↓] Go.wp_at_zero Go.wp_at_succ

structure Mrk where
  con : Int
  val : Int
variable [DecidableEq Mrk] [Inhabited Mrk]

end Go.Proofs.YtecfelacdapdgaaGreat

/-
  Shard. (Written by program: nest.py.)
-/
namespace Go.Proofs.YtecfelacdapdgaaGreat
open Go.RowKit
set_option linter.unusedSectionVars false
variable [DecidableEq Bal] [Inhabited Bal] [DecidableEq Mrk] [Inhabited Mrk] [DecidableEq Leg] [Inhabited Leg] [DecidableEq Cont] [Inhabited Cont]
attribute [local go_sem ↓] Go.wp_at_zero Go.wp_at_succ

set_option linter.unusedSimpArgs false

structure Shd where
  idx : Int
  bals : List Bal
  votes : List Mrk
  held : List Cont
  done : List Mrk
  appl : List Int
variable [DecidableEq Shd] [Inhabited Shd]

end Go.Proofs.YtecfelacdapdgaaGreat

