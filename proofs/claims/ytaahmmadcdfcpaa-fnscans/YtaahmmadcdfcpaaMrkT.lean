/-
  Marks of texts.
-/
import Derived.Test.YtaahmmadcdfcpaaKit
import Derived.Laws.BytesArg
import Derived.Deep.DrawnRows
namespace Go.Proofs.Ytaahmmadcdfcpaa
open Go.RowKit
set_option linter.unusedVariables false
set_option linter.unusedSimpArgs false
attribute [local go_sem ↓] Go.wp_at_zero Go.wp_at_succ

/-- the digits of n ahead of o -/
def mtx : Nat → Nat → ByteArray → ByteArray
  | 0, _, o => o
  | f + 1, n, o => if n = 0 then o else mtx f (n / 10) (strOfNums [48 + ((n % 10 : Nat) : Int)] ++ o)
theorem mtx_step {f n : Nat} (o : ByteArray) (h : n ≠ 0) : mtx (f + 1) n o = mtx f (n / 10) (strOfNums [48 + ((n % 10 : Nat) : Int)] ++ o) := by
  conv => lhs; unfold mtx
  rw [if_neg h]
theorem mtx_nil (f : Nat) (o : ByteArray) : mtx f 0 o = o := by
  cases f with
  | zero => rfl
  | succ f => unfold mtx; rw [if_pos rfl]
def markT (k : Int) : ByteArray := if k ≤ 0 then ⟨#[109, 48]⟩ else ⟨#[109]⟩ ++ mtx k.toNat k.toNat ⟨#[]⟩

theorem mtx_size : ∀ (f n : Nat) (o : ByteArray), (mtx f n o).size ≤ o.size + f
  | 0, _, o => by simp [mtx]
  | f + 1, n, o => by
    by_cases h : n = 0
    · rw [h, mtx_nil]
      omega
    · rw [mtx_step o h]
      have := mtx_size f (n / 10) (strOfNums [48 + ((n % 10 : Nat) : Int)] ++ o)
      rw [ByteArray.size_append, strOfNums_size, List.length_singleton] at this
      omega
theorem markT_size (k : Int) : (markT k).size ≤ 2 + k.toNat := by
  unfold markT
  split
  · show 2 ≤ _
    omega
  · rw [ByteArray.size_append]
    have := mtx_size k.toNat k.toNat ⟨#[]⟩
    have e : (⟨#[]⟩ : ByteArray).size = 0 := rfl
    have e2 : (⟨#[109]⟩ : ByteArray).size = 1 := rfl
    omega

theorem grownAny {w w' : World} {r : Option Nat} (h : w.grownBy w' none) : w.grownBy w' r := ⟨h.os, h.tape, h.output, h.size, fun i hi hr => h.block i hi (by simp)⟩

end Go.Proofs.Ytaahmmadcdfcpaa
