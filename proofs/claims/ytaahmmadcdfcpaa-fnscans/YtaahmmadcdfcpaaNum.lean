/-
  Numbers as bytes, on both sides.
-/
import Derived.Test.YtaahmmadcdfcpaaAppB
import Derived.PlainAid
import Derived.Laws.BitsAllLaws
namespace Go.Proofs.Ytaahmmadcdfcpaa
open Go.RowKit
attribute [local go_sem ↓] Go.wp_at_zero Go.wp_at_succ

/-- the lowest bytes of a number, the highest of them first -/
def hiB (n : Int) (size : Nat) : List Byte := (List.range size).map (fun i => toB (n / 2 ^ (8 * (size - 1 - i))))
theorem length_hiB (n : Int) (size : Nat) : (hiB n size).length = size := by simp [hiB]
theorem getD_hiB (n : Int) (size i : Nat) (h : i < size) : (hiB n size).getD i 0 = toB (n / 2 ^ (8 * (size - 1 - i))) := by simp [hiB, List.getD, h]
theorem hiB_take (n : Int) (size i : Nat) (h : i < size) : (hiB n size).take (i + 1) = (hiB n size).take i ++ [toB (n / 2 ^ (8 * (size - 1 - i)))] := by
  rw [List.take_add_one]
  congr 1
  simp [hiB, h]
theorem toB_mod (n : Int) (k : Nat) (h : k ≤ 56) : toB (n % 18446744073709551616 / 2 ^ k) = toB (n / 2 ^ k) := by
  apply Fin.ext
  have e : ((toB (n % 18446744073709551616 / 2 ^ k)).val : Int) = ((toB (n / 2 ^ k)).val : Int) := by
    rw [toB_val, toB_val]
    have h1 : (18446744073709551616 : Int) = 2 ^ k * (256 * 2 ^ (56 - k)) := by
      rw [show (256 : Int) = 2 ^ 8 by decide, ← Int.pow_add, ← Int.pow_add, show k + (8 + (56 - k)) = 64 by omega]
      decide
    have h2 : (0 : Int) < 2 ^ k := Int.pow_pos (by omega)
    have h3 : n % 18446744073709551616 = n - 2 ^ k * (256 * 2 ^ (56 - k) * (n / 18446744073709551616)) := by
      rw [Int.emod_def, ← Int.mul_assoc, ← h1]
    rw [h3, Int.sub_eq_add_neg, ← Int.mul_neg, Int.add_mul_ediv_left _ _ (Int.ne_of_gt h2)]
    rw [show -(256 * 2 ^ (56 - k) * (n / 18446744073709551616)) = 256 * (-(2 ^ (56 - k) * (n / 18446744073709551616))) by rw [Int.mul_neg, Int.mul_assoc]]
    exact Int.add_mul_emod_self_left _ _ _
  omega

/-- the last bytes of a row are those of ys -/
def fromB (k n : Nat) (cs : List Value) (ys : List Byte) : Prop := ∀ j, n - k ≤ j → j < n → cs[j]? = (bytesC ys)[j]?
theorem fromB_set {k n : Nat} {cs : List Value} {ys : List Byte} {l : Int} (h : fromB k n cs ys) (hk : k < n) (hn : ys.length = n) (hl : cs.length = n * 1) (he : l = ((ys.getD (n - 1 - k) 0).val : Int)) : fromB (k + 1) n (cs.set (n - 1 - k) (.int .u8 l)) ys := by
  intro j h1 h2
  rw [List.getElem?_set]
  by_cases e : n - 1 - k = j
  · subst e
    rw [if_pos rfl, if_pos (by omega), get_bytesC ys _ (by omega), he]
  · rw [if_neg e]
    exact h j (by omega) h2
theorem fromB_full {n : Nat} {cs : List Value} {ys : List Byte} (h : fromB n n cs ys) (hl : cs.length = n * 1) (hn : ys.length = n) : cs = bytesC ys := by
  apply List.ext_getElem?
  intro j
  by_cases hj : j < n
  · exact h j (by omega) hj
  · rw [List.getElem?_eq_none (by omega), List.getElem?_eq_none (by simp [bytesC]; omega)]
theorem div_step (b : Int) (k : Nat) : b / 2 ^ (8 * k) / 256 = b / 2 ^ (8 * (k + 1)) := by
  rw [Int.ediv_ediv_of_nonneg (Int.pow_nonneg (by decide)), show (256 : Int) = 2 ^ 8 by decide, ← Int.pow_add, Nat.mul_add]

/-- the number that bytes tell, the highest first -/
def hiN (xs : List Byte) : Int := xs.foldl (fun n b => n * 256 + (b.val : Int)) 0
theorem hiN_snoc (xs : List Byte) (b : Byte) : hiN (xs ++ [b]) = hiN xs * 256 + (b.val : Int) := by simp [hiN]
theorem hiN_nonneg (xs : List Byte) : 0 ≤ hiN xs := by
  suffices h : ∀ (xs : List Byte) (n : Int), 0 ≤ n → 0 ≤ xs.foldl (fun n b => n * 256 + (b.val : Int)) n from h xs 0 (by omega)
  intro xs
  induction xs with
  | nil => intro n h; exact h
  | cons b r ih => intro n h; exact ih (n * 256 + (b.val : Int)) (by omega)
theorem take_snocB (xs : List Byte) (k : Nat) (h : k < xs.length) : xs.take (k + 1) = xs.take k ++ [xs.getD k 0] := by
  rw [List.take_add_one]
  congr 1
  simp [List.getD, h]
theorem hiN_take (xs : List Byte) (k : Nat) (h : k < xs.length) : hiN (xs.take (k + 1)) = hiN (xs.take k) * 256 + ((xs.getD k 0).val : Int) := by
  rw [take_snocB xs k h, hiN_snoc]

theorem wrap_mod (a : Int) : IntKind.i64.wrap (a % 18446744073709551616) = IntKind.i64.wrap a := by rw [IntKind.wrap_i64, IntKind.wrap_i64]; omega

theorem or_byte (x l : Int) (hx0 : 0 ≤ x) (hx1 : x < 18446744073709551616) (h0 : 0 ≤ l) (h1 : l ≤ 255) :
    bits .or .u64 (IntKind.u64.wrap (x * 256)) l = (x * 256 + l) % 18446744073709551616 := by
  rw [IntKind.wrap_u64, u64_or _ _ (by omega) (by omega) (by omega) (by omega)]
  obtain ⟨X, rfl⟩ := Int.eq_ofNat_of_zero_le hx0
  obtain ⟨L, rfl⟩ := Int.eq_ofNat_of_zero_le h0
  have e1 : ((X : Int) * 256 % 18446744073709551616).toNat = (X % 72057594037927936) * 2 ^ 8 := by omega
  rw [e1, Int.toNat_natCast, Nat.mul_comm, ← Nat.two_pow_add_eq_or_of_lt (i := 8) (by omega) (X % 72057594037927936)]
  omega

end Go.Proofs.Ytaahmmadcdfcpaa
