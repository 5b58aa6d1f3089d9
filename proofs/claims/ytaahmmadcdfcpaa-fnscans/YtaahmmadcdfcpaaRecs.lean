/-
  Records told out of bytes: the mathematics, and the program's frameSize.
-/
import Derived.Test.YtaahmmadcdfcpaaFrame
import Derived.Test.YtaahmmadcdfcpaaCut
namespace Go.Proofs.Ytaahmmadcdfcpaa
open Go.RowKit
set_option linter.unusedSectionVars false
variable [DecidableEq BytesR] [Inhabited BytesR]
attribute [local go_sem ↓] Go.wp_at_zero Go.wp_at_succ

def fN (xs : List Byte) : Nat := (xs.getD 0 0).val * 256 + (xs.getD 1 0).val
def fC (xs : List Byte) : Nat := (xs.getD 2 0).val * 256 + (xs.getD 3 0).val
/-- how many bytes the frame at the beginning has, 0: there is none -/
def frameSz (xs : List Byte) : Nat := if 1 ≤ fN xs ∧ fN xs ≤ 500 ∧ 4 + fN xs ≤ xs.length ∧ chk ((xs.drop 4).take (fN xs)) = fC xs then 4 + fN xs else 0
theorem frameSz_pos {xs : List Byte} (h : ¬ frameSz xs = 0) : frameSz xs = 4 + fN xs ∧ 1 ≤ fN xs ∧ fN xs ≤ 500 ∧ 4 + fN xs ≤ xs.length := by
  unfold frameSz at h ⊢
  split at h
  · rename_i h1; rw [if_pos h1]; exact ⟨rfl, h1.1, h1.2.1, h1.2.2.1⟩
  · exact absurd rfl h

def recLF : Nat → List Byte → List (List Byte)
  | 0, _ => []
  | f + 1, xs => if frameSz xs = 0 then [] else (xs.drop 4).take (frameSz xs - 4) :: recLF f (xs.drop (frameSz xs))
def recUF : Nat → List Byte → Nat
  | 0, _ => 0
  | f + 1, xs => if frameSz xs = 0 then 0 else frameSz xs + recUF f (xs.drop (frameSz xs))
/-- the records at the beginning, and how many bytes they are -/
def recL (xs : List Byte) : List (List Byte) := recLF xs.length xs
def recU (xs : List Byte) : Nat := recUF xs.length xs
theorem frameSz_nil {xs : List Byte} (h : xs.length = 0) : frameSz xs = 0 := by
  unfold frameSz
  rw [if_neg]
  omega
theorem recF_fuel : ∀ (f g : Nat) (xs : List Byte), xs.length ≤ f → xs.length ≤ g → recLF f xs = recLF g xs ∧ recUF f xs = recUF g xs
  | 0, 0, _, _, _ => ⟨rfl, rfl⟩
  | 0, g + 1, xs, h, _ => by
    have hz := frameSz_nil (xs := xs) (by omega)
    simp only [recLF, recUF, if_pos hz]
    exact ⟨trivial, trivial⟩
  | f + 1, 0, xs, _, h => by
    have hz := frameSz_nil (xs := xs) (by omega)
    simp only [recLF, recUF, if_pos hz]
    exact ⟨trivial, trivial⟩
  | f + 1, g + 1, xs, h1, h2 => by
    by_cases hz : frameSz xs = 0
    · simp only [recLF, recUF, if_pos hz]
      exact ⟨trivial, trivial⟩
    · have hp := frameSz_pos hz
      have ih := recF_fuel f g (xs.drop (frameSz xs)) (by rw [List.length_drop]; omega) (by rw [List.length_drop]; omega)
      simp only [recLF, recUF, if_neg hz, ih.1, ih.2]
      exact ⟨trivial, trivial⟩
theorem recL_end {xs : List Byte} (h : frameSz xs = 0) : recL xs = [] := by
  unfold recL
  cases hl : xs.length with
  | zero => rfl
  | succ f => simp only [recLF, if_pos h]
theorem recU_end {xs : List Byte} (h : frameSz xs = 0) : recU xs = 0 := by
  unfold recU
  cases hl : xs.length with
  | zero => rfl
  | succ f => simp only [recUF, if_pos h]
theorem recL_step {xs : List Byte} (h : ¬ frameSz xs = 0) : recL xs = (xs.drop 4).take (frameSz xs - 4) :: recL (xs.drop (frameSz xs)) := by
  have hp := frameSz_pos h
  unfold recL
  cases hl : xs.length with
  | zero => omega
  | succ f =>
    simp only [recLF, if_neg h]
    rw [(recF_fuel f (xs.drop (frameSz xs)).length (xs.drop (frameSz xs)) (by rw [List.length_drop]; omega) (Nat.le_refl _)).1]
theorem recU_step {xs : List Byte} (h : ¬ frameSz xs = 0) : recU xs = frameSz xs + recU (xs.drop (frameSz xs)) := by
  have hp := frameSz_pos h
  unfold recU
  cases hl : xs.length with
  | zero => omega
  | succ f =>
    simp only [recUF, if_neg h]
    rw [(recF_fuel f (xs.drop (frameSz xs)).length (xs.drop (frameSz xs)) (by rw [List.length_drop]; omega) (Nat.le_refl _)).2]

theorem hiN_two (xs : List Byte) (h : 2 ≤ xs.length) : hiN (xs.take 2) = (fN xs : Int) := by
  match xs, h with
  | a :: b :: r, _ => simp [hiN, fN, List.getD]
theorem hiN_check (xs : List Byte) (h : 4 ≤ xs.length) : hiN ((xs.drop 2).take 2) = (fC xs : Int) := by
  match xs, h with
  | a :: b :: c :: d :: r, _ => simp [hiN, fC, List.getD]
theorem fN_lt (xs : List Byte) : fN xs < 65536 := by
  have := (xs.getD 0 0).isLt
  have := (xs.getD 1 0).isLt
  unfold fN; omega
theorem fC_lt (xs : List Byte) : fC xs < 65536 := by
  have := (xs.getD 2 0).isLt
  have := (xs.getD 3 0).isLt
  unfold fC; omega

end Go.Proofs.Ytaahmmadcdfcpaa
