/-
  Records told, on both sides.
-/
import Derived.Test.YtaahmmadcdfcpaaRecs
import Derived.Deep.QuietTactic
import Derived.Test.YtaahmmadcdfcpaaRowB
import Derived.Test.YtaahmmadcdfcpaaSRecsR
namespace Go.Proofs.Ytaahmmadcdfcpaa
open Go.RowKit
set_option linter.unusedSectionVars false
variable [DecidableEq BytesR] [Inhabited BytesR] [DecidableEq RecsR] [Inhabited RecsR]
attribute [local go_sem ↓] Go.wp_at_zero Go.wp_at_succ

theorem getD_drop (xs : List Byte) (k i : Nat) : (xs.drop k).getD i 0 = xs.getD (k + i) 0 := by simp [List.getD]
theorem fN_drop (xs : List Byte) (k : Nat) : fN (xs.drop k) = (xs.getD k 0).val * 256 + (xs.getD (k + 1) 0).val := by unfold fN; rw [getD_drop, getD_drop]; rfl
theorem fC_drop (xs : List Byte) (k : Nat) : fC (xs.drop k) = (xs.getD (k + 2) 0).val * 256 + (xs.getD (k + 3) 0).val := by unfold fC; rw [getD_drop, getD_drop]
theorem frameSz_short {xs : List Byte} (h : xs.length ≤ 4) : frameSz xs = 0 := by
  unfold frameSz
  rw [if_neg]
  omega

/-- what was told so far, and what is told behind it -/
def SoFar (xs : List Byte) (k : Nat) (out : List (List Byte)) : Prop :=
  k ≤ xs.length ∧ out.length ≤ k ∧ recL xs = out ++ recL (xs.drop k) ∧ recU xs = k + recU (xs.drop k)
theorem soFar_start (xs : List Byte) : SoFar xs 0 [] := ⟨by omega, by simp, by simp, by simp⟩
theorem soFar_end {xs : List Byte} {k : Nat} {out : List (List Byte)} (h : SoFar xs k out) (hz : frameSz (xs.drop k) = 0) : recL xs = out ∧ recU xs = k := by
  obtain ⟨_, _, h3, h4⟩ := h
  rw [recL_end hz, List.append_nil] at h3
  rw [recU_end hz, Nat.add_zero] at h4
  exact ⟨h3, h4⟩
theorem soFar_step {xs : List Byte} {k m : Nat} {out : List (List Byte)} (h : SoFar xs k out) (hz : frameSz (xs.drop k) = 4 + m) (hm : 1 ≤ m) : SoFar xs (k + 4 + m) (out ++ [(xs.drop (k + 4)).take m]) := by
  obtain ⟨h1, h2, h3, h4⟩ := h
  have hz' : ¬ frameSz (xs.drop k) = 0 := by omega
  have h5 := frameSz_pos hz'
  rw [List.length_drop] at h5
  refine ⟨by omega, by rw [List.length_append, List.length_singleton]; omega, ?_, ?_⟩
  · rw [h3, recL_step hz', hz, List.drop_drop, List.drop_drop, List.append_assoc, show k + (4 + m) = k + 4 + m by omega, show 4 + m - 4 = m by omega]
    rfl
  · rw [h4, recU_step hz', hz, List.drop_drop, show k + (4 + m) = k + 4 + m by omega]
    omega

theorem bdrewB {B : Nat} {w Y : World} (h : Below B w Y) (n : Nat) : Below B w (Y.drewN n) := h.trans ⟨rfl, rfl, rfl, Nat.le_refl _, fun _ _ => rfl⟩
theorem rec_end {wz : World} {base : Nat} {xs : List Byte} {k : Nat} {out : List (List Byte)} {v : Value} (hso : SoFar xs k out) (hz : frameSz (xs.drop k) = 0) (hro : RowsB wz base v out) :
    (∃ F, bytessR.O wz base F v (recL xs)) ∧ recU xs = k := by
  obtain ⟨e1, e2⟩ := soFar_end hso hz
  rw [e1]
  exact ⟨rowsB_O hro, e2⟩

end Go.Proofs.Ytaahmmadcdfcpaa
