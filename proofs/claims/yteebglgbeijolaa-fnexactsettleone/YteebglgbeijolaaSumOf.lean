/-
  SumOf on both sides, and how its answers are compared.
-/
import Derived.Test.YteebglgbeijolaaSpecFault
import Derived.Test.YteebglgbeijolaaImplFault2
namespace Go.Proofs.Yteebglgbeijolaa
open Go.RowKit
set_option linter.unusedSectionVars false
variable [DecidableEq Leg] [Inhabited Leg]
attribute [local go_sem ↓] Go.wp_at_zero Go.wp_at_succ

theorem ok_of_scan {xs : List Leg} (h : scan [] xs = 0) : ∀ k, k ≤ xs.length → okTo xs k
  | 0, _ => fun j hj => by omega
  | k + 1, hk => by
    have ih := ok_of_scan h k (by omega)
    by_cases h0 : legFault (xs.getD k default) = 0
    · cases h1 : hasPlace (xs.take k) (xs.getD k default) with
      | false => exact okTo_succ ih h0 h1
      | true => have := scan_taken (by omega) ih h0 h1; omega
    · have := scan_bad (by omega) ih h0; omega

theorem cf_inv {id : Int} {xs : List Leg} (h : contractFault id xs = 0) : inB id 1 1000000000 = true ∧ 2 ≤ xs.length ∧ xs.length ≤ 8 ∧ okTo xs xs.length ∧ sumA 0 xs = 0 ∧ sumA 1 xs = 0 ∧ sumA 2 xs = 0 := by
  unfold contractFault at h
  split at h
  · rename_i h1
    split at h
    · omega
    · split at h
      · rename_i h3
        split at h
        · rename_i h4
          exact ⟨h1, by omega, by omega, ok_of_scan h3 _ (Nat.le_refl _), h4⟩
        · omega
      · omega
  · omega

def sumCode (id : Int) (xs : List Leg) (asset : Int) : Int := if contractFault id xs = 0 then (if inB asset 0 2 then 0 else 3) else contractFault id xs
def sumVal (id : Int) (xs : List Leg) (asset : Int) : Int := if contractFault id xs = 0 ∧ inB asset 0 2 = true then givenA asset xs else 0

set_option maxHeartbeats 1000000 in
theorem implSumOf_any (id : Int) (x : Value) (xs : List Leg) (asset : Int) (w : World) (hx : LegsV w x xs) :
    Calls Try.prog 14 #[.agg #[.int .i64 id, x], .int .i64 asset] w fun e w' => e = .returned (.agg #[.int .i64 (sumCode id xs asset), .int .i64 (sumVal id xs asset)]) ∧ Below w.heap.size w w' := by
  go_enter Try.func14, Try.ntmps14
  go_wp2_with fail
  refine (implFault_any id x xs _ (LegsV_below hx (balloc (balloc (Below.refl _ _) _) _))).mono ?_
  rintro e w1 ⟨rfl, hb1⟩
  have hB1 : Below w.heap.size w w1 := bstep (balloc (balloc (Below.refl _ _) _) _) hb1
  obtain ⟨hc1, hf1⟩ := bcell hb1
  by_cases hcf : contractFault id xs = 0
  · have HC : Hid (contractFault id xs = 0) := hcf
    rw [hcf]
    clear hcf
    cases ha : inB asset 0 2 with
    | false =>
      go_wp2_with (go_at_call 55; refine (isAsset_any _ _).mono ?_; rintro e w' ⟨rfl, rfl⟩)
      refine bodyPost_ret (v := .agg #[.int .i64 3, .int .i64 0]) ?_ rfl ⟨?_, bset (bset hB1 (by simp) _) (by simp) _⟩
      · simp [results, Try.results14, go_sem, hc1]
      · simp [sumCode, sumVal, HC.out, ha]
    | true =>
      obtain ⟨_, hl2, hl8, hok, _⟩ := cf_inv HC.out
      have HS : Hid (small xs) := small_of_ok hok
      clear hok
      have hcb : w1.cell? ⟨w.heap.size, 1, none⟩ = some x := by rw [hc1 _ _ (by simp; omega)]; simp [go_sem]
      have hr0 : w1.cell? ⟨w.heap.size + 1, 0, none⟩ = some (.int .i64 0) := by rw [hc1 _ _ (by simp)]; simp [go_sem]
      have hr1 : w1.cell? ⟨w.heap.size + 1, 1, none⟩ = some (.int .i64 0) := by rw [hc1 _ _ (by simp)]; simp [go_sem]
      have hrf : ∀ o, w1.frozen? ⟨w.heap.size + 1, o, none⟩ = false := fun o => by rw [hf1 _ _ (by simp)]; simp [go_sem]
      have hz : w.heap.size + 1 < w1.heap.size := World.block_lt_of_cell? _ _ hr0
      clear hc1 hf1 hb1
      go_wp2_with (go_at_call 55; refine (isAsset_any _ _).mono ?_; rintro e w' ⟨rfl, rfl⟩)
      go_wp2_with fail
      refine (sumsOf_any x xs asset _ (LegsV_below hx hB1) hl8 HS.out).mono ?_
      rintro e w2 ⟨rfl, hb2⟩
      have i0 : ∀ w, (Instr.index 99 (.agg #[.int .i64 (givenA asset xs), .int .i64 (takenA asset xs)]) (.int .i64 0)).run Try.prog w = .ok (.int .i64 (givenA asset xs)) w := fun _ => by kernel_rfl
      have hB2 := bstep hB1 hb2
      have hr0 := cell_keep hb2 hr0
      have hr1 := cell_keep hb2 hr1
      have hrf2 : ∀ o, w2.frozen? ⟨w.heap.size + 1, o, none⟩ = false := fun o => by rw [(bcell hb2).2 _ _ hz]; exact hrf o
      clear hb2 hrf
      go_wp2
      refine bodyPost_ret (v := .agg #[.int .i64 0, .int .i64 (givenA asset xs)]) ?_ rfl ⟨?_, bset (bset hB2 (by simp) _) (by simp) _⟩
      · simp [results, Try.results14, go_sem, hr0, hr1]
      · simp [sumCode, sumVal, HC.out, ha]
  · have hd : (contractFault id xs == 0) = false := by simpa using hcf
    go_wp2
    refine bodyPost_ret (v := .agg #[.int .i64 (contractFault id xs), .int .i64 0]) ?_ rfl ⟨?_, bset (bset hB1 (by simp) _) (by simp) _⟩
    · simp [results, Try.results14, go_sem, hc1]
    · simp [sumCode, sumVal, hcf]

end Go.Proofs.Yteebglgbeijolaa
