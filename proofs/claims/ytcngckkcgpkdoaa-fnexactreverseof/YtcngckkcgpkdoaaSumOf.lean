/-
  SumOf on both sides, and how its answers are compared.
-/
import Derived.Test.YtcngckkcgpkdoaaSpecFault
import Derived.Test.YtcngckkcgpkdoaaImplFault2
namespace Go.Proofs.Ytcngckkcgpkdoaa
open Go.RowKit
set_option linter.unusedSectionVars false
variable [DecidableEq Leg] [Inhabited Leg]
attribute [local go_sem ↓] Go.wp_at_zero Go.wp_at_succ

theorem ok_of_scan {xs : List Leg} (h : scan [] xs = 0) : ∀ k, k ≤ xs.length → okTo xs k
  | 0, _ => fun j hj => by omega
  | k + 1, hk => by
    have ih := ok_of_scan h k (by omega)
    by_cases h0 : legFault (xs.getD k default) = 0
    · cases h1 : hasPlace (xs.take k) (xs.getD k default) with
      | false => exact okTo_succ ih h0 h1
      | true => have := scan_taken (by omega) ih h0 h1; omega
    · have := scan_bad (by omega) ih h0; omega

theorem cf_inv {id : Int} {xs : List Leg} (h : contractFault id xs = 0) : inB id 1 1000000000 = true ∧ 2 ≤ xs.length ∧ xs.length ≤ 8 ∧ okTo xs xs.length ∧ sumA 0 xs = 0 ∧ sumA 1 xs = 0 ∧ sumA 2 xs = 0 := by
  unfold contractFault at h
  split at h
  · rename_i h1
    split at h
    · omega
    · split at h
      · rename_i h3
        split at h
        · rename_i h4
          exact ⟨h1, by omega, by omega, ok_of_scan h3 _ (Nat.le_refl _), h4⟩
        · omega
      · omega
  · omega

def sumCode (id : Int) (xs : List Leg) (asset : Int) : Int := if contractFault id xs = 0 then (if inB asset 0 2 then 0 else 3) else contractFault id xs
def sumVal (id : Int) (xs : List Leg) (asset : Int) : Int := if contractFault id xs = 0 ∧ inB asset 0 2 = true then givenA asset xs else 0

set_option maxHeartbeats 1000000 in
theorem specSumOf_any (id : Int) (x : Value) (xs : List Leg) (asset : Int) (w : World) (hx : LegsV w x xs) :
    Calls Try.prog 29 #[.agg #[.int .i64 id, x], .int .i64 asset] w fun e w' => e = .returned (.agg #[.int .i64 (sumCode id xs asset), .int .i64 (sumVal id xs asset)]) ∧ Below w.heap.size w w' := by
  go_enter Try.func29, Try.ntmps29
  go_wp2_with fail
  refine (specFault_any id x xs _ (LegsV_below hx (balloc (balloc (Below.refl _ _) _) _))).mono ?_
  rintro e w1 ⟨rfl, hb1⟩
  have hB1 : Below w.heap.size w w1 := bstep (balloc (balloc (Below.refl _ _) _) _) hb1
  obtain ⟨hc1, hf1⟩ := bcell hb1
  by_cases hcf : contractFault id xs = 0
  · have HC : Hid (contractFault id xs = 0) := hcf
    rw [hcf]
    clear hcf
    cases ha : inB asset 0 2 with
    | false =>
      go_wp2_with (go_at_call 39; refine (l1In_any _ _ _ _).mono ?_; rintro e w' ⟨rfl, rfl⟩)
      refine bodyPost_ret (v := .agg #[.int .i64 3, .int .i64 0]) ?_ rfl ⟨?_, bset (bset hB1 (by simp) _) (by simp) _⟩
      · simp [results, Try.results29, go_sem, hc1]
      · simp [sumCode, sumVal, HC.out, ha]
    | true =>
      obtain ⟨_, hl2, hl8, hok, _⟩ := cf_inv HC.out
      have HS : Hid (small xs) := small_of_ok hok
      clear hok
      go_wp2_with (go_at_call 39; refine (l1In_any _ _ _ _).mono ?_; rintro e w' ⟨rfl, rfl⟩)
      have hcb : w'.cell? ⟨w.heap.size, 1, none⟩ = some x := by rw [hc1 _ _ (by simp; omega)]; simp [go_sem]
      have hr0 : w'.cell? ⟨w.heap.size + 1, 0, none⟩ = some (.int .i64 0) := by rw [hc1 _ _ (by simp)]; simp [go_sem]
      have hr1 : w'.cell? ⟨w.heap.size + 1, 1, none⟩ = some (.int .i64 0) := by rw [hc1 _ _ (by simp)]; simp [go_sem]
      have hrf : ∀ o, w'.frozen? ⟨w.heap.size + 1, o, none⟩ = false := fun o => by rw [hf1 _ _ (by simp)]; simp [go_sem]
      clear hc1 hf1 hb1
      obtain ⟨ax, cx, rfl, hcx, hmx, hxx⟩ := LegsV_below hx hB1
      unfold maxLen at hmx
      clear hx
      generalize hn' : xs.length = n at *
      have HN : Hid (xs.length = n) := hn'
      clear hn'
      go_loopw [6, 7] (fun s i w2 => ∃ k : Nat, k ≤ n ∧ i = .int .i64 k ∧ s = .int .i64 (givenA asset (xs.take k)) ∧ w2 = w') (fun _ i _ => n - (intOf i).toNat)
      case atStart => exact ⟨0, Nat.zero_le _, rfl, by simp [givenA], rfl⟩
      case round =>
        obtain ⟨k, hk, rfl, rfl, rfl⟩ := hrel
        by_cases hlt : k < n
        · obtain ⟨bx, ox, rfl, g1⟩ := hxx k hlt
          obtain ⟨l, hl⟩ : ∃ l, l = xs.getD k default := ⟨_, rfl⟩
          rw [← hl] at g1
          have HL : Hid (l = xs.getD k default) := hl
          clear hl hxx
          obtain ⟨a1, a2, a3, a4⟩ := g1
          have gb := givenA_bound asset xs HS.out k (by have := HN.out; omega)
          have sb := HS.out k (by have := HN.out; omega)
          rw [← HL.out] at sb
          obtain ⟨g, hge⟩ : ∃ g, g = givenA asset (xs.take k) := ⟨_, rfl⟩
          rw [← hge] at gb
          have HG : Hid (g = givenA asset (xs.take k)) := hge
          rw [← hge]
          clear hge
          obtain ⟨sb1, sb2⟩ := sb
          have gb1 : 0 ≤ g := gb.1
          have gb2 : g ≤ 8000000000000 := by omega
          clear gb
          have hkx : k < xs.length := by have := HN.out; omega
          have HEG : Hid (givenA asset (xs.take (k + 1)) = g + if l.ast = asset ∧ 0 < l.am then l.am else 0) := by show _ = _; rw [givenA_snoc asset xs k hkx, ← HL.out, HG.out]
          go_wp2
          · rename_i e1 e2
            have e := HEG.out
            rw [if_pos ⟨e1, e2⟩] at e
            exact ⟨⟨k + 1, by omega, by go_num, by rw [e], trivial⟩, by simp [intOf]; omega⟩
          · rename_i e1 e2
            have e := HEG.out
            rw [if_neg (fun h => by omega), Int.add_zero] at e
            exact ⟨⟨k + 1, by omega, by go_num, by rw [e], trivial⟩, by simp [intOf]; omega⟩
          · rename_i e1
            have e := HEG.out
            rw [if_neg (fun h => e1 h.1), Int.add_zero] at e
            exact ⟨⟨k + 1, by omega, by go_num, by rw [e], trivial⟩, by simp [intOf]; omega⟩
        · have hkn : k = n := by omega
          subst hkn
          have t0 : xs.take k = xs := by rw [← HN.out]; exact List.take_length
          rw [t0]
          go_wp2
          refine bodyPost_ret (v := .agg #[.int .i64 0, .int .i64 (givenA asset xs)]) ?_ rfl ⟨?_, bset (bset hB1 (by simp) _) (by simp) _⟩
          · simp [results, Try.results29, go_sem, hr0, hr1]
          · simp [sumCode, sumVal, HC.out, ha]
  · have hd : (contractFault id xs == 0) = false := by simpa using hcf
    go_wp2
    refine bodyPost_ret (v := .agg #[.int .i64 (contractFault id xs), .int .i64 0]) ?_ rfl ⟨?_, bset (bset hB1 (by simp) _) (by simp) _⟩
    · simp [results, Try.results29, go_sem, hc1]
    · simp [sumCode, sumVal, hcf]

set_option maxHeartbeats 1000000 in
theorem implSumOf_any (id : Int) (x : Value) (xs : List Leg) (asset : Int) (w : World) (hx : LegsV w x xs) :
    Calls Try.prog 30 #[.agg #[.int .i64 id, x], .int .i64 asset] w fun e w' => e = .returned (.agg #[.int .i64 (sumCode id xs asset), .int .i64 (sumVal id xs asset)]) ∧ Below w.heap.size w w' := by
  go_enter Try.func30, Try.ntmps30
  go_wp2_with fail
  refine (implFault_any id x xs _ (LegsV_below hx (balloc (balloc (Below.refl _ _) _) _))).mono ?_
  rintro e w1 ⟨rfl, hb1⟩
  have hB1 : Below w.heap.size w w1 := bstep (balloc (balloc (Below.refl _ _) _) _) hb1
  obtain ⟨hc1, hf1⟩ := bcell hb1
  by_cases hcf : contractFault id xs = 0
  · have HC : Hid (contractFault id xs = 0) := hcf
    rw [hcf]
    clear hcf
    cases ha : inB asset 0 2 with
    | false =>
      go_wp2_with (go_at_call 58; refine (isAsset_any _ _).mono ?_; rintro e w' ⟨rfl, rfl⟩)
      refine bodyPost_ret (v := .agg #[.int .i64 3, .int .i64 0]) ?_ rfl ⟨?_, bset (bset hB1 (by simp) _) (by simp) _⟩
      · simp [results, Try.results30, go_sem, hc1]
      · simp [sumCode, sumVal, HC.out, ha]
    | true =>
      obtain ⟨_, hl2, hl8, hok, _⟩ := cf_inv HC.out
      have HS : Hid (small xs) := small_of_ok hok
      clear hok
      have hcb : w1.cell? ⟨w.heap.size, 1, none⟩ = some x := by rw [hc1 _ _ (by simp; omega)]; simp [go_sem]
      have hr0 : w1.cell? ⟨w.heap.size + 1, 0, none⟩ = some (.int .i64 0) := by rw [hc1 _ _ (by simp)]; simp [go_sem]
      have hr1 : w1.cell? ⟨w.heap.size + 1, 1, none⟩ = some (.int .i64 0) := by rw [hc1 _ _ (by simp)]; simp [go_sem]
      have hrf : ∀ o, w1.frozen? ⟨w.heap.size + 1, o, none⟩ = false := fun o => by rw [hf1 _ _ (by simp)]; simp [go_sem]
      have hz : w.heap.size + 1 < w1.heap.size := World.block_lt_of_cell? _ _ hr0
      clear hc1 hf1 hb1
      go_wp2_with (go_at_call 58; refine (isAsset_any _ _).mono ?_; rintro e w' ⟨rfl, rfl⟩)
      go_wp2_with fail
      refine (sumsOf_any x xs asset _ (LegsV_below hx hB1) hl8 HS.out).mono ?_
      rintro e w2 ⟨rfl, hb2⟩
      have i0 : ∀ w, (Instr.index 76 (.agg #[.int .i64 (givenA asset xs), .int .i64 (takenA asset xs)]) (.int .i64 0)).run Try.prog w = .ok (.int .i64 (givenA asset xs)) w := fun _ => by kernel_rfl
      have hB2 := bstep hB1 hb2
      have hr0 := cell_keep hb2 hr0
      have hr1 := cell_keep hb2 hr1
      have hrf2 : ∀ o, w2.frozen? ⟨w.heap.size + 1, o, none⟩ = false := fun o => by rw [(bcell hb2).2 _ _ hz]; exact hrf o
      clear hb2 hrf
      go_wp2
      refine bodyPost_ret (v := .agg #[.int .i64 0, .int .i64 (givenA asset xs)]) ?_ rfl ⟨?_, bset (bset hB2 (by simp) _) (by simp) _⟩
      · simp [results, Try.results30, go_sem, hr0, hr1]
      · simp [sumCode, sumVal, HC.out, ha]
  · have hd : (contractFault id xs == 0) = false := by simpa using hcf
    go_wp2
    refine bodyPost_ret (v := .agg #[.int .i64 (contractFault id xs), .int .i64 0]) ?_ rfl ⟨?_, bset (bset hB1 (by simp) _) (by simp) _⟩
    · simp [results, Try.results30, go_sem, hc1]
    · simp [sumCode, sumVal, hcf]

set_option maxHeartbeats 400000 in
theorem eqIntResult_any (a b c d : Int) (w : World) :
    Calls Try.prog 31 #[.agg #[.int .i64 a, .int .i64 b], .agg #[.int .i64 c, .int .i64 d]] w fun e w' => e = .returned (.bool (decide (a = c ∧ b = d))) ∧ Below w.heap.size w w' := by
  go_enter Try.func31, Try.ntmps31
  go_wp2
  all_goals
    go_ret
    exact ⟨by simp_all, balloc (balloc (Below.refl _ _) _) _⟩

end Go.Proofs.Ytcngckkcgpkdoaa
