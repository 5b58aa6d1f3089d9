import Derived.Test.YtgibggjmliddlaaPrnQuorumsLaw8
import Derived.Test.YtgibggjmliddlaaPrnQuorumsLaw9

/-
  Two quorums have somebody in common, and a value that is picked is that of the greatest ballot: the walk.
-/
namespace Go.Proofs.Ytgibggjmliddlaa
open Go.RowKit
set_option linter.unusedSectionVars false
variable [DecidableEq Vot] [Inhabited Vot] [DecidableEq Slt] [Inhabited Slt] [DecidableEq SltR] [Inhabited SltR] [DecidableEq Bal] [Inhabited Bal] [DecidableEq Ledg] [Inhabited Ledg] [DecidableEq Leg] [Inhabited Leg] [DecidableEq Logg] [Inhabited Logg] [DecidableEq LoggR] [Inhabited LoggR] [DecidableEq BytesR] [Inhabited BytesR] [DecidableEq RecsR] [Inhabited RecsR]
set_option linter.unusedVariables false
set_option linter.unusedSimpArgs false
attribute [local go_sem ↓] Go.wp_at_zero Go.wp_at_succ

theorem best_is (own : Int) (xs : List Vot) : ∀ k, 0 ≤ (best own xs k).bal → ∃ j, j < k ∧ xs.getD j default = best own xs k
  | 0, h => by simp [best] at h
  | k + 1, h => by
    unfold best at h ⊢
    split at h
    · rename_i h1
      exact ⟨k, by omega, by rw [if_pos h1]⟩
    · rename_i h1
      obtain ⟨j, hj, e⟩ := best_is own xs k h
      exact ⟨j, by omega, by rw [if_neg h1, e]⟩
namespace quorumsLaw
set_option maxRecDepth 20000 in
set_option maxHeartbeats 16000000 in
theorem walk (x0 : Value) (d0 : List Byte) (w : World) (hx0 : bytesR.V w x0 d0) :
    Calls Try.prog 3 #[x0] w fun e w' => e = .returned (.bool true) ∧ Below w.heap.size w w' := by
  have hX0 := hx0
  obtain ⟨ax, cx, rfl⟩ := bytes_form hx0
  go_enter Try.func3, Try.ntmps3
  go_wp2_with fail
  refine (lwBig_any _ d0 _ hX0).mono ?_
  rintro e w' ⟨rfl, hw⟩
  obtain rfl : w = w' := hw.symm
  by_cases hbig : 1048576 < d0.length
  · rw [decide_eq_true hbig]
    go_wp2
    go_ret
    exact ⟨rfl, Below.refl _ _⟩
  rw [decide_eq_false hbig]
  have HX : Hid (∀ W, Below w.heap.size w W → BytesV W (.slice ax d0.length cx) d0) := fun W hW => BytesV_below hX0 hW
  obtain ⟨N0, hN0⟩ : ∃ N0, N0 = d0.length := ⟨_, rfl⟩
  rw [← hN0] at HX ⊢
  have HN0 : Hid (d0.length ≤ 1048576) := by unfold Hid; omega
  clear hx0 hX0 hbig hN0
  go_wp2
  go_loopw [3] (fun i w' => ∃ k : Nat, 1 ≤ k ∧ k ≤ 10 ∧ i = .int .i64 k ∧ Below w.heap.size w w') (fun i _ => 10 - (intOf i).toNat)
  case atStart => exact ⟨1, by omega, by omega, rfl, Below.refl _ _⟩
  case round =>
    obtain ⟨k, hk1, hk2, rfl, hbl⟩ := hrel
    by_cases hk : k < 10
    · have hin : inB (k : Int) 1 9 = true := inBi.2 (by omega)
      have e1 : quoC (k : Int) = 0 := by unfold quoC; rw [hin]; rfl
      have e2 : ∃ q, quoR (k : Int) = q ∧ (k : Int) < 2 * q ∧ 2 * (q - 1) ≤ k ∧ 0 ≤ q ∧ q ≤ 10 := ⟨_, rfl, by unfold quoR quoV; rw [hin, if_pos rfl]; omega, by unfold quoR quoV; rw [hin, if_pos rfl]; omega, by unfold quoR quoV; rw [hin, if_pos rfl]; omega, by unfold quoR quoV; rw [hin, if_pos rfl]; omega⟩
      obtain ⟨q, e2, q1, q2, q3, q4⟩ := e2
      clear HX HN0
      go_wp2_with fail
      refine (implQuorum_any (k : Int) _).mono ?_
      rintro e w1 ⟨rfl, hb1⟩
      have hB1 := bstep hbl hb1
      rw [e1, e2]
      have v1 : IntKind.i64.wrap (2 * q) = 2 * q := wrapId (by omega) (by omega)
      have v2 : IntKind.i64.wrap (q - 1) = q - 1 := wrapId (by omega) (by omega)
      have v3 : IntKind.i64.wrap (2 * (q - 1)) = 2 * (q - 1) := wrapId (by omega) (by omega)
      have v4 : ¬ 2 * q ≤ (k : Int) := by omega
      have v5 : ¬ (k : Int) < 2 * (q - 1) := by omega
      clear hb1 hbl hin e1 e2
      go_wp2
      exact ⟨⟨k + 1, by omega, by omega, by go_num, by (repeat (first | exact Below.refl _ _ | assumption | refine Below.drew ?_ | refine balloc ?_ _ | refine bset ?_ (by simp; omega) _ | refine bset ?_ (by simp) _ | refine bstep ?_ (by assumption)))⟩, by simp [intOf]; omega⟩
    · have hk10 : k = 10 := by omega
      subst hk10
      go_wp2_with fail
      refine (drawPick_any _ d0 _ (HX.out _ hbl) HN0.out).mono ?_
      rintro e w1 ⟨v1, xs, own, rfl, hV1, hl1, hb1⟩
      obtain ⟨p1, c1, rfl⟩ := vots_form hV1
      have hB1 : Below w.heap.size w w1 := bstep hbl hb1
      have HV : Hid (∀ W, Below w1.heap.size w1 W → votsR.V W (.slice p1 xs.length c1) xs) := fun W hW => votsR.below hV1 hW
      clear hb1 hbl hV1 HX HN0
      obtain ⟨n, hn⟩ : ∃ n, n = xs.length := ⟨_, rfl⟩
      rw [← hn] at HV hl1 ⊢
      have HN : Hid (xs.length = n) := hn.symm
      clear hn hk hk1 hk2
      have hI := fun W h => implPick_any _ xs own W (HV.out W h)
      have hSp := fun W h => specPick_any _ xs own W (HV.out W h)
      have hPV : Hid (pickC xs own = 0 → pickV xs own = (best own xs n).val) := fun h => by unfold pickV; rw [if_pos h, HN.out]
      obtain ⟨pc, hpc⟩ : ∃ pc, pc = pickC xs own := ⟨_, rfl⟩
      obtain ⟨pv, hpv⟩ : ∃ pv, pv = pickV xs own := ⟨_, rfl⟩
      rw [← hpc, ← hpv] at hPV hI hSp
      clear hpc hpv
      go_wp2_with fail
      refine (hI _ (Below.refl _ _)).mono ?_
      rintro e w2 ⟨rfl, hb2⟩
      clear hI
      by_cases hc : pc = 0
      · subst hc
        have hV := hPV.out rfl
        have HVal : Hid (pv = (best own xs n).val) := hV
        clear hV hPV hSp
        obtain ⟨a', cap', e', hcx, hmx, hel⟩ := HV.out w1 (Below.refl _ _)
        simp only [Value.slice.injEq] at e'
        obtain ⟨rfl, hnn, rfl⟩ := e'
        clear hnn
        rw [HN.out] at hcx hel
        unfold maxLen at hmx
        clear HV
        have hB2 := bstep hB1 hb2
        go_wp2
        go_loopw [8, 9] (fun u i w' => ∃ k : Nat, k ≤ n ∧ i = .int .i64 k ∧ u = .int .i64 (best own xs k).bal ∧ w'.cell? ⟨w2.heap.size, 1, none⟩ = some (.int .i64 pv) ∧ Below w1.heap.size w1 w') (fun _ i _ => n - (intOf i).toNat)
        case atStart => exact ⟨0, Nat.zero_le _, rfl, rfl, by simp [go_sem], balloc hb2 _⟩
        case round =>
          obtain ⟨k, hk, rfl, rfl, r1, hbw⟩ := hrel
          obtain ⟨q, hq⟩ : ∃ q, q = best own xs k := ⟨_, rfl⟩
          have HQ : Hid (best own xs k = q) := hq.symm
          rw [← hq]
          clear hq
          by_cases hlt : k < n
          · obtain ⟨bx, ox, rfl, g1⟩ := hel k hlt
            obtain ⟨l, hl⟩ : ∃ l, l = xs.getD k default := ⟨_, rfl⟩
            rw [← hl] at g1
            have HL : Hid (l = xs.getD k default) := hl
            clear hl
            obtain ⟨a1, a2⟩ := votCells_below hbw g1
            clear g1 hel
            have hst : Hid (best own xs (k + 1) = if q.bal < l.bal then l else q) := by show _ = _; rw [HL.out, ← HQ.out]; rfl
            go_wp2
            · rename_i hle
              exact ⟨⟨k + 1, by omega, by go_num, by rw [hst.out, if_pos hle], r1, hbw⟩, by simp [intOf]; omega⟩
            · rename_i hle
              exact ⟨⟨k + 1, by omega, by go_num, by rw [hst.out, if_neg (by omega)], r1, hbw⟩, by simp [intOf]; omega⟩
          · have hkn : k = n := by omega
            subst hkn
            rw [HQ.out] at HVal
            have HNo : Hid (q.bal < 0 → q = ⟨-1, own⟩) := fun h => by rw [← HQ.out] at h ⊢; exact best_no own xs k h
            have HIs : Hid (0 ≤ q.bal → ∃ j, j < k ∧ xs.getD j default = q) := fun h => by rw [← HQ.out] at h ⊢; exact best_is own xs k h
            go_wp2
            go_loopw [10] (fun i w' => ∃ j : Nat, j ≤ k ∧ i = .int .i64 j ∧ (0 ≤ q.bal → ∀ t, t < j → ¬ xs.getD t default = q) ∧ w'.cell? ⟨w2.heap.size, 1, none⟩ = some (.int .i64 pv) ∧ Below w1.heap.size w1 w') (fun i _ => k - (intOf i).toNat)
            case atStart => exact ⟨0, Nat.zero_le _, rfl, fun _ t h => absurd h (Nat.not_lt_zero _), r1, hbw⟩
            case round =>
              clear r1 hbw
              obtain ⟨j, hj, rfl, hno, r1, hbw⟩ := hrel
              have HO : Hid (0 ≤ q.bal → ∀ t, t < j → ¬ xs.getD t default = q) := hno
              clear hno
              by_cases hjk : j < k
              · obtain ⟨bx, ox, rfl, g1⟩ := hel j hjk
                obtain ⟨l, hl⟩ : ∃ l, l = xs.getD j default := ⟨_, rfl⟩
                rw [← hl] at g1
                have HL : Hid (l = xs.getD j default) := hl
                clear hl
                obtain ⟨a1, a2⟩ := votCells_below hbw g1
                clear g1 hel
                have zb : bx < wr.heap.size := World.block_lt_of_cell? wr _ a1
                have i1 : (j : Int) < (k : Int) := by omega
                by_cases m0 : 0 ≤ q.bal
                · have f0 : decide (0 ≤ q.bal) = true := by simp [m0]
                  by_cases m1 : l.bal = q.bal
                  · have f1 : (l.bal == q.bal) = true := by simp [m1]
                    by_cases m2 : l.val = pv
                    · have f2 : (l.val == pv) = true := by simp [m2]
                      clear m1 m2
                      go_wp2
                      go_quiet (fail)
                      go_wp2
                      go_ret
                      exact ⟨rfl, bdrewN (bstep hB1 hbw) _⟩
                    · have f2 : (l.val == pv) = false := by simp [m2]
                      have HN2 : Hid (¬ xs.getD j default = q) := fun h => m2 (by rw [HL.out, h, HVal.out])
                      clear m1 m2
                      go_wp2
                      go_quiet (fail)
                      go_wp2
                      refine ⟨⟨j + 1, by omega, by go_num, fun _ t ht => ?_, cell_keep (bdrewN (Below.refl _ _) _) r1, bdrewN hbw _⟩, by simp [intOf]; omega⟩
                      by_cases h : t < j
                      · exact HO.out m0 t h
                      · have : t = j := by omega
                        subst this
                        exact HN2.out
                  · have f1 : (l.bal == q.bal) = false := by simp [m1]
                    have HN2 : Hid (¬ xs.getD j default = q) := fun h => m1 (by rw [HL.out, h])
                    clear m1
                    go_wp2
                    go_quiet (fail)
                    go_wp2
                    refine ⟨⟨j + 1, by omega, by go_num, fun _ t ht => ?_, cell_keep (bdrewN (Below.refl _ _) _) r1, bdrewN hbw _⟩, by simp [intOf]; omega⟩
                    by_cases h : t < j
                    · exact HO.out m0 t h
                    · have : t = j := by omega
                      subst this
                      exact HN2.out
                · clear a1 a2
                  have f0 : decide (0 ≤ q.bal) = false := by simp [m0]
                  go_wp2
                  refine wp_region_noPanic ?_
                  refine region_upto (fun W => Below wr.heap.size wr W) 21 (by kernel_rfl) (by (repeat (first | exact Below.refl _ _ | assumption | refine Below.drew ?_ | refine balloc ?_ _ | refine bset ?_ (by simp; omega) _ | refine bset ?_ (by simp) _ | refine bstep ?_ (by assumption)))) (fun hS => ?_)
                  refine upto_takeN (i := 0) (v := ?_) rfl (by kernel_rfl) (by kernel_rfl) (by kernel_rfl) (by kernel_rfl) (fun _ _ _ h => h) (by rfl) hS ?_ ?_
                  rotate_left
                  · intro wS hSw
                    try dsimp only at hSw
                    first | (go_simp; done) | (go_simp; with_reducible rfl)
                  try simp only [Act.put, List.getElem_toArray, List.getElem_cons_zero, List.getElem_cons_succ, List.setIfInBounds_toArray, List.set_cons_zero, List.set_cons_succ]
                  refine upto_takeN (i := 1) (v := (.bool false)) rfl (by kernel_rfl) (by kernel_rfl) (by kernel_rfl) (by kernel_rfl) (fun _ _ _ h => h) (by rfl) hS ?_ ?_
                  · intro wS hSw
                    try dsimp only at hSw
                    go_simp
                  try simp only [Act.put, List.getElem_toArray, List.getElem_cons_zero, List.getElem_cons_succ, List.setIfInBounds_toArray, List.set_cons_zero, List.set_cons_succ]
                  refine upto_takeN (i := 2) (v := (.bool false)) rfl (by kernel_rfl) (by kernel_rfl) (by kernel_rfl) (by kernel_rfl) (fun _ _ _ h => h) (by rfl) hS ?_ ?_
                  · intro wS hSw
                    try dsimp only at hSw
                    go_simp
                  try simp only [Act.put, List.getElem_toArray, List.getElem_cons_zero, List.getElem_cons_succ, List.setIfInBounds_toArray, List.set_cons_zero, List.set_cons_succ]
                  refine upto_skipU (i := 3) rfl (by kernel_rfl) (by kernel_rfl) (by kernel_rfl) (by kernel_rfl) (fun _ _ _ h => h) (by rfl) hS ?_
                  try simp only [Act.put, List.getElem_toArray, List.getElem_cons_zero, List.getElem_cons_succ, List.setIfInBounds_toArray, List.set_cons_zero, List.set_cons_succ]
                  refine upto_skipU (i := 4) rfl (by kernel_rfl) (by kernel_rfl) (by kernel_rfl) (by kernel_rfl) (fun _ _ _ h => h) (by rfl) hS ?_
                  try simp only [Act.put, List.getElem_toArray, List.getElem_cons_zero, List.getElem_cons_succ, List.setIfInBounds_toArray, List.set_cons_zero, List.set_cons_succ]
                  refine upto_skipU (i := 5) rfl (by kernel_rfl) (by kernel_rfl) (by kernel_rfl) (by kernel_rfl) (fun _ _ _ h => h) (by rfl) hS ?_
                  try simp only [Act.put, List.getElem_toArray, List.getElem_cons_zero, List.getElem_cons_succ, List.setIfInBounds_toArray, List.set_cons_zero, List.set_cons_succ]
                  refine upto_skipU (i := 6) rfl (by kernel_rfl) (by kernel_rfl) (by kernel_rfl) (by kernel_rfl) (fun _ _ _ h => h) (by rfl) hS ?_
                  try simp only [Act.put, List.getElem_toArray, List.getElem_cons_zero, List.getElem_cons_succ, List.setIfInBounds_toArray, List.set_cons_zero, List.set_cons_succ]
                  refine upto_skipU (i := 7) rfl (by kernel_rfl) (by kernel_rfl) (by kernel_rfl) (by kernel_rfl) (fun _ _ _ h => h) (by rfl) hS ?_
                  try simp only [Act.put, List.getElem_toArray, List.getElem_cons_zero, List.getElem_cons_succ, List.setIfInBounds_toArray, List.set_cons_zero, List.set_cons_succ]
                  refine upto_skipU (i := 8) rfl (by kernel_rfl) (by kernel_rfl) (by kernel_rfl) (by kernel_rfl) (fun _ _ _ h => h) (by rfl) hS ?_
                  try simp only [Act.put, List.getElem_toArray, List.getElem_cons_zero, List.getElem_cons_succ, List.setIfInBounds_toArray, List.set_cons_zero, List.set_cons_succ]
                  refine upto_skipU (i := 9) rfl (by kernel_rfl) (by kernel_rfl) (by kernel_rfl) (by kernel_rfl) (fun _ _ _ h => h) (by rfl) hS ?_
                  try simp only [Act.put, List.getElem_toArray, List.getElem_cons_zero, List.getElem_cons_succ, List.setIfInBounds_toArray, List.set_cons_zero, List.set_cons_succ]
                  refine upto_takeN (i := 10) (v := (.bool false)) rfl (by kernel_rfl) (by kernel_rfl) (by kernel_rfl) (by kernel_rfl) (fun _ _ _ h => h) (by rfl) hS ?_ ?_
                  · intro wS hSw
                    try dsimp only at hSw
                    go_simp
                  try simp only [Act.put, List.getElem_toArray, List.getElem_cons_zero, List.getElem_cons_succ, List.setIfInBounds_toArray, List.set_cons_zero, List.set_cons_succ]
                  refine upto_takeN (i := 11) (v := (.bool false)) rfl (by kernel_rfl) (by kernel_rfl) (by kernel_rfl) (by kernel_rfl) (fun _ _ _ h => h) (by rfl) hS ?_ ?_
                  · intro wS hSw
                    try dsimp only at hSw
                    go_simp
                  try simp only [Act.put, List.getElem_toArray, List.getElem_cons_zero, List.getElem_cons_succ, List.setIfInBounds_toArray, List.set_cons_zero, List.set_cons_succ]
                  refine upto_skipU (i := 12) rfl (by kernel_rfl) (by kernel_rfl) (by kernel_rfl) (by kernel_rfl) (fun _ _ _ h => h) (by rfl) hS ?_
                  try simp only [Act.put, List.getElem_toArray, List.getElem_cons_zero, List.getElem_cons_succ, List.setIfInBounds_toArray, List.set_cons_zero, List.set_cons_succ]
                  refine upto_skipU (i := 13) rfl (by kernel_rfl) (by kernel_rfl) (by kernel_rfl) (by kernel_rfl) (fun _ _ _ h => h) (by rfl) hS ?_
                  try simp only [Act.put, List.getElem_toArray, List.getElem_cons_zero, List.getElem_cons_succ, List.setIfInBounds_toArray, List.set_cons_zero, List.set_cons_succ]
                  refine upto_skipU (i := 14) rfl (by kernel_rfl) (by kernel_rfl) (by kernel_rfl) (by kernel_rfl) (fun _ _ _ h => h) (by rfl) hS ?_
                  try simp only [Act.put, List.getElem_toArray, List.getElem_cons_zero, List.getElem_cons_succ, List.setIfInBounds_toArray, List.set_cons_zero, List.set_cons_succ]
                  refine upto_skipU (i := 15) rfl (by kernel_rfl) (by kernel_rfl) (by kernel_rfl) (by kernel_rfl) (fun _ _ _ h => h) (by rfl) hS ?_
                  try simp only [Act.put, List.getElem_toArray, List.getElem_cons_zero, List.getElem_cons_succ, List.setIfInBounds_toArray, List.set_cons_zero, List.set_cons_succ]
                  refine upto_skipU (i := 16) rfl (by kernel_rfl) (by kernel_rfl) (by kernel_rfl) (by kernel_rfl) (fun _ _ _ h => h) (by rfl) hS ?_
                  try simp only [Act.put, List.getElem_toArray, List.getElem_cons_zero, List.getElem_cons_succ, List.setIfInBounds_toArray, List.set_cons_zero, List.set_cons_succ]
                  refine upto_skipU (i := 17) rfl (by kernel_rfl) (by kernel_rfl) (by kernel_rfl) (by kernel_rfl) (fun _ _ _ h => h) (by rfl) hS ?_
                  try simp only [Act.put, List.getElem_toArray, List.getElem_cons_zero, List.getElem_cons_succ, List.setIfInBounds_toArray, List.set_cons_zero, List.set_cons_succ]
                  refine upto_skipU (i := 18) rfl (by kernel_rfl) (by kernel_rfl) (by kernel_rfl) (by kernel_rfl) (fun _ _ _ h => h) (by rfl) hS ?_
                  try simp only [Act.put, List.getElem_toArray, List.getElem_cons_zero, List.getElem_cons_succ, List.setIfInBounds_toArray, List.set_cons_zero, List.set_cons_succ]
                  refine upto_skipU (i := 19) rfl (by kernel_rfl) (by kernel_rfl) (by kernel_rfl) (by kernel_rfl) (fun _ _ _ h => h) (by rfl) hS ?_
                  try simp only [Act.put, List.getElem_toArray, List.getElem_cons_zero, List.getElem_cons_succ, List.setIfInBounds_toArray, List.set_cons_zero, List.set_cons_succ]
                  refine upto_takeN (i := 20) (v := (.bool false)) rfl (by kernel_rfl) (by kernel_rfl) (by kernel_rfl) (by kernel_rfl) (fun _ _ _ h => h) (by rfl) hS ?_ ?_
                  · intro wS hSw
                    try dsimp only at hSw
                    go_simp
                  try simp only [Act.put, List.getElem_toArray, List.getElem_cons_zero, List.getElem_cons_succ, List.setIfInBounds_toArray, List.set_cons_zero, List.set_cons_succ]
                  refine upto_done (by kernel_rfl) ?_
                  refine NoPanic.normal ?_
                  clear hS
                  go_wp2
                  exact ⟨⟨j + 1, by omega, by go_num, fun h => absurd h (by omega), cell_keep (Below.drew (Below.refl _ _)) r1, Below.drew hbw⟩, by simp [intOf]; omega⟩
              · have hjk' : j = k := by omega
                subst hjk'
                by_cases m0 : 0 ≤ q.bal
                · obtain ⟨t, ht, e⟩ := HIs.out m0
                  exact absurd e (HO.out m0 t ht)
                · have hq := HNo.out (by omega)
                  have HP : Hid (pv = own) := by show _ = _; rw [HVal.out, hq]
                  have hpv := HP.out
                  subst hpv
                  have f0 : q.bal < 0 := by omega
                  clear hq hel
                  go_wp2
                  go_ret
                  exact ⟨by simp, bstep hB1 hbw⟩
      · clear hPV
        have hB2 := bstep hB1 hb2
        have hf : ∀ w, (Instr.field 25 (.agg #[.int .i64 pc, .int .i64 pv]) 0).run Try.prog w = .ok (.int .i64 pc) w := fun _ => by kernel_rfl
        have HSp : Hid (∀ W, Below w1.heap.size w1 W → Calls Try.prog 17 #[.slice p1 n c1, .int .i64 own] W fun e w' => e = .returned (.agg #[.int .i64 pc, .int .i64 pv]) ∧ Below W.heap.size W w') := hSp
        clear hSp HV
        go_wp2
        refine wp_region_noPanic ?_
        refine region_upto (fun W => Below w2.heap.size w2 W ∧ W.cell? ⟨w2.heap.size, 0, none⟩ = some (.int .i64 pc)) 8 (by kernel_rfl) ⟨by (repeat (first | exact Below.refl _ _ | assumption | refine Below.drew ?_ | refine balloc ?_ _ | refine bset ?_ (by simp; omega) _ | refine bset ?_ (by simp) _ | refine bstep ?_ (by assumption))), by simp [go_sem]⟩ (fun hS => ?_)
        refine upto_takeN (i := 0) (v := ?_) rfl (by kernel_rfl) (by kernel_rfl) (by kernel_rfl) (by kernel_rfl) (fun _ _ _ h => h) (by rfl) hS ?_ ?_
        rotate_left
        · intro wS hSw
          try dsimp only at hSw
          first | (go_simp; done) | (go_simp; with_reducible rfl)
        try simp only [Act.put, List.getElem_toArray, List.getElem_cons_zero, List.getElem_cons_succ, List.setIfInBounds_toArray, List.set_cons_zero, List.set_cons_succ]
        refine upto_takeN (i := 1) (v := ?_) rfl (by kernel_rfl) (by kernel_rfl) (by kernel_rfl) (by kernel_rfl) (fun _ _ _ h => h) (by rfl) hS ?_ ?_
        rotate_left
        · intro wS hSw
          try dsimp only at hSw
          first | (go_simp; done) | (go_simp; with_reducible rfl)
        try simp only [Act.put, List.getElem_toArray, List.getElem_cons_zero, List.getElem_cons_succ, List.setIfInBounds_toArray, List.set_cons_zero, List.set_cons_succ]
        refine upto_takeN (i := 4) (v := ?_) rfl (by kernel_rfl) (by kernel_rfl) (by kernel_rfl) (by kernel_rfl) (fun _ _ _ h => h) (by rfl) hS ?_ ?_
        rotate_left
        · intro wS hSw
          try dsimp only at hSw
          first | (go_simp; done) | (go_simp; with_reducible rfl)
        try simp only [Act.put, List.getElem_toArray, List.getElem_cons_zero, List.getElem_cons_succ, List.setIfInBounds_toArray, List.set_cons_zero, List.set_cons_succ]
        refine upto_takeN (i := 5) (v := ?_) rfl (by kernel_rfl) (by kernel_rfl) (by kernel_rfl) (by kernel_rfl) (fun _ _ _ h => h) (by rfl) hS ?_ ?_
        rotate_left
        · intro wS hSw
          try dsimp only at hSw
          first | (go_simp; done) | (go_simp; with_reducible rfl)
        try simp only [Act.put, List.getElem_toArray, List.getElem_cons_zero, List.getElem_cons_succ, List.setIfInBounds_toArray, List.set_cons_zero, List.set_cons_succ]
        refine upto_step (i := 2) (by kernel_rfl) rfl ?_
        intro K hK
        go_simp
        refine (HSp.out _ (bstep hb2 hS.1)).mono ?_
        rintro e w3 ⟨rfl, hb3⟩
        have hS3 : (fun W => Below w2.heap.size w2 W ∧ W.cell? ⟨w2.heap.size, 0, none⟩ = some (.int .i64 pc)) w3 := ⟨bstep hS.1 hb3, cell_keep hb3 hS.2⟩
        refine hK _ _ (fun _ => hS3) ?_
        clear hK K hS hb3
        try simp only [Act.put, List.getElem_toArray, List.getElem_cons_zero, List.getElem_cons_succ, List.setIfInBounds_toArray, List.set_cons_zero, List.set_cons_succ]
        refine upto_takeN (i := 3) (v := (.int .i64 pc)) rfl (by kernel_rfl) (by kernel_rfl) (by kernel_rfl) (by kernel_rfl) (fun _ _ _ h => h) (by rfl) hS3 ?_ ?_
        · intro wS hSw
          try dsimp only at hSw
          go_simp
        try simp only [Act.put, List.getElem_toArray, List.getElem_cons_zero, List.getElem_cons_succ, List.setIfInBounds_toArray, List.set_cons_zero, List.set_cons_succ]
        refine upto_takeN (i := 6) (v := (.bool true)) rfl (by kernel_rfl) (by kernel_rfl) (by kernel_rfl) (by kernel_rfl) (fun _ _ _ h => h) (by rfl) hS3 ?_ ?_
        · intro wS hSw
          try dsimp only at hSw
          go_simp
        try simp only [Act.put, List.getElem_toArray, List.getElem_cons_zero, List.getElem_cons_succ, List.setIfInBounds_toArray, List.set_cons_zero, List.set_cons_succ]
        refine upto_takeN (i := 7) (v := (.bool true)) rfl (by kernel_rfl) (by kernel_rfl) (by kernel_rfl) (by kernel_rfl) (fun _ _ _ h => h) (by rfl) hS3 ?_ ?_
        · intro wS hSw
          try dsimp only at hSw
          go_simp
        try simp only [Act.put, List.getElem_toArray, List.getElem_cons_zero, List.getElem_cons_succ, List.setIfInBounds_toArray, List.set_cons_zero, List.set_cons_succ]
        refine upto_done (by kernel_rfl) ?_
        refine NoPanic.normal ?_
        have hB3 := bstep hB2 hS3.1
        clear hS3
        go_wp2
        go_ret
        exact ⟨rfl, hB3⟩
end quorumsLaw
end Go.Proofs.Ytgibggjmliddlaa

