/-
  LedgerFault on both sides.
-/
import Derived.Test.YteebglgbeijolaaBalFault
namespace Go.Proofs.Yteebglgbeijolaa
open Go.RowKit
set_option linter.unusedSectionVars false
variable [DecidableEq Bal] [Inhabited Bal] [DecidableEq Ledg] [Inhabited Ledg] [DecidableEq Leg] [Inhabited Leg]
attribute [local go_sem ↓] Go.wp_at_zero Go.wp_at_succ

set_option maxHeartbeats 2000000 in
theorem specLedFault_any (x : Value) (g : Ledg) (w : World) (hx : ledgR.V w x g) :
    Calls Try.prog 124 #[x] w fun e w' => e = .returned (.int .i64 (ledFault g)) ∧ Below w.heap.size w w' := by
  obtain ⟨u, rfl, ax, cx, rfl, hcx, hmx, hxx⟩ := hx
  unfold maxLen at hmx
  by_cases h1 : g.shards.length < 1
  · have e : ledFault g = 2 := by simp [ledFault, h1]
    rw [e]
    go_enter Try.func124, Try.ntmps124
    go_wp2
    go_ret
    exact ⟨rfl, balloc (Below.refl _ _) _⟩
  by_cases h3 : 3 < g.shards.length
  · have e : ledFault g = 2 := by simp [ledFault, h3]
    rw [e]
    go_enter Try.func124, Try.ntmps124
    go_wp2
    go_ret
    exact ⟨rfl, balloc (Below.refl _ _) _⟩
  generalize hn' : g.shards.length = n at *
  have HN : Hid (g.shards.length = n) := hn'
  clear hn'
  go_enter Try.func124, Try.ntmps124
  go_wp2
  go_loopw [3] (fun i w' => ∃ k : Nat, k ≤ n ∧ i = .int .i64 k ∧ scanI (ledAt g) k = 0 ∧ Below w.heap.size w w' ∧ w'.cell? ⟨w.heap.size, 0, none⟩ = some (.slice ax n cx) ∧ w.heap.size < w'.heap.size) (fun i _ => n - (intOf i).toNat)
  case atStart => exact ⟨0, Nat.zero_le _, rfl, rfl, balloc (Below.refl _ _) _, by simp [go_sem], by simp⟩
  case round =>
    obtain ⟨k, hk, rfl, hs, hbl, hc0, hz0⟩ := hrel
    have HS : Hid (scanI (ledAt g) k = 0) := hs
    clear hs
    by_cases hlt : k < n
    · obtain ⟨bx, ox, u, rfl, _, hc, hu⟩ := hxx k hlt
      have c1 := cell_keep hbl (cells1 hc)
      have hu1 := balsR.below hu hbl
      clear hu hc hxx
      obtain ⟨l, hl⟩ : ∃ l, l = g.shards.getD k default := ⟨_, rfl⟩
      rw [← hl] at hu1
      have HL : Hid (l = g.shards.getD k default) := hl
      clear hl
      obtain ⟨a', c', rfl⟩ := bals_form hu1
      go_wp2_with fail
      refine (specBalFault_any _ l _ hu1).mono ?_
      rintro e w' ⟨rfl, hb⟩
      have hat : Hid (ledAt g k = balFault l) := by show _ = _; rw [ledAt, ← HL.out]
      have hB := bstep hbl hb
      by_cases h0 : balFault l = 0
      · rw [h0] at hat ⊢
        go_wp2
        exact ⟨⟨k + 1, by omega, by go_num, scanI_succ HS.out hat.out, hB, by rw [cell_keep hb hc0], by have := hb.size; omega⟩, by simp [intOf]; omega⟩
      · go_wp2
        go_ret
        refine ⟨?_, hB⟩
        rw [ledFault, if_neg (by rw [HN.out]; omega), scanI_hit HS.out (by rw [hat.out]; exact h0) _ (by rw [HN.out]; exact hlt), hat.out]
        rfl
    · go_wp2
      go_ret
      have hkn : k = n := by omega
      subst hkn
      refine ⟨?_, hbl⟩
      rw [ledFault, if_neg (by rw [HN.out]; omega), HN.out, HS.out]
      rfl

set_option maxHeartbeats 2000000 in
theorem implLedFault_any (x : Value) (g : Ledg) (w : World) (hx : ledgR.V w x g) :
    Calls Try.prog 130 #[x] w fun e w' => e = .returned (.int .i64 (ledFault g)) ∧ Below w.heap.size w w' := by
  obtain ⟨u, rfl, ax, cx, rfl, hcx, hmx, hxx⟩ := hx
  unfold maxLen at hmx
  by_cases h1 : g.shards.length < 1
  · have e : ledFault g = 2 := by simp [ledFault, h1]
    rw [e]
    go_enter Try.func130, Try.ntmps130
    go_wp2
    go_ret
    exact ⟨rfl, balloc (Below.refl _ _) _⟩
  by_cases h3 : 3 < g.shards.length
  · have e : ledFault g = 2 := by simp [ledFault, h3]
    rw [e]
    go_enter Try.func130, Try.ntmps130
    go_wp2
    go_ret
    exact ⟨rfl, balloc (Below.refl _ _) _⟩
  generalize hn' : g.shards.length = n at *
  have HN : Hid (g.shards.length = n) := hn'
  clear hn'
  go_enter Try.func130, Try.ntmps130
  go_wp2
  go_loopw [19] (fun i w' => ∃ k : Nat, k ≤ n ∧ i = .int .i64 k ∧ scanI (ledAt g) k = 0 ∧ Below w.heap.size w w') (fun i _ => n - (intOf i).toNat)
  case atStart => exact ⟨0, Nat.zero_le _, rfl, rfl, balloc (Below.refl _ _) _⟩
  case round =>
    obtain ⟨k, hk, rfl, hs, hbl⟩ := hrel
    have HS : Hid (scanI (ledAt g) k = 0) := hs
    clear hs
    by_cases hlt : k < n
    · obtain ⟨bx, ox, u, rfl, _, hc, hu⟩ := hxx k hlt
      have c1 := cell_keep hbl (cells1 hc)
      have hu1 := balsR.below hu hbl
      clear hu hc hxx
      obtain ⟨l, hl⟩ : ∃ l, l = g.shards.getD k default := ⟨_, rfl⟩
      rw [← hl] at hu1
      have HL : Hid (l = g.shards.getD k default) := hl
      clear hl
      obtain ⟨a', c', rfl⟩ := bals_form hu1
      go_wp2_with fail
      refine (implBalFault_any _ l _ hu1).mono ?_
      rintro e w' ⟨rfl, hb⟩
      have hat : Hid (ledAt g k = balFault l) := by show _ = _; rw [ledAt, ← HL.out]
      have hB := bstep hbl hb
      by_cases h0 : balFault l = 0
      · rw [h0] at hat ⊢
        go_wp2
        exact ⟨⟨k + 1, by omega, by go_num, scanI_succ HS.out hat.out, hB⟩, by simp [intOf]; omega⟩
      · go_wp2
        go_ret
        refine ⟨?_, hB⟩
        rw [ledFault, if_neg (by rw [HN.out]; omega), scanI_hit HS.out (by rw [hat.out]; exact h0) _ (by rw [HN.out]; exact hlt), hat.out]
        rfl
    · go_wp2
      go_ret
      have hkn : k = n := by omega
      subst hkn
      refine ⟨?_, hbl⟩
      rw [ledFault, if_neg (by rw [HN.out]; omega), HN.out, HS.out]
      rfl

end Go.Proofs.Yteebglgbeijolaa
