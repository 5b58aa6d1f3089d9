/-
  BalanceOf on both sides.
-/
import Derived.Test.YteebglgbeijolaaBookOf
import Derived.Test.YteebglgbeijolaaLedFault
namespace Go.Proofs.Yteebglgbeijolaa
open Go.RowKit
set_option linter.unusedSectionVars false
variable [DecidableEq Bal] [Inhabited Bal] [DecidableEq Ledg] [Inhabited Ledg] [DecidableEq Leg] [Inhabited Leg]
attribute [local go_sem ↓] Go.wp_at_zero Go.wp_at_succ

set_option maxHeartbeats 1000000 in
theorem l2Has_any (x : Value) (xs : List Bal) (a s : Int) (w : World) (hx : balsR.V w x xs) :
    Calls Try.prog 153 #[x, .int .i64 a, .int .i64 s] w fun e w' => e = .returned (.int .i64 (hasB a s xs)) ∧ w' = w := by
  obtain ⟨ax, cx, rfl, hcx, hmx, hx⟩ := hx
  unfold maxLen at hmx
  generalize hn' : xs.length = n at *
  have HN : Hid (xs.length = n) := hn'
  clear hn'
  go_enter Try.func153, Try.ntmps153
  go_wp2
  go_loopw [7] (fun i w' => ∃ k : Nat, k ≤ n ∧ i = .int .i64 k ∧ hasB a s (xs.drop k) = hasB a s xs ∧ w' = w) (fun i _ => n - (intOf i).toNat)
  case atStart => exact ⟨0, Nat.zero_le _, rfl, rfl, rfl⟩
  case round =>
    obtain ⟨k, hk, rfl, hs, rfl⟩ := hrel
    have HS : Hid (hasB a s (xs.drop k) = hasB a s xs) := hs
    clear hs
    by_cases hlt : k < n
    · obtain ⟨bx, ox, rfl, g1⟩ := hx k hlt
      have HD : Hid (hasB a s (xs.drop k) = if (xs.getD k default).ac = a ∧ (xs.getD k default).ast = s then (xs.getD k default).am else hasB a s (xs.drop (k + 1))) := hasB_drop (by rw [HN.out]; exact hlt)
      obtain ⟨l, hl⟩ : ∃ l, l = xs.getD k default := ⟨_, rfl⟩
      rw [← hl] at g1 HD
      clear hl hx
      obtain ⟨a1, a2, a3⟩ := g1
      go_wp2
      · rename_i e1 e2
        go_ret
        refine ⟨?_, rfl⟩
        rw [← HS.out, HD.out, if_pos ⟨e1, by simpa using e2⟩]
        rfl
      · rename_i e1 e2
        refine ⟨⟨k + 1, by omega, by go_num, ?_, trivial⟩, by simp [intOf]; omega⟩
        rw [← HS.out, HD.out, if_neg (fun h => by simp_all)]
      · rename_i e1
        refine ⟨⟨k + 1, by omega, by go_num, ?_, trivial⟩, by simp [intOf]; omega⟩
        rw [← HS.out, HD.out, if_neg (fun h => by simp_all)]
    · go_wp2
      go_ret
      refine ⟨?_, rfl⟩
      rw [← HS.out, List.drop_eq_nil_of_le (by rw [HN.out]; omega)]
      rfl

end Go.Proofs.Yteebglgbeijolaa
