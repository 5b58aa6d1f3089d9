/-
  SettleOne's answer is small.
-/
import Derived.Test.YteebglgbeijolaaSti
import Derived.Test.YteebglgbeijolaaSLedgR
namespace Go.Proofs.Yteebglgbeijolaa
open Go.RowKit
set_option linter.unusedSectionVars false
variable [DecidableEq Rw] [Inhabited Rw] [DecidableEq Bal] [Inhabited Bal] [DecidableEq Ledg] [Inhabited Ledg] [DecidableEq Leg] [Inhabited Leg] [DecidableEq Cont] [Inhabited Cont] [DecidableEq LedgR] [Inhabited LedgR]
set_option linter.unusedVariables false

theorem rise_len {xs : List Bal} (h : RiseB xs) : xs.length ≤ 18 := by
  have h1 := nodup_lt 18 (xs.map (fun x => (plB x).toNat)) ?_ ?_
  · simpa using h1
  · rw [List.Nodup, List.pairwise_map]
    refine List.Pairwise.imp_of_mem ?_ h.rise
    intro x y hx hy hlt e
    obtain ⟨⟨_, _⟩, _, _⟩ := keyOk_iff.1 (h.key x hx)
    unfold plB at hlt e
    omega
  · intro n hn
    obtain ⟨x, hx, rfl⟩ := List.mem_map.1 hn
    obtain ⟨⟨_, _⟩, _, _⟩ := keyOk_iff.1 (h.key x hx)
    unfold plB
    omega
theorem settleD_le (g : Ledg) (c : Cont) : wtLedgR (settleD g c) ≤ 100 := by
  unfold settleD
  split
  · rename_i h
    obtain ⟨⟨h1, h3, _⟩, hr, hk, hs, _⟩ := settle_facts h
    have hl : (settleL g.shards c.legs).length = g.shards.length := settleL_len _ _
    have hb : ∀ i, i < g.shards.length → ((settleL g.shards c.legs).getD i default).length ≤ 18 := fun i hi => by
      have e : (settleL g.shards c.legs).getD i default = addB (g.shards.getD i default) (onSh i c.legs) := by
        simp [settleL, List.getD, hi, settleAt]
      rw [e]
      exact rise_len (settle_book hi (hr i hi) c.legs hk).1
    show wtL wtBals (settleL g.shards c.legs) ≤ 100
    generalize settleL g.shards c.legs = ss at *
    unfold wtL
    have hc : ∀ k, k ≤ ss.length → cntTo wtBals k ss ≤ k * 18 := by
      intro k
      induction k with
      | zero => intro _; simp [cntTo]
      | succ k ih =>
        intro hk
        have h4 := ih (by omega)
        have h5 := hb k (by omega)
        rw [cntTo_succ wtBals k ss (by omega)]
        have h6 : wtBals (ss.getD k default) = (ss.getD k default).length := rfl
        omega
    have := hc ss.length (Nat.le_refl _)
    omega
  · show wtL wtBals ([] : List (List Bal)) ≤ 100
    simp [wtL, cntTo]

end Go.Proofs.Yteebglgbeijolaa
