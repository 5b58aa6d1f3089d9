/-
  A region in which two operations may come first: both ways.
-/
import Derived.Test.YtaahmmadcdfcpaaRegN
namespace Go.Proofs.Ytaahmmadcdfcpaa
open Go.RowKit

theorem upto_two {P : Program} {ops : Array Oper} {Q : Exit → Act → World → Prop} {md : Region.Mode} {S : World → Prop} {t : Nat} {i j : Nat} {o o' : Oper} {f : Nat} {listed : Array Bool} {a : Act} {w : World} (hr : Region.ready md ops listed = [i, j]) (hi : ops[i]? = some o) (hj : ops[j]? = some o')
    (h : ∀ K : Act → World → Prop, (∀ a' w', (i ≠ t → S w') → wpUpto P md ops Q S t f (listed.setIfInBounds i true) a' w' → K a' w') → if Region.wanted o (yielded ops a.tmps) = true then Oper.wp P o a w K Q else K (a.put o.dst undef) w)
    (h' : ∀ K : Act → World → Prop, (∀ a' w', (j ≠ t → S w') → wpUpto P md ops Q S t f (listed.setIfInBounds j true) a' w' → K a' w') → if Region.wanted o' (yielded ops a.tmps) = true then Oper.wp P o' a w K Q else K (a.put o'.dst undef) w) :
    wpUpto P md ops Q S t (f + 1) listed a w := by
  refine ⟨fun h0 => (by rw [hr] at h0; cases h0), fun k hk => ?_⟩
  rw [hr] at hk
  have e : k = i ∨ k = j := by simpa using hk
  rcases e with e | e
  · subst e
    have h1 := h (fun a' w' => (k ≠ t → S w') ∧ wpUpto P md ops Q S t f (listed.setIfInBounds k true) a' w') (fun _ _ p q => ⟨p, q⟩)
    unfold wpOp
    simp only [hi]
    split
    · rename_i hw
      rw [if_pos hw] at h1
      exact .inl h1
    · rename_i hw
      rw [if_neg hw] at h1
      exact h1
  · subst e
    have h1 := h' (fun a' w' => (k ≠ t → S w') ∧ wpUpto P md ops Q S t f (listed.setIfInBounds k true) a' w') (fun _ _ p q => ⟨p, q⟩)
    unfold wpOp
    simp only [hj]
    split
    · rename_i hw
      rw [if_pos hw] at h1
      exact .inl h1
    · rename_i hw
      rw [if_neg hw] at h1
      exact h1

end Go.Proofs.Ytaahmmadcdfcpaa
