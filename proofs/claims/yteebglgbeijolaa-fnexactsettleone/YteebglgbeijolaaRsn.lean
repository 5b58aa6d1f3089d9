/-
  What is settled, told by the book.
-/
import Derived.Test.YteebglgbeijolaaRsm
import Derived.Test.YteebglgbeijolaaBke
namespace Go.Proofs.Yteebglgbeijolaa
open Go.RowKit
set_option linter.unusedSectionVars false
variable [DecidableEq Bal] [Inhabited Bal] [DecidableEq Ledg] [Inhabited Ledg] [DecidableEq Leg] [Inhabited Leg] [DecidableEq Cont] [Inhabited Cont] [DecidableEq LedgR] [Inhabited LedgR]
set_option linter.unusedVariables false
set_option linter.unusedSimpArgs false

theorem rise_of {xs : List Bal} (h : BalsOk xs) : RiseB xs := by
  refine ⟨?_, fun x hx => ?_⟩
  · rw [List.pairwise_iff_getElem]
    intro i j hi hj hij
    have := rising h hij hj
    unfold plB
    simpa [List.getD, hi, hj] using this
  · obtain ⟨i, hi, rfl⟩ := List.mem_iff_getElem.1 hx
    have := balOk_key (h.ok i hi)
    simpa [List.getD, hi] using this
theorem addB_snoc (xs : List Bal) (ls : List Leg) (l : Leg) : addB xs (ls ++ [l]) = addStep (addB xs ls) l := by unfold addB; rw [List.foldl_append]; rfl
theorem addLs_snoc (f : Int → Int → Int → Option Int) (ls : List Leg) (l : Leg) : addLs f (ls ++ [l]) = addL (addLs f ls) l := by unfold addLs; rw [List.foldl_append]; rfl
theorem onSh_snoc (s : Int) (ls : List Leg) (l : Leg) : onSh s (ls ++ [l]) = if l.sh = s then onSh s ls ++ [l] else onSh s ls := by
  unfold onSh
  rw [List.filter_append]
  by_cases h : l.sh = s
  · rw [if_pos h]
    simp [h]
  · rw [if_neg h]
    simp [h]
theorem snoc_ind {α : Type} {P : List α → Prop} (h0 : P []) (h1 : ∀ l x, P l → P (l ++ [x])) (l : List α) : P l := by
  rw [← List.reverse_reverse l]
  induction l.reverse with
  | nil => exact h0
  | cons x l ih =>
    rw [List.reverse_cons]
    exact h1 _ _ ih
/-- a shard settled is what the book tells of it -/
theorem settle_book {gs : List (List Bal)} {i : Nat} (hi : i < gs.length) (hx : RiseB (gs.getD i default)) (ls : List Leg) : (∀ l ∈ ls, keyOk l.ac l.ast = true) →
    RiseB (addB (gs.getD i default) (onSh i ls)) ∧ ∀ a t, getB a t (addB (gs.getD i default) (onSh i ls)) = addLs (bookF gs) ls i a t := by
  refine snoc_ind (P := fun ls => (∀ l ∈ ls, keyOk l.ac l.ast = true) → RiseB (addB (gs.getD i default) (onSh i ls)) ∧ ∀ a t, getB a t (addB (gs.getD i default) (onSh i ls)) = addLs (bookF gs) ls i a t) ?_ ?_ ls
  · intro _
    refine ⟨hx, fun a t => ?_⟩
    show getB a t (gs.getD i default) = bookF gs i a t
    unfold bookF
    rw [if_pos ⟨by omega, by omega⟩]
    simp
  · intro ls l ih hk
    obtain ⟨h1, h2⟩ := ih (fun x hx => hk x (List.mem_append_left _ hx))
    have hkl := hk l (List.mem_append_right _ (List.mem_singleton.2 rfl))
    rw [onSh_snoc, addLs_snoc]
    by_cases hs : l.sh = (i : Int)
    · rw [if_pos hs, addB_snoc]
      unfold addStep
      obtain ⟨r1, r2⟩ := setB_does (v := hasB l.ac l.ast (addB (gs.getD i default) (onSh i ls)) + l.am) hkl h1
      refine ⟨r1, fun a t => ?_⟩
      rw [r2, hasB_get, h2]
      unfold addL upd3
      by_cases e : a = l.ac ∧ t = l.ast
      · rw [if_pos e, if_pos (show (i : Int) = l.sh ∧ a = l.ac ∧ t = l.ast from ⟨hs.symm, e.1, e.2⟩), hs]
      · rw [if_neg e, if_neg (fun h => e h.2), h2]
    · rw [if_neg hs]
      refine ⟨h1, fun a t => ?_⟩
      rw [h2]
      unfold addL upd3
      rw [if_neg (fun h => hs h.1.symm)]
/-- the book tells of no other shard -/
theorem book_dom {gs : List (List Bal)} (ls : List Leg) : (∀ l ∈ ls, 0 ≤ l.sh ∧ l.sh < (gs.length : Int)) → ∀ s a t : Int, ¬ (0 ≤ s ∧ s < (gs.length : Int)) → addLs (bookF gs) ls s a t = none := by
  refine snoc_ind (P := fun ls => (∀ l ∈ ls, 0 ≤ l.sh ∧ l.sh < (gs.length : Int)) → ∀ s a t : Int, ¬ (0 ≤ s ∧ s < (gs.length : Int)) → addLs (bookF gs) ls s a t = none) ?_ ?_ ls
  · intro _ s a t h
    show bookF gs s a t = none
    unfold bookF
    rw [if_neg h]
  · intro ls l ih hk s a t h
    have hl := hk l (List.mem_append_right _ (List.mem_singleton.2 rfl))
    rw [addLs_snoc]
    unfold addL upd3
    rw [if_neg (fun e => h (by rw [e.1]; exact hl))]
    exact ih (fun x hx => hk x (List.mem_append_left _ hx)) s a t h
/-- what lies in the shards, if it rises and tells what the book tells, is what is settled -/
theorem settle_unique {gs : List (List Bal)} {ls : List Leg} (hg : ∀ i, i < gs.length → RiseB (gs.getD i default)) (hk : ∀ l ∈ ls, keyOk l.ac l.ast = true) {hs : List (List Bal)} (hl : hs.length = gs.length)
    (hr : ∀ i, i < gs.length → RiseB (hs.getD i default) ∧ ∀ a t, getB a t (hs.getD i default) = addLs (bookF gs) ls i a t) : hs = settleL gs ls := by
  apply List.ext_getElem?
  intro i
  by_cases hi : i < gs.length
  · have e1 : hs[i]? = some (hs.getD i default) := by simp [List.getD, show i < hs.length by omega]
    have e2 : (settleL gs ls)[i]? = some ((settleL gs ls).getD i default) := by simp [List.getD, show i < (settleL gs ls).length by rw [settleL_len]; exact hi]
    rw [e1, e2, settleL_get gs ls hi]
    congr 1
    obtain ⟨r1, r2⟩ := settle_book hi (hg i hi) ls hk
    exact rise_ext (hr i hi).1 r1 (fun a t => by rw [(hr i hi).2, ← r2]; rfl)
  · rw [List.getElem?_eq_none (by omega), List.getElem?_eq_none (by rw [settleL_len]; omega)]

end Go.Proofs.Yteebglgbeijolaa
