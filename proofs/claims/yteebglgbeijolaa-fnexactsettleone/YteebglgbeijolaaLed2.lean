/-
  Chapter 2 in plain mathematics: what a book of a ledger holds.
-/
import Derived.Test.YteebglgbeijolaaLed
import Derived.Test.YteebglgbeijolaaBook
namespace Go.Proofs.Yteebglgbeijolaa
open Go.RowKit
set_option linter.unusedSectionVars false
variable [DecidableEq Bal] [Inhabited Bal] [DecidableEq Ledg] [Inhabited Ledg] [DecidableEq Leg] [Inhabited Leg]

def getB (a t : Int) : List Bal → Option Int
  | [] => none
  | x :: r => if x.ac = a ∧ x.ast = t then some x.am else getB a t r
theorem hasB_get (a t : Int) : ∀ xs : List Bal, hasB a t xs = (getB a t xs).getD 0
  | [] => rfl
  | x :: r => by
    simp only [hasB, getB]
    split
    · rfl
    · exact hasB_get a t r
theorem getB_append (a t : Int) : ∀ (l r : List Bal), getB a t (l ++ r) = (getB a t l).or (getB a t r)
  | [], r => by simp [getB]
  | x :: l, r => by
    simp only [List.cons_append, getB]
    split
    · simp
    · exact getB_append a t l r
theorem getB_none {a t : Int} : ∀ {xs : List Bal}, (∀ k, k < xs.length → ¬ ((xs.getD k default).ac = a ∧ (xs.getD k default).ast = t)) → getB a t xs = none
  | [], _ => rfl
  | x :: r, h => by
    have h0 := h 0 (by simp)
    simp only [List.getD_cons_zero] at h0
    simp only [getB, if_neg h0]
    exact getB_none (fun k hk => by have := h (k + 1) (by simpa using hk); simpa only [List.getD_cons_succ] using this)
theorem take_bal (xs : List Bal) (k : Nat) (h : k < xs.length) : xs.take (k + 1) = xs.take k ++ [xs.getD k default] := by
  rw [List.take_add_one]; simp [List.getD, h]

/-- keys rise -/
theorem rising {xs : List Bal} (h : BalsOk xs) {i : Nat} : ∀ {j : Nat}, i < j → j < xs.length → (xs.getD i default).ac * 3 + (xs.getD i default).ast < (xs.getD j default).ac * 3 + (xs.getD j default).ast
  | 0, hij, _ => by omega
  | j + 1, hij, hj => by
    have h1 := h.ord j hj
    have hb := behind_iff (b := xs.getD (j + 1) default) (a := xs.getD j default) (balOk_key (h.ok _ hj)) (balOk_key (h.ok _ (by omega)))
    have h2 : (xs.getD j default).ac * 3 + (xs.getD j default).ast < (xs.getD (j + 1) default).ac * 3 + (xs.getD (j + 1) default).ast := by
      refine Int.not_le.1 (fun h => ?_)
      rw [hb.2 h] at h1; cases h1
    by_cases e : i = j
    · subst e; exact h2
    · have := rising h (i := i) (j := j) (by omega) (by omega)
      omega
theorem getD_takeB {xs : List Bal} {k j : Nat} (h : j < k) : (xs.take k).getD j default = xs.getD j default := by
  simp [List.getD, h]
theorem getB_fresh {xs : List Bal} (h : BalsOk xs) {j : Nat} (hj : j < xs.length) : getB (xs.getD j default).ac (xs.getD j default).ast (xs.take j) = none := by
  apply getB_none
  intro k hk
  have hk' : k < j := by rw [List.length_take] at hk; omega
  rw [getD_takeB hk']
  have := rising h hk' hj
  rintro ⟨e1, e2⟩
  rw [e1, e2] at this
  omega

def bookP (g : List (List Bal)) (i j : Nat) (s a t : Int) : Option Int := if 0 ≤ s ∧ s < i then getB a t (g.getD s.toNat default) else if s = i then getB a t ((g.getD i default).take j) else none
def bookF (g : List (List Bal)) (s a t : Int) : Option Int := if 0 ≤ s ∧ s < g.length then getB a t (g.getD s.toNat default) else none

theorem bookP_start (g : List (List Bal)) (s a t : Int) : bookP g 0 0 s a t = none := by
  unfold bookP
  rw [if_neg (by omega)]
  split
  · rfl
  · rfl
theorem bookP_step {g : List (List Bal)} {i j : Nat} (h : BalsOk (g.getD i default)) (hj : j < (g.getD i default).length) (s a t : Int) :
    bookP g i (j + 1) s a t = upd3 (bookP g i j) i ((g.getD i default).getD j default).ac ((g.getD i default).getD j default).ast (some ((g.getD i default).getD j default).am) s a t := by
  have hf := getB_fresh h hj
  unfold upd3 bookP
  rw [take_bal _ _ hj, getB_append]
  by_cases hs : 0 ≤ s ∧ s < (i : Int)
  · rw [if_pos hs, if_neg (by rintro ⟨rfl, _⟩; omega), if_pos hs]
  · rw [if_neg hs, if_neg hs]
    by_cases e : s = i
    · rw [if_pos e, if_pos e]
      by_cases e2 : a = ((g.getD i default).getD j default).ac ∧ t = ((g.getD i default).getD j default).ast
      · rw [if_pos ⟨e, e2.1, e2.2⟩, e2.1, e2.2, hf]
        simp [getB]
      · rw [if_neg (fun h => e2 h.2)]
        simp only [getB]
        rw [if_neg (fun h => e2 ⟨h.1.symm, h.2.symm⟩)]
        simp
    · rw [if_neg e, if_neg e, if_neg (fun h => e h.1)]
theorem bookP_next (g : List (List Bal)) (i : Nat) (s a t : Int) : bookP g (i + 1) 0 s a t = bookP g i (g.getD i default).length s a t := by
  unfold bookP
  rw [List.take_length]
  by_cases e : s = i
  · subst e
    rw [if_pos (by omega), if_neg (by omega), if_pos rfl]
    simp
  · by_cases hs : 0 ≤ s ∧ s < (i : Int)
    · rw [if_pos (by omega), if_pos hs]
    · rw [if_neg (by omega), if_neg hs, if_neg e]
      split
      · rfl
      · rfl
theorem bookP_end (g : List (List Bal)) (s a t : Int) : bookF g s a t = bookP g g.length 0 s a t := by
  unfold bookP bookF
  split
  · rfl
  · split
    · rfl
    · rfl
theorem balVal_get (g : Ledg) (s a t : Int) (h0 : ledFault g = 0) (h : (inB s 0 (g.shards.length - 1) && keyOk a t) = true) : balVal g s a t = (bookF g.shards s a t).getD 0 := by
  rw [balVal, if_pos ⟨h0, h⟩, hasB_get]
  rw [Bool.and_eq_true] at h
  have := inBi.1 h.1
  rw [bookF, if_pos (by omega)]

end Go.Proofs.Yteebglgbeijolaa
