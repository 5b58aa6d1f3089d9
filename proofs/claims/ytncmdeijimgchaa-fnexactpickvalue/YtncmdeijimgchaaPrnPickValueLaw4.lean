import Derived.Test.YtncmdeijimgchaaPrnPickValueLaw3
import Derived.Test.YtncmdeijimgchaaPrnPickValueLaw1
import Derived.Deep.RegionHeld3

/-
  PickValue in plain mathematics.
-/
namespace Go.Proofs.Ytncmdeijimgchaa
open Go.RowKit
set_option linter.unusedSectionVars false
variable [DecidableEq Vot] [Inhabited Vot] [DecidableEq Slt] [Inhabited Slt] [DecidableEq Bal] [Inhabited Bal] [DecidableEq Ledg] [Inhabited Ledg] [DecidableEq Leg] [Inhabited Leg]

def isNo (x : Vot) : Bool := decide (x.bal = -1) && decide (x.val = 0)
def pickAt (xs : List Vot) (k : Nat) : Int := if isNo (xs.getD k default) || votB (xs.getD k default) then 0 else 3
def best (own : Int) (xs : List Vot) : Nat → Vot
  | 0 => ⟨-1, own⟩
  | k + 1 => if (best own xs k).bal < (xs.getD k default).bal then xs.getD k default else best own xs k
def pickC (xs : List Vot) (own : Int) : Int := if 9 < xs.length then 2 else if scanI (pickAt xs) xs.length = 0 then (if inB own 1 2 then 0 else 3) else scanI (pickAt xs) xs.length
def pickV (xs : List Vot) (own : Int) : Int := if pickC xs own = 0 then (best own xs xs.length).val else 0
theorem best_ge (own : Int) (xs : List Vot) : ∀ k, -1 ≤ (best own xs k).bal
  | 0 => by simp [best]
  | k + 1 => by
    have := best_ge own xs k
    unfold best
    split <;> omega
theorem best_no (own : Int) (xs : List Vot) : ∀ k, (best own xs k).bal < 0 → best own xs k = ⟨-1, own⟩
  | 0, _ => rfl
  | k + 1, h => by
    unfold best at h ⊢
    split at h
    · have := best_ge own xs k
      omega
    · rename_i h1
      rw [if_neg h1]
      exact best_no own xs k h
theorem best_two (a b : Int) (xs : List Vot) : ∀ k, (best a xs k).bal = (best b xs k).bal ∧ (0 ≤ (best a xs k).bal → best a xs k = best b xs k)
  | 0 => ⟨rfl, fun h => by simp [best] at h⟩
  | k + 1 => by
    obtain ⟨h1, h2⟩ := best_two a b xs k
    unfold best
    rw [← h1]
    by_cases h : (best a xs k).bal < (xs.getD k default).bal
    · rw [if_pos h, if_pos h]
      exact ⟨rfl, fun _ => rfl⟩
    · rw [if_neg h, if_neg h]
      exact ⟨h1, h2⟩
theorem best_pick (own : Int) (xs : List Vot) (k : Nat) : (best own xs k).val = if (best 0 xs k).bal < 0 then own else (best 0 xs k).val := by
  obtain ⟨h1, h2⟩ := best_two own 0 xs k
  split
  · rename_i h
    rw [best_no own xs k (by omega)]
  · rename_i h
    rw [h2 (by omega)]
theorem pickC_many {xs : List Vot} {own : Int} (h : 9 < xs.length) : pickC xs own = 2 := by unfold pickC; rw [if_pos h]
theorem pickC_hit {xs : List Vot} {own : Int} {k : Nat} (h9 : xs.length ≤ 9) (hk : k < xs.length) (hs : scanI (pickAt xs) k = 0) (h1 : isNo (xs.getD k default) = false) (h2 : votB (xs.getD k default) = false) : pickC xs own = 3 := by
  have hc : pickAt xs k = 3 := by unfold pickAt; rw [h1, h2]; rfl
  have e := scanI_hit hs (by rw [hc]; omega) _ hk
  unfold pickC
  rw [if_neg (by omega), e, hc, if_neg (by omega)]
theorem pickAt_ok {xs : List Vot} {k : Nat} (h : isNo (xs.getD k default) = true ∨ votB (xs.getD k default) = true) : pickAt xs k = 0 := by
  unfold pickAt
  rcases h with h | h <;> rw [h] <;> simp
theorem pickC_own {xs : List Vot} {own : Int} (h9 : xs.length ≤ 9) (hs : scanI (pickAt xs) xs.length = 0) : pickC xs own = if inB own 1 2 then 0 else 3 := by
  unfold pickC
  rw [if_neg (by omega), if_pos hs]
theorem pickV_of {xs : List Vot} {own c : Int} (h : pickC xs own = c) (hc : c ≠ 0) : pickV xs own = 0 := by unfold pickV; rw [h, if_neg hc]
end Go.Proofs.Ytncmdeijimgchaa

/-
  Cells that are kept. (Written by program: lawgen.py.)
-/
namespace Go.Proofs.Ytncmdeijimgchaa
open Go.RowKit
theorem keepN2 {w w' : World} {a0 : Addr} {x0 : Value} {a1 : Addr} {x1 : Value} (hb : Below w.heap.size w w') (g0 : w.cell? a0 = some x0) (g1 : w.cell? a1 = some x1) : Below w.heap.size w w' ∧ w'.cell? a0 = some x0 ∧ w'.cell? a1 = some x1 :=
  ⟨hb, cell_keep hb g0, cell_keep hb g1⟩
end Go.Proofs.Ytncmdeijimgchaa

/-
  A region that draws its order and ends in one store (number t): what is asked of the world (S) need not hold behind that store.
-/
namespace Go.Proofs.Ytncmdeijimgchaa
open Go.RowKit

section
variable {P : Program} {ops : Array Oper} {Q : Exit → Act → World → Prop} {md : Region.Mode} {S : World → Prop} {t : Nat}

def wpUpto (P : Program) (md : Region.Mode) (ops : Array Oper) (Q : Exit → Act → World → Prop) (S : World → Prop) (t : Nat) : Nat → Array Bool → Act → World → Prop
  | 0, listed, a, w => Region.ready md ops listed = [] ∧ Q .normal a w
  | f + 1, listed, a, w => (Region.ready md ops listed = [] → Q .normal a w) ∧ ∀ i ∈ Region.ready md ops listed, wpOp P ops Q i (fun a' w' => (i ≠ t → S w') ∧ wpUpto P md ops Q S t f (listed.setIfInBounds i true) a' w') a w
theorem upto_any : ∀ (f : Nat) (listed : Array Bool) (a : Act) (w : World), wpUpto P md ops Q S t f listed a w → wpAny P md ops Q f listed a w
  | 0, _, _, _, h => h
  | f + 1, _, _, _, h => ⟨h.1, fun i hi => wpOp_mono (fun _ _ h' => upto_any f _ _ _ h'.2) (h.2 i hi)⟩
theorem upto_step {i : Nat} {o : Oper} {f : Nat} {listed : Array Bool} {a : Act} {w : World} (hr : Region.ready md ops listed = [i]) (hi : ops[i]? = some o)
    (h : ∀ K : Act → World → Prop, (∀ a' w', (i ≠ t → S w') → wpUpto P md ops Q S t f (listed.setIfInBounds i true) a' w' → K a' w') → if Region.wanted o (yielded ops a.tmps) = true then Oper.wp P o a w K Q else K (a.put o.dst undef) w) :
    wpUpto P md ops Q S t (f + 1) listed a w := by
  refine ⟨fun h0 => (by rw [hr] at h0; cases h0), fun j hj => ?_⟩
  rw [hr] at hj
  have e : j = i := by simpa using hj
  subst e
  have h1 := h (fun a' w' => (j ≠ t → S w') ∧ wpUpto P md ops Q S t f (listed.setIfInBounds j true) a' w') (fun _ _ p q => ⟨p, q⟩)
  unfold wpOp
  simp only [hi]
  split
  · rename_i hw
    rw [if_pos hw] at h1
    exact .inl h1
  · rename_i hw
    rw [if_neg hw] at h1
    exact h1
theorem upto_done {listed : Array Bool} {a : Act} {w : World} {f : Nat} (hr : Region.ready md ops listed = []) (h : Q .normal a w) : wpUpto P md ops Q S t f listed a w := by
  cases f with
  | zero => exact ⟨hr, h⟩
  | succ f => exact ⟨fun _ => h, by rw [hr]; simp⟩
theorem region_upto {id : Nat} {a : Act} {w : World} (S : World → Prop) (t : Nat) (hm : P.follows .mixedOrders = true) (hS : S w.drew) (h : S w.drew → wpUpto P .any ops Q S t ops.size (Array.replicate ops.size false) a w.drew) : (Code.region id ops true).wp P Q a w :=
  wp_region_any hm (upto_any _ _ _ _ (h hS))
end

end Go.Proofs.Ytncmdeijimgchaa

/-
  A region that draws its order, none of whose operations breaks what is asked of the world.
-/
namespace Go.Proofs.Ytncmdeijimgchaa
open Go.RowKit

section
variable {P : Program} {ops : Array Oper} {Q : Exit → Act → World → Prop} {md : Region.Mode} {S : World → Prop} {t : Nat}

theorem upto_firstN {i : Nat} {oi : Oper} {v : Value} (hi : ops[i]? = some oi) (hsel : Region.noSelect ops = true) (ht : ops[t]? = none)
    (hQ : ∀ c a w, Q (.panic c) (a.put oi.dst v) w → Q (.panic c) a w) :
    ∀ (f : Nat) (listed : Array Bool) (a : Act) (w : World),
      (∀ j oj, ops[j]? = some oj → j ≠ i → listed.getD j true = false → (∀ e ∈ oj.after, Region.binds md e = true → e.on ≠ i) → oi.apart ops oj = true) →
      i ∈ Region.ready md ops listed → YieldsIf P ops S oi v a → S w →
      wpUpto P md ops Q S t f (listed.setIfInBounds i true) (a.put oi.dst v) w → wpUpto P md ops Q S t (f + 1) listed a w := by
  intro f
  induction f with
  | zero =>
    intro listed a w _ hr hy hS H
    refine ⟨fun h => (by rw [h] at hr; cases hr), fun j hj => ?_⟩
    by_cases hji : j = i
    · subst hji
      exact hy.wpOp hi hS ⟨fun _ => hS, H⟩
    · have hm := ready_mono hj hji
      rw [H.1] at hm
      cases hm
  | succ f ih =>
    intro listed a w hfree hr hy hS H
    refine ⟨fun h => (by rw [h] at hr; cases hr), fun j hj => ?_⟩
    by_cases hji : j = i
    · subst hji
      exact hy.wpOp hi hS ⟨fun _ => hS, H⟩
    · obtain ⟨hjun, oj, hoj, hall⟩ := mem_ready.1 hj
      have hun := (mem_ready.1 hr).1
      have hnl : ¬ listed.getD i false = true := by
        intro h1
        rcases Nat.lt_or_ge i listed.size with h' | h'
        · simp [h'] at hun h1
          rw [hun] at h1
          cases h1
        · simp [Array.getElem?_eq_none h'] at h1
      have hnot : ∀ e ∈ oj.after, Region.binds md e = true → e.on ≠ i := fun e he hb heq => hnl (by rw [← heq]; exact hall e he hb)
      have hjt : j ≠ t := by
        rintro rfl
        rw [ht] at hoj
        cases hoj
      have h1 := H.2 j (ready_mono hj hji)
      have h2 := wpOp_putIf hoj (hfree j oj hoj hji hjun hnot) (fun cs b => Region.noSelect_spec hsel i oi cs b hi) (fun cs b => Region.noSelect_spec hsel j oj cs b hoj) hQ hy h1
      refine wpOp_mono (fun a' w' h3 => ⟨h3.2.1, ih (listed.setIfInBounds j true) a' w' ?_ (ready_mono hr (Ne.symm hji)) h3.1 (h3.2.1 hjt) ?_⟩) h2
      · intro k ok hk hki hunk hno
        refine hfree k ok hk hki ?_ hno
        by_cases hjk : j = k
        · subst hjk; exact hjun
        · rw [getD_set_ne true hjk] at hunk; exact hunk
      · rw [Array.setIfInBounds_comm _ _ hji]
        exact h3.2.2
theorem upto_takeN {i : Nat} {oi : Oper} {v : Value} {f : Nat} {listed : Array Bool} {a : Act} {w : World} (hi : ops[i]? = some oi) (hsel : Region.noSelect ops = true) (ht : ops[t]? = none)
    (hf : Region.free md ops listed i = true) (hr : (Region.ready md ops listed).contains i = true) (hQ : ∀ c a w, Q (.panic c) (a.put oi.dst v) w → Q (.panic c) a w)
    (hwd : Region.wanted oi (yielded ops a.tmps) = true) (hS : S w) (hy : ∀ w, S w → (execOp a.eval oi).run P w = .ok (.value v) w)
    (h : wpUpto P md ops Q S t f (listed.setIfInBounds i true) (a.put oi.dst v) w) : wpUpto P md ops Q S t (f + 1) listed a w :=
  upto_firstN hi hsel ht hQ f listed a w (Region.free_spec hi hf) (by simpa using hr) (Or.inl ⟨hwd, hy⟩) hS h
theorem upto_skipN {i : Nat} {oi : Oper} {f : Nat} {listed : Array Bool} {a : Act} {w : World} (hi : ops[i]? = some oi) (hsel : Region.noSelect ops = true) (ht : ops[t]? = none)
    (hf : Region.free md ops listed i = true) (hr : (Region.ready md ops listed).contains i = true) (hQ : ∀ c a w, Q (.panic c) (a.put oi.dst undef) w → Q (.panic c) a w)
    (hwd : Region.wanted oi (yielded ops a.tmps) = false) (hS : S w)
    (h : ∀ u : Value, wpUpto P md ops Q S t f (listed.setIfInBounds i true) (a.put oi.dst u) w) : wpUpto P md ops Q S t (f + 1) listed a w :=
  upto_firstN hi hsel ht hQ f listed a w (Region.free_spec hi hf) (by simpa using hr) (Or.inr ⟨hwd, rfl⟩) hS (h undef)
end

end Go.Proofs.Ytncmdeijimgchaa

