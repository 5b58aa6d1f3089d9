import Derived.Test.YtecfelacdapdgaaGreatPrnPackEventLaw3
import Derived.Test.YtecfelacdapdgaaGreatPrnPackEventLaw2
import Derived.Test.YtecfelacdapdgaaGreatPrnPackEventLaw1
import Derived.Deep.RegionHeld3
import Derived.Test.YtecfelacdapdgaaGreatPrnPackEventLaw8
import Derived.Test.YtecfelacdapdgaaGreatPrnPackEventLaw4
import Derived.Test.YtecfelacdapdgaaGreatPrnPackEventLaw5
import Derived.Test.YtecfelacdapdgaaGreatPrnPackEventLaw7

/-
  ContractResult. (Written by program: nest.py.)
-/
namespace Go.Proofs.YtecfelacdapdgaaGreat
open Go.RowKit
set_option linter.unusedSectionVars false
variable [DecidableEq Leg] [Inhabited Leg] [DecidableEq Cont] [Inhabited Cont]
attribute [local go_sem ↓] Go.wp_at_zero Go.wp_at_succ

set_option linter.unusedSimpArgs false

structure ContR where
  code : Int
  contract : Cont
variable [DecidableEq ContR] [Inhabited ContR]

end Go.Proofs.YtecfelacdapdgaaGreat

/-
  A region that draws its order and ends in one store (number t): what is asked of the world (S) need not hold behind that store.
-/
namespace Go.Proofs.YtecfelacdapdgaaGreat
open Go.RowKit

section
variable {P : Program} {ops : Array Oper} {Q : Exit → Act → World → Prop} {md : Region.Mode} {S : World → Prop} {t : Nat}

def wpUpto (P : Program) (md : Region.Mode) (ops : Array Oper) (Q : Exit → Act → World → Prop) (S : World → Prop) (t : Nat) : Nat → Array Bool → Act → World → Prop
  | 0, listed, a, w => Region.ready md ops listed = [] ∧ Q .normal a w
  | f + 1, listed, a, w => (Region.ready md ops listed = [] → Q .normal a w) ∧ ∀ i ∈ Region.ready md ops listed, wpOp P ops Q i (fun a' w' => (i ≠ t → S w') ∧ wpUpto P md ops Q S t f (listed.setIfInBounds i true) a' w') a w
theorem upto_any : ∀ (f : Nat) (listed : Array Bool) (a : Act) (w : World), wpUpto P md ops Q S t f listed a w → wpAny P md ops Q f listed a w
  | 0, _, _, _, h => h
  | f + 1, _, _, _, h => ⟨h.1, fun i hi => wpOp_mono (fun _ _ h' => upto_any f _ _ _ h'.2) (h.2 i hi)⟩
def waitsFor (md : Region.Mode) (ops : Array Oper) (t i : Nat) : Bool :=
  match ops[t]? with
  | some o => o.after.any (fun e => Region.binds md e && e.on == i)
  | none => false
theorem upto_first {i : Nat} {oi : Oper} {v : Value} (hi : ops[i]? = some oi) (hsel : Region.noSelect ops = true) (hw : waitsFor md ops t i = true)
    (hQ : ∀ c a w, Q (.panic c) (a.put oi.dst v) w → Q (.panic c) a w) :
    ∀ (f : Nat) (listed : Array Bool) (a : Act) (w : World),
      (∀ j oj, ops[j]? = some oj → j ≠ i → listed.getD j true = false → (∀ e ∈ oj.after, Region.binds md e = true → e.on ≠ i) → oi.apart ops oj = true) →
      i ∈ Region.ready md ops listed → YieldsIf P ops S oi v a → S w →
      wpUpto P md ops Q S t f (listed.setIfInBounds i true) (a.put oi.dst v) w → wpUpto P md ops Q S t (f + 1) listed a w := by
  intro f
  induction f with
  | zero =>
    intro listed a w _ hr hy hS H
    refine ⟨fun h => (by rw [h] at hr; cases hr), fun j hj => ?_⟩
    by_cases hji : j = i
    · subst hji
      exact hy.wpOp hi hS ⟨fun _ => hS, H⟩
    · have hm := ready_mono hj hji
      rw [H.1] at hm
      cases hm
  | succ f ih =>
    intro listed a w hfree hr hy hS H
    refine ⟨fun h => (by rw [h] at hr; cases hr), fun j hj => ?_⟩
    by_cases hji : j = i
    · subst hji
      exact hy.wpOp hi hS ⟨fun _ => hS, H⟩
    · obtain ⟨hjun, oj, hoj, hall⟩ := mem_ready.1 hj
      have hun := (mem_ready.1 hr).1
      have hnl : ¬ listed.getD i false = true := by
        intro h1
        rcases Nat.lt_or_ge i listed.size with h' | h'
        · simp [h'] at hun h1
          rw [hun] at h1
          cases h1
        · simp [Array.getElem?_eq_none h'] at h1
      have hnot : ∀ e ∈ oj.after, Region.binds md e = true → e.on ≠ i := fun e he hb heq => hnl (by rw [← heq]; exact hall e he hb)
      have hjt : j ≠ t := by
        rintro rfl
        unfold waitsFor at hw
        rw [hoj] at hw
        obtain ⟨e, he, hb⟩ := Array.any_eq_true'.1 hw
        simp only [Bool.and_eq_true, beq_iff_eq] at hb
        exact hnot e he hb.1 hb.2
      have h1 := H.2 j (ready_mono hj hji)
      have h2 := wpOp_putIf hoj (hfree j oj hoj hji hjun hnot) (fun cs b => Region.noSelect_spec hsel i oi cs b hi) (fun cs b => Region.noSelect_spec hsel j oj cs b hoj) hQ hy h1
      refine wpOp_mono (fun a' w' h3 => ⟨h3.2.1, ih (listed.setIfInBounds j true) a' w' ?_ (ready_mono hr (Ne.symm hji)) h3.1 (h3.2.1 hjt) ?_⟩) h2
      · intro k ok hk hki hunk hno
        refine hfree k ok hk hki ?_ hno
        by_cases hjk : j = k
        · subst hjk; exact hjun
        · rw [getD_set_ne true hjk] at hunk; exact hunk
      · rw [Array.setIfInBounds_comm _ _ hji]
        exact h3.2.2
theorem upto_take {i : Nat} {oi : Oper} {v : Value} {f : Nat} {listed : Array Bool} {a : Act} {w : World} (hi : ops[i]? = some oi) (hsel : Region.noSelect ops = true) (hw : waitsFor md ops t i = true)
    (hf : Region.free md ops listed i = true) (hr : (Region.ready md ops listed).contains i = true) (hQ : ∀ c a w, Q (.panic c) (a.put oi.dst v) w → Q (.panic c) a w)
    (hwd : Region.wanted oi (yielded ops a.tmps) = true) (hS : S w) (hy : ∀ w, S w → (execOp a.eval oi).run P w = .ok (.value v) w)
    (h : wpUpto P md ops Q S t f (listed.setIfInBounds i true) (a.put oi.dst v) w) : wpUpto P md ops Q S t (f + 1) listed a w :=
  upto_first hi hsel hw hQ f listed a w (Region.free_spec hi hf) (by simpa using hr) (Or.inl ⟨hwd, hy⟩) hS h
theorem upto_step {i : Nat} {o : Oper} {f : Nat} {listed : Array Bool} {a : Act} {w : World} (hr : Region.ready md ops listed = [i]) (hi : ops[i]? = some o)
    (h : ∀ K : Act → World → Prop, (∀ a' w', (i ≠ t → S w') → wpUpto P md ops Q S t f (listed.setIfInBounds i true) a' w' → K a' w') → if Region.wanted o (yielded ops a.tmps) = true then Oper.wp P o a w K Q else K (a.put o.dst undef) w) :
    wpUpto P md ops Q S t (f + 1) listed a w := by
  refine ⟨fun h0 => (by rw [hr] at h0; cases h0), fun j hj => ?_⟩
  rw [hr] at hj
  have e : j = i := by simpa using hj
  subst e
  have h1 := h (fun a' w' => (j ≠ t → S w') ∧ wpUpto P md ops Q S t f (listed.setIfInBounds j true) a' w') (fun _ _ p q => ⟨p, q⟩)
  unfold wpOp
  simp only [hi]
  split
  · rename_i hw
    rw [if_pos hw] at h1
    exact .inl h1
  · rename_i hw
    rw [if_neg hw] at h1
    exact h1
theorem upto_done {listed : Array Bool} {a : Act} {w : World} {f : Nat} (hr : Region.ready md ops listed = []) (h : Q .normal a w) : wpUpto P md ops Q S t f listed a w := by
  cases f with
  | zero => exact ⟨hr, h⟩
  | succ f => exact ⟨fun _ => h, by rw [hr]; simp⟩
theorem region_upto {id : Nat} {a : Act} {w : World} (S : World → Prop) (t : Nat) (hm : P.follows .mixedOrders = true) (hS : S w.drew) (h : S w.drew → wpUpto P .any ops Q S t ops.size (Array.replicate ops.size false) a w.drew) : (Code.region id ops true).wp P Q a w :=
  wp_region_any hm (upto_any _ _ _ _ (h hS))
end

end Go.Proofs.YtecfelacdapdgaaGreat

/-
  Events, in mathematics.
-/
namespace Go.Proofs.YtecfelacdapdgaaGreat
open Go.RowKit
set_option linter.unusedSectionVars false
variable [DecidableEq Leg] [Inhabited Leg] [DecidableEq Cont] [Inhabited Cont] [DecidableEq Evt] [Inhabited Evt] [DecidableEq EvtR] [Inhabited EvtR] [DecidableEq BytesR] [Inhabited BytesR] [DecidableEq ContR] [Inhabited ContR]

def evtF (e : Evt) : Int :=
  if e.vote = true then (if contractFault e.con.id e.con.legs = 0 then (if e.out = 0 then 0 else 1) else contractFault e.con.id e.con.legs)
  else (if (inB e.con.id 1 1000000000 && inB e.out 1 2) = true then (if e.con.legs.length = 0 then 0 else 1) else 3)
def evtB (e : Evt) : List Byte := if e.vote = true then [toB 1] ++ contBy e.con.id e.con.legs else [toB 2] ++ hiB e.con.id 8 ++ [toB e.out]
def packE (e : Evt) : BytesR := if evtF e = 0 then ⟨0, evtB e⟩ else ⟨evtF e, []⟩
theorem evtF_vote {c : Cont} {o : Int} : evtF ⟨true, c, o⟩ = if contractFault c.id c.legs = 0 then (if o = 0 then 0 else 1) else contractFault c.id c.legs := rfl
theorem evtF_out {c : Cont} {o : Int} : evtF ⟨false, c, o⟩ = if (inB c.id 1 1000000000 && inB o 1 2) = true then (if c.legs.length = 0 then 0 else 1) else 3 := rfl
theorem evtF_vote_ok {c : Cont} {o : Int} (h : evtF ⟨true, c, o⟩ = 0) : contractFault c.id c.legs = 0 ∧ o = 0 := by
  rw [evtF_vote] at h
  split at h
  · rename_i h1
    refine ⟨h1, ?_⟩
    split at h
    · assumption
    · cases h
  · rename_i h1; exact absurd h h1
theorem evtF_out_ok {c : Cont} {o : Int} (h : evtF ⟨false, c, o⟩ = 0) : inB c.id 1 1000000000 = true ∧ inB o 1 2 = true ∧ c.legs = [] := by
  rw [evtF_out] at h
  split at h
  · rename_i h1
    simp only [Bool.and_eq_true] at h1
    refine ⟨h1.1, h1.2, ?_⟩
    split at h
    · rename_i h2; exact List.length_eq_zero_iff.1 h2
    · cases h
  · cases h
theorem evtB_len {e : Evt} (h : evtF e = 0) : 1 ≤ (evtB e).length ∧ (evtB e).length ≤ 97 := by
  obtain ⟨b, c, o⟩ := e
  cases b
  · have : (evtB ⟨false, c, o⟩) = [toB 2] ++ hiB c.id 8 ++ [toB o] := rfl
    rw [this]
    simp only [List.length_append, length_hiB, List.length_cons, List.length_nil]
    omega
  · have h8 := (cf_inv (evtF_vote_ok h).1).2.2.1
    have : (evtB ⟨true, c, o⟩) = [toB 1] ++ contBy c.id c.legs := rfl
    rw [this, List.length_append, length_contBy, List.length_singleton]
    omega
theorem evt_len8 {e : Evt} (h : evtF e = 0) : e.con.legs.length ≤ 8 := by
  obtain ⟨b, c, o⟩ := e
  cases b
  · have := (evtF_out_ok h).2.2
    show c.legs.length ≤ 8
    rw [this]
    exact Nat.zero_le _
  · exact (cf_inv (evtF_vote_ok h).1).2.2.1
theorem packE_le (e : Evt) : (packE e).bytes.length ≤ 97 := by
  unfold packE
  split
  · rename_i h; exact (evtB_len h).2
  · simp
end Go.Proofs.YtecfelacdapdgaaGreat

/-
  Log. (Written by program: nest.py.)
-/
namespace Go.Proofs.YtecfelacdapdgaaGreat
open Go.RowKit
set_option linter.unusedSectionVars false
attribute [local go_sem ↓] Go.wp_at_zero Go.wp_at_succ

set_option linter.unusedSimpArgs false

structure Logg where
  synced : List Byte
  loose : List Byte
variable [DecidableEq Logg] [Inhabited Logg]

end Go.Proofs.YtecfelacdapdgaaGreat

