import Derived.Test.YtjhmdnlkpkagiaaPrnPromisesLaw2
import Derived.Test.YtjhmdnlkpkagiaaPrnPromisesLaw1
import Derived.Deep.RegionHeld3
import Derived.Deep.DrawnRows
import Derived.Test.YtjhmdnlkpkagiaaPrnPromisesLaw3
import Derived.Test.YtjhmdnlkpkagiaaPrnPromisesLaw6
import Derived.Shelf.Abstract
import Derived.Laws.CopyRow
import Derived.Laws.Externs
import Derived.Lib.Overlaps
import Derived.Lib.AppendZerosOnto
import Derived.Deep.RegionLaw
import Derived.Maps.AppendAt
import Derived.Test.YtjhmdnlkpkagiaaPrnPromisesLaw4
import Derived.BigQuiet
import Derived.Deep.QuietTactic

/-
  slices.Insert of one slot, whatever room there is.
-/
namespace Go.Proofs.Ytjhmdnlkpkagiaa
open Go.RowKit Go.Shelf
set_option linter.unusedSectionVars false
variable [DecidableEq Vot] [Inhabited Vot] [DecidableEq Slt] [Inhabited Slt] [DecidableEq Bal] [Inhabited Bal] [DecidableEq Ledg] [Inhabited Ledg] [DecidableEq Leg] [Inhabited Leg]
set_option linter.unusedVariables false
set_option linter.unusedSimpArgs false

theorem slt_cells {w : World} {base : Nat} {F : Nat → Prop} {u : Value} {x : Slt} (h : sltR.O w base F u x) : ∃ a c, u = .agg #[.int .i64 x.con, .int .i64 x.sh, .int .i64 x.pr, .int .i64 x.lb, .int .i64 x.lv, .slice a x.cast.length c] ∧ lvSlt u = [.int .i64 x.con, .int .i64 x.sh, .int .i64 x.pr, .int .i64 x.lb, .int .i64 x.lv, .slice a x.cast.length c] := by
  obtain ⟨u1, F1, rfl, h1, _⟩ := h
  obtain ⟨a, c, rfl⟩ := owns_form h1.1
  exact ⟨a, c, rfl, rfl⟩
end Go.Proofs.Ytjhmdnlkpkagiaa

/-
  A new slot, said plainly.
-/
set_option linter.unusedSimpArgs false
set_option linter.unusedVariables false
namespace Go.Proofs.Ytjhmdnlkpkagiaa
open Go.RowKit
set_option linter.unusedSectionVars false
variable [DecidableEq Vot] [Inhabited Vot] [DecidableEq Slt] [Inhabited Slt] [DecidableEq SltR] [Inhabited SltR] [DecidableEq Bal] [Inhabited Bal] [DecidableEq Ledg] [Inhabited Ledg] [DecidableEq Leg] [Inhabited Leg] [DecidableEq Acc] [Inhabited Acc] [DecidableEq AccR] [Inhabited AccR] [DecidableEq AccsR] [Inhabited AccsR] [DecidableEq SltsR] [Inhabited SltsR]
attribute [local go_sem ↓] Go.wp_at_zero Go.wp_at_succ

def NewE (c s : Int) (W : World) (e : Ending) (w' : World) : Prop :=
  ∃ p q F, e = .returned (.agg #[.int .i64 0, .int .i64 0, .int .i64 0, .int .i64 c, .int .i64 s, .int .i64 (-1), .int .i64 (-1), .int .i64 0, .slice p 0 q]) ∧ sltR.O w' W.heap.size F (.agg #[.int .i64 c, .int .i64 s, .int .i64 (-1), .int .i64 (-1), .int .i64 0, .slice p 0 q]) (freS c s) ∧ Below W.heap.size W w'
theorem slotField (a b c d e f g h : Int) (p : Option Addr) (n q : Nat) (w : World) : (Instr.field 32 (.agg #[.int .i64 a, .int .i64 b, .int .i64 c, .int .i64 d, .int .i64 e, .int .i64 f, .int .i64 g, .int .i64 h, .slice p n q]) 2).run Try.prog w = .ok (.agg #[.int .i64 d, .int .i64 e, .int .i64 f, .int .i64 g, .int .i64 h, .slice p n q]) w := by kernel_rfl
theorem newE_of {c s : Int} {W : World} {e : Ending} {w' : World} (h : ∃ v F, e = .returned v ∧ sltRR.O w' W.heap.size F v ⟨0, 0, 0, freS c s⟩ ∧ Below W.heap.size W w') : NewE c s W e w' := by
  obtain ⟨v, F, rfl, h, hb⟩ := h
  obtain ⟨u, F1, rfl, h1, _⟩ := h
  obtain ⟨p, q, e, _⟩ := slt_cells h1
  simp only [freS, Value.agg.injEq, Array.mk.injEq, List.cons.injEq, and_true, true_and, List.length_nil] at e
  subst e
  exact ⟨p, q, F1, rfl, h1, hb⟩
theorem specNew_ok (c s : Int) (W : World) (h : idOk c s = true) : Calls Try.prog 27 #[.int .i64 c, .int .i64 s] W (NewE c s W) := by
  refine (specNewS_u c s W).mono ?_
  intro e w' h1
  rw [newSlt_ok h] at h1
  exact newE_of h1
end Go.Proofs.Ytjhmdnlkpkagiaa

/-
  Cells that are kept. (Written by program: lawgen.py.)
-/
namespace Go.Proofs.Ytjhmdnlkpkagiaa
open Go.RowKit
theorem keepN6 {w w' : World} {a0 : Addr} {x0 : Value} {a1 : Addr} {x1 : Value} {a2 : Addr} {x2 : Value} {a3 : Addr} {x3 : Value} {a4 : Addr} {x4 : Value} {a5 : Addr} {x5 : Value} (hb : Below w.heap.size w w') (g0 : w.cell? a0 = some x0) (g1 : w.cell? a1 = some x1) (g2 : w.cell? a2 = some x2) (g3 : w.cell? a3 = some x3) (g4 : w.cell? a4 = some x4) (g5 : w.cell? a5 = some x5) : Below w.heap.size w w' ∧ w'.cell? a0 = some x0 ∧ w'.cell? a1 = some x1 ∧ w'.cell? a2 = some x2 ∧ w'.cell? a3 = some x3 ∧ w'.cell? a4 = some x4 ∧ w'.cell? a5 = some x5 :=
  ⟨hb, cell_keep hb g0, cell_keep hb g1, cell_keep hb g2, cell_keep hb g3, cell_keep hb g4, cell_keep hb g5⟩
end Go.Proofs.Ytjhmdnlkpkagiaa

/-
  A region that draws its order, none of whose operations breaks what is asked of the world.
-/
namespace Go.Proofs.Ytjhmdnlkpkagiaa
open Go.RowKit

section
variable {P : Program} {ops : Array Oper} {Q : Exit → Act → World → Prop} {md : Region.Mode} {S : World → Prop} {t : Nat}

theorem upto_firstN {i : Nat} {oi : Oper} {v : Value} (hi : ops[i]? = some oi) (hsel : Region.noSelect ops = true) (ht : ops[t]? = none)
    (hQ : ∀ c a w, Q (.panic c) (a.put oi.dst v) w → Q (.panic c) a w) :
    ∀ (f : Nat) (listed : Array Bool) (a : Act) (w : World),
      (∀ j oj, ops[j]? = some oj → j ≠ i → listed.getD j true = false → (∀ e ∈ oj.after, Region.binds md e = true → e.on ≠ i) → oi.apart ops oj = true) →
      i ∈ Region.ready md ops listed → YieldsIf P ops S oi v a → S w →
      wpUpto P md ops Q S t f (listed.setIfInBounds i true) (a.put oi.dst v) w → wpUpto P md ops Q S t (f + 1) listed a w := by
  intro f
  induction f with
  | zero =>
    intro listed a w _ hr hy hS H
    refine ⟨fun h => (by rw [h] at hr; cases hr), fun j hj => ?_⟩
    by_cases hji : j = i
    · subst hji
      exact hy.wpOp hi hS ⟨fun _ => hS, H⟩
    · have hm := ready_mono hj hji
      rw [H.1] at hm
      cases hm
  | succ f ih =>
    intro listed a w hfree hr hy hS H
    refine ⟨fun h => (by rw [h] at hr; cases hr), fun j hj => ?_⟩
    by_cases hji : j = i
    · subst hji
      exact hy.wpOp hi hS ⟨fun _ => hS, H⟩
    · obtain ⟨hjun, oj, hoj, hall⟩ := mem_ready.1 hj
      have hun := (mem_ready.1 hr).1
      have hnl : ¬ listed.getD i false = true := by
        intro h1
        rcases Nat.lt_or_ge i listed.size with h' | h'
        · simp [h'] at hun h1
          rw [hun] at h1
          cases h1
        · simp [Array.getElem?_eq_none h'] at h1
      have hnot : ∀ e ∈ oj.after, Region.binds md e = true → e.on ≠ i := fun e he hb heq => hnl (by rw [← heq]; exact hall e he hb)
      have hjt : j ≠ t := by
        rintro rfl
        rw [ht] at hoj
        cases hoj
      have h1 := H.2 j (ready_mono hj hji)
      have h2 := wpOp_putIf hoj (hfree j oj hoj hji hjun hnot) (fun cs b => Region.noSelect_spec hsel i oi cs b hi) (fun cs b => Region.noSelect_spec hsel j oj cs b hoj) hQ hy h1
      refine wpOp_mono (fun a' w' h3 => ⟨h3.2.1, ih (listed.setIfInBounds j true) a' w' ?_ (ready_mono hr (Ne.symm hji)) h3.1 (h3.2.1 hjt) ?_⟩) h2
      · intro k ok hk hki hunk hno
        refine hfree k ok hk hki ?_ hno
        by_cases hjk : j = k
        · subst hjk; exact hjun
        · rw [getD_set_ne true hjk] at hunk; exact hunk
      · rw [Array.setIfInBounds_comm _ _ hji]
        exact h3.2.2
theorem upto_takeN {i : Nat} {oi : Oper} {v : Value} {f : Nat} {listed : Array Bool} {a : Act} {w : World} (hi : ops[i]? = some oi) (hsel : Region.noSelect ops = true) (ht : ops[t]? = none)
    (hf : Region.free md ops listed i = true) (hr : (Region.ready md ops listed).contains i = true) (hQ : ∀ c a w, Q (.panic c) (a.put oi.dst v) w → Q (.panic c) a w)
    (hwd : Region.wanted oi (yielded ops a.tmps) = true) (hS : S w) (hy : ∀ w, S w → (execOp a.eval oi).run P w = .ok (.value v) w)
    (h : wpUpto P md ops Q S t f (listed.setIfInBounds i true) (a.put oi.dst v) w) : wpUpto P md ops Q S t (f + 1) listed a w :=
  upto_firstN hi hsel ht hQ f listed a w (Region.free_spec hi hf) (by simpa using hr) (Or.inl ⟨hwd, hy⟩) hS h
theorem upto_skipN {i : Nat} {oi : Oper} {f : Nat} {listed : Array Bool} {a : Act} {w : World} (hi : ops[i]? = some oi) (hsel : Region.noSelect ops = true) (ht : ops[t]? = none)
    (hf : Region.free md ops listed i = true) (hr : (Region.ready md ops listed).contains i = true) (hQ : ∀ c a w, Q (.panic c) (a.put oi.dst undef) w → Q (.panic c) a w)
    (hwd : Region.wanted oi (yielded ops a.tmps) = false) (hS : S w)
    (h : ∀ u : Value, wpUpto P md ops Q S t f (listed.setIfInBounds i true) (a.put oi.dst u) w) : wpUpto P md ops Q S t (f + 1) listed a w :=
  upto_firstN hi hsel ht hQ f listed a w (Region.free_spec hi hf) (by simpa using hr) (Or.inr ⟨hwd, rfl⟩) hS (h undef)
end

end Go.Proofs.Ytjhmdnlkpkagiaa

