import Derived.Test.YteebglgbeijolaaPrnBytes9Law7
import Derived.Test.YteebglgbeijolaaPrnBytes9Law1

/-
  Legs copied: the contract of the law's own copy of a slice of legs.
-/
namespace Go.Proofs.Yteebglgbeijolaa
open Go.RowKit
set_option linter.unusedSectionVars false
variable [DecidableEq Leg] [Inhabited Leg]
attribute [local go_sem ↓] Go.wp_at_zero Go.wp_at_succ

def legC (l : Leg) : List Value := [.int .i64 l.sh, .int .i64 l.ac, .int .i64 l.ast, .int .i64 l.am]
def legsC (xs : List Leg) : List Value := xs.flatMap legC
theorem infoLeg : (Try.prog.info? 97).map (fun i => (i.zero, i.size, i.bytes)) = some (some (.agg #[.int .i64 0, .int .i64 0, .int .i64 0, .int .i64 0]), 4, 32) := by kernel_rfl
theorem getLegsC (xs : List Leg) : ∀ i, i < xs.length → (legsC xs)[i * 4]? = some (.int .i64 (xs.getD i default).sh) ∧ (legsC xs)[i * 4 + 1]? = some (.int .i64 (xs.getD i default).ac) ∧
    (legsC xs)[i * 4 + 2]? = some (.int .i64 (xs.getD i default).ast) ∧ (legsC xs)[i * 4 + 3]? = some (.int .i64 (xs.getD i default).am) := by
  induction xs with
  | nil => intro i h; simp at h
  | cons x r ih =>
    intro i h
    cases i with
    | zero => simp [legsC, legC]
    | succ i =>
      have := ih i (by simpa using h)
      have e : legsC (x :: r) = legC x ++ legsC r := by simp [legsC]
      have l4 : (legC x).length = 4 := rfl
      rw [e]
      refine ⟨?_, ?_, ?_, ?_⟩
      all_goals rw [List.getElem?_append_right (by omega), l4]
      · rw [show (i + 1) * 4 - 4 = i * 4 by omega]; simpa using this.1
      · rw [show (i + 1) * 4 + 1 - 4 = i * 4 + 1 by omega]; simpa using this.2.1
      · rw [show (i + 1) * 4 + 2 - 4 = i * 4 + 2 by omega]; simpa using this.2.2.1
      · rw [show (i + 1) * 4 + 3 - 4 = i * 4 + 3 by omega]; simpa using this.2.2.2
theorem LegsV_of_owns {w : World} {base e : Nat} {v : Value} {xs : List Leg} (h : w.ownsRow base e 4 v xs.length (legsC xs)) : LegsV w v xs := by
  rcases h.2 with ⟨rfl, hn⟩ | ⟨g, cap, cur, rfl, hb, hg, hnc, hcm, hcs, htake⟩
  · exact ⟨none, 0, by rw [hn], by omega, by unfold maxLen; omega, fun i hi => by omega⟩
  · refine ⟨some ⟨g, 0, none⟩, cap, rfl, hnc, hcm, fun i hi => ⟨g, 0, rfl, ?_⟩⟩
    obtain ⟨h0, h1, h2, h3⟩ := getLegsC xs i hi
    simp only [Nat.zero_add, legCells]
    exact ⟨(h.cellAt _ (by omega)).trans h0, (h.cellAt _ (by omega)).trans h1, (h.cellAt _ (by omega)).trans h2, (h.cellAt _ (by omega)).trans h3⟩
end Go.Proofs.Yteebglgbeijolaa

/-
  Contracts as values: the law's own copy, comparison and count of a contract.
-/
namespace Go.Proofs.Yteebglgbeijolaa
open Go.RowKit
set_option linter.unusedSectionVars false
variable [DecidableEq Leg] [Inhabited Leg]
attribute [local go_sem ↓] Go.wp_at_zero Go.wp_at_succ

theorem LegsV_below {w w' : World} {v : Value} {xs : List Leg} (h : LegsV w v xs) (hb : Below w.heap.size w w') : LegsV w' v xs := by
  obtain ⟨a, cap, rfl, h1, h2, h3⟩ := h
  exact ⟨a, cap, rfl, h1, h2, fun i hi => by
    obtain ⟨b, o, ha, hc⟩ := h3 i hi
    exact ⟨b, o, ha, legCells_below hb hc⟩⟩
end Go.Proofs.Yteebglgbeijolaa

/-
  Rows of impl.Leg: the uniform forms. (Written by program: nest.py.)
-/
namespace Go.Proofs.Yteebglgbeijolaa
open Go.RowKit
set_option linter.unusedSectionVars false
variable [DecidableEq Leg] [Inhabited Leg]
attribute [local go_sem ↓] Go.wp_at_zero Go.wp_at_succ

def legsR : Rep (List Leg) := fRep 97 4 legsC LegsV LegsV_below LegsV_of_owns
theorem legs_form {w : World} {v : Value} {xs : List Leg} (h : legsR.V w v xs) : ∃ a c, v = .slice a xs.length c := by
  obtain ⟨a, c, rfl, _⟩ := h
  exact ⟨_, _, rfl⟩
end Go.Proofs.Yteebglgbeijolaa

/-
  Contract. (Written by program: nest.py.)
-/
namespace Go.Proofs.Yteebglgbeijolaa
open Go.RowKit
set_option linter.unusedSectionVars false
variable [DecidableEq Leg] [Inhabited Leg]
attribute [local go_sem ↓] Go.wp_at_zero Go.wp_at_succ

structure Cont where
  id : Int
  legs : List Leg
variable [DecidableEq Cont] [Inhabited Cont]

def contR : Rep Cont where
  V := fun w v x => ∃ u1, v = .agg #[.int .i64 x.id, u1] ∧ legsR.V w u1 x.legs
  O := fun w base F v x => ∃ u1 F1, v = .agg #[.int .i64 x.id, u1] ∧ legsR.O w base F1 u1 x.legs ∧ (∀ b, F b ↔ (F1 b))
  below := fun h hb => by
    obtain ⟨u1, rfl, h1⟩ := h
    exact ⟨u1, rfl, legsR.below h1 hb⟩
  ofO := fun h => by
    obtain ⟨u1, F1, rfl, h1, _⟩ := h
    exact ⟨u1, rfl, legsR.ofO h1⟩
  mod := fun h hm hd => by
    obtain ⟨u1, F1, rfl, h1, hF⟩ := h
    exact ⟨u1, F1, rfl, legsR.mod h1 hm (fun b hb => hd b ((hF b).2 hb)), hF⟩
  rng := fun h b hb => by
    obtain ⟨u1, F1, rfl, h1, hF⟩ := h
    rcases (hF b).1 hb with hb
    · exact legsR.rng h1 b hb
  base := fun h hb => by
    obtain ⟨u1, F1, rfl, h1, hF⟩ := h
    exact ⟨u1, F1, rfl, legsR.base h1 hb, hF⟩
theorem cont_form {w : World} {v : Value} {x : Cont} (h : contR.V w v x) : ∃ a1 c1, v = .agg #[.int .i64 x.id, .slice a1 x.legs.length c1] := by
  obtain ⟨u1, rfl, h1⟩ := h
  obtain ⟨a1, c1, rfl⟩ := legs_form h1
  exact ⟨_, _, rfl⟩
end Go.Proofs.Yteebglgbeijolaa

