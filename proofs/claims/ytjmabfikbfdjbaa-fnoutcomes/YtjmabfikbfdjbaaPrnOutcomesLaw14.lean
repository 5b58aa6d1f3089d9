import Derived.Test.YtjmabfikbfdjbaaPrnOutcomesLaw13
import Derived.Deep.AppendLies

/-
  Legs copied: the contract of the law's own copy of a slice of legs.
-/
namespace Go.Proofs.Ytjmabfikbfdjbaa
open Go.RowKit
set_option linter.unusedSectionVars false
variable [DecidableEq Leg] [Inhabited Leg]
attribute [local go_sem ↓] Go.wp_at_zero Go.wp_at_succ

def legC (l : Leg) : List Value := [.int .i64 l.sh, .int .i64 l.ac, .int .i64 l.ast, .int .i64 l.am]
def legsC (xs : List Leg) : List Value := xs.flatMap legC
theorem infoLeg : (Try.prog.info? 99).map (fun i => (i.zero, i.size, i.bytes)) = some (some (.agg #[.int .i64 0, .int .i64 0, .int .i64 0, .int .i64 0]), 4, 32) := by kernel_rfl
theorem getLegsC (xs : List Leg) : ∀ i, i < xs.length → (legsC xs)[i * 4]? = some (.int .i64 (xs.getD i default).sh) ∧ (legsC xs)[i * 4 + 1]? = some (.int .i64 (xs.getD i default).ac) ∧
    (legsC xs)[i * 4 + 2]? = some (.int .i64 (xs.getD i default).ast) ∧ (legsC xs)[i * 4 + 3]? = some (.int .i64 (xs.getD i default).am) := by
  induction xs with
  | nil => intro i h; simp at h
  | cons x r ih =>
    intro i h
    cases i with
    | zero => simp [legsC, legC]
    | succ i =>
      have := ih i (by simpa using h)
      have e : legsC (x :: r) = legC x ++ legsC r := by simp [legsC]
      have l4 : (legC x).length = 4 := rfl
      rw [e]
      refine ⟨?_, ?_, ?_, ?_⟩
      all_goals rw [List.getElem?_append_right (by omega), l4]
      · rw [show (i + 1) * 4 - 4 = i * 4 by omega]; simpa using this.1
      · rw [show (i + 1) * 4 + 1 - 4 = i * 4 + 1 by omega]; simpa using this.2.1
      · rw [show (i + 1) * 4 + 2 - 4 = i * 4 + 2 by omega]; simpa using this.2.2.1
      · rw [show (i + 1) * 4 + 3 - 4 = i * 4 + 3 by omega]; simpa using this.2.2.2
theorem LegsV_of_owns {w : World} {base e : Nat} {v : Value} {xs : List Leg} (h : w.ownsRow base e 4 v xs.length (legsC xs)) : LegsV w v xs := by
  rcases h.2 with ⟨rfl, hn⟩ | ⟨g, cap, cur, rfl, hb, hg, hnc, hcm, hcs, htake⟩
  · exact ⟨none, 0, by rw [hn], by omega, by unfold maxLen; omega, fun i hi => by omega⟩
  · refine ⟨some ⟨g, 0, none⟩, cap, rfl, hnc, hcm, fun i hi => ⟨g, 0, rfl, ?_⟩⟩
    obtain ⟨h0, h1, h2, h3⟩ := getLegsC xs i hi
    simp only [Nat.zero_add, legCells]
    exact ⟨(h.cellAt _ (by omega)).trans h0, (h.cellAt _ (by omega)).trans h1, (h.cellAt _ (by omega)).trans h2, (h.cellAt _ (by omega)).trans h3⟩
end Go.Proofs.Ytjmabfikbfdjbaa

/-
  Contracts as values: the law's own copy, comparison and count of a contract.
-/
namespace Go.Proofs.Ytjmabfikbfdjbaa
open Go.RowKit
set_option linter.unusedSectionVars false
variable [DecidableEq Leg] [Inhabited Leg]
attribute [local go_sem ↓] Go.wp_at_zero Go.wp_at_succ

theorem LegsV_below {w w' : World} {v : Value} {xs : List Leg} (h : LegsV w v xs) (hb : Below w.heap.size w w') : LegsV w' v xs := by
  obtain ⟨a, cap, rfl, h1, h2, h3⟩ := h
  exact ⟨a, cap, rfl, h1, h2, fun i hi => by
    obtain ⟨b, o, ha, hc⟩ := h3 i hi
    exact ⟨b, o, ha, legCells_below hb hc⟩⟩
end Go.Proofs.Ytjmabfikbfdjbaa

/-
  Rows of numbers: compared, marked and read back; and the answers that hold one.
-/
namespace Go.Proofs.Ytjmabfikbfdjbaa
open Go.RowKit
set_option linter.unusedSectionVars false
variable [DecidableEq Leg] [Inhabited Leg]
attribute [local go_sem ↓] Go.wp_at_zero Go.wp_at_succ

def intsC (ys : List Int) : List Value := ys.map (Value.int .i64)
theorem infoInt : (Try.prog.info? 2).map (fun i => (i.zero, i.size, i.bytes)) = some (some (.int .i64 0), 1, 8) := by kernel_rfl
def IntsV (w : World) (v : Value) (ys : List Int) : Prop :=
  ∃ a cap, v = .slice a ys.length cap ∧ ys.length ≤ cap ∧ cap ≤ maxLen ∧ ∀ i, i < ys.length → ∃ b o, a = some ⟨b, o, none⟩ ∧ w.cell? ⟨b, o + i, none⟩ = some (.int .i64 (ys.getD i 0))
theorem IntsV_below {w w' : World} {v : Value} {ys : List Int} (h : IntsV w v ys) (hb : Below w.heap.size w w') : IntsV w' v ys := by
  obtain ⟨a, cap, rfl, h1, h2, h3⟩ := h
  exact ⟨a, cap, rfl, h1, h2, fun i hi => by
    obtain ⟨b, o, ha, hc⟩ := h3 i hi
    exact ⟨b, o, ha, cell_keep hb hc⟩⟩
theorem IntsV_of_owns {w : World} {base e : Nat} {v : Value} {ys : List Int} (h : w.ownsRow base e 1 v ys.length (intsC ys)) : IntsV w v ys := by
  rcases h.2 with ⟨rfl, hn⟩ | ⟨g, cap, cur, rfl, hb, hg, hnc, hcm, hcs, htake⟩
  · exact ⟨none, 0, by rw [hn], by omega, by unfold maxLen; omega, fun i hi => by omega⟩
  · refine ⟨some ⟨g, 0, none⟩, cap, rfl, hnc, hcm, fun i hi => ⟨g, 0, rfl, ?_⟩⟩
    rw [Nat.zero_add]
    refine (h.cellAt i (by omega)).trans ?_
    simp [intsC, List.getD, hi]
end Go.Proofs.Ytjmabfikbfdjbaa

/-
  A number put into a rising list (the specification's own helper).
-/
namespace Go.Proofs.Ytjmabfikbfdjbaa
open Go.RowKit
set_option linter.unusedSectionVars false
variable [DecidableEq Leg] [Inhabited Leg]
attribute [local go_sem ↓] Go.wp_at_zero Go.wp_at_succ

def ahead (ys : List Int) (v : Int) : Nat := (ys.takeWhile (· < v)).length
section
variable {P : Program} (w : World)
end

theorem intsC_one (ys : List Int) : ∀ u ∈ intsC ys, u.oneCell' = true := by
  intro u hu
  simp only [intsC, List.mem_map] at hu
  obtain ⟨y, _, rfl⟩ := hu
  rfl
theorem src_one {w' : World} {g : Nat} {v : Int} (h : w'.cell? ⟨g, 0, none⟩ = some (.int .i64 v)) : ∀ j u, (intsC [v])[j]? = some u → w'.cell? ((⟨g, 0, none⟩ : Addr).add j) = some u := by
  intro j u hj
  match j, hj with
  | 0, hj => simp [intsC] at hj; subst hj; simpa [Addr.add] using h
  | j + 1, hj => simp [intsC] at hj
end Go.Proofs.Ytjmabfikbfdjbaa

