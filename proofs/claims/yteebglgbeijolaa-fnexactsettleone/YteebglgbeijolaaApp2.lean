/-
  Appending what lies anywhere, or nothing: balances.
-/
import Derived.Test.YteebglgbeijolaaUBals
import Derived.Test.YteebglgbeijolaaApp0
namespace Go.Proofs.Yteebglgbeijolaa
open Go.RowKit
set_option linter.unusedSectionVars false
variable [DecidableEq Bal] [Inhabited Bal]

theorem appAny_bals {w : World} {v : Value} {xs : List Bal} (h : balsR.V w v xs) : AppAny w v xs.length (balsC xs) := by
  obtain ⟨a, c, rfl, _, _, hc⟩ := h
  cases a with
  | none =>
    have h0 : xs = [] := by
      cases xs with
      | nil => rfl
      | cons x r => obtain ⟨b, o, e, _⟩ := hc 0 (by simp); cases e
    subst h0
    exact .inl ⟨c, rfl, rfl, rfl⟩
  | some ad =>
    refine .inr ⟨ad, c, rfl, fun j x hj => ?_⟩
    have hjl : j < xs.length * 3 := by
      have := (List.getElem?_eq_some_iff.1 hj).1
      rw [length_balsC] at this
      exact this
    have hi : j / 3 < xs.length := by omega
    obtain ⟨b, o, e, g0, g1, g2⟩ := hc (j / 3) hi
    obtain ⟨q0, q1, q2⟩ := get_balsC xs (j / 3) hi
    simp only [Option.some.injEq] at e
    subst e
    have hadd : (Addr.mk b o none).add j = ⟨b, o + j, none⟩ := by
      by_cases h : j = 0
      · subst h; simp [Addr.add]
      · simp [Addr.add, h]
    rw [hadd]
    have hm : j % 3 = 0 ∨ j % 3 = 1 ∨ j % 3 = 2 := by omega
    rcases hm with hm | hm | hm
    · have e : j = j / 3 * 3 := by omega
      have e2 : o + j = o + j / 3 * 3 := by omega
      rw [e2, g0]
      rw [e, q0] at hj
      exact hj
    · have e : j = j / 3 * 3 + 1 := by omega
      have e2 : o + j = o + j / 3 * 3 + 1 := by omega
      rw [e2, g1]
      rw [e, q1] at hj
      exact hj
    · have e : j = j / 3 * 3 + 2 := by omega
      have e2 : o + j = o + j / 3 * 3 + 2 := by omega
      rw [e2, g2]
      rw [e, q2] at hj
      exact hj

end Go.Proofs.Yteebglgbeijolaa
