/-
  slices.SortFunc over keys of a book: what it asks of compareKeys.
-/
import Derived.Test.YteebglgbeijolaaCk
import Derived.Test.YteebglgbeijolaaKcl
import Derived.Shelf.SlSortCmp.WholeK
namespace Go.Proofs.Yteebglgbeijolaa
open Go.RowKit Go.Sort Go.Shelf
set_option linter.unusedSectionVars false
variable [DecidableEq Rw] [Inhabited Rw] [DecidableEq Bal] [Inhabited Bal] [DecidableEq Ledg] [Inhabited Ledg] [DecidableEq Leg] [Inhabited Leg]
set_option linter.unusedVariables false
set_option linter.unusedSimpArgs false

/-- two keys compared -/
def cfK (x y : K3) : Int := cmpTo (k3 x.1 x.2.1 x.2.2) (k3 y.1 y.2.1 y.2.2) 3
theorem ltK_iff (x y : K3) : ltOf cfK x y = true ↔ x.1 < y.1 ∨ (x.1 = y.1 ∧ (x.2.1 < y.2.1 ∨ (x.2.1 = y.2.1 ∧ x.2.2 < y.2.2))) := by
  obtain ⟨a, b, c⟩ := x
  obtain ⟨a', b', c'⟩ := y
  unfold ltOf cfK
  simp only [cmpTo, decide_eq_true_eq, show k3 a b c 0 = a from rfl, show k3 a b c 1 = b from rfl, show k3 a b c 2 = c from rfl, show k3 a' b' c' 0 = a' from rfl, show k3 a' b' c' 1 = b' from rfl, show k3 a' b' c' 2 = c' from rfl, if_true]
  unfold cmpI
  by_cases h0 : a < a'
  · simp [h0]
  · by_cases h1 : a' < a
    · simp [h0, h1]
      omega
    · have e0 : a = a' := by omega
      subst e0
      by_cases h2 : b < b'
      · simp [h2]
      · by_cases h3 : b' < b
        · simp [h2, h3]
          omega
        · have e1 : b = b' := by omega
          subst e1
          by_cases h4 : c < c'
          · simp [h4]
          · by_cases h5 : c' < c
            · simp [h4, h5]
            · simp [h4, h5]
theorem swoK : SWO (ltOf cfK) where
  irrefl x := by
    rw [← Bool.not_eq_true, ltK_iff]
    omega
  trans x y z h1 h2 := by
    rw [ltK_iff] at *
    omega
  ntrans x y z h1 h2 := by
    rw [← Bool.not_eq_true, ltK_iff] at *
    omega
theorem cmpLaysK (blk off size : Nat) (w : World) : CmpLays Try.prog 136 #[] keyC 3 cfK blk off size w := by
  intro m os dk _ x y
  refine (compareKeys_any x.1 x.2.1 x.2.2 y.1 y.2.1 y.2.2 _).mono ?_
  rintro e w' ⟨rfl, rfl⟩
  refine ⟨rfl, 1, #[.cells #[.int .i64 x.1, .int .i64 x.2.1, .int .i64 x.2.2] 180, .cells #[.int .i64 y.1, .int .i64 y.2.1, .int .i64 y.2.2] 180], ?_⟩
  rw [alloc_eq_grow, alloc_eq_grow, grow_grow]
  rfl

end Go.Proofs.Yteebglgbeijolaa
