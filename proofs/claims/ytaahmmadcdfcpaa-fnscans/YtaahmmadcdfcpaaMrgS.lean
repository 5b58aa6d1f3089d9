/-
  The specification's MergeTables.
-/
import Derived.Test.YtaahmmadcdfcpaaMrgM
import Derived.Test.YtaahmmadcdfcpaaNRowss
namespace Go.Proofs.Ytaahmmadcdfcpaa
open Go.RowKit
set_option linter.unusedSectionVars false
variable [DecidableEq Rw] [Inhabited Rw] [DecidableEq TabR] [Inhabited TabR]
set_option linter.unusedVariables false
set_option linter.unusedSimpArgs false
attribute [local go_sem ↓] Go.wp_at_zero Go.wp_at_succ

def flatTo (xss : Nat → List Rw) : Nat → List Rw
  | 0 => []
  | k + 1 => flatTo xss k ++ xss k
theorem flatTo_le (xss : Nat → List Rw) : ∀ {k n : Nat}, k ≤ n → flatTo xss k <+: flatTo xss n
  | k, 0, h => by
    have : k = 0 := by omega
    subst this
    exact List.prefix_refl _
  | k, n + 1, h => by
    by_cases e : k = n + 1
    · subst e; exact List.prefix_refl _
    · exact (flatTo_le xss (k := k) (n := n) (by omega)).trans (List.prefix_append _ _)
theorem putL_pos (ys : List Rw) (r : Rw) : 1 ≤ (putL ys r).length := by
  cases ys with
  | nil => simp [putL]
  | cons y ys =>
    have := (length_putL (y :: ys) r).1
    simp only [List.length_cons] at this
    omega

/-- rows that own their memory, not nil -/
def OutS (W : World) (base : Nat) (v : Value) (ys : List Rw) : Prop := (∃ g c, v = .slice (some ⟨g, 0, none⟩) ys.length c) ∧ W.ownsRow base 38 4 v ys.length (rwsC ys)
theorem OutS.below {W W' : World} {base : Nat} {v : Value} {ys : List Rw} (h : OutS W base v ys) (hb : Below W.heap.size W W') : OutS W' base v ys := ⟨h.1, owns_below h.2 hb⟩

theorem l5Put_L (x : Value) (ys : List Rw) (r : Rw) (base : Nat) (w : World) (hx : OutS w base x ys) (hbase : base ≤ w.heap.size) (hn : ys.length ≤ 1048000) :
    Calls Try.prog 65 #[x, rowV r] w fun e w' => ∃ v, e = .returned v ∧ OutS w' base v (putL ys r) ∧ Below w.heap.size w w' := by
  obtain ⟨⟨g, c, rfl⟩, ho⟩ := hx
  refine (l5Put_any _ ys r w (RowsV_of_owns ho) ⟨g, 0, c, rfl⟩ hn).mono ?_
  rintro e w' ⟨k, hk, hb, h⟩
  rw [putK_putL ys r k hk] at h
  rcases h with ⟨e1, rfl⟩ | ⟨v, rfl, h⟩
  · rw [e1]
    exact ⟨_, rfl, ⟨⟨g, c, rfl⟩, owns_below ho hb⟩, hb⟩
  · refine ⟨v, rfl, ⟨?_, owns_base h hbase⟩, hb⟩
    have hp := putL_pos ys r
    rcases h.2 with ⟨_, h0⟩ | ⟨g', cap, _, rfl, _⟩
    · omega
    · exact ⟨g', cap, rfl⟩

end Go.Proofs.Ytaahmmadcdfcpaa
