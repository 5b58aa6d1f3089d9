/-
  Bytes as text; one row of a row of rows; whether the code is too long.
-/
import Derived.Test.YtaahmmadcdfcpaaRecM
import Derived.Test.YtaahmmadcdfcpaaBStr
namespace Go.Proofs.Ytaahmmadcdfcpaa
open Go.RowKit
set_option linter.unusedSectionVars false
variable [DecidableEq BytesR] [Inhabited BytesR] [DecidableEq RecsR] [Inhabited RecsR]
set_option linter.unusedSimpArgs false
attribute [local go_sem ↓] Go.wp_at_zero Go.wp_at_succ

set_option maxHeartbeats 400000 in
theorem lwBig_any (x : Value) (xs : List Byte) (w : World) (hx : bytesR.V w x xs) :
    Calls Try.prog 6 #[x] w fun e w' => e = .returned (.bool (decide (1048576 < xs.length))) ∧ w' = w := by
  obtain ⟨a, c, rfl, h1, h2, _⟩ := hx
  unfold maxLen at h2
  generalize xs.length = n at *
  go_enter Try.func6, Try.ntmps6
  by_cases h : 1048576 < n
  · have h' : (1048576 : Int) < (n : Int) := by omega
    go_wp2
    go_ret
    exact ⟨by simp [h], rfl⟩
  · have h' : ¬ (1048576 : Int) < (n : Int) := by omega
    go_wp2
    go_ret
    exact ⟨by simp [h], rfl⟩

/-- one row of a row of rows -/
theorem bytess_at {w : World} {a : Option Addr} {n q : Nat} {ps : List (List Byte)} (h : bytessR.V w (.slice a n q) ps) (i : Nat) (hi : i < ps.length) :
    ∃ g o u c, a = some ⟨g, o, none⟩ ∧ w.cell? ⟨g, o + i, none⟩ = some (.slice u (ps.getD i default).length c) ∧ bytesR.V w (.slice u (ps.getD i default).length c) (ps.getD i default) := by
  obtain ⟨pp, qq, ep, _, _, hrows⟩ := h
  simp only [Value.slice.injEq] at ep
  obtain ⟨rfl, _, rfl⟩ := ep
  obtain ⟨g, o, u, rfl, _, hc, hv⟩ := hrows i hi
  obtain ⟨au, cu, rfl⟩ := bytes_form hv
  have hc0 := hc 0 (by omega)
  exact ⟨g, o, au, cu, rfl, by simpa [one] using hc0, hv⟩

end Go.Proofs.Ytaahmmadcdfcpaa
