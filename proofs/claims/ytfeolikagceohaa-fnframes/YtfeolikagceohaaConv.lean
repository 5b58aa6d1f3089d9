/-
  Bytes as text; one row of a row of rows; whether the code is too long.
-/
import Derived.Test.YtfeolikagceohaaRecM
import Derived.Laws.BytesArg
namespace Go.Proofs.Ytfeolikagceohaa
open Go.RowKit
set_option linter.unusedSectionVars false
variable [DecidableEq BytesR] [Inhabited BytesR] [DecidableEq RecsR] [Inhabited RecsR]
set_option linter.unusedSimpArgs false
attribute [local go_sem ↓] Go.wp_at_zero Go.wp_at_succ

/-- the text that bytes are -/
def bstr (xs : List Byte) : ByteArray := strOfNums (xs.map fun b => (b.val : Int))
theorem conv_bytes {w : World} {v : Value} {xs : List Byte} (h : BytesV w v xs) : (convert 22 9 v).run Try.prog w = .ok (.string (bstr xs)) w := by
  obtain ⟨a, cap, rfl, _, _, hc⟩ := h
  by_cases h0 : xs.length = 0
  · have e : xs = [] := List.eq_nil_of_length_eq_zero h0
    subst e
    show (convert 22 9 (.slice a 0 cap)).run Try.prog w = _
    rw [run_convert_bytes_string w 22 9 5 a 0 cap (by kernel_rfl) (by kernel_rfl) (by kernel_rfl)]
    cases a <;> simp [Conv.bytesToString, loadCells]
    all_goals rfl
  · obtain ⟨b, o, rfl, _⟩ := hc 0 (by omega)
    refine run_convert_bytes_arg w 22 5 (by kernel_rfl) (by kernel_rfl) b o xs.length cap (xs.map fun b => (b.val : Int)) (by simp) (fun i hi => ?_) 9 (by kernel_rfl)
    obtain ⟨b', o', e, hh⟩ := hc i hi
    simp only [Option.some.injEq, Addr.mk.injEq, and_true] at e
    obtain ⟨rfl, rfl⟩ := e
    rw [hh]
    simp [List.getD, hi]

set_option maxHeartbeats 400000 in
theorem lwBig_any (x : Value) (xs : List Byte) (w : World) (hx : bytesR.V w x xs) :
    Calls Try.prog 6 #[x] w fun e w' => e = .returned (.bool (decide (1048576 < xs.length))) ∧ w' = w := by
  obtain ⟨a, c, rfl, h1, h2, _⟩ := hx
  unfold maxLen at h2
  generalize xs.length = n at *
  go_enter Try.func6, Try.ntmps6
  by_cases h : 1048576 < n
  · have h' : (1048576 : Int) < (n : Int) := by omega
    go_wp2
    go_ret
    exact ⟨by simp [h], rfl⟩
  · have h' : ¬ (1048576 : Int) < (n : Int) := by omega
    go_wp2
    go_ret
    exact ⟨by simp [h], rfl⟩

/-- one row of a row of rows -/
theorem bytess_at {w : World} {a : Option Addr} {n q : Nat} {ps : List (List Byte)} (h : bytessR.V w (.slice a n q) ps) (i : Nat) (hi : i < ps.length) :
    ∃ g o u c, a = some ⟨g, o, none⟩ ∧ w.cell? ⟨g, o + i, none⟩ = some (.slice u (ps.getD i default).length c) ∧ bytesR.V w (.slice u (ps.getD i default).length c) (ps.getD i default) := by
  obtain ⟨pp, qq, ep, _, _, hrows⟩ := h
  simp only [Value.slice.injEq] at ep
  obtain ⟨rfl, _, rfl⟩ := ep
  obtain ⟨g, o, u, rfl, _, hc, hv⟩ := hrows i hi
  obtain ⟨au, cu, rfl⟩ := bytes_form hv
  have hc0 := hc 0 (by omega)
  exact ⟨g, o, au, cu, rfl, by simpa [one] using hc0, hv⟩

end Go.Proofs.Ytfeolikagceohaa
