/-
  Rows of texts: read, owned, compared, marked.
-/
import Derived.Test.YtaahmmadcdfcpaaTabN
namespace Go.Proofs.Ytaahmmadcdfcpaa
open Go.RowKit
set_option linter.unusedSectionVars false
variable [DecidableEq Rw] [Inhabited Rw]
set_option linter.unusedVariables false
set_option linter.unusedSimpArgs false
attribute [local go_sem ↓] Go.wp_at_zero Go.wp_at_succ

def strsC (ys : List ByteArray) : List Value := ys.map Value.string
theorem infoStr : (Try.prog.info? 9).map (fun i => (i.zero, i.size, i.bytes)) = some (some (.string ⟨#[]⟩), 1, 16) := by kernel_rfl
def StrsV (w : World) (v : Value) (ys : List ByteArray) : Prop :=
  ∃ a cap, v = .slice a ys.length cap ∧ ys.length ≤ cap ∧ cap ≤ maxLen ∧ ∀ i, i < ys.length → ∃ b o, a = some ⟨b, o, none⟩ ∧ w.cell? ⟨b, o + i, none⟩ = some (.string (ys.getD i default))
theorem StrsV_below {w w' : World} {v : Value} {ys : List ByteArray} (h : StrsV w v ys) (hb : Below w.heap.size w w') : StrsV w' v ys := by
  obtain ⟨a, cap, rfl, h1, h2, h3⟩ := h
  exact ⟨a, cap, rfl, h1, h2, fun i hi => by
    obtain ⟨b, o, ha, hc⟩ := h3 i hi
    exact ⟨b, o, ha, cell_keep hb hc⟩⟩
theorem StrsV_of_owns {w : World} {base e : Nat} {v : Value} {ys : List ByteArray} (h : w.ownsRow base e 1 v ys.length (strsC ys)) : StrsV w v ys := by
  rcases h.2 with ⟨rfl, hn⟩ | ⟨g, cap, cur, rfl, hb, hg, hnc, hcm, hcs, htake⟩
  · exact ⟨none, 0, by rw [hn], by omega, by unfold maxLen; omega, fun i hi => by omega⟩
  · refine ⟨some ⟨g, 0, none⟩, cap, rfl, hnc, hcm, fun i hi => ⟨g, 0, rfl, ?_⟩⟩
    rw [Nat.zero_add]
    refine (h.cellAt i (by omega)).trans ?_
    simp [strsC, List.getD, hi]
theorem strs_eq_of {xs ys : List ByteArray} (hl : ys.length = xs.length) (h : ∀ j, j < xs.length → xs.getD j default = ys.getD j default) : xs = ys := by
  apply List.ext_getElem (by omega)
  intro i h1 h2
  have := h i h1
  simpa [List.getD, h1, h2] using this

def strMarks (k : Int) (n : Nat) : List ByteArray := (List.range n).map (fun i : Nat => markT (k + (i : Int)))
theorem length_strMarks (k : Int) (n : Nat) : (strMarks k n).length = n := by simp [strMarks]
theorem getD_strMarks (k : Int) (n i : Nat) (h : i < n) : (strMarks k n).getD i default = markT (k + i) := by simp [strMarks, List.getD, h]
def uptoS (k : Nat) (cs : List Value) (ys : List ByteArray) : Prop := ∀ j, j < k → cs[j]? = (strsC ys)[j]?
theorem uptoS_full {n : Nat} {cs : List Value} {ys : List ByteArray} (h : uptoS n cs ys) (hl : cs.length = n * 1) (hn : ys.length = n) : cs = strsC ys := by
  apply List.ext_getElem?
  intro j
  by_cases hj : j < n
  · exact h j hj
  · rw [List.getElem?_eq_none (by omega), List.getElem?_eq_none (by simp [strsC]; omega)]
theorem uptoS_set {k : Nat} {cs : List Value} {ys : List ByteArray} {l : ByteArray} (h : uptoS k cs ys) (hk : k < ys.length) (hl : cs.length = ys.length * 1) (he : l = ys.getD k default) : uptoS (k + 1) (cs.set k (.string l)) ys := by
  intro j hj
  rw [List.getElem?_set]
  by_cases e : k = j
  · subst e
    rw [if_pos rfl, if_pos (by omega)]
    simp [strsC, he, List.getD, hk]
  · rw [if_neg e]
    exact h j (by omega)

def strsR : Rep (List ByteArray) := fRep 9 1 strsC StrsV StrsV_below StrsV_of_owns
def wtStrs (xs : List ByteArray) : Nat := xs.length
def cntStrs (xs : List ByteArray) : Nat := xs.length
def mkStrs (k : Int) (xs : List ByteArray) : List ByteArray := strMarks k xs.length
theorem strs_form {w : World} {v : Value} {xs : List ByteArray} (h : strsR.V w v xs) : ∃ a c, v = .slice a xs.length c := by
  obtain ⟨a, c, rfl, _⟩ := h
  exact ⟨_, _, rfl⟩
theorem strs_cnt (d : List ByteArray) : cntStrs d ≤ 1 * wtStrs d := by unfold cntStrs wtStrs; omega

end Go.Proofs.Ytaahmmadcdfcpaa
