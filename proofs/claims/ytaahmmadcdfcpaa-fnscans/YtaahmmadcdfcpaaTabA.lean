/-
  Rows of a table, in a slice: read, owned, copied, compared, counted. (Written by program: tab_gen.py.)
-/
import Derived.Test.YtaahmmadcdfcpaaRowA
import Derived.Test.YtaahmmadcdfcpaaSep
namespace Go.Proofs.Ytaahmmadcdfcpaa
open Go.RowKit
set_option linter.unusedSectionVars false
variable [DecidableEq Rw] [Inhabited Rw]
attribute [local go_sem ↓] Go.wp_at_zero Go.wp_at_succ

def rowCells (w : World) (b o : Nat) (x : Rw) : Prop := w.cell? ⟨b, o, none⟩ = some (.string x.key) ∧ w.cell? ⟨b, o + 1, none⟩ = some (.int .i64 x.ver) ∧ w.cell? ⟨b, o + 2, none⟩ = some (.string x.val) ∧ w.cell? ⟨b, o + 3, none⟩ = some (.bool x.gone)

/-- no string of it is longer than Go's strings may be -/
def Fit (xs : List Rw) : Prop := ∀ i, i < xs.length → (xs.getD i default).key.size ≤ maxLen ∧ (xs.getD i default).val.size ≤ maxLen

def RowsV (w : World) (v : Value) (xs : List Rw) : Prop :=
  ∃ a cap, v = .slice a xs.length cap ∧ xs.length ≤ cap ∧ cap ≤ maxLen ∧ ∀ i, i < xs.length → ∃ b o, a = some ⟨b, o, none⟩ ∧ rowCells w b (o + i * 4) (xs.getD i default)

theorem rowCells_below {w w' : World} {b o : Nat} {x : Rw} (hb : Below w.heap.size w w') (h : rowCells w b o x) : rowCells w' b o x := by
  obtain ⟨h0, h1, h2, h3⟩ := h
  exact ⟨cell_keep hb h0, cell_keep hb h1, cell_keep hb h2, cell_keep hb h3⟩
theorem RowsV_below {w w' : World} {v : Value} {xs : List Rw} (h : RowsV w v xs) (hb : Below w.heap.size w w') : RowsV w' v xs := by
  obtain ⟨a, cap, rfl, h1, h2, h3⟩ := h
  exact ⟨a, cap, rfl, h1, h2, fun i hi => by
    obtain ⟨b, o, ha, hc⟩ := h3 i hi
    exact ⟨b, o, ha, rowCells_below hb hc⟩⟩
theorem rowKeep2 {w w' : World} {b o b' o' : Nat} {x y : Rw} (hb : Below w.heap.size w w') (h : rowCells w b o x) (h' : rowCells w b' o' y) :
    Below w.heap.size w w' ∧ (w'.cell? ⟨b, o, none⟩ = some (.string x.key) ∧ w'.cell? ⟨b, o + 1, none⟩ = some (.int .i64 x.ver) ∧ w'.cell? ⟨b, o + 2, none⟩ = some (.string x.val) ∧ w'.cell? ⟨b, o + 3, none⟩ = some (.bool x.gone)) ∧ (w'.cell? ⟨b', o', none⟩ = some (.string y.key) ∧ w'.cell? ⟨b', o' + 1, none⟩ = some (.int .i64 y.ver) ∧ w'.cell? ⟨b', o' + 2, none⟩ = some (.string y.val) ∧ w'.cell? ⟨b', o' + 3, none⟩ = some (.bool y.gone)) :=
  ⟨hb, rowCells_below hb h, rowCells_below hb h'⟩
theorem rws_eq_of {xs ys : List Rw} (hl : ys.length = xs.length) (h : ∀ j, j < xs.length → xs.getD j default = ys.getD j default) : xs = ys := by
  apply List.ext_getElem (by omega)
  intro i h1 h2
  have := h i h1
  simpa [List.getD, h1, h2] using this

def rowC (x : Rw) : List Value := [.string x.key, .int .i64 x.ver, .string x.val, .bool x.gone]
def rwsC (xs : List Rw) : List Value := xs.flatMap rowC

theorem infoRw : (Try.prog.info? 38).map (fun i => (i.zero, i.size, i.bytes)) = some (some (.agg #[.string ⟨#[]⟩, .int .i64 0, .string ⟨#[]⟩, .bool false]), 4, 48) := by kernel_rfl

theorem length_rwsC (xs : List Rw) : (rwsC xs).length = xs.length * 4 := by
  induction xs with
  | nil => rfl
  | cons x r ih =>
    have e : rwsC (x :: r) = rowC x ++ rwsC r := by simp [rwsC]
    have l4 : (rowC x).length = 4 := rfl
    rw [e, List.length_append, l4, ih, List.length_cons]
    omega
theorem get_rwsC (xs : List Rw) : ∀ i, i < xs.length → (rwsC xs)[i * 4]? = some (.string (xs.getD i default).key) ∧ (rwsC xs)[i * 4 + 1]? = some (.int .i64 (xs.getD i default).ver) ∧ (rwsC xs)[i * 4 + 2]? = some (.string (xs.getD i default).val) ∧ (rwsC xs)[i * 4 + 3]? = some (.bool (xs.getD i default).gone) := by
  induction xs with
  | nil => intro i h; simp at h
  | cons x r ih =>
    intro i h
    cases i with
    | zero => simp [rwsC, rowC]
    | succ i =>
      have := ih i (by simpa using h)
      have e : rwsC (x :: r) = rowC x ++ rwsC r := by simp [rwsC]
      have l4 : (rowC x).length = 4 := rfl
      rw [e]
      refine ⟨?_, ?_, ?_, ?_⟩
      all_goals rw [List.getElem?_append_right (by omega), l4]
      · rw [show (i + 1) * 4 - 4 = i * 4 by omega]; simpa using this.1
      · rw [show (i + 1) * 4 + 1 - 4 = i * 4 + 1 by omega]; simpa using this.2.1
      · rw [show (i + 1) * 4 + 2 - 4 = i * 4 + 2 by omega]; simpa using this.2.2.1
      · rw [show (i + 1) * 4 + 3 - 4 = i * 4 + 3 by omega]; simpa using this.2.2.2
theorem RowsV_of_owns {w : World} {base e : Nat} {v : Value} {xs : List Rw} (h : w.ownsRow base e 4 v xs.length (rwsC xs)) : RowsV w v xs := by
  rcases h.2 with ⟨rfl, hn⟩ | ⟨g, cap, cur, rfl, hb, hg, hnc, hcm, hcs, htake⟩
  · exact ⟨none, 0, by rw [hn], by omega, by unfold maxLen; omega, fun i hi => by omega⟩
  · refine ⟨some ⟨g, 0, none⟩, cap, rfl, hnc, hcm, fun i hi => ⟨g, 0, rfl, ?_⟩⟩
    obtain ⟨h0, h1, h2, h3⟩ := get_rwsC xs i hi
    simp only [Nat.zero_add, rowCells]
    exact ⟨(h.cellAt _ (by omega)).trans h0, (h.cellAt _ (by omega)).trans h1, (h.cellAt _ (by omega)).trans h2, (h.cellAt _ (by omega)).trans h3⟩

def rwsUpto (k : Nat) (cs : List Value) (xs : List Rw) : Prop := ∀ j, j < k * 4 → cs[j]? = (rwsC xs)[j]?
theorem rwsUpto_full {n : Nat} {cs : List Value} {xs : List Rw} (h : rwsUpto n cs xs) (hl : cs.length = n * 4) (hn : xs.length = n) : cs = rwsC xs := by
  apply List.ext_getElem?
  intro j
  by_cases hj : j < n * 4
  · exact h j hj
  · rw [List.getElem?_eq_none (by omega), List.getElem?_eq_none (by rw [length_rwsC]; omega)]
theorem rwsUpto_set {k : Nat} {cs : List Value} {xs : List Rw} {x : Rw} (h : rwsUpto k cs xs) (hk : k < xs.length) (hl : cs.length = xs.length * 4) (he : x = xs.getD k default) :
    rwsUpto (k + 1) ((((cs.set (k * 4) (.string x.key)).set (k * 4 + 1) (.int .i64 x.ver)).set (k * 4 + 2) (.string x.val)).set (k * 4 + 3) (.bool x.gone)) xs := by
  intro j hj
  obtain ⟨h0, h1, h2, h3⟩ := get_rwsC xs k hk
  subst he
  simp only [List.getElem?_set, List.length_set]
  by_cases e3 : k * 4 + 3 = j
  · subst e3; simp [h3]; omega
  by_cases e2 : k * 4 + 2 = j
  · subst e2; simp [h2]; omega
  by_cases e1 : k * 4 + 1 = j
  · subst e1; simp [h1]; omega
  by_cases e0 : k * 4 = j
  · subst e0; simp [h0]; omega
  simp [e0, e1, e2, e3]
  exact h j (by omega)

/-- rows and letters -/
def wtRows (xs : List Rw) : Nat := xs.length + (xs.map wtRw).sum
theorem wt_take (xs : List Rw) (k : Nat) (h : k < xs.length) : ((xs.take (k + 1)).map wtRw).sum = ((xs.take k).map wtRw).sum + wtRw (xs.getD k default) := by
  rw [List.take_add_one, List.map_append, List.sum_append, List.getElem?_eq_getElem h]
  simp [List.getD, h]
theorem wt_part (xs : List Rw) (k : Nat) : ((xs.take k).map wtRw).sum ≤ (xs.map wtRw).sum := by
  conv => rhs; rw [← List.take_append_drop k xs]
  rw [List.map_append, List.sum_append]
  omega

theorem fit_mem {xs : List Rw} : Fit xs ↔ ∀ x ∈ xs, x.key.size ≤ maxLen ∧ x.val.size ≤ maxLen := by
  constructor
  · intro h x hx
    obtain ⟨i, hi, rfl⟩ := List.mem_iff_getElem.1 hx
    have := h i hi
    simpa [List.getD, hi] using this
  · intro h i hi
    have := h (xs[i]) (List.getElem_mem hi)
    simpa [List.getD, hi] using this
theorem fit_sub {xs ys : List Rw} (h : Fit xs) (hs : ∀ y ∈ ys, y ∈ xs) : Fit ys := fit_mem.2 (fun y hy => fit_mem.1 h y (hs y hy))

/-- the rows of a table -/
def rowsR : Rep (List Rw) where
  V := fun w v xs => RowsV w v xs ∧ Fit xs
  O := fun w base F v xs => (w.ownsRow base 38 4 v xs.length (rwsC xs) ∧ F = (fun b => v.ownBlock = some b)) ∧ Fit xs
  below := fun h hb => ⟨RowsV_below h.1 hb, h.2⟩
  ofO := fun h => ⟨RowsV_of_owns h.1.1, h.2⟩
  mod := fun h hm hd => ⟨⟨hm.owns h.1.1 (fun b hb => hd b (by rw [h.1.2]; exact hb)), h.1.2⟩, h.2⟩
  rng := fun h b hb => by rw [h.1.2] at hb; exact h.1.1.lt b hb
  base := fun h hb => ⟨⟨owns_base h.1.1 hb, h.1.2⟩, h.2⟩

theorem rows_form {w : World} {v : Value} {xs : List Rw} (h : rowsR.V w v xs) : ∃ a c, v = .slice a xs.length c := by
  obtain ⟨⟨a, c, rfl, _⟩, _⟩ := h
  exact ⟨_, _, rfl⟩

end Go.Proofs.Ytaahmmadcdfcpaa
