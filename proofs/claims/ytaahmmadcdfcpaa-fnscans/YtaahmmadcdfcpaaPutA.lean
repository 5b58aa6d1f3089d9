/-
  Rows appended in a region that draws its order.
-/
import Derived.Test.YtaahmmadcdfcpaaRowP
import Derived.Test.YtaahmmadcdfcpaaRegC
import Derived.Test.YtaahmmadcdfcpaaSep2
namespace Go.Proofs.Ytaahmmadcdfcpaa
open Go.RowKit
set_option linter.unusedSectionVars false
variable [DecidableEq Rw] [Inhabited Rw] [DecidableEq TabR] [Inhabited TabR]
set_option linter.unusedVariables false
set_option linter.unusedSimpArgs false

/-- rows that own their memory, whatever they hold -/
def rowsF : Rep (List Rw) := fRep 38 4 rwsC RowsV RowsV_below RowsV_of_owns
theorem rwsC_app (xs ys : List Rw) : rwsC (xs ++ ys) = rwsC xs ++ rwsC ys := by simp [rwsC]
theorem rwsC_oneC (xs : List Rw) : ∀ u ∈ rwsC xs, u.oneCell' = true := by
  intro u hu
  unfold rwsC at hu
  obtain ⟨l, _, h⟩ := List.mem_flatMap.1 hu
  exact rowC_one l u h
theorem rowsAny_V {w : World} {a : Option Addr} {n c : Nat} {xs : List Rw} (h : RowsV w (.slice a n c) xs) : n = xs.length := by
  obtain ⟨a', c', e, _⟩ := h
  simp only [Value.slice.injEq] at e
  exact e.2.1
/-- a piece of rows that lie anywhere -/
theorem rwsC_cellsAt {w : World} {b o : Nat} : ∀ (xs : List Rw), (∀ i, i < xs.length → rowCells w b (o + i * 4) (xs.getD i default)) → ∀ j u, (rwsC xs)[j]? = some u → w.cell? ⟨b, o + j, none⟩ = some u := by
  intro xs h j u hj
  have hlt : j < (rwsC xs).length := by
    rcases Nat.lt_or_ge j (rwsC xs).length with h | h
    · exact h
    · rw [List.getElem?_eq_none h] at hj; cases hj
  rw [length_rwsC] at hlt
  have hi : j / 4 < xs.length := by omega
  obtain ⟨g0, g1, g2, g3⟩ := get_rwsC xs (j / 4) hi
  obtain ⟨c0, c1, c2, c3⟩ := h (j / 4) hi
  have hm : j % 4 = 0 ∨ j % 4 = 1 ∨ j % 4 = 2 ∨ j % 4 = 3 := by omega
  rcases hm with e | e | e | e
  · have ej : j = j / 4 * 4 := by omega
    rw [ej] at hj ⊢
    rw [g0] at hj
    rw [← hj]
    exact c0
  · have ej : j = j / 4 * 4 + 1 := by omega
    rw [ej] at hj ⊢
    rw [g1] at hj
    rw [← hj, ← Nat.add_assoc]
    exact c1
  · have ej : j = j / 4 * 4 + 2 := by omega
    rw [ej] at hj ⊢
    rw [g2] at hj
    rw [← hj, ← Nat.add_assoc]
    exact c2
  · have ej : j = j / 4 * 4 + 3 := by omega
    rw [ej] at hj ⊢
    rw [g3] at hj
    rw [← hj, ← Nat.add_assoc]
    exact c3

theorem step_appRows (Y : World) {ops : Array Oper} {o : Oper} {a : Act} {K : Act → World → Prop} {Q : Exit → Act → World → Prop} {E : Prop} (hgd : o.guard = none) (s x : Operand)
    (ho : o.op = .call { callee := .builtin .append, args := #[s, x], argTypes := #[24, 24] })
    (base : Nat) (v : Value) (F1 : Nat → Prop) (xs : List Rw) (hs : a.eval s = v) (u : Value) (ys : List Rw) (hx : a.eval x = u)
    (hown : rowsF.O Y base F1 v xs) (hsrc : AppAny Y u ys.length (rwsC ys)) (hlen : xs.length + ys.length ≤ 1048576) (hbase : base ≤ Y.heap.size)
    (h : ∀ v' w', rowsF.O w' base (fun b => v'.ownBlock = some b) v' (xs ++ ys) → Mod F1 Y w' → (∀ b, v'.ownBlock = some b → F1 b ∨ (Y.heap.size ≤ b ∧ b < w'.heap.size)) → K (a.put o.dst v') w') :
    if Region.wanted o (yielded ops a.tmps) = true then Oper.wp Try.prog o a Y K Q else E := by
  obtain ⟨i0, hi, hz0, hz1, hz2⟩ := info_parts infoRw
  have hF1 : F1 = fun b => v.ownBlock = some b := hown.2
  rcases hsrc with ⟨c, rfl, hm, _⟩ | ⟨ad, c, rfl, hc⟩
  · have hy : ys = [] := List.eq_nil_of_length_eq_zero hm
    subst hy
    have hw : Region.wanted o (yielded ops a.tmps) = true := by simp [Region.wanted, hgd]
    rw [if_pos hw]
    have hr := run_append_none_any (P := Try.prog) Y base 24 o.type 38 i0 4 c Try.underlying24 hi v xs.length (rwsC xs) hown.1
    unfold Oper.wp execOp
    simp only [ho, resolve, invoke, builtin, Sem.run_bind, Sem.run_pure, Result.andThen_ok, List.map_toArray, List.map_cons, List.map_nil, hs, hx, hr]
    refine h v Y ?_ (Mod.refl _ _) (fun b hb => .inl (by rw [hF1]; exact hb))
    rw [List.append_nil]
    exact ⟨hown.1, rfl⟩
  · refine step_append_at Y hgd s x 24 ho base 38 i0 _ 4 48 Try.underlying24 hi hz0 hz1 hz2 rfl (by decide) v xs.length (rwsC xs) hs hown.1 ad ys.length c (rwsC ys) hx (length_rwsC ys) hc (rwsC_oneC ys) (by unfold maxLen; omega) (by omega) hbase ?_
    intro v' w' h1 h2 h3
    refine h v' w' ⟨by rw [List.length_append, rwsC_app]; exact h1, rfl⟩ (by rw [hF1]; exact Mod.of_grown h2) (fun b hb => ?_)
    rcases h3 with h3 | h3
    · exact .inl (by rw [hF1]; exact h3 ▸ hb)
    · rw [h3] at hb
      simp only [Option.some.injEq] at hb
      have := (h1.lt b (by rw [h3, hb])).2
      exact .inr ⟨by omega, this⟩

/-- what each operation of l5Put's last region yields -/
def putG (base : Nat) (p q : List Rw) (r : Rw) : Nat → (Nat → Value) → (Nat → Prop) → World → Prop
  | 0, y, F, w => rowsF.O w base F (y 34) []
  | 4, y, F, w => rowsF.O w base F (y 38) p
  | 6, y, F, w => rowsF.O w base F (y 40) [r]
  | 7, y, F, w => rowsF.O w base F (y 41) (p ++ [r])
  | 11, y, F, w => rowsF.O w base F (y 45) (p ++ [r] ++ q)
  | _, _, _, _ => True
def putC : Nat → List Nat
  | 4 => [0]
  | 7 => [4]
  | 11 => [7]
  | _ => []
theorem rowsAny_own {w : World} {base e size : Nat} {v : Value} {n : Nat} {cs : List Value} (h : w.ownsRow base e size v n cs) : AppAny w v n cs := by
  rcases h.2 with ⟨rfl, rfl⟩ | ⟨g, cap, cur, rfl, _, hh, _, _, _, ht⟩
  · refine .inl ⟨0, rfl, rfl, ?_⟩
    have := h.1
    simp at this
    exact this
  · refine .inr ⟨_, _, rfl, fun j x hj => ?_⟩
    have hlt : j < cs.length := by
      rcases Nat.lt_or_ge j cs.length with h | h
      · exact h
      · rw [List.getElem?_eq_none h] at hj; cases hj
    have hc := h.cellAt j (by rw [← h.1]; exact hlt)
    have e : (⟨g, 0, none⟩ : Addr).add j = ⟨g, j, none⟩ := by
      by_cases hj0 : j = 0
      · subst hj0; simp [Addr.add]
      · simp [Addr.add, hj0]
    rw [e]
    simpa [hj] using hc
theorem rowsAny_at {w : World} {b o c : Nat} {xs : List Rw} (h : ∀ i, i < xs.length → rowCells w b (o + i * 4) (xs.getD i default)) : AppAny w (.slice (some ⟨b, o, none⟩) xs.length c) xs.length (rwsC xs) := by
  refine .inr ⟨_, _, rfl, fun j x hj => ?_⟩
  have e : (⟨b, o, none⟩ : Addr).add j = ⟨b, o + j, none⟩ := by
    by_cases hj0 : j = 0
    · subst hj0; simp [Addr.add]
    · simp [Addr.add, hj0]
  rw [e]
  exact rwsC_cellsAt xs h j x hj

end Go.Proofs.Ytaahmmadcdfcpaa
