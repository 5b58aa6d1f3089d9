/-
  One row more behind rows, in a region that draws its order.
-/
import Derived.Test.YtaahmmadcdfcpaaTabM
import Derived.Test.YtaahmmadcdfcpaaSTabR
import Derived.Test.YtaahmmadcdfcpaaKeeps
import Derived.Test.YtaahmmadcdfcpaaApp0
import Derived.Test.YtaahmmadcdfcpaaRegT
namespace Go.Proofs.Ytaahmmadcdfcpaa
open Go.RowKit
set_option linter.unusedSectionVars false
variable [DecidableEq Rw] [Inhabited Rw] [DecidableEq TabR] [Inhabited TabR]
set_option linter.unusedVariables false
set_option linter.unusedSimpArgs false
attribute [local go_sem ↓] Go.wp_at_zero Go.wp_at_succ

theorem rwsC_snoc (xs : List Rw) (l : Rw) : rwsC (xs ++ [l]) = rwsC xs ++ rowC l := by simp [rwsC]
theorem rowC_one (l : Rw) : ∀ u ∈ rowC l, u.oneCell' = true := by
  intro u hu
  simp only [rowC, List.mem_cons, List.not_mem_nil, or_false] at hu
  rcases hu with rfl | rfl | rfl | rfl <;> rfl
theorem rowC_cells {w : World} {b o : Nat} {l : Rw} (h : rowCells w b o l) : ∀ j u, (rowC l)[j]? = some u → w.cell? ((⟨b, o, none⟩ : Addr).add j) = some u := by
  obtain ⟨h0, h1, h2, h3⟩ := h
  intro j u hj
  match j, hj with
  | 0, hj => simp [rowC] at hj; subst hj; simpa [Addr.add] using h0
  | 1, hj => simp [rowC] at hj; subst hj; simpa [Addr.add] using h1
  | 2, hj => simp [rowC] at hj; subst hj; simpa [Addr.add] using h2
  | 3, hj => simp [rowC] at hj; subst hj; simpa [Addr.add] using h3
  | j + 4, hj => simp [rowC] at hj

theorem step_pushRow (Y : World) {ops : Array Oper} {o : Oper} {a : Act} {K : Act → World → Prop} {Q : Exit → Act → World → Prop} {E : Prop} (hgd : o.guard = none) (s x : Operand)
    (ho : o.op = .call { callee := .builtin .append, args := #[s, x], argTypes := #[24, 24] })
    (base : Nat) (v : Value) (out : List Rw) (hs : a.eval s = v) (l : Rw) (u : Value) (hx : a.eval x = u) (hown : Y.ownsRow base 38 4 v out.length (rwsC out)) (hsrc : AppAny Y u 1 (rowC l)) (hlen : out.length ≤ 1048576) (hbase : base ≤ Y.heap.size)
    (h : ∀ v' w', w'.ownsRow base 38 4 v' (out ++ [l]).length (rwsC (out ++ [l])) → Y.grownBy w' v.ownBlock → (∀ W : World, Below base W Y → Below base W w') → K (a.put o.dst v') w') :
    if Region.wanted o (yielded ops a.tmps) = true then Oper.wp Try.prog o a Y K Q else E := by
  obtain ⟨i0, hi, hz0, hz1, hz2⟩ := info_parts infoRw
  refine step_appAny Y hgd s x 24 ho base 38 i0 _ 4 48 Try.underlying24 hi hz0 hz1 hz2 rfl (by decide) v out.length (rwsC out) hs u 1 (rowC l) hx hown hsrc rfl (rowC_one l) (by unfold maxLen; omega) (by omega) hbase ?_
  intro v' w' h1 h2 h3
  refine h v' w' ?_ h2 h3
  rw [List.length_append, rwsC_snoc]
  exact h1

theorem tabRR_nil (w : World) (base : Nat) (c : Int) : ∃ F, tabRR.O w base F (.agg #[.int .i64 c, .slice none 0 0]) ⟨c, []⟩ :=
  ⟨_, _, _, rfl, ⟨⟨World.ownsRow_nil _ _ _ _, rfl⟩, fun i hi => by simp at hi⟩, fun _ => Iff.rfl⟩
theorem tabRR_of {w : World} {base : Nat} {v : Value} {c : Int} {ys : List Rw} (h : w.ownsRow base 38 4 v ys.length (rwsC ys)) (hf : Fit ys) : ∃ F, tabRR.O w base F (.agg #[.int .i64 c, v]) ⟨c, ys⟩ :=
  ⟨_, _, _, rfl, ⟨⟨h, rfl⟩, hf⟩, fun _ => Iff.rfl⟩

end Go.Proofs.Ytaahmmadcdfcpaa
