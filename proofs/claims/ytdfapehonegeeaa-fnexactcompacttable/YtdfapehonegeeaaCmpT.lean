/-
  The specification's CompactTable, whole.
-/
import Derived.Test.YtdfapehonegeeaaCmpS
import Derived.Test.YtdfapehonegeeaaCmpD
namespace Go.Proofs.Ytdfapehonegeeaa
open Go.RowKit
set_option linter.unusedSectionVars false
variable [DecidableEq Rw] [Inhabited Rw] [DecidableEq TabR] [Inhabited TabR]
set_option linter.unusedVariables false
set_option linter.unusedSimpArgs false
attribute [local go_sem ↓] Go.wp_at_zero Go.wp_at_succ

set_option maxRecDepth 20000 in
set_option maxHeartbeats 4000000 in
theorem specCompact_u (x : Value) (xs : List Rw) (v : Int) (w : World) (hx : rowsR.V w x xs) :
    Calls Try.prog 18 #[x, .int .i64 v] w fun e w' => ∃ u F, e = .returned u ∧ tabRR.O w' w.heap.size F u (compD xs v) ∧ Below w.heap.size w w' := by
  have hX := hx.1
  have HFIT : Hid (Fit (compL xs v)) := fit_mem.2 (fun y hy => fit_mem.1 hx.2 y ((compL_sub xs v).subset hy))
  obtain ⟨ax, cx, rfl⟩ := rows_form hx
  have HXX : Hid (RowsV w (.slice ax xs.length cx) xs) := hX
  generalize hN : xs.length = n at *
  have HN : Hid (xs.length = n) := hN
  clear hN hx
  go_enter Try.func18, Try.ntmps18
  go_wp2_with fail
  refine (specTableFault_any _ xs _ (RowsV_below hX (by (repeat (first | exact Below.refl _ _ | assumption | refine Below.drew ?_ | refine balloc ?_ _ | refine bset ?_ (by simp; omega) _ | refine bset ?_ (by simp) _ | refine bstep ?_ (by assumption)))))).mono ?_
  rintro e w1 ⟨rfl, hb1⟩
  obtain ⟨g1, g2, gf, gz⟩ := boxNew2 hb1 rfl
  have hB1 : Below w.heap.size w w1 := by (repeat (first | exact Below.refl _ _ | assumption | refine Below.drew ?_ | refine balloc ?_ _ | refine bset ?_ (by simp; omega) _ | refine bset ?_ (by simp) _ | refine bstep ?_ (by assumption)))
  clear hb1 hX
  by_cases h0 : tabF xs = 0
  rotate_left
  · have E : Hid (compD xs v = ⟨tabF xs, []⟩) := by rw [Hid]; unfold compD; rw [if_neg h0]
    have h0' : ((tabF xs : Int) == 0) = false := by rw [beq_eq_false_iff_ne]; exact h0
    generalize tabF xs = c at h0 h0' E ⊢
    go_wp2
    refine bodyPost_ret (v := .agg #[.int .i64 c, .slice none 0 0]) (by simp [results, Try.results18, go_sem, g1, g2]) rfl ?_
    obtain ⟨F, hF⟩ := tabRR_nil ((w1.setCell ⟨w.heap.size, 0, none⟩ (.int .i64 c)).setCell ⟨w.heap.size, 1, none⟩ (.slice none 0 0)) w.heap.size c
    rw [E.out]
    first | exact ⟨_, F, rfl, hF, by (repeat (first | exact Below.refl _ _ | assumption | refine Below.drew ?_ | refine balloc ?_ _ | refine bset ?_ (by simp; omega) _ | refine bset ?_ (by simp) _ | refine bstep ?_ (by assumption)))⟩ | exact ⟨_, rfl, ⟨F, hF⟩, by (repeat (first | exact Below.refl _ _ | assumption | refine Below.drew ?_ | refine balloc ?_ _ | refine bset ?_ (by simp; omega) _ | refine bset ?_ (by simp) _ | refine bstep ?_ (by assumption)))⟩
  have E : Hid (compD xs v = ⟨0, compL xs v⟩) := by rw [Hid]; unfold compD; rw [if_pos h0]
  have hC := l5Compact_any (.slice ax n cx) xs v w1 (RowsV_below HXX.out hB1) (rises_of h0) (tabF_all h0).1
  rw [h0]
  generalize compL xs v = ys at *
  go_wp2_with fail
  refine hC.mono ?_
  rintro e w2 ⟨u, rfl, ⟨⟨g, c, rfl⟩, ho⟩, hb2⟩
  clear hC
  have hB2 := bstep hB1 hb2
  have q0 := cell_keep hb2 g1
  have q1 := cell_keep hb2 g2
  have qf := (boxKeep ⟨gf, gz⟩ hb2).1
  obtain ⟨L, hL⟩ : ∃ L, ys.length = L := ⟨_, rfl⟩
  have HL : Hid (ys.length = L) := hL
  rw [hL] at ho ⊢
  clear hL
  have hbz : w.heap.size < w1.heap.size := gz
  go_wp2
  refine bodyPost_ret (v := .agg #[.int .i64 0, .slice (some ⟨g, 0, none⟩) L c]) (by simp [results, Try.results18, go_sem, q0, q1]) rfl ?_
  have ho2 : ((w2.setCell ⟨w.heap.size, 0, none⟩ (.int .i64 0)).setCell ⟨w.heap.size, 1, none⟩ (.slice (some ⟨g, 0, none⟩) L c)).ownsRow w.heap.size 32 4 (.slice (some ⟨g, 0, none⟩) L c) ys.length (rwsC ys) := by
    rw [HL.out]
    exact owns_base (owns_setCell (owns_setCell ho hbz _) hbz _) (by omega)
  obtain ⟨F, hF⟩ := tabRR_of (c := 0) ho2 HFIT.out
  rw [E.out]
  first | exact ⟨_, F, rfl, hF, by (repeat (first | exact Below.refl _ _ | assumption | refine Below.drew ?_ | refine balloc ?_ _ | refine bset ?_ (by simp; omega) _ | refine bset ?_ (by simp) _ | refine bstep ?_ (by assumption)))⟩ | exact ⟨_, rfl, ⟨F, hF⟩, by (repeat (first | exact Below.refl _ _ | assumption | refine Below.drew ?_ | refine balloc ?_ _ | refine bset ?_ (by simp; omega) _ | refine bset ?_ (by simp) _ | refine bstep ?_ (by assumption)))⟩

end Go.Proofs.Ytdfapehonegeeaa
