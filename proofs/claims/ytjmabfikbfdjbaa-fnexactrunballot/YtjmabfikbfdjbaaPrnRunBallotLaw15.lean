import Derived.Test.YtjmabfikbfdjbaaPrnRunBallotLaw14
import Derived.BigQuiet
import Derived.Deep.QuietTactic
import Derived.Deep.RegionHeld3
import Derived.Test.YtjmabfikbfdjbaaPrnRunBallotLaw3
import Derived.Deep.DrawnRows

/-
  PromiseSlot, AcceptSlot, the program's: who answers.
-/
set_option linter.unusedSimpArgs false
set_option linter.unusedVariables false
namespace Go.Proofs.Ytjmabfikbfdjbaa
open Go.RowKit
set_option linter.unusedSectionVars false
variable [DecidableEq Vot] [Inhabited Vot] [DecidableEq Slt] [Inhabited Slt] [DecidableEq SltR] [Inhabited SltR] [DecidableEq Bal] [Inhabited Bal] [DecidableEq Ledg] [Inhabited Ledg] [DecidableEq Leg] [Inhabited Leg]
attribute [local go_sem ↓] Go.wp_at_zero Go.wp_at_succ

theorem isRightP_any (b : Int) (w : World) : Calls Try.prog 162 #[.int .i64 b] w fun e w' => e = .returned (.bool (inB b 0 1000)) ∧ w' = w := by
  go_enter Try.func162, Try.ntmps162
  go_wp2_with (go_at_call 89; refine (isBallot_any _ _).mono ?_; rintro e w' ⟨rfl, rfl⟩)
  go_ret
  exact ⟨rfl, rfl⟩
theorem isRightV_any (v : Vot) (w : World) : Calls Try.prog 161 #[.agg #[.int .i64 v.bal, .int .i64 v.val]] w fun e w' => e = .returned (.bool (votB v)) ∧ Below w.heap.size w w' := by
  go_enter Try.func161, Try.ntmps161
  go_wp2_with fail
  refine (isVote_any v _).mono ?_
  rintro e w1 ⟨rfl, hb1⟩
  have hB1 : Below w.heap.size w w1 := bstep (by (repeat (first | exact Below.refl _ _ | assumption | refine Below.drew ?_ | refine balloc ?_ _ | refine bset ?_ (by simp; omega) _ | refine bset ?_ (by simp) _ | refine bstep ?_ (by assumption)))) hb1
  go_wp2
  go_ret
  exact ⟨rfl, hB1⟩
theorem methP (b : Int) (w : World) : (method 307 129 (.int .i64 b) "loop.example/g00203/impl.isRight").run Try.prog w = .ok (162, .int .i64 b) w := by kernel_rfl
theorem methV (a b : Int) (w : World) : (method 307 109 (.agg #[.int .i64 a, .int .i64 b]) "loop.example/g00203/impl.isRight").run Try.prog w = .ok (161, .agg #[.int .i64 a, .int .i64 b]) w := by kernel_rfl
theorem taP (b : Int) (w : World) : (Instr.typeAssert (.iface 129 (.int .i64 b)) 131 129 true).run Try.prog w = .ok (.tuple #[.int .i64 b, .bool true]) w := by kernel_rfl
theorem taVP (a b : Int) (w : World) : (Instr.typeAssert (.iface 109 (.agg #[.int .i64 a, .int .i64 b])) 131 129 true).run Try.prog w = .ok (.tuple #[.int .i64 0, .bool false]) w := by kernel_rfl
theorem taV (a b : Int) (w : World) : (Instr.typeAssert (.iface 109 (.agg #[.int .i64 a, .int .i64 b])) 131 109 true).run Try.prog w = .ok (.tuple #[.agg #[.int .i64 a, .int .i64 b], .bool true]) w := by kernel_rfl
set_option maxRecDepth 100000 in
set_option maxHeartbeats 4000000 in
theorem answerP_u (x : Value) (d : Slt) (b : Int) (w : World) (hx : sltR.V w x d) (hf : sltFault d = 0) :
    Calls Try.prog 91 #[x, .iface 129 (.int .i64 b)] w fun e w' => ∃ v F, e = .returned v ∧ sltRR.O w' w.heap.size F v (promD d b) ∧ Below w.heap.size w w' := by
  have hX := hx
  obtain ⟨u1, rfl, hx⟩ := hx
  obtain ⟨ax, cx, rfl⟩ := vots_form hx
  clear hx
  have hm := methP b
  have ht := taP b
  have hl := (sltOk_of hf).len
  cases h1 : inB b 0 1000
  · have HD : Hid (promD d b = errS 3) := promD_range hf h1
    go_enter Try.func91, Try.ntmps91
    go_wp2_with (go_at_call 162; refine (isRightP_any _ _).mono ?_; rintro e w' ⟨rfl, hw'⟩; obtain rfl := hw'.symm; rw [h1])
    refine bodyPost_ret (v := .agg #[.int .i64 3, .int .i64 0, .int .i64 0, .int .i64 0, .int .i64 0, .int .i64 0, .int .i64 0, .int .i64 0, .slice none 0 0]) (by simp [results, Try.results91, go_sem]) rfl ?_
    rw [HD.out]
    exact ⟨_, _, rfl, sltR_nil _ _ 3 0 0 0 0 0 0 0, by (repeat (first | exact Below.refl _ _ | assumption | refine Below.drew ?_ | refine balloc ?_ _ | refine bset ?_ (by simp; omega) _ | refine bset ?_ (by simp) _ | refine bstep ?_ (by assumption)))⟩
  · have HF : Hid (sltFault d = 0) := hf
    clear hf
    go_enter Try.func91, Try.ntmps91
    go_wp2_with (first | (go_at_call 162; refine (isRightP_any _ _).mono ?_; rintro e w' ⟨rfl, hw'⟩; obtain rfl := hw'.symm; rw [h1]) | fail)
    refine (copied8_u _ d _ (sltR.below hX (by (repeat (first | exact Below.refl _ _ | assumption | refine Below.drew ?_ | refine balloc ?_ _ | refine bset ?_ (by simp; omega) _ | refine bset ?_ (by simp) _ | refine bstep ?_ (by assumption))))) (by omega)).mono ?_
    rintro e w2 ⟨v2, F2, rfl, o2, hb2⟩
    obtain ⟨u2, F1, rfl, ov, hF⟩ := o2
    obtain ⟨a2, c2, rfl⟩ := vots_form (votsR.ofO ov)
    clear hF
    have hB2 : Below w.heap.size w w2 := bstep (by (repeat (first | exact Below.refl _ _ | assumption | refine Below.drew ?_ | refine balloc ?_ _ | refine bset ?_ (by simp; omega) _ | refine bset ?_ (by simp) _ | refine bstep ?_ (by assumption)))) hb2
    have y0 : w2.cell? ⟨w.heap.size, 0, none⟩ = some (.int .i64 d.con) := cell_keep hb2 (by simp [go_sem])
    have y1 : w2.cell? ⟨w.heap.size, 1, none⟩ = some (.int .i64 d.sh) := cell_keep hb2 (by simp [go_sem])
    have y2 : w2.cell? ⟨w.heap.size, 2, none⟩ = some (.int .i64 d.pr) := cell_keep hb2 (by simp [go_sem])
    have y3 : w2.cell? ⟨w.heap.size, 3, none⟩ = some (.int .i64 d.lb) := cell_keep hb2 (by simp [go_sem])
    have y4 : w2.cell? ⟨w.heap.size, 4, none⟩ = some (.int .i64 d.lv) := cell_keep hb2 (by simp [go_sem])
    have y5 : w2.cell? ⟨w.heap.size, 5, none⟩ = some (.slice ax d.cast.length cx) := cell_keep hb2 (by simp [go_sem])
    have yf : ∀ o, w2.frozen? ⟨w.heap.size, o, none⟩ = false := fun o => by rw [(bcell hb2).2 _ _ (by simp; try omega)]; simp [go_sem]
    have q0 : w2.cell? ⟨w.heap.size + 1, 0, none⟩ = some (.int .i64 0) := cell_keep hb2 (by simp [go_sem])
    have q1 : w2.cell? ⟨w.heap.size + 1, 1, none⟩ = some (.int .i64 0) := cell_keep hb2 (by simp [go_sem])
    have q2 : w2.cell? ⟨w.heap.size + 1, 2, none⟩ = some (.int .i64 0) := cell_keep hb2 (by simp [go_sem])
    have q3 : w2.cell? ⟨w.heap.size + 1, 3, none⟩ = some (.int .i64 0) := cell_keep hb2 (by simp [go_sem])
    have q4 : w2.cell? ⟨w.heap.size + 1, 4, none⟩ = some (.int .i64 0) := cell_keep hb2 (by simp [go_sem])
    have q5 : w2.cell? ⟨w.heap.size + 1, 5, none⟩ = some (.int .i64 0) := cell_keep hb2 (by simp [go_sem])
    have q6 : w2.cell? ⟨w.heap.size + 1, 6, none⟩ = some (.int .i64 0) := cell_keep hb2 (by simp [go_sem])
    have q7 : w2.cell? ⟨w.heap.size + 1, 7, none⟩ = some (.int .i64 0) := cell_keep hb2 (by simp [go_sem])
    have q8 : w2.cell? ⟨w.heap.size + 1, 8, none⟩ = some (.slice none 0 0) := cell_keep hb2 (by simp [go_sem])
    have qf : ∀ o, w2.frozen? ⟨w.heap.size + 1, o, none⟩ = false := fun o => by rw [(bcell hb2).2 _ _ (by simp; try omega)]; simp [go_sem]
    have hs2 := hb2.size
    simp at hs2
    simp only [World.size_alloc] at ov
    clear hb2 hX
    have zz0 : w.heap.size < w2.heap.size := World.block_lt_of_cell? w2 _ y0
    have zz1 : w.heap.size + 1 < w2.heap.size := World.block_lt_of_cell? w2 _ q0
    by_cases h2 : b < d.pr
    · have HD : Hid (promD d b = errS 8) := promD_busy HF.out h1 h2
      go_wp2_with fail
      refine (promise_busy w2.heap.size d.pr b _ (by simp [go_sem]) h2).mono ?_
      rintro e w3 ⟨rfl, hw3⟩
      obtain rfl := hw3.symm
      go_wp2
      refine bodyPost_ret (v := .agg #[.int .i64 8, .int .i64 0, .int .i64 0, .int .i64 0, .int .i64 0, .int .i64 0, .int .i64 0, .int .i64 0, .slice none 0 0]) (by simp [results, Try.results91, go_sem, q0, q1, q2, q3, q4, q5, q6, q7, q8, qf, zz0, zz1]) rfl ?_
      rw [HD.out]
      refine ⟨_, _, rfl, sltR_nil _ _ 8 0 0 0 0 0 0 0, ?_⟩
      refine balloc ?_ _
      iterate 9 (refine bset ?_ (by simp) _)
      exact hB2
    · have HD : Hid (promD d b = ⟨0, d.lb, d.lv, ⟨d.con, d.sh, b, d.lb, d.lv, d.cast⟩⟩) := promD_ok HF.out h1 h2
      go_wp2_with fail
      refine (promise_ok w2.heap.size d.pr b _ (by simp [go_sem]) (by simp [go_sem]) (by omega)).mono ?_
      rintro e w3 ⟨rfl, hw3⟩
      have e3 : w3 = w2.alloc (.cells #[.int .i64 d.con, .int .i64 d.sh, .int .i64 b, .int .i64 d.lb, .int .i64 d.lv, .slice a2 d.cast.length c2] 132) := by rw [hw3]; simp [go_sem]
      clear hw3
      subst e3
      go_wp2
      refine bodyPost_ret (v := .agg #[.int .i64 0, .int .i64 d.lb, .int .i64 d.lv, .int .i64 d.con, .int .i64 d.sh, .int .i64 b, .int .i64 d.lb, .int .i64 d.lv, .slice a2 d.cast.length c2]) (by simp [results, Try.results91, go_sem, q0, q1, q2, q3, q4, q5, q6, q7, q8, qf, zz0, zz1]) rfl ?_
      rw [HD.out]
      refine ⟨_, fun b => F1 b, rfl, ?_, ?_⟩
      · refine ⟨.slice a2 d.cast.length c2, fun b => F1 b, rfl, ?_, fun b => Iff.rfl⟩
        refine ⟨.slice a2 d.cast.length c2, F1, rfl, ?_, fun b => Iff.rfl⟩
        refine votsR.base (base := w.heap.size + 1 + 1) ?_ (by omega)
        refine Rep.alloc _ ?_ _
        iterate 9 (refine Rep.set _ ?_ _ (by simp; try omega))
        exact ov
      · refine balloc ?_ _
        iterate 9 (refine bset ?_ (by simp) _)
        exact hB2
set_option maxRecDepth 100000 in
set_option maxHeartbeats 4000000 in
theorem answerV_u (x : Value) (d : Slt) (v0 : Vot) (w : World) (hx : sltR.V w x d) (hf : sltFault d = 0) :
    Calls Try.prog 91 #[x, .iface 109 (.agg #[.int .i64 v0.bal, .int .i64 v0.val])] w fun e w' => ∃ v F, e = .returned v ∧ sltRR.O w' w.heap.size F v (accD d v0.bal v0.val) ∧ Below w.heap.size w w' := by
  have hX := hx
  obtain ⟨u1, rfl, hx⟩ := hx
  obtain ⟨ax, cx, rfl⟩ := vots_form hx
  clear hx
  have hm := methV v0.bal v0.val
  have ht := taVP v0.bal v0.val
  have ht2 := taV v0.bal v0.val
  have hl := (sltOk_of hf).len
  have HF : Hid (sltFault d = 0) := hf
  clear hf
  go_enter Try.func91, Try.ntmps91
  go_wp2_with fail
  refine (isRightV_any v0 _).mono ?_
  rintro e w1 ⟨rfl, hb1⟩
  have hB1 : Below w.heap.size w w1 := bstep (by (repeat (first | exact Below.refl _ _ | assumption | refine Below.drew ?_ | refine balloc ?_ _ | refine bset ?_ (by simp; omega) _ | refine bset ?_ (by simp) _ | refine bstep ?_ (by assumption)))) hb1
  have y0 : w1.cell? ⟨w.heap.size, 0, none⟩ = some (.int .i64 d.con) := cell_keep hb1 (by simp [go_sem])
  have y1 : w1.cell? ⟨w.heap.size, 1, none⟩ = some (.int .i64 d.sh) := cell_keep hb1 (by simp [go_sem])
  have y2 : w1.cell? ⟨w.heap.size, 2, none⟩ = some (.int .i64 d.pr) := cell_keep hb1 (by simp [go_sem])
  have y3 : w1.cell? ⟨w.heap.size, 3, none⟩ = some (.int .i64 d.lb) := cell_keep hb1 (by simp [go_sem])
  have y4 : w1.cell? ⟨w.heap.size, 4, none⟩ = some (.int .i64 d.lv) := cell_keep hb1 (by simp [go_sem])
  have y5 : w1.cell? ⟨w.heap.size, 5, none⟩ = some (.slice ax d.cast.length cx) := cell_keep hb1 (by simp [go_sem])
  have yf : ∀ o, w1.frozen? ⟨w.heap.size, o, none⟩ = false := fun o => by rw [(bcell hb1).2 _ _ (by simp; try omega)]; simp [go_sem]
  have q0 : w1.cell? ⟨w.heap.size + 1, 0, none⟩ = some (.int .i64 0) := cell_keep hb1 (by simp [go_sem])
  have q1 : w1.cell? ⟨w.heap.size + 1, 1, none⟩ = some (.int .i64 0) := cell_keep hb1 (by simp [go_sem])
  have q2 : w1.cell? ⟨w.heap.size + 1, 2, none⟩ = some (.int .i64 0) := cell_keep hb1 (by simp [go_sem])
  have q3 : w1.cell? ⟨w.heap.size + 1, 3, none⟩ = some (.int .i64 0) := cell_keep hb1 (by simp [go_sem])
  have q4 : w1.cell? ⟨w.heap.size + 1, 4, none⟩ = some (.int .i64 0) := cell_keep hb1 (by simp [go_sem])
  have q5 : w1.cell? ⟨w.heap.size + 1, 5, none⟩ = some (.int .i64 0) := cell_keep hb1 (by simp [go_sem])
  have q6 : w1.cell? ⟨w.heap.size + 1, 6, none⟩ = some (.int .i64 0) := cell_keep hb1 (by simp [go_sem])
  have q7 : w1.cell? ⟨w.heap.size + 1, 7, none⟩ = some (.int .i64 0) := cell_keep hb1 (by simp [go_sem])
  have q8 : w1.cell? ⟨w.heap.size + 1, 8, none⟩ = some (.slice none 0 0) := cell_keep hb1 (by simp [go_sem])
  have qf : ∀ o, w1.frozen? ⟨w.heap.size + 1, o, none⟩ = false := fun o => by rw [(bcell hb1).2 _ _ (by simp; try omega)]; simp [go_sem]
  have hs1 := hb1.size
  simp at hs1
  clear hb1
  cases h1 : votB v0
  · have HD : Hid (accD d v0.bal v0.val = errS 3) := accD_range HF.out h1
    go_wp2
    refine bodyPost_ret (v := .agg #[.int .i64 3, .int .i64 0, .int .i64 0, .int .i64 0, .int .i64 0, .int .i64 0, .int .i64 0, .int .i64 0, .slice none 0 0]) (by simp [results, Try.results91, go_sem, q0, q1, q2, q3, q4, q5, q6, q7, q8, qf]) rfl ?_
    rw [HD.out]
    refine ⟨_, _, rfl, sltR_nil _ _ 3 0 0 0 0 0 0 0, ?_⟩
    iterate 9 (refine bset ?_ (by simp) _)
    exact hB1
  go_wp2_with fail
  refine (copied8_u _ d _ (sltR.below hX hB1) (by omega)).mono ?_
  rintro e w2 ⟨v2, F2, rfl, o2, hb2⟩
  obtain ⟨u2, F1, rfl, ov, hF⟩ := o2
  obtain ⟨a2, c2, rfl⟩ := vots_form (votsR.ofO ov)
  clear hF
  have hB2 : Below w.heap.size w w2 := bstep hB1 hb2
  replace y0 := cell_keep hb2 y0
  replace y1 := cell_keep hb2 y1
  replace y2 := cell_keep hb2 y2
  replace y3 := cell_keep hb2 y3
  replace y4 := cell_keep hb2 y4
  replace y5 := cell_keep hb2 y5
  replace q0 := cell_keep hb2 q0
  replace q1 := cell_keep hb2 q1
  replace q2 := cell_keep hb2 q2
  replace q3 := cell_keep hb2 q3
  replace q4 := cell_keep hb2 q4
  replace q5 := cell_keep hb2 q5
  replace q6 := cell_keep hb2 q6
  replace q7 := cell_keep hb2 q7
  replace q8 := cell_keep hb2 q8
  replace qf : ∀ o, w2.frozen? ⟨w.heap.size + 1, o, none⟩ = false := fun o => by rw [(bcell hb2).2 _ _ (by omega)]; exact qf o
  have hs2 := hb2.size
  clear hb2 hX hB1 yf
  have zz0 : w.heap.size < w2.heap.size := World.block_lt_of_cell? w2 _ y0
  have zz1 : w.heap.size + 1 < w2.heap.size := World.block_lt_of_cell? w2 _ q0
  have hFB : ¬ F1 w2.heap.size := fun h => by have := (votsR.rng ov _ h).2; omega
  go_wp2_with fail
  have hAcc := fun W h0 h1 h2 h3 h4 h5 h6 hh => accept_any w2.heap.size w1.heap.size d v0 a2 c2 F1 #[.int .i64 d.con, .int .i64 d.sh, .int .i64 d.pr, .int .i64 d.lb, .int .i64 d.lv, .slice a2 d.cast.length c2] W h0 h1 h2 h3 h4 h5 h6 hh
  refine (hAcc _ ⟨by simp [go_sem], by simp [go_sem], by simp [go_sem], by simp [go_sem], by simp [go_sem], by simp [go_sem]⟩ (by simp [go_sem]) (heap_new2 _ _ _) (votsR.alloc (votsR.alloc ov _) _) hFB (by omega) (by simp; omega) hl).mono ?_
  rintro e w3 ⟨rfl, hb3, h3⟩
  have hB3 : Below w.heap.size w w3 := Below.trans (balloc (balloc hB2 _) _) (hb3.mono (by omega))
  replace y3 := (hb3.cell (p := ⟨w.heap.size, 3, none⟩) (by simp; omega)).trans (cell_keep (balloc (balloc (Below.refl _ w2) _) _) y3)
  replace y4 := (hb3.cell (p := ⟨w.heap.size, 4, none⟩) (by simp; omega)).trans (cell_keep (balloc (balloc (Below.refl _ w2) _) _) y4)
  replace q0 := (hb3.cell (p := ⟨w.heap.size + 1, 0, none⟩) (by simp; omega)).trans (cell_keep (balloc (balloc (Below.refl _ w2) _) _) q0)
  replace q1 := (hb3.cell (p := ⟨w.heap.size + 1, 1, none⟩) (by simp; omega)).trans (cell_keep (balloc (balloc (Below.refl _ w2) _) _) q1)
  replace q2 := (hb3.cell (p := ⟨w.heap.size + 1, 2, none⟩) (by simp; omega)).trans (cell_keep (balloc (balloc (Below.refl _ w2) _) _) q2)
  replace q3 := (hb3.cell (p := ⟨w.heap.size + 1, 3, none⟩) (by simp; omega)).trans (cell_keep (balloc (balloc (Below.refl _ w2) _) _) q3)
  replace q4 := (hb3.cell (p := ⟨w.heap.size + 1, 4, none⟩) (by simp; omega)).trans (cell_keep (balloc (balloc (Below.refl _ w2) _) _) q4)
  replace q5 := (hb3.cell (p := ⟨w.heap.size + 1, 5, none⟩) (by simp; omega)).trans (cell_keep (balloc (balloc (Below.refl _ w2) _) _) q5)
  replace q6 := (hb3.cell (p := ⟨w.heap.size + 1, 6, none⟩) (by simp; omega)).trans (cell_keep (balloc (balloc (Below.refl _ w2) _) _) q6)
  replace q7 := (hb3.cell (p := ⟨w.heap.size + 1, 7, none⟩) (by simp; omega)).trans (cell_keep (balloc (balloc (Below.refl _ w2) _) _) q7)
  replace q8 := (hb3.cell (p := ⟨w.heap.size + 1, 8, none⟩) (by simp; omega)).trans (cell_keep (balloc (balloc (Below.refl _ w2) _) _) q8)
  replace qf : ∀ o, w3.frozen? ⟨w.heap.size + 1, o, none⟩ = false := fun o => (hb3.frozen (p := ⟨w.heap.size + 1, o, none⟩) (by simp; omega)).trans (((bcell (balloc (balloc (Below.refl _ w2) _) _)).2 _ _ zz1).trans (qf o))
  clear hb3 hB2 ov hAcc zz0 zz1 y0 y1 y2 y5
  by_cases hc : accC d v0 = 0
  · have HD : Hid (accD d v0.bal v0.val = ⟨0, d.lb, d.lv, accS d v0⟩) := accD_ok HF.out h1 hc
    obtain ⟨a5, n5, c5, F5, ⟨b0, b1, b2, b3, b4, b5⟩, o5⟩ := h3 hc
    rw [hc]
    clear hc h3
    generalize accS d v0 = s at *
    go_wp2
    refine bodyPost_ret (v := .agg #[.int .i64 0, .int .i64 d.lb, .int .i64 d.lv, .int .i64 s.con, .int .i64 s.sh, .int .i64 s.pr, .int .i64 s.lb, .int .i64 s.lv, .slice a5 n5 c5]) (by simp [results, Try.results91, go_sem, q0, q1, q2, q3, q4, q5, q6, q7, q8, qf]) rfl ?_
    rw [HD.out]
    refine ⟨_, fun b => F5 b, rfl, ?_, ?_⟩
    · refine ⟨.slice a5 n5 c5, fun b => F5 b, rfl, ?_, fun b => Iff.rfl⟩
      refine ⟨.slice a5 n5 c5, F5, rfl, ?_, fun b => Iff.rfl⟩
      refine votsR.base (base := w1.heap.size) ?_ (by omega)
      iterate 9 (refine Rep.set _ ?_ _ (by simp; omega))
      exact o5
    · iterate 9 (refine bset ?_ (by simp) _)
      exact hB3
  · have HD : Hid (accD d v0.bal v0.val = errS (accC d v0)) := accD_code HF.out h1 hc
    generalize accC d v0 = c at *
    clear h3
    go_wp2
    refine bodyPost_ret (v := .agg #[.int .i64 c, .int .i64 0, .int .i64 0, .int .i64 0, .int .i64 0, .int .i64 0, .int .i64 0, .int .i64 0, .slice none 0 0]) (by simp [results, Try.results91, go_sem, q0, q1, q2, q3, q4, q5, q6, q7, q8, qf]) rfl ?_
    rw [HD.out]
    refine ⟨_, _, rfl, sltR_nil _ _ c 0 0 0 0 0 0 0, ?_⟩
    iterate 9 (refine bset ?_ (by simp) _)
    exact hB3
end Go.Proofs.Ytjmabfikbfdjbaa

/-
  PromiseAt, AcceptAt, the program's.
-/
set_option linter.unusedSimpArgs false
set_option linter.unusedVariables false
namespace Go.Proofs.Ytjmabfikbfdjbaa
open Go.RowKit
set_option linter.unusedSectionVars false
variable [DecidableEq Vot] [Inhabited Vot] [DecidableEq Slt] [Inhabited Slt] [DecidableEq Bal] [Inhabited Bal] [DecidableEq Ledg] [Inhabited Ledg] [DecidableEq Leg] [Inhabited Leg] [DecidableEq Acc] [Inhabited Acc] [DecidableEq SltR] [Inhabited SltR] [DecidableEq AccR] [Inhabited AccR] [DecidableEq AccsR] [Inhabited AccsR] [DecidableEq SltsR] [Inhabited SltsR]
attribute [local go_sem ↓] Go.wp_at_zero Go.wp_at_succ

set_option maxHeartbeats 1000000 in
theorem implPromAt_u (x : Value) (d : Acc) (c s b : Int) (w : World) (hx : accR.V w x d) :
    Calls Try.prog 60 #[x, .int .i64 c, .int .i64 s, .int .i64 b] w (AskE (promAtD d.slots c s b) w) := by
  have HA : Hid (∀ W, Below w.heap.size w W → Calls Try.prog 63 #[x, .int .i64 c, .int .i64 s, .iface 129 (.int .i64 b)] W (AskE (promAtD d.slots c s b) W)) := fun W hW => askAt_u (fun d => promD d b) (.iface 129 (.int .i64 b)) (fun W x d hx hf => answerP_u x d b W hx hf) x d c s W (accR.below hx hW)
  generalize promAtD d.slots c s b = R at *
  obtain ⟨u1, rfl, hx⟩ := hx
  obtain ⟨au, cu, rfl⟩ := slts_form hx
  clear hx
  generalize d.slots.length = n at *
  go_enter Try.func60, Try.ntmps60
  go_wp2_with fail
  refine (HA.out _ (by (repeat (first | exact Below.refl _ _ | assumption | refine Below.drew ?_ | refine balloc ?_ _ | refine bset ?_ (by simp; omega) _ | refine bset ?_ (by simp) _ | refine bstep ?_ (by assumption))))).mono ?_
  rintro e w1 ⟨v, F, rfl, o1, hb1⟩
  obtain ⟨av, cv, rfl, o2⟩ := accR_cells o1
  have hB1 : Below w.heap.size w w1 := by (repeat (first | exact Below.refl _ _ | assumption | refine Below.drew ?_ | refine balloc ?_ _ | refine bset ?_ (by simp; omega) _ | refine bset ?_ (by simp) _ | refine bstep ?_ (by assumption)))
  have hz1 := hb1.size
  simp at hz1
  obtain ⟨c1, f1⟩ := bcell hb1
  have r0 : w1.cell? ⟨w.heap.size + 1, 0, none⟩ = some (.int .i64 0) := cell_keep hb1 (by simp [go_sem])
  have r1 : w1.cell? ⟨w.heap.size + 1, 1, none⟩ = some (.int .i64 0) := cell_keep hb1 (by simp [go_sem])
  have r2 : w1.cell? ⟨w.heap.size + 1, 2, none⟩ = some (.int .i64 0) := cell_keep hb1 (by simp [go_sem])
  have r3 : w1.cell? ⟨w.heap.size + 1, 3, none⟩ = some (.slice none 0 0) := cell_keep hb1 (by simp [go_sem])
  have rf : ∀ o, w1.frozen? ⟨w.heap.size + 1, o, none⟩ = false := fun o => by rw [f1 _ _ (by simp; try omega)]; simp [go_sem]
  have HFl : Hid (∀ b, F b → w.heap.size + 2 ≤ b) := fun b hb => by have := (accR.rng o2 b hb).1; simpa using this
  have HO : Hid (accR.O w1 w.heap.size F (.agg #[.slice av R.acc.slots.length cv]) R.acc) := accR.base o2 (by simp; omega)
  clear hb1 c1 f1 o1 o2 HA
  generalize hm : R.acc.slots.length = m at *
  go_wp2
  refine bodyPost_ret (v := .agg #[.int .i64 R.code, .int .i64 R.ob, .int .i64 R.ov, .slice av m cv]) (by simp [results, Try.results60, go_sem, r0, r1, r2, r3, rf]) rfl ⟨_, F, rfl, ⟨_, F, rfl, ?_, fun b => Iff.rfl⟩, by (repeat (first | refine bset ?_ (by simp; omega) _ | refine bset ?_ (by simp) _ | refine balloc ?_ _ | assumption))⟩
  have hk : ∀ (W : World) (u : Value) (j : Nat), accR.O W w.heap.size F (.agg #[.slice av m cv]) R.acc → accR.O (W.setCell ⟨w.heap.size + 1, j, none⟩ u) w.heap.size F (.agg #[.slice av m cv]) R.acc := fun W u j h => Rep.setN _ h u (fun hb => by have := HFl.out _ hb; dsimp only at this; omega)
  exact hk _ _ _ (hk _ _ _ (hk _ _ _ (hk _ _ _ HO.out)))
set_option maxHeartbeats 1000000 in
theorem implAccAt_u (x : Value) (d : Acc) (c s b vl : Int) (w : World) (hx : accR.V w x d) :
    Calls Try.prog 33 #[x, .int .i64 c, .int .i64 s, .int .i64 b, .int .i64 vl] w (AskE (accAtD d.slots c s b vl) w) := by
  have HA : Hid (∀ W, Below w.heap.size w W → Calls Try.prog 63 #[x, .int .i64 c, .int .i64 s, .iface 109 (.agg #[.int .i64 b, .int .i64 vl])] W (AskE (accAtD d.slots c s b vl) W)) := fun W hW => askAt_u (fun d => accD d b vl) (.iface 109 (.agg #[.int .i64 b, .int .i64 vl])) (fun W x d hx hf => answerV_u x d ⟨b, vl⟩ W hx hf) x d c s W (accR.below hx hW)
  generalize accAtD d.slots c s b vl = R at *
  obtain ⟨u1, rfl, hx⟩ := hx
  obtain ⟨au, cu, rfl⟩ := slts_form hx
  clear hx
  generalize d.slots.length = n at *
  go_enter Try.func33, Try.ntmps33
  go_wp2_with fail
  refine (HA.out _ (by (repeat (first | exact Below.refl _ _ | assumption | refine Below.drew ?_ | refine balloc ?_ _ | refine bset ?_ (by simp; omega) _ | refine bset ?_ (by simp) _ | refine bstep ?_ (by assumption))))).mono ?_
  rintro e w1 ⟨v, F, rfl, o1, hb1⟩
  obtain ⟨av, cv, rfl, o2⟩ := accR_cells o1
  have hB1 : Below w.heap.size w w1 := by (repeat (first | exact Below.refl _ _ | assumption | refine Below.drew ?_ | refine balloc ?_ _ | refine bset ?_ (by simp; omega) _ | refine bset ?_ (by simp) _ | refine bstep ?_ (by assumption)))
  have hz1 := hb1.size
  simp at hz1
  obtain ⟨c1, f1⟩ := bcell hb1
  have r0 : w1.cell? ⟨w.heap.size + 1, 0, none⟩ = some (.int .i64 0) := cell_keep hb1 (by simp [go_sem])
  have r1 : w1.cell? ⟨w.heap.size + 1, 1, none⟩ = some (.int .i64 0) := cell_keep hb1 (by simp [go_sem])
  have r2 : w1.cell? ⟨w.heap.size + 1, 2, none⟩ = some (.int .i64 0) := cell_keep hb1 (by simp [go_sem])
  have r3 : w1.cell? ⟨w.heap.size + 1, 3, none⟩ = some (.slice none 0 0) := cell_keep hb1 (by simp [go_sem])
  have rf : ∀ o, w1.frozen? ⟨w.heap.size + 1, o, none⟩ = false := fun o => by rw [f1 _ _ (by simp; try omega)]; simp [go_sem]
  have HFl : Hid (∀ b, F b → w.heap.size + 2 ≤ b) := fun b hb => by have := (accR.rng o2 b hb).1; simpa using this
  have HO : Hid (accR.O w1 w.heap.size F (.agg #[.slice av R.acc.slots.length cv]) R.acc) := accR.base o2 (by simp; omega)
  clear hb1 c1 f1 o1 o2 HA
  generalize hm : R.acc.slots.length = m at *
  go_wp2
  refine bodyPost_ret (v := .agg #[.int .i64 R.code, .int .i64 R.ob, .int .i64 R.ov, .slice av m cv]) (by simp [results, Try.results33, go_sem, r0, r1, r2, r3, rf]) rfl ⟨_, F, rfl, ⟨_, F, rfl, ?_, fun b => Iff.rfl⟩, by (repeat (first | refine bset ?_ (by simp; omega) _ | refine bset ?_ (by simp) _ | refine balloc ?_ _ | assumption))⟩
  have hk : ∀ (W : World) (u : Value) (j : Nat), accR.O W w.heap.size F (.agg #[.slice av m cv]) R.acc → accR.O (W.setCell ⟨w.heap.size + 1, j, none⟩ u) w.heap.size F (.agg #[.slice av m cv]) R.acc := fun W u j h => Rep.setN _ h u (fun hb => by have := HFl.out _ hb; dsimp only at this; omega)
  exact hk _ _ _ (hk _ _ _ (hk _ _ _ (hk _ _ _ HO.out)))
end Go.Proofs.Ytjmabfikbfdjbaa

/-
  Legs in memory: what a slice of legs holds, and the contracts of the functions that only compare, count and copy them.
-/
namespace Go.Proofs.Ytjmabfikbfdjbaa
open Go.RowKit
set_option linter.unusedSectionVars false
variable [DecidableEq Leg] [Inhabited Leg]
attribute [local go_sem ↓] Go.wp_at_zero Go.wp_at_succ

def legCells (w : World) (b o : Nat) (l : Leg) : Prop :=
  w.cell? ⟨b, o, none⟩ = some (.int .i64 l.sh) ∧ w.cell? ⟨b, o + 1, none⟩ = some (.int .i64 l.ac) ∧ w.cell? ⟨b, o + 2, none⟩ = some (.int .i64 l.ast) ∧ w.cell? ⟨b, o + 3, none⟩ = some (.int .i64 l.am)
theorem legCells_below {w w' : World} {b o : Nat} {l : Leg} (hb : Below w.heap.size w w') (h : legCells w b o l) : legCells w' b o l := by
  obtain ⟨h1, h2, h3, h4⟩ := h
  have hlt : b < w.heap.size := World.block_lt_of_cell? w _ h1
  exact ⟨(hb.cell (p := ⟨b, o, none⟩) hlt).trans h1, (hb.cell (p := ⟨b, o + 1, none⟩) hlt).trans h2, (hb.cell (p := ⟨b, o + 2, none⟩) hlt).trans h3, (hb.cell (p := ⟨b, o + 3, none⟩) hlt).trans h4⟩
theorem keep2 {w w' : World} {b o b' o' : Nat} {l l' : Leg} (hb : Below w.heap.size w w') (h : legCells w b o l) (h' : legCells w b' o' l') :
    Below w.heap.size w w' ∧ (w'.cell? ⟨b, o, none⟩ = some (.int .i64 l.sh) ∧ w'.cell? ⟨b, o + 1, none⟩ = some (.int .i64 l.ac) ∧ w'.cell? ⟨b, o + 2, none⟩ = some (.int .i64 l.ast) ∧ w'.cell? ⟨b, o + 3, none⟩ = some (.int .i64 l.am)) ∧
      (w'.cell? ⟨b', o', none⟩ = some (.int .i64 l'.sh) ∧ w'.cell? ⟨b', o' + 1, none⟩ = some (.int .i64 l'.ac) ∧ w'.cell? ⟨b', o' + 2, none⟩ = some (.int .i64 l'.ast) ∧ w'.cell? ⟨b', o' + 3, none⟩ = some (.int .i64 l'.am)) :=
  ⟨hb, legCells_below hb h, legCells_below hb h'⟩
end Go.Proofs.Ytjmabfikbfdjbaa

/-
  Marks written into a row of legs that the law owns, and read back.
-/
namespace Go.Proofs.Ytjmabfikbfdjbaa
open Go.RowKit
set_option linter.unusedSectionVars false
variable [DecidableEq Leg] [Inhabited Leg]
attribute [local go_sem ↓] Go.wp_at_zero Go.wp_at_succ

theorem grown_refl (w : World) (r : Option Nat) : w.grownBy w r := ⟨rfl, rfl, rfl, Nat.le_refl _, fun _ _ _ => rfl⟩
theorem grown_trans {w w1 w2 : World} {r : Option Nat} (h : w.grownBy w1 r) (k : w1.grownBy w2 r) : w.grownBy w2 r :=
  ⟨k.os.trans h.os, k.tape.trans h.tape, k.output.trans h.output, Nat.le_trans h.size k.size, fun i hi hr => (k.block i (Nat.lt_of_lt_of_le hi h.size) hr).trans (h.block i hi hr)⟩
end Go.Proofs.Ytjmabfikbfdjbaa

