import Derived.Test.YtbdbjdnebmaimaaPrnAcceptSlotLaw6
import Derived.Test.YtbdbjdnebmaimaaPrnAcceptSlotLaw5
import Derived.Test.YtbdbjdnebmaimaaPrnAcceptSlotLaw1
import Derived.Deep.Slices
import Derived.Lib.SmallJoins
import Derived.Test.YtbdbjdnebmaimaaPrnAcceptSlotLaw2
import Derived.Deep.RegionHeld3
import Derived.Deep.DrawnRows
import Derived.Deep.Strs

/-
  PromiseSlot, AcceptSlot, the program's: who answers.
-/
set_option linter.unusedSimpArgs false
set_option linter.unusedVariables false
namespace Go.Proofs.Ytbdbjdnebmaimaa
open Go.RowKit
set_option linter.unusedSectionVars false
variable [DecidableEq Vot] [Inhabited Vot] [DecidableEq Slt] [Inhabited Slt] [DecidableEq SltR] [Inhabited SltR] [DecidableEq Bal] [Inhabited Bal] [DecidableEq Ledg] [Inhabited Ledg] [DecidableEq Leg] [Inhabited Leg]
attribute [local go_sem ↓] Go.wp_at_zero Go.wp_at_succ

theorem isRightV_any (v : Vot) (w : World) : Calls Try.prog 205 #[.agg #[.int .i64 v.bal, .int .i64 v.val]] w fun e w' => e = .returned (.bool (votB v)) ∧ Below w.heap.size w w' := by
  go_enter Try.func205, Try.ntmps205
  go_wp2_with fail
  refine (isVote_any v _).mono ?_
  rintro e w1 ⟨rfl, hb1⟩
  have hB1 : Below w.heap.size w w1 := bstep (by (repeat (first | exact Below.refl _ _ | assumption | refine Below.drew ?_ | refine balloc ?_ _ | refine bset ?_ (by simp; omega) _ | refine bset ?_ (by simp) _ | refine bstep ?_ (by assumption)))) hb1
  go_wp2
  go_ret
  exact ⟨rfl, hB1⟩
theorem faulty_u (c : Int) (q : Value) (w : World) : Calls Try.prog 206 #[.int .i64 c, q] w fun e w' => ∃ v F, e = .returned v ∧ sltRR.O w' w.heap.size F v (errS c) ∧ Below w.heap.size w w' := by
  go_enter Try.func206, Try.ntmps206
  go_wp2
  refine bodyPost_ret (v := .agg #[.int .i64 c, .int .i64 0, .int .i64 0, .int .i64 0, .int .i64 0, .int .i64 0, .int .i64 0, .int .i64 0, .slice none 0 0]) (by simp [results, Try.results206, go_sem]) rfl ?_
  exact ⟨_, _, rfl, sltR_nil _ _ c 0 0 0 0 0 0 0, by (repeat (first | exact Below.refl _ _ | assumption | refine Below.drew ?_ | refine balloc ?_ _ | refine bset ?_ (by simp; omega) _ | refine bset ?_ (by simp) _ | refine bstep ?_ (by assumption)))⟩
theorem voterOf_right (x : Value) (d : Slt) (w : World) (hx : sltR.V w x d) (hf : sltFault d = 0) : Calls Try.prog 91 #[x] w fun e w' => e = .returned (.iface 174 x) ∧ Below w.heap.size w w' := by
  have hX := hx
  obtain ⟨u1, rfl, hx⟩ := hx
  obtain ⟨ax, cx, rfl⟩ := vots_form hx
  clear hx
  go_enter Try.func91, Try.ntmps91
  go_wp2_with fail
  refine (implSlotF_any _ d _ (sltR.below hX (by (repeat (first | exact Below.refl _ _ | assumption | refine Below.drew ?_ | refine balloc ?_ _ | refine bset ?_ (by simp; omega) _ | refine bset ?_ (by simp) _ | refine bstep ?_ (by assumption)))))).mono ?_
  rintro e w1 ⟨rfl, hb1⟩
  have hB1 : Below w.heap.size w w1 := bstep (by (repeat (first | exact Below.refl _ _ | assumption | refine Below.drew ?_ | refine balloc ?_ _ | refine bset ?_ (by simp; omega) _ | refine bset ?_ (by simp) _ | refine bstep ?_ (by assumption)))) hb1
  have y0 : w1.cell? ⟨w.heap.size, 0, none⟩ = some (.int .i64 d.con) := cell_keep hb1 (by simp [go_sem])
  have y1 : w1.cell? ⟨w.heap.size, 1, none⟩ = some (.int .i64 d.sh) := cell_keep hb1 (by simp [go_sem])
  have y2 : w1.cell? ⟨w.heap.size, 2, none⟩ = some (.int .i64 d.pr) := cell_keep hb1 (by simp [go_sem])
  have y3 : w1.cell? ⟨w.heap.size, 3, none⟩ = some (.int .i64 d.lb) := cell_keep hb1 (by simp [go_sem])
  have y4 : w1.cell? ⟨w.heap.size, 4, none⟩ = some (.int .i64 d.lv) := cell_keep hb1 (by simp [go_sem])
  have y5 : w1.cell? ⟨w.heap.size, 5, none⟩ = some (.slice ax d.cast.length cx) := cell_keep hb1 (by simp [go_sem])
  clear hb1 hX
  rw [hf]
  clear hf
  go_wp2
  go_ret
  exact ⟨rfl, hB1⟩
theorem voterOf_faulty (x : Value) (d : Slt) (w : World) (hx : sltR.V w x d) (hf : ¬ sltFault d = 0) : Calls Try.prog 91 #[x] w fun e w' => e = .returned (.iface 173 (.int .i64 (sltFault d))) ∧ Below w.heap.size w w' := by
  have hX := hx
  obtain ⟨u1, rfl, hx⟩ := hx
  obtain ⟨ax, cx, rfl⟩ := vots_form hx
  clear hx
  go_enter Try.func91, Try.ntmps91
  go_wp2_with fail
  refine (implSlotF_any _ d _ (sltR.below hX (by (repeat (first | exact Below.refl _ _ | assumption | refine Below.drew ?_ | refine balloc ?_ _ | refine bset ?_ (by simp; omega) _ | refine bset ?_ (by simp) _ | refine bstep ?_ (by assumption)))))).mono ?_
  rintro e w1 ⟨rfl, hb1⟩
  have hB1 : Below w.heap.size w w1 := bstep (by (repeat (first | exact Below.refl _ _ | assumption | refine Below.drew ?_ | refine balloc ?_ _ | refine bset ?_ (by simp; omega) _ | refine bset ?_ (by simp) _ | refine bstep ?_ (by assumption)))) hb1
  have y0 : w1.cell? ⟨w.heap.size, 0, none⟩ = some (.int .i64 d.con) := cell_keep hb1 (by simp [go_sem])
  have y1 : w1.cell? ⟨w.heap.size, 1, none⟩ = some (.int .i64 d.sh) := cell_keep hb1 (by simp [go_sem])
  have y2 : w1.cell? ⟨w.heap.size, 2, none⟩ = some (.int .i64 d.pr) := cell_keep hb1 (by simp [go_sem])
  have y3 : w1.cell? ⟨w.heap.size, 3, none⟩ = some (.int .i64 d.lb) := cell_keep hb1 (by simp [go_sem])
  have y4 : w1.cell? ⟨w.heap.size, 4, none⟩ = some (.int .i64 d.lv) := cell_keep hb1 (by simp [go_sem])
  have y5 : w1.cell? ⟨w.heap.size, 5, none⟩ = some (.slice ax d.cast.length cx) := cell_keep hb1 (by simp [go_sem])
  clear hb1 hX
  go_wp2
  go_ret
  exact ⟨rfl, hB1⟩
theorem methV (a b : Int) (w : World) : (method 339 143 (.agg #[.int .i64 a, .int .i64 b]) "loop.example/g00203/impl.isRight").run Try.prog w = .ok (205, .agg #[.int .i64 a, .int .i64 b]) w := by kernel_rfl
theorem methF (c : Int) (w : World) : (method 339 173 (.int .i64 c) "loop.example/g00203/impl.answer").run Try.prog w = .ok (206, .int .i64 c) w := by kernel_rfl
theorem methR (a b c d e : Int) (p : Option Addr) (n k : Nat) (w : World) : (method 339 174 (.agg #[.int .i64 a, .int .i64 b, .int .i64 c, .int .i64 d, .int .i64 e, .slice p n k]) "loop.example/g00203/impl.answer").run Try.prog w = .ok (148, .agg #[.int .i64 a, .int .i64 b, .int .i64 c, .int .i64 d, .int .i64 e, .slice p n k]) w := by kernel_rfl
theorem taVP (a b : Int) (w : World) : (Instr.typeAssert (.iface 143 (.agg #[.int .i64 a, .int .i64 b])) 182 137 true).run Try.prog w = .ok (.tuple #[.int .i64 0, .bool false]) w := by kernel_rfl
theorem taV (a b : Int) (w : World) : (Instr.typeAssert (.iface 143 (.agg #[.int .i64 a, .int .i64 b])) 182 143 true).run Try.prog w = .ok (.tuple #[.agg #[.int .i64 a, .int .i64 b], .bool true]) w := by kernel_rfl
set_option maxRecDepth 100000 in
set_option maxHeartbeats 4000000 in
theorem answerV_u (x : Value) (d : Slt) (v0 : Vot) (w : World) (hx : sltR.V w x d) (hf : sltFault d = 0) :
    Calls Try.prog 148 #[x, .iface 143 (.agg #[.int .i64 v0.bal, .int .i64 v0.val])] w fun e w' => ∃ v F, e = .returned v ∧ sltRR.O w' w.heap.size F v (accD d v0.bal v0.val) ∧ Below w.heap.size w w' := by
  have hX := hx
  obtain ⟨u1, rfl, hx⟩ := hx
  obtain ⟨ax, cx, rfl⟩ := vots_form hx
  clear hx
  have hm := methV v0.bal v0.val
  have ht := taVP v0.bal v0.val
  have ht2 := taV v0.bal v0.val
  have hl := (sltOk_of hf).len
  have HF : Hid (sltFault d = 0) := hf
  clear hf
  go_enter Try.func148, Try.ntmps148
  go_wp2_with fail
  refine (isRightV_any v0 _).mono ?_
  rintro e w1 ⟨rfl, hb1⟩
  have hB1 : Below w.heap.size w w1 := bstep (by (repeat (first | exact Below.refl _ _ | assumption | refine Below.drew ?_ | refine balloc ?_ _ | refine bset ?_ (by simp; omega) _ | refine bset ?_ (by simp) _ | refine bstep ?_ (by assumption)))) hb1
  have y0 : w1.cell? ⟨w.heap.size, 0, none⟩ = some (.int .i64 d.con) := cell_keep hb1 (by simp [go_sem])
  have y1 : w1.cell? ⟨w.heap.size, 1, none⟩ = some (.int .i64 d.sh) := cell_keep hb1 (by simp [go_sem])
  have y2 : w1.cell? ⟨w.heap.size, 2, none⟩ = some (.int .i64 d.pr) := cell_keep hb1 (by simp [go_sem])
  have y3 : w1.cell? ⟨w.heap.size, 3, none⟩ = some (.int .i64 d.lb) := cell_keep hb1 (by simp [go_sem])
  have y4 : w1.cell? ⟨w.heap.size, 4, none⟩ = some (.int .i64 d.lv) := cell_keep hb1 (by simp [go_sem])
  have y5 : w1.cell? ⟨w.heap.size, 5, none⟩ = some (.slice ax d.cast.length cx) := cell_keep hb1 (by simp [go_sem])
  have yf : ∀ o, w1.frozen? ⟨w.heap.size, o, none⟩ = false := fun o => by rw [(bcell hb1).2 _ _ (by simp; try omega)]; simp [go_sem]
  have q0 : w1.cell? ⟨w.heap.size + 1, 0, none⟩ = some (.int .i64 0) := cell_keep hb1 (by simp [go_sem])
  have q1 : w1.cell? ⟨w.heap.size + 1, 1, none⟩ = some (.int .i64 0) := cell_keep hb1 (by simp [go_sem])
  have q2 : w1.cell? ⟨w.heap.size + 1, 2, none⟩ = some (.int .i64 0) := cell_keep hb1 (by simp [go_sem])
  have q3 : w1.cell? ⟨w.heap.size + 1, 3, none⟩ = some (.int .i64 0) := cell_keep hb1 (by simp [go_sem])
  have q4 : w1.cell? ⟨w.heap.size + 1, 4, none⟩ = some (.int .i64 0) := cell_keep hb1 (by simp [go_sem])
  have q5 : w1.cell? ⟨w.heap.size + 1, 5, none⟩ = some (.int .i64 0) := cell_keep hb1 (by simp [go_sem])
  have q6 : w1.cell? ⟨w.heap.size + 1, 6, none⟩ = some (.int .i64 0) := cell_keep hb1 (by simp [go_sem])
  have q7 : w1.cell? ⟨w.heap.size + 1, 7, none⟩ = some (.int .i64 0) := cell_keep hb1 (by simp [go_sem])
  have q8 : w1.cell? ⟨w.heap.size + 1, 8, none⟩ = some (.slice none 0 0) := cell_keep hb1 (by simp [go_sem])
  have qf : ∀ o, w1.frozen? ⟨w.heap.size + 1, o, none⟩ = false := fun o => by rw [(bcell hb1).2 _ _ (by simp; try omega)]; simp [go_sem]
  have hs1 := hb1.size
  simp at hs1
  clear hb1
  cases h1 : votB v0
  · have HD : Hid (accD d v0.bal v0.val = errS 3) := accD_range HF.out h1
    go_wp2
    refine bodyPost_ret (v := .agg #[.int .i64 3, .int .i64 0, .int .i64 0, .int .i64 0, .int .i64 0, .int .i64 0, .int .i64 0, .int .i64 0, .slice none 0 0]) (by simp [results, Try.results148, go_sem, q0, q1, q2, q3, q4, q5, q6, q7, q8, qf]) rfl ?_
    rw [HD.out]
    refine ⟨_, _, rfl, sltR_nil _ _ 3 0 0 0 0 0 0 0, ?_⟩
    iterate 9 (refine bset ?_ (by simp) _)
    exact hB1
  go_wp2_with fail
  refine (copied8_u _ d _ (sltR.below hX hB1) (by omega)).mono ?_
  rintro e w2 ⟨v2, F2, rfl, o2, hb2⟩
  obtain ⟨u2, F1, rfl, ov, hF⟩ := o2
  obtain ⟨a2, c2, rfl⟩ := vots_form (votsR.ofO ov)
  clear hF
  have hB2 : Below w.heap.size w w2 := bstep hB1 hb2
  replace y0 := cell_keep hb2 y0
  replace y1 := cell_keep hb2 y1
  replace y2 := cell_keep hb2 y2
  replace y3 := cell_keep hb2 y3
  replace y4 := cell_keep hb2 y4
  replace y5 := cell_keep hb2 y5
  replace q0 := cell_keep hb2 q0
  replace q1 := cell_keep hb2 q1
  replace q2 := cell_keep hb2 q2
  replace q3 := cell_keep hb2 q3
  replace q4 := cell_keep hb2 q4
  replace q5 := cell_keep hb2 q5
  replace q6 := cell_keep hb2 q6
  replace q7 := cell_keep hb2 q7
  replace q8 := cell_keep hb2 q8
  replace qf : ∀ o, w2.frozen? ⟨w.heap.size + 1, o, none⟩ = false := fun o => by rw [(bcell hb2).2 _ _ (by omega)]; exact qf o
  have hs2 := hb2.size
  clear hb2 hX hB1 yf
  have zz0 : w.heap.size < w2.heap.size := World.block_lt_of_cell? w2 _ y0
  have zz1 : w.heap.size + 1 < w2.heap.size := World.block_lt_of_cell? w2 _ q0
  have hFB : ¬ F1 w2.heap.size := fun h => by have := (votsR.rng ov _ h).2; omega
  go_wp2_with fail
  have hAcc := fun W h0 h1 h2 h3 h4 h5 h6 hh => accept_any w2.heap.size w1.heap.size d v0 a2 c2 F1 #[.int .i64 d.con, .int .i64 d.sh, .int .i64 d.pr, .int .i64 d.lb, .int .i64 d.lv, .slice a2 d.cast.length c2] W h0 h1 h2 h3 h4 h5 h6 hh
  refine (hAcc _ ⟨by simp [go_sem], by simp [go_sem], by simp [go_sem], by simp [go_sem], by simp [go_sem], by simp [go_sem]⟩ (by simp [go_sem]) (heap_new2 _ _ _) (votsR.alloc (votsR.alloc ov _) _) hFB (by omega) (by simp; omega) hl).mono ?_
  rintro e w3 ⟨rfl, hb3, h3⟩
  have hB3 : Below w.heap.size w w3 := Below.trans (balloc (balloc hB2 _) _) (hb3.mono (by omega))
  replace y3 := (hb3.cell (p := ⟨w.heap.size, 3, none⟩) (by simp; omega)).trans (cell_keep (balloc (balloc (Below.refl _ w2) _) _) y3)
  replace y4 := (hb3.cell (p := ⟨w.heap.size, 4, none⟩) (by simp; omega)).trans (cell_keep (balloc (balloc (Below.refl _ w2) _) _) y4)
  replace q0 := (hb3.cell (p := ⟨w.heap.size + 1, 0, none⟩) (by simp; omega)).trans (cell_keep (balloc (balloc (Below.refl _ w2) _) _) q0)
  replace q1 := (hb3.cell (p := ⟨w.heap.size + 1, 1, none⟩) (by simp; omega)).trans (cell_keep (balloc (balloc (Below.refl _ w2) _) _) q1)
  replace q2 := (hb3.cell (p := ⟨w.heap.size + 1, 2, none⟩) (by simp; omega)).trans (cell_keep (balloc (balloc (Below.refl _ w2) _) _) q2)
  replace q3 := (hb3.cell (p := ⟨w.heap.size + 1, 3, none⟩) (by simp; omega)).trans (cell_keep (balloc (balloc (Below.refl _ w2) _) _) q3)
  replace q4 := (hb3.cell (p := ⟨w.heap.size + 1, 4, none⟩) (by simp; omega)).trans (cell_keep (balloc (balloc (Below.refl _ w2) _) _) q4)
  replace q5 := (hb3.cell (p := ⟨w.heap.size + 1, 5, none⟩) (by simp; omega)).trans (cell_keep (balloc (balloc (Below.refl _ w2) _) _) q5)
  replace q6 := (hb3.cell (p := ⟨w.heap.size + 1, 6, none⟩) (by simp; omega)).trans (cell_keep (balloc (balloc (Below.refl _ w2) _) _) q6)
  replace q7 := (hb3.cell (p := ⟨w.heap.size + 1, 7, none⟩) (by simp; omega)).trans (cell_keep (balloc (balloc (Below.refl _ w2) _) _) q7)
  replace q8 := (hb3.cell (p := ⟨w.heap.size + 1, 8, none⟩) (by simp; omega)).trans (cell_keep (balloc (balloc (Below.refl _ w2) _) _) q8)
  replace qf : ∀ o, w3.frozen? ⟨w.heap.size + 1, o, none⟩ = false := fun o => (hb3.frozen (p := ⟨w.heap.size + 1, o, none⟩) (by simp; omega)).trans (((bcell (balloc (balloc (Below.refl _ w2) _) _)).2 _ _ zz1).trans (qf o))
  clear hb3 hB2 ov hAcc zz0 zz1 y0 y1 y2 y5
  by_cases hc : accC d v0 = 0
  · have HD : Hid (accD d v0.bal v0.val = ⟨0, d.lb, d.lv, accS d v0⟩) := accD_ok HF.out h1 hc
    obtain ⟨a5, n5, c5, F5, ⟨b0, b1, b2, b3, b4, b5⟩, o5⟩ := h3 hc
    rw [hc]
    clear hc h3
    generalize accS d v0 = s at *
    go_wp2
    refine bodyPost_ret (v := .agg #[.int .i64 0, .int .i64 d.lb, .int .i64 d.lv, .int .i64 s.con, .int .i64 s.sh, .int .i64 s.pr, .int .i64 s.lb, .int .i64 s.lv, .slice a5 n5 c5]) (by simp [results, Try.results148, go_sem, q0, q1, q2, q3, q4, q5, q6, q7, q8, qf]) rfl ?_
    rw [HD.out]
    refine ⟨_, fun b => F5 b, rfl, ?_, ?_⟩
    · refine ⟨.slice a5 n5 c5, fun b => F5 b, rfl, ?_, fun b => Iff.rfl⟩
      refine ⟨.slice a5 n5 c5, F5, rfl, ?_, fun b => Iff.rfl⟩
      refine votsR.base (base := w1.heap.size) ?_ (by omega)
      iterate 9 (refine Rep.set _ ?_ _ (by simp; omega))
      exact o5
    · iterate 9 (refine bset ?_ (by simp) _)
      exact hB3
  · have HD : Hid (accD d v0.bal v0.val = errS (accC d v0)) := accD_code HF.out h1 hc
    generalize accC d v0 = c at *
    clear h3
    go_wp2
    refine bodyPost_ret (v := .agg #[.int .i64 c, .int .i64 0, .int .i64 0, .int .i64 0, .int .i64 0, .int .i64 0, .int .i64 0, .int .i64 0, .slice none 0 0]) (by simp [results, Try.results148, go_sem, q0, q1, q2, q3, q4, q5, q6, q7, q8, qf]) rfl ?_
    rw [HD.out]
    refine ⟨_, _, rfl, sltR_nil _ _ c 0 0 0 0 0 0 0, ?_⟩
    iterate 9 (refine bset ?_ (by simp) _)
    exact hB3
set_option maxRecDepth 100000 in
set_option maxHeartbeats 2000000 in
theorem implAcc_u (x : Value) (d : Slt) (b vl : Int) (w : World) (hx : sltR.V w x d) :
    Calls Try.prog 31 #[x, .int .i64 b, .int .i64 vl] w fun e w' => ∃ v F, e = .returned v ∧ sltRR.O w' w.heap.size F v (accD d b vl) ∧ Below w.heap.size w w' := by
  have hX := hx
  obtain ⟨u1, rfl, hx⟩ := hx
  obtain ⟨ax, cx, rfl⟩ := vots_form hx
  clear hx
  have hm := methR d.con d.sh d.pr d.lb d.lv ax d.cast.length cx
  have hm2 := methF (sltFault d)
  by_cases hf : sltFault d = 0
  · go_enter Try.func31, Try.ntmps31
    go_wp2_with fail
    refine (voterOf_right _ d _ (sltR.below hX (by (repeat (first | exact Below.refl _ _ | assumption | refine Below.drew ?_ | refine balloc ?_ _ | refine bset ?_ (by simp; omega) _ | refine bset ?_ (by simp) _ | refine bstep ?_ (by assumption))))) hf).mono ?_
    rintro e w1 ⟨rfl, hb1⟩
    have hB1 : Below w.heap.size w w1 := bstep (by (repeat (first | exact Below.refl _ _ | assumption | refine Below.drew ?_ | refine balloc ?_ _ | refine bset ?_ (by simp; omega) _ | refine bset ?_ (by simp) _ | refine bstep ?_ (by assumption)))) hb1
    have q0 : w1.cell? ⟨w.heap.size + 1, 0, none⟩ = some (.int .i64 0) := cell_keep hb1 (by simp [go_sem])
    have q1 : w1.cell? ⟨w.heap.size + 1, 1, none⟩ = some (.int .i64 0) := cell_keep hb1 (by simp [go_sem])
    have q2 : w1.cell? ⟨w.heap.size + 1, 2, none⟩ = some (.int .i64 0) := cell_keep hb1 (by simp [go_sem])
    have q3 : w1.cell? ⟨w.heap.size + 1, 3, none⟩ = some (.int .i64 0) := cell_keep hb1 (by simp [go_sem])
    have q4 : w1.cell? ⟨w.heap.size + 1, 4, none⟩ = some (.int .i64 0) := cell_keep hb1 (by simp [go_sem])
    have q5 : w1.cell? ⟨w.heap.size + 1, 5, none⟩ = some (.int .i64 0) := cell_keep hb1 (by simp [go_sem])
    have q6 : w1.cell? ⟨w.heap.size + 1, 6, none⟩ = some (.int .i64 0) := cell_keep hb1 (by simp [go_sem])
    have q7 : w1.cell? ⟨w.heap.size + 1, 7, none⟩ = some (.int .i64 0) := cell_keep hb1 (by simp [go_sem])
    have q8 : w1.cell? ⟨w.heap.size + 1, 8, none⟩ = some (.slice none 0 0) := cell_keep hb1 (by simp [go_sem])
    have qf : ∀ o, w1.frozen? ⟨w.heap.size + 1, o, none⟩ = false := fun o => by rw [(bcell hb1).2 _ _ (by simp; try omega)]; simp [go_sem]
    have hs1 := hb1.size
    simp at hs1
    clear hb1
    go_wp2_with fail
    refine (answerV_u _ d ⟨b, vl⟩ _ (sltR.below hX hB1) hf).mono ?_
    rintro e w2 ⟨v2, F2, rfl, o2, hb2⟩
    have hB2 : Below w.heap.size w w2 := bstep hB1 hb2
    obtain ⟨u2, F1, rfl, os, hF⟩ := o2
    obtain ⟨u3, F3, e3, ov, hF3⟩ := os
    simp only [Value.agg.injEq, Array.mk.injEq, List.cons.injEq, and_true, true_and] at e3
    obtain rfl := e3
    obtain ⟨a2, c2, rfl⟩ := vots_form (votsR.ofO ov)
    replace q0 := cell_keep hb2 q0
    replace q1 := cell_keep hb2 q1
    replace q2 := cell_keep hb2 q2
    replace q3 := cell_keep hb2 q3
    replace q4 := cell_keep hb2 q4
    replace q5 := cell_keep hb2 q5
    replace q6 := cell_keep hb2 q6
    replace q7 := cell_keep hb2 q7
    replace q8 := cell_keep hb2 q8
    replace qf : ∀ o, w2.frozen? ⟨w.heap.size + 1, o, none⟩ = false := fun o => by rw [(bcell hb2).2 _ _ (by omega)]; exact qf o
    have hs2 := hb2.size
    clear hb2 hF hF3 hX hB1
    go_wp2
    refine bodyPost_ret (v := .agg #[.int .i64 (accD d b vl).code, .int .i64 (accD d b vl).ob, .int .i64 (accD d b vl).ov, .int .i64 (accD d b vl).slot.con, .int .i64 (accD d b vl).slot.sh, .int .i64 (accD d b vl).slot.pr, .int .i64 (accD d b vl).slot.lb, .int .i64 (accD d b vl).slot.lv, .slice a2 (accD d b vl).slot.cast.length c2]) (by simp [results, Try.results31, go_sem, q0, q1, q2, q3, q4, q5, q6, q7, q8, qf]) rfl ?_
    refine ⟨_, fun b => F3 b, rfl, ?_, ?_⟩
    · refine ⟨.slice a2 (accD d b vl).slot.cast.length c2, fun b => F3 b, rfl, ?_, fun b => Iff.rfl⟩
      refine ⟨.slice a2 (accD d b vl).slot.cast.length c2, F3, rfl, ?_, fun b => Iff.rfl⟩
      refine votsR.base (base := w1.heap.size) ?_ (by omega)
      iterate 9 (refine Rep.set _ ?_ _ (by simp; omega))
      exact ov
    · iterate 9 (refine bset ?_ (by simp) _)
      exact hB2
  · go_enter Try.func31, Try.ntmps31
    have HF : Hid (accD d b vl = errS (sltFault d)) := accD_fault hf
    go_wp2_with fail
    refine (voterOf_faulty _ d _ (sltR.below hX (by (repeat (first | exact Below.refl _ _ | assumption | refine Below.drew ?_ | refine balloc ?_ _ | refine bset ?_ (by simp; omega) _ | refine bset ?_ (by simp) _ | refine bstep ?_ (by assumption))))) hf).mono ?_
    rintro e w1 ⟨rfl, hb1⟩
    have hB1 : Below w.heap.size w w1 := bstep (by (repeat (first | exact Below.refl _ _ | assumption | refine Below.drew ?_ | refine balloc ?_ _ | refine bset ?_ (by simp; omega) _ | refine bset ?_ (by simp) _ | refine bstep ?_ (by assumption)))) hb1
    have q0 : w1.cell? ⟨w.heap.size + 1, 0, none⟩ = some (.int .i64 0) := cell_keep hb1 (by simp [go_sem])
    have q1 : w1.cell? ⟨w.heap.size + 1, 1, none⟩ = some (.int .i64 0) := cell_keep hb1 (by simp [go_sem])
    have q2 : w1.cell? ⟨w.heap.size + 1, 2, none⟩ = some (.int .i64 0) := cell_keep hb1 (by simp [go_sem])
    have q3 : w1.cell? ⟨w.heap.size + 1, 3, none⟩ = some (.int .i64 0) := cell_keep hb1 (by simp [go_sem])
    have q4 : w1.cell? ⟨w.heap.size + 1, 4, none⟩ = some (.int .i64 0) := cell_keep hb1 (by simp [go_sem])
    have q5 : w1.cell? ⟨w.heap.size + 1, 5, none⟩ = some (.int .i64 0) := cell_keep hb1 (by simp [go_sem])
    have q6 : w1.cell? ⟨w.heap.size + 1, 6, none⟩ = some (.int .i64 0) := cell_keep hb1 (by simp [go_sem])
    have q7 : w1.cell? ⟨w.heap.size + 1, 7, none⟩ = some (.int .i64 0) := cell_keep hb1 (by simp [go_sem])
    have q8 : w1.cell? ⟨w.heap.size + 1, 8, none⟩ = some (.slice none 0 0) := cell_keep hb1 (by simp [go_sem])
    have qf : ∀ o, w1.frozen? ⟨w.heap.size + 1, o, none⟩ = false := fun o => by rw [(bcell hb1).2 _ _ (by simp; try omega)]; simp [go_sem]
    have hs1 := hb1.size
    simp at hs1
    clear hb1
    go_wp2_with fail
    refine (faulty_u (sltFault d) _ _).mono ?_
    rintro e w2 ⟨v2, F2, rfl, o2, hb2⟩
    rw [← HF.out] at o2
    have hB2 : Below w.heap.size w w2 := bstep hB1 hb2
    obtain ⟨u2, F1, rfl, os, hF⟩ := o2
    obtain ⟨u3, F3, e3, ov, hF3⟩ := os
    simp only [Value.agg.injEq, Array.mk.injEq, List.cons.injEq, and_true, true_and] at e3
    obtain rfl := e3
    obtain ⟨a2, c2, rfl⟩ := vots_form (votsR.ofO ov)
    replace q0 := cell_keep hb2 q0
    replace q1 := cell_keep hb2 q1
    replace q2 := cell_keep hb2 q2
    replace q3 := cell_keep hb2 q3
    replace q4 := cell_keep hb2 q4
    replace q5 := cell_keep hb2 q5
    replace q6 := cell_keep hb2 q6
    replace q7 := cell_keep hb2 q7
    replace q8 := cell_keep hb2 q8
    replace qf : ∀ o, w2.frozen? ⟨w.heap.size + 1, o, none⟩ = false := fun o => by rw [(bcell hb2).2 _ _ (by omega)]; exact qf o
    have hs2 := hb2.size
    clear hb2 hF hF3 hX hB1
    go_wp2
    refine bodyPost_ret (v := .agg #[.int .i64 (accD d b vl).code, .int .i64 (accD d b vl).ob, .int .i64 (accD d b vl).ov, .int .i64 (accD d b vl).slot.con, .int .i64 (accD d b vl).slot.sh, .int .i64 (accD d b vl).slot.pr, .int .i64 (accD d b vl).slot.lb, .int .i64 (accD d b vl).slot.lv, .slice a2 (accD d b vl).slot.cast.length c2]) (by simp [results, Try.results31, go_sem, q0, q1, q2, q3, q4, q5, q6, q7, q8, qf]) rfl ?_
    refine ⟨_, fun b => F3 b, rfl, ?_, ?_⟩
    · refine ⟨.slice a2 (accD d b vl).slot.cast.length c2, fun b => F3 b, rfl, ?_, fun b => Iff.rfl⟩
      refine ⟨.slice a2 (accD d b vl).slot.cast.length c2, F3, rfl, ?_, fun b => Iff.rfl⟩
      refine votsR.base (base := w1.heap.size) ?_ (by omega)
      iterate 9 (refine Rep.set _ ?_ _ (by simp; omega))
      exact ov
    · iterate 9 (refine bset ?_ (by simp) _)
      exact hB2
end Go.Proofs.Ytbdbjdnebmaimaa

/-
  Thirty cells that are kept.
-/
namespace Go.Proofs.Ytbdbjdnebmaimaa
open Go.RowKit
theorem keepN30 {w w' : World} {a0 : Addr} {x0 : Value} {a1 : Addr} {x1 : Value} {a2 : Addr} {x2 : Value} {a3 : Addr} {x3 : Value} {a4 : Addr} {x4 : Value} {a5 : Addr} {x5 : Value} {a6 : Addr} {x6 : Value} {a7 : Addr} {x7 : Value} {a8 : Addr} {x8 : Value} {a9 : Addr} {x9 : Value} {a10 : Addr} {x10 : Value} {a11 : Addr} {x11 : Value} {a12 : Addr} {x12 : Value} {a13 : Addr} {x13 : Value} {a14 : Addr} {x14 : Value} {a15 : Addr} {x15 : Value} {a16 : Addr} {x16 : Value} {a17 : Addr} {x17 : Value} {a18 : Addr} {x18 : Value} {a19 : Addr} {x19 : Value} {a20 : Addr} {x20 : Value} {a21 : Addr} {x21 : Value} {a22 : Addr} {x22 : Value} {a23 : Addr} {x23 : Value} {a24 : Addr} {x24 : Value} {a25 : Addr} {x25 : Value} {a26 : Addr} {x26 : Value} {a27 : Addr} {x27 : Value} {a28 : Addr} {x28 : Value} {a29 : Addr} {x29 : Value} (hb : Below w.heap.size w w') (g0 : w.cell? a0 = some x0) (g1 : w.cell? a1 = some x1) (g2 : w.cell? a2 = some x2) (g3 : w.cell? a3 = some x3) (g4 : w.cell? a4 = some x4) (g5 : w.cell? a5 = some x5) (g6 : w.cell? a6 = some x6) (g7 : w.cell? a7 = some x7) (g8 : w.cell? a8 = some x8) (g9 : w.cell? a9 = some x9) (g10 : w.cell? a10 = some x10) (g11 : w.cell? a11 = some x11) (g12 : w.cell? a12 = some x12) (g13 : w.cell? a13 = some x13) (g14 : w.cell? a14 = some x14) (g15 : w.cell? a15 = some x15) (g16 : w.cell? a16 = some x16) (g17 : w.cell? a17 = some x17) (g18 : w.cell? a18 = some x18) (g19 : w.cell? a19 = some x19) (g20 : w.cell? a20 = some x20) (g21 : w.cell? a21 = some x21) (g22 : w.cell? a22 = some x22) (g23 : w.cell? a23 = some x23) (g24 : w.cell? a24 = some x24) (g25 : w.cell? a25 = some x25) (g26 : w.cell? a26 = some x26) (g27 : w.cell? a27 = some x27) (g28 : w.cell? a28 = some x28) (g29 : w.cell? a29 = some x29) : Below w.heap.size w w' ∧ w'.cell? a0 = some x0 ∧ w'.cell? a1 = some x1 ∧ w'.cell? a2 = some x2 ∧ w'.cell? a3 = some x3 ∧ w'.cell? a4 = some x4 ∧ w'.cell? a5 = some x5 ∧ w'.cell? a6 = some x6 ∧ w'.cell? a7 = some x7 ∧ w'.cell? a8 = some x8 ∧ w'.cell? a9 = some x9 ∧ w'.cell? a10 = some x10 ∧ w'.cell? a11 = some x11 ∧ w'.cell? a12 = some x12 ∧ w'.cell? a13 = some x13 ∧ w'.cell? a14 = some x14 ∧ w'.cell? a15 = some x15 ∧ w'.cell? a16 = some x16 ∧ w'.cell? a17 = some x17 ∧ w'.cell? a18 = some x18 ∧ w'.cell? a19 = some x19 ∧ w'.cell? a20 = some x20 ∧ w'.cell? a21 = some x21 ∧ w'.cell? a22 = some x22 ∧ w'.cell? a23 = some x23 ∧ w'.cell? a24 = some x24 ∧ w'.cell? a25 = some x25 ∧ w'.cell? a26 = some x26 ∧ w'.cell? a27 = some x27 ∧ w'.cell? a28 = some x28 ∧ w'.cell? a29 = some x29 :=
  ⟨hb, cell_keep hb g0, cell_keep hb g1, cell_keep hb g2, cell_keep hb g3, cell_keep hb g4, cell_keep hb g5, cell_keep hb g6, cell_keep hb g7, cell_keep hb g8, cell_keep hb g9, cell_keep hb g10, cell_keep hb g11, cell_keep hb g12, cell_keep hb g13, cell_keep hb g14, cell_keep hb g15, cell_keep hb g16, cell_keep hb g17, cell_keep hb g18, cell_keep hb g19, cell_keep hb g20, cell_keep hb g21, cell_keep hb g22, cell_keep hb g23, cell_keep hb g24, cell_keep hb g25, cell_keep hb g26, cell_keep hb g27, cell_keep hb g28, cell_keep hb g29⟩
end Go.Proofs.Ytbdbjdnebmaimaa

/-
  What is handed in, read as data, is data in memory: rows and structs of rows.
-/
namespace Go.Proofs.Ytbdbjdnebmaimaa
open Go.ChangeShapes Go.WideShapes Go.ChangeAt Go.RowKit Go.Joins

theorem spot_none {W : World} {base k : Nat} {a : Addr} {cs : List Value} (hk : 0 < k) (hc : W.cells? base a k = some cs) : a.spot = none := by
  obtain ⟨hb, hl, hcell⟩ := World.cells?_some hc
  have q0 := hcell 0 hk
  obtain ⟨b, o, s⟩ := a
  cases s with
  | none => rfl
  | some s =>
    have : 0 < cs.length := by omega
    simp [Addr.add, World.cell?, this] at q0
    split at q0 <;> simp at q0
theorem add_plain (b o i : Nat) : (Addr.mk b o none).add i = ⟨b, o + i, none⟩ := by
  by_cases h : i = 0
  · subst h; simp [Addr.add]
  · simp [Addr.add, h]
theorem openRow {H : Type} {enc : TypeId × Value → H} {W : World} {sp : Nat → Bool} {held : Bool} {n : Nat} {v : Value} {y : DataW H × List MemPlace} {t e size : Nat} {α : Type} [Inhabited α] {q : List Value → α → Prop}
    (ht : Try.prog.underlying t = some (.slice e)) (hz : Try.prog.cellsOf e = size) (hs : 0 < size)
    (hq : ∀ n cs y, DataW.trod enc Try.prog W 0 sp held n e cs = some y → cs.length = size → ∃ x, q cs x) (h : DataW.trod enc Try.prog W 0 sp held n t [v] = some y) :
    ∃ (a : Option Addr) (cap : Nat) (xs : List α) (cs : Nat → List Value), v = .slice a xs.length cap ∧ xs.length ≤ cap ∧ cap ≤ maxLen ∧ ∀ i, i < xs.length → q (cs i) (xs.getD i default) ∧ (cs i).length = size ∧ ∃ b o, a = some ⟨b, o, none⟩ ∧ ∀ j, j < size → W.cell? ⟨b, o + i * size + j, none⟩ = (cs i)[j]? := by
  rcases Go.Deep.open_slice ht h with ⟨hcs, _⟩ | ⟨a, len, cap, m, n', D, Pl, hcs, hb, hl, hm, hmm, _, hc⟩
  · simp at hcs
    subst hcs
    exact ⟨none, 0, [], fun _ => [], rfl, by simp, by unfold maxLen; omega, fun i hi => by simp at hi⟩
  · simp at hcs
    subst hcs
    have hlm : len ≤ m := by rw [hmm]; split <;> omega
    rw [hz] at hc
    have h1 : ∀ i, i < len → ∃ z : List Value × α, q z.1 z.2 ∧ z.1.length = size ∧ ∃ b o, a = ⟨b, o, none⟩ ∧ ∀ j, j < size → W.cell? ⟨b, o + i * size + j, none⟩ = z.1[j]? := by
      intro i hi
      obtain ⟨cs', h1, h2⟩ := hc i (by omega)
      obtain ⟨_, hl', hcell⟩ := World.cells?_some h1
      obtain ⟨x, hx⟩ := hq _ _ _ h2 hl'
      obtain ⟨cs0, k1, _⟩ := hc 0 (by omega)
      have hsp := spot_none hs k1
      obtain ⟨b, o, s⟩ := a
      have hs0 : s = none := by simpa [Addr.add] using hsp
      subst hs0
      refine ⟨(cs', x), hx, hl', b, o, rfl, fun j hj => ?_⟩
      have := hcell j hj
      rw [add_plain, add_plain] at this
      exact this
    obtain ⟨f, hf⟩ := Go.Deep.choose_lt h1
    refine ⟨some a, cap, (List.range len).map (fun i => (f i).2), fun i => (f i).1, by simp, by simpa using hl, hm, fun i hi => ?_⟩
    simp at hi
    obtain ⟨g1, g2, b, o, rfl, g3⟩ := hf i hi
    have e : (List.map (fun i => (f i).2) (List.range len)).getD i default = (f i).2 := by simp [List.getD, hi]
    rw [e]
    exact ⟨g1, g2, b, o, rfl, g3⟩
end Go.Proofs.Ytbdbjdnebmaimaa

/-
  Votes and slots handed in.
-/
namespace Go.Proofs.Ytbdbjdnebmaimaa
open Go.ChangeShapes Go.WideShapes Go.ChangeAt Go.RowKit Go.Joins
set_option linter.unusedSectionVars false
variable [DecidableEq Vot] [Inhabited Vot] [DecidableEq Slt] [Inhabited Slt]

theorem cellsNum : Try.prog.cellsOf 2 = 1 := by kernel_rfl
theorem cellsVot : Try.prog.cellsOf 42 = 2 := by kernel_rfl
theorem cellsVots : Try.prog.cellsOf 43 = 1 := by kernel_rfl
theorem trod_struct5 {H : Type} {enc : TypeId × Value → H} {P : Program} {w : World} {base : Nat} {spare : Nat → Bool} {held : Bool} {t : TypeId} {f0 f1 f2 f3 f4 : Field} {fuel : Nat} {cs : List Value} {x : DataW H × List MemPlace} (ht : P.underlying t = some (.struct #[f0, f1, f2, f3, f4])) (h : DataW.trod enc P w base spare held fuel t cs = some x) :
    ∃ y0 y1 y2 y3 y4 n, cs.length = P.cellsOf t ∧ DataW.trod enc P w base spare held n f0.type ((cs.drop f0.offset).take (P.cellsOf f0.type)) = some y0 ∧
      DataW.trod enc P w base spare held n f1.type ((cs.drop f1.offset).take (P.cellsOf f1.type)) = some y1 ∧ DataW.trod enc P w base spare held n f2.type ((cs.drop f2.offset).take (P.cellsOf f2.type)) = some y2 ∧
      DataW.trod enc P w base spare held n f3.type ((cs.drop f3.offset).take (P.cellsOf f3.type)) = some y3 ∧ DataW.trod enc P w base spare held n f4.type ((cs.drop f4.offset).take (P.cellsOf f4.type)) = some y4 := by
  obtain ⟨xs, n, _, rfl, hl, hlen, hf⟩ := DataW.trod_struct ht h
  match xs, hlen with
  | [y0, y1, y2, y3, y4], _ => exact ⟨y0, y1, y2, y3, y4, n, hl, by simpa using hf 0 f0 rfl, by simpa using hf 1 f1 rfl, by simpa using hf 2 f2 rfl, by simpa using hf 3 f3 rfl, by simpa using hf 4 f4 rfl⟩
theorem openVot {H : Type} {enc : TypeId × Value → H} {W : World} {sp : Nat → Bool} {held : Bool} {n : Nat} {cs : List Value} {y : DataW H × List MemPlace}
    (ht : DataW.trod enc Try.prog W 0 sp held n 42 cs = some y) (hl : cs.length = 2) : ∃ x : Vot, cs = votC x := by
  obtain ⟨y0, y1, m, hy, hlen, h0, h1⟩ := trod_struct2 Try.underlying42 ht
  simp only [cellsNum] at h0 h1
  match cs, hl with
  | [c0, c1], _ =>
    obtain ⟨x0, e0, _⟩ := DataW.trod_int Try.underlying2 h0
    obtain ⟨x1, e1, _⟩ := DataW.trod_int Try.underlying2 h1
    simp at e0 e1
    subst e0 e1
    exact ⟨⟨x0, x1⟩, rfl⟩
theorem openVots {H : Type} {enc : TypeId × Value → H} {W : World} {sp : Nat → Bool} {held : Bool} {n : Nat} {v : Value} {y : DataW H × List MemPlace}
    (ht : DataW.trod enc Try.prog W 0 sp held n 43 [v] = some y) : ∃ xs : List Vot, votsR.V W v xs := by
  obtain ⟨a, cap, xs, cs, rfl, h1, h2, h3⟩ := openRow (q := fun cs x => cs = votC x) Try.underlying43 cellsVot (by omega) (fun n cs y h hl => openVot h hl) ht
  refine ⟨xs, a, cap, rfl, h1, h2, fun i hi => ?_⟩
  obtain ⟨g1, g3, b, o, g4, g5⟩ := h3 i hi
  rw [g1] at g5
  exact ⟨b, o, g4, g5 0 (by omega), g5 1 (by omega)⟩
theorem openSlt {H : Type} {enc : TypeId × Value → H} {W : World} {sp : Nat → Bool} {held : Bool} {n : Nat} {cs : List Value} {y : DataW H × List MemPlace}
    (ht : DataW.trod enc Try.prog W 0 sp held n 45 cs = some y) (hl : cs.length = 6) : ∃ (x : Slt) (u : Value), cs = [.int .i64 x.con, .int .i64 x.sh, .int .i64 x.pr, .int .i64 x.lb, .int .i64 x.lv, u] ∧ votsR.V W u x.cast := by
  obtain ⟨y0, y1, y2, y3, y4, m, hlen, h0, h1, h2, h3, h4⟩ := trod_struct5 Try.underlying45 ht
  simp only [cellsNum, cellsVot, cellsVots] at h0 h1 h2 h3 h4
  match cs, hl with
  | [c0, c1, c2, c3, c4, c5], _ =>
    obtain ⟨x0, e0, _⟩ := DataW.trod_int Try.underlying2 h0
    obtain ⟨x1, e1, _⟩ := DataW.trod_int Try.underlying2 h1
    obtain ⟨x2, e2, _⟩ := DataW.trod_int Try.underlying2 h2
    obtain ⟨l, el⟩ := openVot h3 rfl
    obtain ⟨xs, hx⟩ := openVots h4
    simp at e0 e1 e2
    simp [votC] at el
    obtain ⟨rfl, rfl⟩ := el
    subst e0 e1 e2
    exact ⟨⟨x0, x1, x2, l.bal, l.val, xs⟩, c5, rfl, hx⟩
set_option maxRecDepth 20000 in
theorem openSltT {H : Type} {enc : TypeId × Value → H} {W : World} {sp : Nat → Bool} {held : Bool} {v : Value} {d : DataW H} {p : List MemPlace} {base : Nat} {r : Reach}
    (hv : Value.okWide Try.prog W r base 45 v) (h : DataW.Trod enc Try.prog W 0 sp held 45 v d p) : ∃ x, sltR.V W v x := by
  obtain ⟨cs, rfl, hsz⟩ := okWide_struct Try.underlying45 hv
  have hC : Try.prog.cellsOf 45 = 6 := by kernel_rfl
  obtain ⟨fuel, hf⟩ := h
  obtain ⟨x, u, e, hx⟩ := openSlt hf (by simpa [Value.cells] using hsz.trans hC)
  have e' : cs = #[.int .i64 x.con, .int .i64 x.sh, .int .i64 x.pr, .int .i64 x.lb, .int .i64 x.lv, u] := by
    obtain ⟨l⟩ := cs
    simp [Value.cells] at e
    rw [e]
  subst e'
  exact ⟨x, u, rfl, hx⟩
end Go.Proofs.Ytbdbjdnebmaimaa

