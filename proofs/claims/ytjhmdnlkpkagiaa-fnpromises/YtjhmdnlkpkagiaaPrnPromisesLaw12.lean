import Derived.Test.YtjhmdnlkpkagiaaPrnPromisesLaw11
import Derived.Test.YtjhmdnlkpkagiaaPrnPromisesLaw4
import Derived.Test.YtjhmdnlkpkagiaaPrnPromisesLaw2
import Derived.Test.YtjhmdnlkpkagiaaPrnPromisesLaw1
import Derived.Deep.RegionHeld3
import Derived.Deep.DrawnRows
import Derived.BigQuiet
import Derived.Deep.QuietTactic
import Derived.Test.YtjhmdnlkpkagiaaPrnPromisesLaw7
import Derived.Test.YtjhmdnlkpkagiaaPrnPromisesLaw6
import Derived.Test.YtjhmdnlkpkagiaaPrnPromisesLaw10
import Derived.Deep.AppendLies

/-
  PromiseSlot, AcceptSlot, the program's: who answers.
-/
set_option linter.unusedSimpArgs false
set_option linter.unusedVariables false
namespace Go.Proofs.Ytjhmdnlkpkagiaa
open Go.RowKit
set_option linter.unusedSectionVars false
variable [DecidableEq Vot] [Inhabited Vot] [DecidableEq Slt] [Inhabited Slt] [DecidableEq SltR] [Inhabited SltR] [DecidableEq Bal] [Inhabited Bal] [DecidableEq Ledg] [Inhabited Ledg] [DecidableEq Leg] [Inhabited Leg]
attribute [local go_sem ↓] Go.wp_at_zero Go.wp_at_succ

theorem isRightP_any (b : Int) (w : World) : Calls Try.prog 50 #[.int .i64 b] w fun e w' => e = .returned (.bool (inB b 0 1000)) ∧ w' = w := by
  go_enter Try.func50, Try.ntmps50
  go_wp2_with (go_at_call 32; refine (isBallot_any _ _).mono ?_; rintro e w' ⟨rfl, rfl⟩)
  go_ret
  exact ⟨rfl, rfl⟩
theorem isRightV_any (v : Vot) (w : World) : Calls Try.prog 51 #[.agg #[.int .i64 v.bal, .int .i64 v.val]] w fun e w' => e = .returned (.bool (votB v)) ∧ Below w.heap.size w w' := by
  go_enter Try.func51, Try.ntmps51
  go_wp2_with fail
  refine (isVote_any v _).mono ?_
  rintro e w1 ⟨rfl, hb1⟩
  have hB1 : Below w.heap.size w w1 := bstep (by (repeat (first | exact Below.refl _ _ | assumption | refine Below.drew ?_ | refine balloc ?_ _ | refine bset ?_ (by simp; omega) _ | refine bset ?_ (by simp) _ | refine bstep ?_ (by assumption)))) hb1
  go_wp2
  go_ret
  exact ⟨rfl, hB1⟩
theorem faulty_u (c : Int) (q : Value) (w : World) : Calls Try.prog 52 #[.int .i64 c, q] w fun e w' => ∃ v F, e = .returned v ∧ sltRR.O w' w.heap.size F v (errS c) ∧ Below w.heap.size w w' := by
  go_enter Try.func52, Try.ntmps52
  go_wp2
  refine bodyPost_ret (v := .agg #[.int .i64 c, .int .i64 0, .int .i64 0, .int .i64 0, .int .i64 0, .int .i64 0, .int .i64 0, .int .i64 0, .slice none 0 0]) (by simp [results, Try.results52, go_sem]) rfl ?_
  exact ⟨_, _, rfl, sltR_nil _ _ c 0 0 0 0 0 0 0, by (repeat (first | exact Below.refl _ _ | assumption | refine Below.drew ?_ | refine balloc ?_ _ | refine bset ?_ (by simp; omega) _ | refine bset ?_ (by simp) _ | refine bstep ?_ (by assumption)))⟩
theorem voterOf_right (x : Value) (d : Slt) (w : World) (hx : sltR.V w x d) (hf : sltFault d = 0) : Calls Try.prog 15 #[x] w fun e w' => e = .returned (.iface 60 x) ∧ Below w.heap.size w w' := by
  have hX := hx
  obtain ⟨u1, rfl, hx⟩ := hx
  obtain ⟨ax, cx, rfl⟩ := vots_form hx
  clear hx
  go_enter Try.func15, Try.ntmps15
  go_wp2_with fail
  refine (implSlotF_any _ d _ (sltR.below hX (by (repeat (first | exact Below.refl _ _ | assumption | refine Below.drew ?_ | refine balloc ?_ _ | refine bset ?_ (by simp; omega) _ | refine bset ?_ (by simp) _ | refine bstep ?_ (by assumption)))))).mono ?_
  rintro e w1 ⟨rfl, hb1⟩
  have hB1 : Below w.heap.size w w1 := bstep (by (repeat (first | exact Below.refl _ _ | assumption | refine Below.drew ?_ | refine balloc ?_ _ | refine bset ?_ (by simp; omega) _ | refine bset ?_ (by simp) _ | refine bstep ?_ (by assumption)))) hb1
  have y0 : w1.cell? ⟨w.heap.size, 0, none⟩ = some (.int .i64 d.con) := cell_keep hb1 (by simp [go_sem])
  have y1 : w1.cell? ⟨w.heap.size, 1, none⟩ = some (.int .i64 d.sh) := cell_keep hb1 (by simp [go_sem])
  have y2 : w1.cell? ⟨w.heap.size, 2, none⟩ = some (.int .i64 d.pr) := cell_keep hb1 (by simp [go_sem])
  have y3 : w1.cell? ⟨w.heap.size, 3, none⟩ = some (.int .i64 d.lb) := cell_keep hb1 (by simp [go_sem])
  have y4 : w1.cell? ⟨w.heap.size, 4, none⟩ = some (.int .i64 d.lv) := cell_keep hb1 (by simp [go_sem])
  have y5 : w1.cell? ⟨w.heap.size, 5, none⟩ = some (.slice ax d.cast.length cx) := cell_keep hb1 (by simp [go_sem])
  clear hb1 hX
  rw [hf]
  clear hf
  go_wp2
  go_ret
  exact ⟨rfl, hB1⟩
theorem voterOf_faulty (x : Value) (d : Slt) (w : World) (hx : sltR.V w x d) (hf : ¬ sltFault d = 0) : Calls Try.prog 15 #[x] w fun e w' => e = .returned (.iface 59 (.int .i64 (sltFault d))) ∧ Below w.heap.size w w' := by
  have hX := hx
  obtain ⟨u1, rfl, hx⟩ := hx
  obtain ⟨ax, cx, rfl⟩ := vots_form hx
  clear hx
  go_enter Try.func15, Try.ntmps15
  go_wp2_with fail
  refine (implSlotF_any _ d _ (sltR.below hX (by (repeat (first | exact Below.refl _ _ | assumption | refine Below.drew ?_ | refine balloc ?_ _ | refine bset ?_ (by simp; omega) _ | refine bset ?_ (by simp) _ | refine bstep ?_ (by assumption)))))).mono ?_
  rintro e w1 ⟨rfl, hb1⟩
  have hB1 : Below w.heap.size w w1 := bstep (by (repeat (first | exact Below.refl _ _ | assumption | refine Below.drew ?_ | refine balloc ?_ _ | refine bset ?_ (by simp; omega) _ | refine bset ?_ (by simp) _ | refine bstep ?_ (by assumption)))) hb1
  have y0 : w1.cell? ⟨w.heap.size, 0, none⟩ = some (.int .i64 d.con) := cell_keep hb1 (by simp [go_sem])
  have y1 : w1.cell? ⟨w.heap.size, 1, none⟩ = some (.int .i64 d.sh) := cell_keep hb1 (by simp [go_sem])
  have y2 : w1.cell? ⟨w.heap.size, 2, none⟩ = some (.int .i64 d.pr) := cell_keep hb1 (by simp [go_sem])
  have y3 : w1.cell? ⟨w.heap.size, 3, none⟩ = some (.int .i64 d.lb) := cell_keep hb1 (by simp [go_sem])
  have y4 : w1.cell? ⟨w.heap.size, 4, none⟩ = some (.int .i64 d.lv) := cell_keep hb1 (by simp [go_sem])
  have y5 : w1.cell? ⟨w.heap.size, 5, none⟩ = some (.slice ax d.cast.length cx) := cell_keep hb1 (by simp [go_sem])
  clear hb1 hX
  go_wp2
  go_ret
  exact ⟨rfl, hB1⟩
theorem methP (b : Int) (w : World) : (method 185 45 (.int .i64 b) "loop.example/g00203/impl.isRight").run Try.prog w = .ok (50, .int .i64 b) w := by kernel_rfl
theorem methV (a b : Int) (w : World) : (method 185 52 (.agg #[.int .i64 a, .int .i64 b]) "loop.example/g00203/impl.isRight").run Try.prog w = .ok (51, .agg #[.int .i64 a, .int .i64 b]) w := by kernel_rfl
theorem methF (c : Int) (w : World) : (method 185 59 (.int .i64 c) "loop.example/g00203/impl.answer").run Try.prog w = .ok (52, .int .i64 c) w := by kernel_rfl
theorem methR (a b c d e : Int) (p : Option Addr) (n k : Nat) (w : World) : (method 185 60 (.agg #[.int .i64 a, .int .i64 b, .int .i64 c, .int .i64 d, .int .i64 e, .slice p n k]) "loop.example/g00203/impl.answer").run Try.prog w = .ok (53, .agg #[.int .i64 a, .int .i64 b, .int .i64 c, .int .i64 d, .int .i64 e, .slice p n k]) w := by kernel_rfl
theorem taP (b : Int) (w : World) : (Instr.typeAssert (.iface 45 (.int .i64 b)) 79 45 true).run Try.prog w = .ok (.tuple #[.int .i64 b, .bool true]) w := by kernel_rfl
theorem taVP (a b : Int) (w : World) : (Instr.typeAssert (.iface 52 (.agg #[.int .i64 a, .int .i64 b])) 79 45 true).run Try.prog w = .ok (.tuple #[.int .i64 0, .bool false]) w := by kernel_rfl
theorem taV (a b : Int) (w : World) : (Instr.typeAssert (.iface 52 (.agg #[.int .i64 a, .int .i64 b])) 79 52 true).run Try.prog w = .ok (.tuple #[.agg #[.int .i64 a, .int .i64 b], .bool true]) w := by kernel_rfl
set_option maxRecDepth 100000 in
set_option maxHeartbeats 4000000 in
theorem answerP_u (x : Value) (d : Slt) (b : Int) (w : World) (hx : sltR.V w x d) (hf : sltFault d = 0) :
    Calls Try.prog 53 #[x, .iface 45 (.int .i64 b)] w fun e w' => ∃ v F, e = .returned v ∧ sltRR.O w' w.heap.size F v (promD d b) ∧ Below w.heap.size w w' := by
  have hX := hx
  obtain ⟨u1, rfl, hx⟩ := hx
  obtain ⟨ax, cx, rfl⟩ := vots_form hx
  clear hx
  have hm := methP b
  have ht := taP b
  have hl := (sltOk_of hf).len
  cases h1 : inB b 0 1000
  · have HD : Hid (promD d b = errS 3) := promD_range hf h1
    go_enter Try.func53, Try.ntmps53
    go_wp2_with (go_at_call 50; refine (isRightP_any _ _).mono ?_; rintro e w' ⟨rfl, hw'⟩; obtain rfl := hw'.symm; rw [h1])
    refine bodyPost_ret (v := .agg #[.int .i64 3, .int .i64 0, .int .i64 0, .int .i64 0, .int .i64 0, .int .i64 0, .int .i64 0, .int .i64 0, .slice none 0 0]) (by simp [results, Try.results53, go_sem]) rfl ?_
    rw [HD.out]
    exact ⟨_, _, rfl, sltR_nil _ _ 3 0 0 0 0 0 0 0, by (repeat (first | exact Below.refl _ _ | assumption | refine Below.drew ?_ | refine balloc ?_ _ | refine bset ?_ (by simp; omega) _ | refine bset ?_ (by simp) _ | refine bstep ?_ (by assumption)))⟩
  · have HF : Hid (sltFault d = 0) := hf
    clear hf
    go_enter Try.func53, Try.ntmps53
    go_wp2_with (first | (go_at_call 50; refine (isRightP_any _ _).mono ?_; rintro e w' ⟨rfl, hw'⟩; obtain rfl := hw'.symm; rw [h1]) | fail)
    refine (copied8_u _ d _ (sltR.below hX (by (repeat (first | exact Below.refl _ _ | assumption | refine Below.drew ?_ | refine balloc ?_ _ | refine bset ?_ (by simp; omega) _ | refine bset ?_ (by simp) _ | refine bstep ?_ (by assumption))))) (by omega)).mono ?_
    rintro e w2 ⟨v2, F2, rfl, o2, hb2⟩
    obtain ⟨u2, F1, rfl, ov, hF⟩ := o2
    obtain ⟨a2, c2, rfl⟩ := vots_form (votsR.ofO ov)
    clear hF
    have hB2 : Below w.heap.size w w2 := bstep (by (repeat (first | exact Below.refl _ _ | assumption | refine Below.drew ?_ | refine balloc ?_ _ | refine bset ?_ (by simp; omega) _ | refine bset ?_ (by simp) _ | refine bstep ?_ (by assumption)))) hb2
    have y0 : w2.cell? ⟨w.heap.size, 0, none⟩ = some (.int .i64 d.con) := cell_keep hb2 (by simp [go_sem])
    have y1 : w2.cell? ⟨w.heap.size, 1, none⟩ = some (.int .i64 d.sh) := cell_keep hb2 (by simp [go_sem])
    have y2 : w2.cell? ⟨w.heap.size, 2, none⟩ = some (.int .i64 d.pr) := cell_keep hb2 (by simp [go_sem])
    have y3 : w2.cell? ⟨w.heap.size, 3, none⟩ = some (.int .i64 d.lb) := cell_keep hb2 (by simp [go_sem])
    have y4 : w2.cell? ⟨w.heap.size, 4, none⟩ = some (.int .i64 d.lv) := cell_keep hb2 (by simp [go_sem])
    have y5 : w2.cell? ⟨w.heap.size, 5, none⟩ = some (.slice ax d.cast.length cx) := cell_keep hb2 (by simp [go_sem])
    have yf : ∀ o, w2.frozen? ⟨w.heap.size, o, none⟩ = false := fun o => by rw [(bcell hb2).2 _ _ (by simp; try omega)]; simp [go_sem]
    have q0 : w2.cell? ⟨w.heap.size + 1, 0, none⟩ = some (.int .i64 0) := cell_keep hb2 (by simp [go_sem])
    have q1 : w2.cell? ⟨w.heap.size + 1, 1, none⟩ = some (.int .i64 0) := cell_keep hb2 (by simp [go_sem])
    have q2 : w2.cell? ⟨w.heap.size + 1, 2, none⟩ = some (.int .i64 0) := cell_keep hb2 (by simp [go_sem])
    have q3 : w2.cell? ⟨w.heap.size + 1, 3, none⟩ = some (.int .i64 0) := cell_keep hb2 (by simp [go_sem])
    have q4 : w2.cell? ⟨w.heap.size + 1, 4, none⟩ = some (.int .i64 0) := cell_keep hb2 (by simp [go_sem])
    have q5 : w2.cell? ⟨w.heap.size + 1, 5, none⟩ = some (.int .i64 0) := cell_keep hb2 (by simp [go_sem])
    have q6 : w2.cell? ⟨w.heap.size + 1, 6, none⟩ = some (.int .i64 0) := cell_keep hb2 (by simp [go_sem])
    have q7 : w2.cell? ⟨w.heap.size + 1, 7, none⟩ = some (.int .i64 0) := cell_keep hb2 (by simp [go_sem])
    have q8 : w2.cell? ⟨w.heap.size + 1, 8, none⟩ = some (.slice none 0 0) := cell_keep hb2 (by simp [go_sem])
    have qf : ∀ o, w2.frozen? ⟨w.heap.size + 1, o, none⟩ = false := fun o => by rw [(bcell hb2).2 _ _ (by simp; try omega)]; simp [go_sem]
    have hs2 := hb2.size
    simp at hs2
    simp only [World.size_alloc] at ov
    clear hb2 hX
    have zz0 : w.heap.size < w2.heap.size := World.block_lt_of_cell? w2 _ y0
    have zz1 : w.heap.size + 1 < w2.heap.size := World.block_lt_of_cell? w2 _ q0
    by_cases h2 : b < d.pr
    · have HD : Hid (promD d b = errS 8) := promD_busy HF.out h1 h2
      go_wp2_with fail
      refine (promise_busy w2.heap.size d.pr b _ (by simp [go_sem]) h2).mono ?_
      rintro e w3 ⟨rfl, hw3⟩
      obtain rfl := hw3.symm
      go_wp2
      refine bodyPost_ret (v := .agg #[.int .i64 8, .int .i64 0, .int .i64 0, .int .i64 0, .int .i64 0, .int .i64 0, .int .i64 0, .int .i64 0, .slice none 0 0]) (by simp [results, Try.results53, go_sem, q0, q1, q2, q3, q4, q5, q6, q7, q8, qf, zz0, zz1]) rfl ?_
      rw [HD.out]
      refine ⟨_, _, rfl, sltR_nil _ _ 8 0 0 0 0 0 0 0, ?_⟩
      refine balloc ?_ _
      iterate 9 (refine bset ?_ (by simp) _)
      exact hB2
    · have HD : Hid (promD d b = ⟨0, d.lb, d.lv, ⟨d.con, d.sh, b, d.lb, d.lv, d.cast⟩⟩) := promD_ok HF.out h1 h2
      go_wp2_with fail
      refine (promise_ok w2.heap.size d.pr b _ (by simp [go_sem]) (by simp [go_sem]) (by omega)).mono ?_
      rintro e w3 ⟨rfl, hw3⟩
      have e3 : w3 = w2.alloc (.cells #[.int .i64 d.con, .int .i64 d.sh, .int .i64 b, .int .i64 d.lb, .int .i64 d.lv, .slice a2 d.cast.length c2] 60) := by rw [hw3]; simp [go_sem]
      clear hw3
      subst e3
      go_wp2
      refine bodyPost_ret (v := .agg #[.int .i64 0, .int .i64 d.lb, .int .i64 d.lv, .int .i64 d.con, .int .i64 d.sh, .int .i64 b, .int .i64 d.lb, .int .i64 d.lv, .slice a2 d.cast.length c2]) (by simp [results, Try.results53, go_sem, q0, q1, q2, q3, q4, q5, q6, q7, q8, qf, zz0, zz1]) rfl ?_
      rw [HD.out]
      refine ⟨_, fun b => F1 b, rfl, ?_, ?_⟩
      · refine ⟨.slice a2 d.cast.length c2, fun b => F1 b, rfl, ?_, fun b => Iff.rfl⟩
        refine ⟨.slice a2 d.cast.length c2, F1, rfl, ?_, fun b => Iff.rfl⟩
        refine votsR.base (base := w.heap.size + 1 + 1) ?_ (by omega)
        refine Rep.alloc _ ?_ _
        iterate 9 (refine Rep.set _ ?_ _ (by simp; try omega))
        exact ov
      · refine balloc ?_ _
        iterate 9 (refine bset ?_ (by simp) _)
        exact hB2
set_option maxRecDepth 100000 in
set_option maxHeartbeats 4000000 in
theorem answerV_u (x : Value) (d : Slt) (v0 : Vot) (w : World) (hx : sltR.V w x d) (hf : sltFault d = 0) :
    Calls Try.prog 53 #[x, .iface 52 (.agg #[.int .i64 v0.bal, .int .i64 v0.val])] w fun e w' => ∃ v F, e = .returned v ∧ sltRR.O w' w.heap.size F v (accD d v0.bal v0.val) ∧ Below w.heap.size w w' := by
  have hX := hx
  obtain ⟨u1, rfl, hx⟩ := hx
  obtain ⟨ax, cx, rfl⟩ := vots_form hx
  clear hx
  have hm := methV v0.bal v0.val
  have ht := taVP v0.bal v0.val
  have ht2 := taV v0.bal v0.val
  have hl := (sltOk_of hf).len
  have HF : Hid (sltFault d = 0) := hf
  clear hf
  go_enter Try.func53, Try.ntmps53
  go_wp2_with fail
  refine (isRightV_any v0 _).mono ?_
  rintro e w1 ⟨rfl, hb1⟩
  have hB1 : Below w.heap.size w w1 := bstep (by (repeat (first | exact Below.refl _ _ | assumption | refine Below.drew ?_ | refine balloc ?_ _ | refine bset ?_ (by simp; omega) _ | refine bset ?_ (by simp) _ | refine bstep ?_ (by assumption)))) hb1
  have y0 : w1.cell? ⟨w.heap.size, 0, none⟩ = some (.int .i64 d.con) := cell_keep hb1 (by simp [go_sem])
  have y1 : w1.cell? ⟨w.heap.size, 1, none⟩ = some (.int .i64 d.sh) := cell_keep hb1 (by simp [go_sem])
  have y2 : w1.cell? ⟨w.heap.size, 2, none⟩ = some (.int .i64 d.pr) := cell_keep hb1 (by simp [go_sem])
  have y3 : w1.cell? ⟨w.heap.size, 3, none⟩ = some (.int .i64 d.lb) := cell_keep hb1 (by simp [go_sem])
  have y4 : w1.cell? ⟨w.heap.size, 4, none⟩ = some (.int .i64 d.lv) := cell_keep hb1 (by simp [go_sem])
  have y5 : w1.cell? ⟨w.heap.size, 5, none⟩ = some (.slice ax d.cast.length cx) := cell_keep hb1 (by simp [go_sem])
  have yf : ∀ o, w1.frozen? ⟨w.heap.size, o, none⟩ = false := fun o => by rw [(bcell hb1).2 _ _ (by simp; try omega)]; simp [go_sem]
  have q0 : w1.cell? ⟨w.heap.size + 1, 0, none⟩ = some (.int .i64 0) := cell_keep hb1 (by simp [go_sem])
  have q1 : w1.cell? ⟨w.heap.size + 1, 1, none⟩ = some (.int .i64 0) := cell_keep hb1 (by simp [go_sem])
  have q2 : w1.cell? ⟨w.heap.size + 1, 2, none⟩ = some (.int .i64 0) := cell_keep hb1 (by simp [go_sem])
  have q3 : w1.cell? ⟨w.heap.size + 1, 3, none⟩ = some (.int .i64 0) := cell_keep hb1 (by simp [go_sem])
  have q4 : w1.cell? ⟨w.heap.size + 1, 4, none⟩ = some (.int .i64 0) := cell_keep hb1 (by simp [go_sem])
  have q5 : w1.cell? ⟨w.heap.size + 1, 5, none⟩ = some (.int .i64 0) := cell_keep hb1 (by simp [go_sem])
  have q6 : w1.cell? ⟨w.heap.size + 1, 6, none⟩ = some (.int .i64 0) := cell_keep hb1 (by simp [go_sem])
  have q7 : w1.cell? ⟨w.heap.size + 1, 7, none⟩ = some (.int .i64 0) := cell_keep hb1 (by simp [go_sem])
  have q8 : w1.cell? ⟨w.heap.size + 1, 8, none⟩ = some (.slice none 0 0) := cell_keep hb1 (by simp [go_sem])
  have qf : ∀ o, w1.frozen? ⟨w.heap.size + 1, o, none⟩ = false := fun o => by rw [(bcell hb1).2 _ _ (by simp; try omega)]; simp [go_sem]
  have hs1 := hb1.size
  simp at hs1
  clear hb1
  cases h1 : votB v0
  · have HD : Hid (accD d v0.bal v0.val = errS 3) := accD_range HF.out h1
    go_wp2
    refine bodyPost_ret (v := .agg #[.int .i64 3, .int .i64 0, .int .i64 0, .int .i64 0, .int .i64 0, .int .i64 0, .int .i64 0, .int .i64 0, .slice none 0 0]) (by simp [results, Try.results53, go_sem, q0, q1, q2, q3, q4, q5, q6, q7, q8, qf]) rfl ?_
    rw [HD.out]
    refine ⟨_, _, rfl, sltR_nil _ _ 3 0 0 0 0 0 0 0, ?_⟩
    iterate 9 (refine bset ?_ (by simp) _)
    exact hB1
  go_wp2_with fail
  refine (copied8_u _ d _ (sltR.below hX hB1) (by omega)).mono ?_
  rintro e w2 ⟨v2, F2, rfl, o2, hb2⟩
  obtain ⟨u2, F1, rfl, ov, hF⟩ := o2
  obtain ⟨a2, c2, rfl⟩ := vots_form (votsR.ofO ov)
  clear hF
  have hB2 : Below w.heap.size w w2 := bstep hB1 hb2
  replace y0 := cell_keep hb2 y0
  replace y1 := cell_keep hb2 y1
  replace y2 := cell_keep hb2 y2
  replace y3 := cell_keep hb2 y3
  replace y4 := cell_keep hb2 y4
  replace y5 := cell_keep hb2 y5
  replace q0 := cell_keep hb2 q0
  replace q1 := cell_keep hb2 q1
  replace q2 := cell_keep hb2 q2
  replace q3 := cell_keep hb2 q3
  replace q4 := cell_keep hb2 q4
  replace q5 := cell_keep hb2 q5
  replace q6 := cell_keep hb2 q6
  replace q7 := cell_keep hb2 q7
  replace q8 := cell_keep hb2 q8
  replace qf : ∀ o, w2.frozen? ⟨w.heap.size + 1, o, none⟩ = false := fun o => by rw [(bcell hb2).2 _ _ (by omega)]; exact qf o
  have hs2 := hb2.size
  clear hb2 hX hB1 yf
  have zz0 : w.heap.size < w2.heap.size := World.block_lt_of_cell? w2 _ y0
  have zz1 : w.heap.size + 1 < w2.heap.size := World.block_lt_of_cell? w2 _ q0
  have hFB : ¬ F1 w2.heap.size := fun h => by have := (votsR.rng ov _ h).2; omega
  go_wp2_with fail
  have hAcc := fun W h0 h1 h2 h3 h4 h5 h6 hh => accept_any w2.heap.size w1.heap.size d v0 a2 c2 F1 #[.int .i64 d.con, .int .i64 d.sh, .int .i64 d.pr, .int .i64 d.lb, .int .i64 d.lv, .slice a2 d.cast.length c2] W h0 h1 h2 h3 h4 h5 h6 hh
  refine (hAcc _ ⟨by simp [go_sem], by simp [go_sem], by simp [go_sem], by simp [go_sem], by simp [go_sem], by simp [go_sem]⟩ (by simp [go_sem]) (heap_new2 _ _ _) (votsR.alloc (votsR.alloc ov _) _) hFB (by omega) (by simp; omega) hl).mono ?_
  rintro e w3 ⟨rfl, hb3, h3⟩
  have hB3 : Below w.heap.size w w3 := Below.trans (balloc (balloc hB2 _) _) (hb3.mono (by omega))
  replace y3 := (hb3.cell (p := ⟨w.heap.size, 3, none⟩) (by simp; omega)).trans (cell_keep (balloc (balloc (Below.refl _ w2) _) _) y3)
  replace y4 := (hb3.cell (p := ⟨w.heap.size, 4, none⟩) (by simp; omega)).trans (cell_keep (balloc (balloc (Below.refl _ w2) _) _) y4)
  replace q0 := (hb3.cell (p := ⟨w.heap.size + 1, 0, none⟩) (by simp; omega)).trans (cell_keep (balloc (balloc (Below.refl _ w2) _) _) q0)
  replace q1 := (hb3.cell (p := ⟨w.heap.size + 1, 1, none⟩) (by simp; omega)).trans (cell_keep (balloc (balloc (Below.refl _ w2) _) _) q1)
  replace q2 := (hb3.cell (p := ⟨w.heap.size + 1, 2, none⟩) (by simp; omega)).trans (cell_keep (balloc (balloc (Below.refl _ w2) _) _) q2)
  replace q3 := (hb3.cell (p := ⟨w.heap.size + 1, 3, none⟩) (by simp; omega)).trans (cell_keep (balloc (balloc (Below.refl _ w2) _) _) q3)
  replace q4 := (hb3.cell (p := ⟨w.heap.size + 1, 4, none⟩) (by simp; omega)).trans (cell_keep (balloc (balloc (Below.refl _ w2) _) _) q4)
  replace q5 := (hb3.cell (p := ⟨w.heap.size + 1, 5, none⟩) (by simp; omega)).trans (cell_keep (balloc (balloc (Below.refl _ w2) _) _) q5)
  replace q6 := (hb3.cell (p := ⟨w.heap.size + 1, 6, none⟩) (by simp; omega)).trans (cell_keep (balloc (balloc (Below.refl _ w2) _) _) q6)
  replace q7 := (hb3.cell (p := ⟨w.heap.size + 1, 7, none⟩) (by simp; omega)).trans (cell_keep (balloc (balloc (Below.refl _ w2) _) _) q7)
  replace q8 := (hb3.cell (p := ⟨w.heap.size + 1, 8, none⟩) (by simp; omega)).trans (cell_keep (balloc (balloc (Below.refl _ w2) _) _) q8)
  replace qf : ∀ o, w3.frozen? ⟨w.heap.size + 1, o, none⟩ = false := fun o => (hb3.frozen (p := ⟨w.heap.size + 1, o, none⟩) (by simp; omega)).trans (((bcell (balloc (balloc (Below.refl _ w2) _) _)).2 _ _ zz1).trans (qf o))
  clear hb3 hB2 ov hAcc zz0 zz1 y0 y1 y2 y5
  by_cases hc : accC d v0 = 0
  · have HD : Hid (accD d v0.bal v0.val = ⟨0, d.lb, d.lv, accS d v0⟩) := accD_ok HF.out h1 hc
    obtain ⟨a5, n5, c5, F5, ⟨b0, b1, b2, b3, b4, b5⟩, o5⟩ := h3 hc
    rw [hc]
    clear hc h3
    generalize accS d v0 = s at *
    go_wp2
    refine bodyPost_ret (v := .agg #[.int .i64 0, .int .i64 d.lb, .int .i64 d.lv, .int .i64 s.con, .int .i64 s.sh, .int .i64 s.pr, .int .i64 s.lb, .int .i64 s.lv, .slice a5 n5 c5]) (by simp [results, Try.results53, go_sem, q0, q1, q2, q3, q4, q5, q6, q7, q8, qf]) rfl ?_
    rw [HD.out]
    refine ⟨_, fun b => F5 b, rfl, ?_, ?_⟩
    · refine ⟨.slice a5 n5 c5, fun b => F5 b, rfl, ?_, fun b => Iff.rfl⟩
      refine ⟨.slice a5 n5 c5, F5, rfl, ?_, fun b => Iff.rfl⟩
      refine votsR.base (base := w1.heap.size) ?_ (by omega)
      iterate 9 (refine Rep.set _ ?_ _ (by simp; omega))
      exact o5
    · iterate 9 (refine bset ?_ (by simp) _)
      exact hB3
  · have HD : Hid (accD d v0.bal v0.val = errS (accC d v0)) := accD_code HF.out h1 hc
    generalize accC d v0 = c at *
    clear h3
    go_wp2
    refine bodyPost_ret (v := .agg #[.int .i64 c, .int .i64 0, .int .i64 0, .int .i64 0, .int .i64 0, .int .i64 0, .int .i64 0, .int .i64 0, .slice none 0 0]) (by simp [results, Try.results53, go_sem, q0, q1, q2, q3, q4, q5, q6, q7, q8, qf]) rfl ?_
    rw [HD.out]
    refine ⟨_, _, rfl, sltR_nil _ _ c 0 0 0 0 0 0 0, ?_⟩
    iterate 9 (refine bset ?_ (by simp) _)
    exact hB3
set_option maxRecDepth 100000 in
set_option maxHeartbeats 2000000 in
theorem implProm_u (x : Value) (d : Slt) (b : Int) (w : World) (hx : sltR.V w x d) :
    Calls Try.prog 6 #[x, .int .i64 b] w fun e w' => ∃ v F, e = .returned v ∧ sltRR.O w' w.heap.size F v (promD d b) ∧ Below w.heap.size w w' := by
  have hX := hx
  obtain ⟨u1, rfl, hx⟩ := hx
  obtain ⟨ax, cx, rfl⟩ := vots_form hx
  clear hx
  have hm := methR d.con d.sh d.pr d.lb d.lv ax d.cast.length cx
  have hm2 := methF (sltFault d)
  by_cases hf : sltFault d = 0
  · go_enter Try.func6, Try.ntmps6
    go_wp2_with fail
    refine (voterOf_right _ d _ (sltR.below hX (by (repeat (first | exact Below.refl _ _ | assumption | refine Below.drew ?_ | refine balloc ?_ _ | refine bset ?_ (by simp; omega) _ | refine bset ?_ (by simp) _ | refine bstep ?_ (by assumption))))) hf).mono ?_
    rintro e w1 ⟨rfl, hb1⟩
    have hB1 : Below w.heap.size w w1 := bstep (by (repeat (first | exact Below.refl _ _ | assumption | refine Below.drew ?_ | refine balloc ?_ _ | refine bset ?_ (by simp; omega) _ | refine bset ?_ (by simp) _ | refine bstep ?_ (by assumption)))) hb1
    have q0 : w1.cell? ⟨w.heap.size + 1, 0, none⟩ = some (.int .i64 0) := cell_keep hb1 (by simp [go_sem])
    have q1 : w1.cell? ⟨w.heap.size + 1, 1, none⟩ = some (.int .i64 0) := cell_keep hb1 (by simp [go_sem])
    have q2 : w1.cell? ⟨w.heap.size + 1, 2, none⟩ = some (.int .i64 0) := cell_keep hb1 (by simp [go_sem])
    have q3 : w1.cell? ⟨w.heap.size + 1, 3, none⟩ = some (.int .i64 0) := cell_keep hb1 (by simp [go_sem])
    have q4 : w1.cell? ⟨w.heap.size + 1, 4, none⟩ = some (.int .i64 0) := cell_keep hb1 (by simp [go_sem])
    have q5 : w1.cell? ⟨w.heap.size + 1, 5, none⟩ = some (.int .i64 0) := cell_keep hb1 (by simp [go_sem])
    have q6 : w1.cell? ⟨w.heap.size + 1, 6, none⟩ = some (.int .i64 0) := cell_keep hb1 (by simp [go_sem])
    have q7 : w1.cell? ⟨w.heap.size + 1, 7, none⟩ = some (.int .i64 0) := cell_keep hb1 (by simp [go_sem])
    have q8 : w1.cell? ⟨w.heap.size + 1, 8, none⟩ = some (.slice none 0 0) := cell_keep hb1 (by simp [go_sem])
    have qf : ∀ o, w1.frozen? ⟨w.heap.size + 1, o, none⟩ = false := fun o => by rw [(bcell hb1).2 _ _ (by simp; try omega)]; simp [go_sem]
    have hs1 := hb1.size
    simp at hs1
    clear hb1
    go_wp2_with fail
    refine (answerP_u _ d b _ (sltR.below hX hB1) hf).mono ?_
    rintro e w2 ⟨v2, F2, rfl, o2, hb2⟩
    have hB2 : Below w.heap.size w w2 := bstep hB1 hb2
    obtain ⟨u2, F1, rfl, os, hF⟩ := o2
    obtain ⟨u3, F3, e3, ov, hF3⟩ := os
    simp only [Value.agg.injEq, Array.mk.injEq, List.cons.injEq, and_true, true_and] at e3
    obtain rfl := e3
    obtain ⟨a2, c2, rfl⟩ := vots_form (votsR.ofO ov)
    replace q0 := cell_keep hb2 q0
    replace q1 := cell_keep hb2 q1
    replace q2 := cell_keep hb2 q2
    replace q3 := cell_keep hb2 q3
    replace q4 := cell_keep hb2 q4
    replace q5 := cell_keep hb2 q5
    replace q6 := cell_keep hb2 q6
    replace q7 := cell_keep hb2 q7
    replace q8 := cell_keep hb2 q8
    replace qf : ∀ o, w2.frozen? ⟨w.heap.size + 1, o, none⟩ = false := fun o => by rw [(bcell hb2).2 _ _ (by omega)]; exact qf o
    have hs2 := hb2.size
    clear hb2 hF hF3 hX hB1
    go_wp2
    refine bodyPost_ret (v := .agg #[.int .i64 (promD d b).code, .int .i64 (promD d b).ob, .int .i64 (promD d b).ov, .int .i64 (promD d b).slot.con, .int .i64 (promD d b).slot.sh, .int .i64 (promD d b).slot.pr, .int .i64 (promD d b).slot.lb, .int .i64 (promD d b).slot.lv, .slice a2 (promD d b).slot.cast.length c2]) (by simp [results, Try.results6, go_sem, q0, q1, q2, q3, q4, q5, q6, q7, q8, qf]) rfl ?_
    refine ⟨_, fun b => F3 b, rfl, ?_, ?_⟩
    · refine ⟨.slice a2 (promD d b).slot.cast.length c2, fun b => F3 b, rfl, ?_, fun b => Iff.rfl⟩
      refine ⟨.slice a2 (promD d b).slot.cast.length c2, F3, rfl, ?_, fun b => Iff.rfl⟩
      refine votsR.base (base := w1.heap.size) ?_ (by omega)
      iterate 9 (refine Rep.set _ ?_ _ (by simp; omega))
      exact ov
    · iterate 9 (refine bset ?_ (by simp) _)
      exact hB2
  · go_enter Try.func6, Try.ntmps6
    have HF : Hid (promD d b = errS (sltFault d)) := promD_fault hf
    go_wp2_with fail
    refine (voterOf_faulty _ d _ (sltR.below hX (by (repeat (first | exact Below.refl _ _ | assumption | refine Below.drew ?_ | refine balloc ?_ _ | refine bset ?_ (by simp; omega) _ | refine bset ?_ (by simp) _ | refine bstep ?_ (by assumption))))) hf).mono ?_
    rintro e w1 ⟨rfl, hb1⟩
    have hB1 : Below w.heap.size w w1 := bstep (by (repeat (first | exact Below.refl _ _ | assumption | refine Below.drew ?_ | refine balloc ?_ _ | refine bset ?_ (by simp; omega) _ | refine bset ?_ (by simp) _ | refine bstep ?_ (by assumption)))) hb1
    have q0 : w1.cell? ⟨w.heap.size + 1, 0, none⟩ = some (.int .i64 0) := cell_keep hb1 (by simp [go_sem])
    have q1 : w1.cell? ⟨w.heap.size + 1, 1, none⟩ = some (.int .i64 0) := cell_keep hb1 (by simp [go_sem])
    have q2 : w1.cell? ⟨w.heap.size + 1, 2, none⟩ = some (.int .i64 0) := cell_keep hb1 (by simp [go_sem])
    have q3 : w1.cell? ⟨w.heap.size + 1, 3, none⟩ = some (.int .i64 0) := cell_keep hb1 (by simp [go_sem])
    have q4 : w1.cell? ⟨w.heap.size + 1, 4, none⟩ = some (.int .i64 0) := cell_keep hb1 (by simp [go_sem])
    have q5 : w1.cell? ⟨w.heap.size + 1, 5, none⟩ = some (.int .i64 0) := cell_keep hb1 (by simp [go_sem])
    have q6 : w1.cell? ⟨w.heap.size + 1, 6, none⟩ = some (.int .i64 0) := cell_keep hb1 (by simp [go_sem])
    have q7 : w1.cell? ⟨w.heap.size + 1, 7, none⟩ = some (.int .i64 0) := cell_keep hb1 (by simp [go_sem])
    have q8 : w1.cell? ⟨w.heap.size + 1, 8, none⟩ = some (.slice none 0 0) := cell_keep hb1 (by simp [go_sem])
    have qf : ∀ o, w1.frozen? ⟨w.heap.size + 1, o, none⟩ = false := fun o => by rw [(bcell hb1).2 _ _ (by simp; try omega)]; simp [go_sem]
    have hs1 := hb1.size
    simp at hs1
    clear hb1
    go_wp2_with fail
    refine (faulty_u (sltFault d) _ _).mono ?_
    rintro e w2 ⟨v2, F2, rfl, o2, hb2⟩
    rw [← HF.out] at o2
    have hB2 : Below w.heap.size w w2 := bstep hB1 hb2
    obtain ⟨u2, F1, rfl, os, hF⟩ := o2
    obtain ⟨u3, F3, e3, ov, hF3⟩ := os
    simp only [Value.agg.injEq, Array.mk.injEq, List.cons.injEq, and_true, true_and] at e3
    obtain rfl := e3
    obtain ⟨a2, c2, rfl⟩ := vots_form (votsR.ofO ov)
    replace q0 := cell_keep hb2 q0
    replace q1 := cell_keep hb2 q1
    replace q2 := cell_keep hb2 q2
    replace q3 := cell_keep hb2 q3
    replace q4 := cell_keep hb2 q4
    replace q5 := cell_keep hb2 q5
    replace q6 := cell_keep hb2 q6
    replace q7 := cell_keep hb2 q7
    replace q8 := cell_keep hb2 q8
    replace qf : ∀ o, w2.frozen? ⟨w.heap.size + 1, o, none⟩ = false := fun o => by rw [(bcell hb2).2 _ _ (by omega)]; exact qf o
    have hs2 := hb2.size
    clear hb2 hF hF3 hX hB1
    go_wp2
    refine bodyPost_ret (v := .agg #[.int .i64 (promD d b).code, .int .i64 (promD d b).ob, .int .i64 (promD d b).ov, .int .i64 (promD d b).slot.con, .int .i64 (promD d b).slot.sh, .int .i64 (promD d b).slot.pr, .int .i64 (promD d b).slot.lb, .int .i64 (promD d b).slot.lv, .slice a2 (promD d b).slot.cast.length c2]) (by simp [results, Try.results6, go_sem, q0, q1, q2, q3, q4, q5, q6, q7, q8, qf]) rfl ?_
    refine ⟨_, fun b => F3 b, rfl, ?_, ?_⟩
    · refine ⟨.slice a2 (promD d b).slot.cast.length c2, fun b => F3 b, rfl, ?_, fun b => Iff.rfl⟩
      refine ⟨.slice a2 (promD d b).slot.cast.length c2, F3, rfl, ?_, fun b => Iff.rfl⟩
      refine votsR.base (base := w1.heap.size) ?_ (by omega)
      iterate 9 (refine Rep.set _ ?_ _ (by simp; omega))
      exact ov
    · iterate 9 (refine bset ?_ (by simp) _)
      exact hB2
set_option maxRecDepth 100000 in
set_option maxHeartbeats 2000000 in
theorem implAcc_u (x : Value) (d : Slt) (b vl : Int) (w : World) (hx : sltR.V w x d) :
    Calls Try.prog 9 #[x, .int .i64 b, .int .i64 vl] w fun e w' => ∃ v F, e = .returned v ∧ sltRR.O w' w.heap.size F v (accD d b vl) ∧ Below w.heap.size w w' := by
  have hX := hx
  obtain ⟨u1, rfl, hx⟩ := hx
  obtain ⟨ax, cx, rfl⟩ := vots_form hx
  clear hx
  have hm := methR d.con d.sh d.pr d.lb d.lv ax d.cast.length cx
  have hm2 := methF (sltFault d)
  by_cases hf : sltFault d = 0
  · go_enter Try.func9, Try.ntmps9
    go_wp2_with fail
    refine (voterOf_right _ d _ (sltR.below hX (by (repeat (first | exact Below.refl _ _ | assumption | refine Below.drew ?_ | refine balloc ?_ _ | refine bset ?_ (by simp; omega) _ | refine bset ?_ (by simp) _ | refine bstep ?_ (by assumption))))) hf).mono ?_
    rintro e w1 ⟨rfl, hb1⟩
    have hB1 : Below w.heap.size w w1 := bstep (by (repeat (first | exact Below.refl _ _ | assumption | refine Below.drew ?_ | refine balloc ?_ _ | refine bset ?_ (by simp; omega) _ | refine bset ?_ (by simp) _ | refine bstep ?_ (by assumption)))) hb1
    have q0 : w1.cell? ⟨w.heap.size + 1, 0, none⟩ = some (.int .i64 0) := cell_keep hb1 (by simp [go_sem])
    have q1 : w1.cell? ⟨w.heap.size + 1, 1, none⟩ = some (.int .i64 0) := cell_keep hb1 (by simp [go_sem])
    have q2 : w1.cell? ⟨w.heap.size + 1, 2, none⟩ = some (.int .i64 0) := cell_keep hb1 (by simp [go_sem])
    have q3 : w1.cell? ⟨w.heap.size + 1, 3, none⟩ = some (.int .i64 0) := cell_keep hb1 (by simp [go_sem])
    have q4 : w1.cell? ⟨w.heap.size + 1, 4, none⟩ = some (.int .i64 0) := cell_keep hb1 (by simp [go_sem])
    have q5 : w1.cell? ⟨w.heap.size + 1, 5, none⟩ = some (.int .i64 0) := cell_keep hb1 (by simp [go_sem])
    have q6 : w1.cell? ⟨w.heap.size + 1, 6, none⟩ = some (.int .i64 0) := cell_keep hb1 (by simp [go_sem])
    have q7 : w1.cell? ⟨w.heap.size + 1, 7, none⟩ = some (.int .i64 0) := cell_keep hb1 (by simp [go_sem])
    have q8 : w1.cell? ⟨w.heap.size + 1, 8, none⟩ = some (.slice none 0 0) := cell_keep hb1 (by simp [go_sem])
    have qf : ∀ o, w1.frozen? ⟨w.heap.size + 1, o, none⟩ = false := fun o => by rw [(bcell hb1).2 _ _ (by simp; try omega)]; simp [go_sem]
    have hs1 := hb1.size
    simp at hs1
    clear hb1
    go_wp2_with fail
    refine (answerV_u _ d ⟨b, vl⟩ _ (sltR.below hX hB1) hf).mono ?_
    rintro e w2 ⟨v2, F2, rfl, o2, hb2⟩
    have hB2 : Below w.heap.size w w2 := bstep hB1 hb2
    obtain ⟨u2, F1, rfl, os, hF⟩ := o2
    obtain ⟨u3, F3, e3, ov, hF3⟩ := os
    simp only [Value.agg.injEq, Array.mk.injEq, List.cons.injEq, and_true, true_and] at e3
    obtain rfl := e3
    obtain ⟨a2, c2, rfl⟩ := vots_form (votsR.ofO ov)
    replace q0 := cell_keep hb2 q0
    replace q1 := cell_keep hb2 q1
    replace q2 := cell_keep hb2 q2
    replace q3 := cell_keep hb2 q3
    replace q4 := cell_keep hb2 q4
    replace q5 := cell_keep hb2 q5
    replace q6 := cell_keep hb2 q6
    replace q7 := cell_keep hb2 q7
    replace q8 := cell_keep hb2 q8
    replace qf : ∀ o, w2.frozen? ⟨w.heap.size + 1, o, none⟩ = false := fun o => by rw [(bcell hb2).2 _ _ (by omega)]; exact qf o
    have hs2 := hb2.size
    clear hb2 hF hF3 hX hB1
    go_wp2
    refine bodyPost_ret (v := .agg #[.int .i64 (accD d b vl).code, .int .i64 (accD d b vl).ob, .int .i64 (accD d b vl).ov, .int .i64 (accD d b vl).slot.con, .int .i64 (accD d b vl).slot.sh, .int .i64 (accD d b vl).slot.pr, .int .i64 (accD d b vl).slot.lb, .int .i64 (accD d b vl).slot.lv, .slice a2 (accD d b vl).slot.cast.length c2]) (by simp [results, Try.results9, go_sem, q0, q1, q2, q3, q4, q5, q6, q7, q8, qf]) rfl ?_
    refine ⟨_, fun b => F3 b, rfl, ?_, ?_⟩
    · refine ⟨.slice a2 (accD d b vl).slot.cast.length c2, fun b => F3 b, rfl, ?_, fun b => Iff.rfl⟩
      refine ⟨.slice a2 (accD d b vl).slot.cast.length c2, F3, rfl, ?_, fun b => Iff.rfl⟩
      refine votsR.base (base := w1.heap.size) ?_ (by omega)
      iterate 9 (refine Rep.set _ ?_ _ (by simp; omega))
      exact ov
    · iterate 9 (refine bset ?_ (by simp) _)
      exact hB2
  · go_enter Try.func9, Try.ntmps9
    have HF : Hid (accD d b vl = errS (sltFault d)) := accD_fault hf
    go_wp2_with fail
    refine (voterOf_faulty _ d _ (sltR.below hX (by (repeat (first | exact Below.refl _ _ | assumption | refine Below.drew ?_ | refine balloc ?_ _ | refine bset ?_ (by simp; omega) _ | refine bset ?_ (by simp) _ | refine bstep ?_ (by assumption))))) hf).mono ?_
    rintro e w1 ⟨rfl, hb1⟩
    have hB1 : Below w.heap.size w w1 := bstep (by (repeat (first | exact Below.refl _ _ | assumption | refine Below.drew ?_ | refine balloc ?_ _ | refine bset ?_ (by simp; omega) _ | refine bset ?_ (by simp) _ | refine bstep ?_ (by assumption)))) hb1
    have q0 : w1.cell? ⟨w.heap.size + 1, 0, none⟩ = some (.int .i64 0) := cell_keep hb1 (by simp [go_sem])
    have q1 : w1.cell? ⟨w.heap.size + 1, 1, none⟩ = some (.int .i64 0) := cell_keep hb1 (by simp [go_sem])
    have q2 : w1.cell? ⟨w.heap.size + 1, 2, none⟩ = some (.int .i64 0) := cell_keep hb1 (by simp [go_sem])
    have q3 : w1.cell? ⟨w.heap.size + 1, 3, none⟩ = some (.int .i64 0) := cell_keep hb1 (by simp [go_sem])
    have q4 : w1.cell? ⟨w.heap.size + 1, 4, none⟩ = some (.int .i64 0) := cell_keep hb1 (by simp [go_sem])
    have q5 : w1.cell? ⟨w.heap.size + 1, 5, none⟩ = some (.int .i64 0) := cell_keep hb1 (by simp [go_sem])
    have q6 : w1.cell? ⟨w.heap.size + 1, 6, none⟩ = some (.int .i64 0) := cell_keep hb1 (by simp [go_sem])
    have q7 : w1.cell? ⟨w.heap.size + 1, 7, none⟩ = some (.int .i64 0) := cell_keep hb1 (by simp [go_sem])
    have q8 : w1.cell? ⟨w.heap.size + 1, 8, none⟩ = some (.slice none 0 0) := cell_keep hb1 (by simp [go_sem])
    have qf : ∀ o, w1.frozen? ⟨w.heap.size + 1, o, none⟩ = false := fun o => by rw [(bcell hb1).2 _ _ (by simp; try omega)]; simp [go_sem]
    have hs1 := hb1.size
    simp at hs1
    clear hb1
    go_wp2_with fail
    refine (faulty_u (sltFault d) _ _).mono ?_
    rintro e w2 ⟨v2, F2, rfl, o2, hb2⟩
    rw [← HF.out] at o2
    have hB2 : Below w.heap.size w w2 := bstep hB1 hb2
    obtain ⟨u2, F1, rfl, os, hF⟩ := o2
    obtain ⟨u3, F3, e3, ov, hF3⟩ := os
    simp only [Value.agg.injEq, Array.mk.injEq, List.cons.injEq, and_true, true_and] at e3
    obtain rfl := e3
    obtain ⟨a2, c2, rfl⟩ := vots_form (votsR.ofO ov)
    replace q0 := cell_keep hb2 q0
    replace q1 := cell_keep hb2 q1
    replace q2 := cell_keep hb2 q2
    replace q3 := cell_keep hb2 q3
    replace q4 := cell_keep hb2 q4
    replace q5 := cell_keep hb2 q5
    replace q6 := cell_keep hb2 q6
    replace q7 := cell_keep hb2 q7
    replace q8 := cell_keep hb2 q8
    replace qf : ∀ o, w2.frozen? ⟨w.heap.size + 1, o, none⟩ = false := fun o => by rw [(bcell hb2).2 _ _ (by omega)]; exact qf o
    have hs2 := hb2.size
    clear hb2 hF hF3 hX hB1
    go_wp2
    refine bodyPost_ret (v := .agg #[.int .i64 (accD d b vl).code, .int .i64 (accD d b vl).ob, .int .i64 (accD d b vl).ov, .int .i64 (accD d b vl).slot.con, .int .i64 (accD d b vl).slot.sh, .int .i64 (accD d b vl).slot.pr, .int .i64 (accD d b vl).slot.lb, .int .i64 (accD d b vl).slot.lv, .slice a2 (accD d b vl).slot.cast.length c2]) (by simp [results, Try.results9, go_sem, q0, q1, q2, q3, q4, q5, q6, q7, q8, qf]) rfl ?_
    refine ⟨_, fun b => F3 b, rfl, ?_, ?_⟩
    · refine ⟨.slice a2 (accD d b vl).slot.cast.length c2, fun b => F3 b, rfl, ?_, fun b => Iff.rfl⟩
      refine ⟨.slice a2 (accD d b vl).slot.cast.length c2, F3, rfl, ?_, fun b => Iff.rfl⟩
      refine votsR.base (base := w1.heap.size) ?_ (by omega)
      iterate 9 (refine Rep.set _ ?_ _ (by simp; omega))
      exact ov
    · iterate 9 (refine bset ?_ (by simp) _)
      exact hB2
end Go.Proofs.Ytjhmdnlkpkagiaa

/-
  A slot promises and accepts: mathematics, and calls of which the code is asked.
-/
set_option linter.unusedVariables false
set_option linter.unusedSimpArgs false
namespace Go.Proofs.Ytjhmdnlkpkagiaa
open Go.RowKit
set_option linter.unusedSectionVars false
variable [DecidableEq Vot] [Inhabited Vot] [DecidableEq Slt] [Inhabited Slt] [DecidableEq SltR] [Inhabited SltR] [DecidableEq Bal] [Inhabited Bal] [DecidableEq Ledg] [Inhabited Ledg] [DecidableEq Leg] [Inhabited Leg] [DecidableEq Acc] [Inhabited Acc] [DecidableEq AccR] [Inhabited AccR] [DecidableEq AccsR] [Inhabited AccsR] [DecidableEq SltsR] [Inhabited SltsR] [DecidableEq Logg] [Inhabited Logg] [DecidableEq LoggR] [Inhabited LoggR] [DecidableEq BytesR] [Inhabited BytesR] [DecidableEq RecsR] [Inhabited RecsR]
attribute [local go_sem ↓] Go.wp_at_zero Go.wp_at_succ

theorem sltF_okP {s : Slt} (h : SltOk s) : sltFault s = 0 := by
  rw [sltF_end h.range h.len (scanI_of fun k hk => votAt_ok (h.at_ k hk).1 (h.at_ k hk).2), if_pos ⟨h.last, h.pr⟩]
theorem promD_fineP {d : Slt} {b : Int} (h : (promD d b).code = 0) : sltFault (promD d b).slot = 0 ∧ (promD d b).slot.con = d.con ∧ (promD d b).slot.sh = d.sh ∧ (promD d b).slot.cast = d.cast ∧ (promD d b).slot.pr = b ∧ d.pr ≤ b ∧ sltFault d = 0 := by
  by_cases hf : sltFault d = 0
  · cases hb : inB b 0 1000 with
    | false => rw [promD_range hf hb] at h; simp [errS] at h
    | true =>
      by_cases hl : b < d.pr
      · rw [promD_busy hf hb hl] at h; simp [errS] at h
      · rw [promD_ok hf hb hl]
        have ok := sltOk_of hf
        have hr := sltRange_iff.1 ok.range
        have hb' := inBi.1 hb
        have hp := ok.pr
        refine ⟨sltF_okP ⟨sltRange_iff.2 ⟨hr.1, by dsimp only; omega⟩, ok.len, ok.at_, ok.last, by dsimp only; omega⟩, rfl, rfl, rfl, rfl, by omega, hf⟩
  · rw [promD_fault hf] at h
    exact absurd h hf
theorem accS_fineP {d : Slt} {v : Vot} (hf : sltFault d = 0) (hv : votB v = true) (hc : accC d v = 0) : sltFault (accS d v) = 0 := by
  have ok := sltOk_of hf
  have hr := sltRange_iff.1 ok.range
  have hv' := votB_iff.1 hv
  by_cases h1 : v.bal < d.pr
  · rw [accC_busy h1] at hc; omega
  by_cases h2 : v.bal = d.lb
  · by_cases h3 : v.val = d.lv
    · rw [accS_same h2 h3]
      exact sltF_okP ⟨sltRange_iff.2 ⟨hr.1, by dsimp only; omega⟩, ok.len, ok.at_, ⟨h2.trans ok.last.1, h3.trans ok.last.2⟩, Int.le_refl _⟩
    · rw [accC_taken h1 h2 h3] at hc; omega
  · by_cases h4 : 60 ≤ d.cast.length
    · rw [accC_many h1 h2 h4] at hc; omega
    · rw [accS_new h2]
      have hp := ok.pr
      have hl : lastV (d.cast ++ [v]) (d.cast ++ [v]).length = v := by
        rw [List.length_append, List.length_singleton, lastV_succ]
        simp
      have hk' : ∀ k, k ≤ d.cast.length → lastV (d.cast ++ [v]) k = lastV d.cast k := fun k hk => by
        cases k with
        | zero => rfl
        | succ k => rw [lastV_succ, lastV_succ]; simp [List.getElem?_append_left (show k < d.cast.length by omega)]
      refine sltF_okP ⟨sltRange_iff.2 ⟨hr.1, by dsimp only; omega⟩, by simp; omega, fun k hk => ?_, by dsimp only; rw [hl]; exact ⟨rfl, rfl⟩, Int.le_refl _⟩
      dsimp only at hk ⊢
      rw [List.length_append, List.length_singleton] at hk
      rw [hk' k (by omega)]
      by_cases hkn : k < d.cast.length
      · have e : (d.cast ++ [v]).getD k default = d.cast.getD k default := by simp [List.getElem?_append_left hkn]
        rw [e]
        exact ok.at_ k hkn
      · obtain rfl : k = d.cast.length := by omega
        have e : (d.cast ++ [v]).getD d.cast.length default = v := by simp
        rw [e]
        refine ⟨hv, ?_⟩
        have h5 := ok.last.1
        unfold other
        rw [decide_eq_false (by omega), decide_eq_false (by omega)]
        rfl
theorem codeField (a b c d e f g h : Int) (p : Option Addr) (n q : Nat) (w : World) : (Instr.field 32 (.agg #[.int .i64 a, .int .i64 b, .int .i64 c, .int .i64 d, .int .i64 e, .int .i64 f, .int .i64 g, .int .i64 h, .slice p n q]) 0).run Try.prog w = .ok (.int .i64 a) w := by kernel_rfl
theorem promD_zero {d : Slt} {b : Int} (h : (promD d b).code = 0) : promD d b = ⟨0, d.lb, d.lv, ⟨d.con, d.sh, b, d.lb, d.lv, d.cast⟩⟩ ∧ sltFault ⟨d.con, d.sh, b, d.lb, d.lv, d.cast⟩ = 0 ∧ 0 ≤ b ∧ b ≤ 1000 := by
  have h1 := promD_fineP h
  have hf := h1.2.2.2.2.2.2
  cases hb : inB b 0 1000 with
  | false => rw [promD_range hf hb] at h; simp [errS] at h
  | true =>
    have hb' := inBi.1 hb
    have hl : ¬ b < d.pr := by have := h1.2.2.2.2.2.1; omega
    have e := promD_ok hf hb hl
    have h2 := h1.1
    rw [e] at h2
    exact ⟨e, h2, hb'.1, hb'.2⟩
theorem accD_busyP {d : Slt} {b : Int} (hf : sltFault d = 0) (h0 : 0 ≤ b) (h1 : b ≤ 1000) (hb : b < d.pr) : (accD d b 1).code = 8 := by
  have hc : accC d ⟨b, 1⟩ = 8 := accC_busy hb
  rw [accD_code hf (by simp [inBi, h0, h1]) (by rw [hc]; omega), hc]
  rfl
theorem accD_zero {d : Slt} {b : Int} (hf : sltFault d = 0) (h0 : 0 ≤ b) (h1 : b ≤ 1000) (h : (accD d b 2).code = 0) :
    ∃ cs, accD d b 2 = ⟨0, d.lb, d.lv, ⟨d.con, d.sh, b, b, 2, cs⟩⟩ ∧ sltFault ⟨d.con, d.sh, b, b, 2, cs⟩ = 0 ∧ (accD ⟨d.con, d.sh, b, b, 2, cs⟩ b 1).code = 7 ∧ (accD ⟨d.con, d.sh, b, b, 2, cs⟩ b 2).code = 0 := by
  have hr : ∀ v : Int, (v = 1 ∨ v = 2) → (inB b 0 1000 && inB v 1 2) = true := fun v hv => by
    rw [Bool.and_eq_true, inBi, inBi]; omega
  have hc : accC d ⟨b, 2⟩ = 0 := by
    by_cases hc : accC d ⟨b, 2⟩ = 0
    · exact hc
    · rw [accD_code hf (hr 2 (.inr rfl)) hc] at h
      exact absurd h hc
  obtain ⟨cs, hcs⟩ : ∃ cs, accS d ⟨b, 2⟩ = ⟨d.con, d.sh, b, b, 2, cs⟩ := by
    unfold accS
    split
    · exact ⟨_, rfl⟩
    · exact ⟨_, rfl⟩
  have hs := accS_fineP hf (v := ⟨b, 2⟩) (votB_iff.2 (by dsimp only; omega)) hc
  rw [hcs] at hs
  refine ⟨cs, by rw [accD_ok hf (hr 2 (.inr rfl)) hc, hcs], hs, ?_, ?_⟩
  · have h7 : accC ⟨d.con, d.sh, b, b, 2, cs⟩ ⟨b, 1⟩ = 7 := accC_taken (by dsimp only; omega) rfl (by dsimp only; omega)
    rw [accD_code hs (hr 1 (.inl rfl)) (by rw [h7]; omega), h7]
    rfl
  · have h7 : accC ⟨d.con, d.sh, b, b, 2, cs⟩ ⟨b, 2⟩ = 0 := accC_same (by dsimp only; omega) rfl rfl
    rw [accD_ok hs (hr 2 (.inr rfl)) h7]
theorem specPromCall (x : Value) (d : Slt) (b : Int) (c : Int) (w : World) (hx : sltR.V w x d) (hn : wtSlt d ≤ 1048576) (hc : (promD d b).code = c) :
    Calls Try.prog 7 #[x, .int .i64 b] w fun e w' => ∃ (a1 a2 a3 a4 a5 a6 a7 : Int) (p : Option Addr) (n q : Nat), e = .returned (.agg #[.int .i64 c, .int .i64 a1, .int .i64 a2, .int .i64 a3, .int .i64 a4, .int .i64 a5, .int .i64 a6, .int .i64 a7, .slice p n q]) ∧ Below w.heap.size w w' := by
  refine (specProm_u x d b w hx hn).mono ?_
  rintro e w' ⟨v, F, rfl, o, hb⟩
  obtain ⟨p, q, G, rfl, _⟩ := sltRR_open o
  rw [hc]
  exact ⟨_, _, _, _, _, _, _, _, _, _, rfl, hb⟩
theorem specAccCall (x : Value) (d : Slt) (b vl : Int) (c : Int) (w : World) (hx : sltR.V w x d) (hn : wtSlt d ≤ 1048576) (hc : (accD d b vl).code = c) :
    Calls Try.prog 10 #[x, .int .i64 b, .int .i64 vl] w fun e w' => ∃ (a1 a2 a3 a4 a5 a6 a7 : Int) (p : Option Addr) (n q : Nat), e = .returned (.agg #[.int .i64 c, .int .i64 a1, .int .i64 a2, .int .i64 a3, .int .i64 a4, .int .i64 a5, .int .i64 a6, .int .i64 a7, .slice p n q]) ∧ Below w.heap.size w w' := by
  refine (specAcc_u x d b vl w hx hn).mono ?_
  rintro e w' ⟨v, F, rfl, o, hb⟩
  obtain ⟨p, q, G, rfl, _⟩ := sltRR_open o
  rw [hc]
  exact ⟨_, _, _, _, _, _, _, _, _, _, rfl, hb⟩
theorem implAccCall (x : Value) (d : Slt) (b vl : Int) (c : Int) (w : World) (hx : sltR.V w x d) (hc : (accD d b vl).code = c) :
    Calls Try.prog 9 #[x, .int .i64 b, .int .i64 vl] w fun e w' => ∃ (a1 a2 a3 a4 a5 a6 a7 : Int) (p : Option Addr) (n q : Nat), e = .returned (.agg #[.int .i64 c, .int .i64 a1, .int .i64 a2, .int .i64 a3, .int .i64 a4, .int .i64 a5, .int .i64 a6, .int .i64 a7, .slice p n q]) ∧ Below w.heap.size w w' := by
  refine (implAcc_u x d b vl w hx).mono ?_
  rintro e w' ⟨v, F, rfl, o, hb⟩
  obtain ⟨p, q, G, rfl, _⟩ := sltRR_open o
  rw [hc]
  exact ⟨_, _, _, _, _, _, _, _, _, _, rfl, hb⟩
end Go.Proofs.Ytjhmdnlkpkagiaa

/-
  A region in which two operations may come first: both ways.
-/
namespace Go.Proofs.Ytjhmdnlkpkagiaa
open Go.RowKit

theorem upto_two {P : Program} {ops : Array Oper} {Q : Exit → Act → World → Prop} {md : Region.Mode} {S : World → Prop} {t : Nat} {i j : Nat} {o o' : Oper} {f : Nat} {listed : Array Bool} {a : Act} {w : World} (hr : Region.ready md ops listed = [i, j]) (hi : ops[i]? = some o) (hj : ops[j]? = some o')
    (h : ∀ K : Act → World → Prop, (∀ a' w', (i ≠ t → S w') → wpUpto P md ops Q S t f (listed.setIfInBounds i true) a' w' → K a' w') → if Region.wanted o (yielded ops a.tmps) = true then Oper.wp P o a w K Q else K (a.put o.dst undef) w)
    (h' : ∀ K : Act → World → Prop, (∀ a' w', (j ≠ t → S w') → wpUpto P md ops Q S t f (listed.setIfInBounds j true) a' w' → K a' w') → if Region.wanted o' (yielded ops a.tmps) = true then Oper.wp P o' a w K Q else K (a.put o'.dst undef) w) :
    wpUpto P md ops Q S t (f + 1) listed a w := by
  refine ⟨fun h0 => (by rw [hr] at h0; cases h0), fun k hk => ?_⟩
  rw [hr] at hk
  have e : k = i ∨ k = j := by simpa using hk
  rcases e with e | e
  · subst e
    have h1 := h (fun a' w' => (k ≠ t → S w') ∧ wpUpto P md ops Q S t f (listed.setIfInBounds k true) a' w') (fun _ _ p q => ⟨p, q⟩)
    unfold wpOp
    simp only [hi]
    split
    · rename_i hw
      rw [if_pos hw] at h1
      exact .inl h1
    · rename_i hw
      rw [if_neg hw] at h1
      exact h1
  · subst e
    have h1 := h' (fun a' w' => (k ≠ t → S w') ∧ wpUpto P md ops Q S t f (listed.setIfInBounds k true) a' w') (fun _ _ p q => ⟨p, q⟩)
    unfold wpOp
    simp only [hj]
    split
    · rename_i hw
      rw [if_pos hw] at h1
      exact .inl h1
    · rename_i hw
      rw [if_neg hw] at h1
      exact h1
end Go.Proofs.Ytjhmdnlkpkagiaa

/-
  A vote put where it belongs: mathematics, and appending with what is written into told.
-/
set_option linter.unusedVariables false
set_option linter.unusedSimpArgs false
namespace Go.Proofs.Ytjhmdnlkpkagiaa
open Go.RowKit
set_option linter.unusedSectionVars false
variable [DecidableEq Vot] [Inhabited Vot] [DecidableEq Slt] [Inhabited Slt] [DecidableEq SltR] [Inhabited SltR] [DecidableEq Bal] [Inhabited Bal] [DecidableEq Ledg] [Inhabited Ledg] [DecidableEq Leg] [Inhabited Leg]

theorem step_appW (Y : World) {ops : Array Oper} {o : Oper} {a : Act} {K : Act → World → Prop} {Q : Exit → Act → World → Prop} {E : Prop} (hgd : o.guard = none) (s x : Operand)
    (ho : o.op = .call { callee := .builtin .append, args := #[s, x], argTypes := #[26, 26] })
    (base : Nat) (v : Value) (F1 : Nat → Prop) (xs : List Vot) (hs : a.eval s = v) (u : Value) (ys : List Vot) (hx : a.eval x = u)
    (hown : votsR.O Y base F1 v xs) (hsrc : AppAny Y u ys.length (votsC ys)) (hlen : xs.length + ys.length ≤ 1048576) (hbase : base ≤ Y.heap.size)
    (h : ∀ v' w', votsR.O w' base (fun b => v'.ownBlock = some b) v' (xs ++ ys) → Mod F1 Y w' → (∀ b, v'.ownBlock = some b → F1 b ∨ (Y.heap.size ≤ b ∧ b < w'.heap.size)) → K (a.put o.dst v') w') :
    if Region.wanted o (yielded ops a.tmps) = true then Oper.wp Try.prog o a Y K Q else E := by
  obtain ⟨i0, hi, hz0, hz1, hz2⟩ := info_parts infoVot
  have hF1 : F1 = fun b => v.ownBlock = some b := hown.2
  rcases hsrc with ⟨c, rfl, hm, _⟩ | ⟨ad, c, rfl, hc⟩
  · have hy : ys = [] := List.eq_nil_of_length_eq_zero hm
    subst hy
    have hw : Region.wanted o (yielded ops a.tmps) = true := by simp [Region.wanted, hgd]
    rw [if_pos hw]
    have hr := run_append_none_any (P := Try.prog) Y base 26 o.type 25 i0 2 c Try.underlying26 hi v xs.length (votsC xs) hown.1
    unfold Oper.wp execOp
    simp only [ho, resolve, invoke, builtin, Sem.run_bind, Sem.run_pure, Result.andThen_ok, List.map_toArray, List.map_cons, List.map_nil, hs, hx, hr]
    refine h v Y ?_ (Mod.refl _ _) (fun b hb => .inl (by rw [hF1]; exact hb))
    rw [List.append_nil]
    exact ⟨hown.1, rfl⟩
  · refine step_append_at Y hgd s x 26 ho base 25 i0 _ 2 16 Try.underlying26 hi hz0 hz1 hz2 rfl (by decide) v xs.length (votsC xs) hs hown.1 ad ys.length c (votsC ys) hx (length_votsC ys) hc (votsC_one ys) (by unfold maxLen; omega) (by omega) hbase ?_
    intro v' w' h1 h2 h3
    refine h v' w' ⟨by rw [List.length_append, votsC_app]; exact h1, rfl⟩ (by rw [hF1]; exact Mod.of_grown h2) (fun b hb => ?_)
    rcases h3 with h3 | h3
    · exact .inl (by rw [hF1]; exact h3 ▸ hb)
    · rw [h3] at hb
      simp only [Option.some.injEq] at hb
      have := (h1.lt b (by rw [h3, hb])).2
      exact .inr ⟨by omega, this⟩
end Go.Proofs.Ytjhmdnlkpkagiaa

