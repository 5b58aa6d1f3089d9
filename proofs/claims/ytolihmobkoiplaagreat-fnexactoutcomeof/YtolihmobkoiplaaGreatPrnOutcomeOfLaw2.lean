import Derived.Test.YtolihmobkoiplaaGreatPrnOutcomeOfLaw1
import Derived.Deep.RegionHeld3
import Derived.Deep.DrawnRows

/-
  Slot. (Written by program: nest.py.)
-/
namespace Go.Proofs.YtolihmobkoiplaaGreat
open Go.RowKit
set_option linter.unusedSectionVars false
variable [DecidableEq Vot] [Inhabited Vot]
attribute [local go_sem ↓] Go.wp_at_zero Go.wp_at_succ

set_option linter.unusedSimpArgs false

structure Slt where
  con : Int
  sh : Int
  pr : Int
  lb : Int
  lv : Int
  cast : List Vot
variable [DecidableEq Slt] [Inhabited Slt]

def sltR : Rep Slt where
  V := fun w v x => ∃ u1, v = .agg #[.int .i64 x.con, .int .i64 x.sh, .int .i64 x.pr, .int .i64 x.lb, .int .i64 x.lv, u1] ∧ votsR.V w u1 x.cast
  O := fun w base F v x => ∃ u1 F1, v = .agg #[.int .i64 x.con, .int .i64 x.sh, .int .i64 x.pr, .int .i64 x.lb, .int .i64 x.lv, u1] ∧ votsR.O w base F1 u1 x.cast ∧ (∀ b, F b ↔ (F1 b))
  below := fun h hb => by
    obtain ⟨u1, rfl, h1⟩ := h
    exact ⟨u1, rfl, votsR.below h1 hb⟩
  ofO := fun h => by
    obtain ⟨u1, F1, rfl, h1, _⟩ := h
    exact ⟨u1, rfl, votsR.ofO h1⟩
  mod := fun h hm hd => by
    obtain ⟨u1, F1, rfl, h1, hF⟩ := h
    exact ⟨u1, F1, rfl, votsR.mod h1 hm (fun b hb => hd b ((hF b).2 hb)), hF⟩
  rng := fun h b hb => by
    obtain ⟨u1, F1, rfl, h1, hF⟩ := h
    rcases (hF b).1 hb with hb
    · exact votsR.rng h1 b hb
  base := fun h hb => by
    obtain ⟨u1, F1, rfl, h1, hF⟩ := h
    exact ⟨u1, F1, rfl, votsR.base h1 hb, hF⟩
def wtSlt (x : Slt) : Nat := wtVots x.cast
def lvSlt (v : Value) : List Value := match v with | .agg a => one (a.getD 0 (.int .i64 0)) ++ one (a.getD 1 (.int .i64 0)) ++ one (a.getD 2 (.int .i64 0)) ++ one (a.getD 3 (.int .i64 0)) ++ one (a.getD 4 (.int .i64 0)) ++ one (a.getD 5 (.int .i64 0)) | _ => []
set_option maxHeartbeats 2000000 in
theorem toSlot_u (x : Value) (d : Slt) (w : World) (hx : sltR.V w x d) (hn : wtSlt d ≤ 1048576) :
    Calls Tryz.prog 54 #[x] w fun e w' => ∃ v F, e = .returned v ∧ sltR.O w' w.heap.size F v d ∧ Below w.heap.size w w' := by
  obtain ⟨u1, rfl, h1⟩ := hx
  unfold wtSlt at hn
  go_enter Tryz.func54, Tryz.ntmps54
  go_wp2_with fail
  refine (toVote_any ⟨d.lb, d.lv⟩ _).mono ?_
  rintro e w0 ⟨rfl, b0⟩
  have hB0 : Below w.heap.size w w0 := bstep (by (repeat (first | exact Below.refl _ _ | assumption | refine Below.drew ?_ | refine balloc ?_ _ | refine bset ?_ (by simp; omega) _ | refine bset ?_ (by simp) _ | refine bstep ?_ (by assumption)))) b0
  obtain ⟨c0, f0⟩ := bcell b0
  have z0 := b0.size
  simp at z0
  have x0 : w0.cell? ⟨w.heap.size, 0, none⟩ = some (.int .i64 d.con) := cell_keep b0 (by simp [go_sem])
  have x1 : w0.cell? ⟨w.heap.size, 1, none⟩ = some (.int .i64 d.sh) := cell_keep b0 (by simp [go_sem])
  have x2 : w0.cell? ⟨w.heap.size, 2, none⟩ = some (.int .i64 d.pr) := cell_keep b0 (by simp [go_sem])
  have x3 : w0.cell? ⟨w.heap.size, 3, none⟩ = some (.int .i64 d.lb) := cell_keep b0 (by simp [go_sem])
  have x4 : w0.cell? ⟨w.heap.size, 4, none⟩ = some (.int .i64 d.lv) := cell_keep b0 (by simp [go_sem])
  have x5 : w0.cell? ⟨w.heap.size, 5, none⟩ = some (u1) := cell_keep b0 (by simp [go_sem])
  have q0 : w0.cell? ⟨w.heap.size + 1, 0, none⟩ = some (.int .i64 0) := cell_keep b0 (by simp [go_sem])
  have q1 : w0.cell? ⟨w.heap.size + 1, 1, none⟩ = some (.int .i64 0) := cell_keep b0 (by simp [go_sem])
  have q2 : w0.cell? ⟨w.heap.size + 1, 2, none⟩ = some (.int .i64 0) := cell_keep b0 (by simp [go_sem])
  have q3 : w0.cell? ⟨w.heap.size + 1, 3, none⟩ = some (.int .i64 0) := cell_keep b0 (by simp [go_sem])
  have q4 : w0.cell? ⟨w.heap.size + 1, 4, none⟩ = some (.int .i64 0) := cell_keep b0 (by simp [go_sem])
  have q5 : w0.cell? ⟨w.heap.size + 1, 5, none⟩ = some (.slice none 0 0) := cell_keep b0 (by simp [go_sem])
  have p0 : w0.cell? ⟨w.heap.size + 2, 0, none⟩ = some (.int .i64 d.con) := cell_keep b0 (by simp [go_sem])
  have p1 : w0.cell? ⟨w.heap.size + 2, 1, none⟩ = some (.int .i64 d.sh) := cell_keep b0 (by simp [go_sem])
  have p2 : w0.cell? ⟨w.heap.size + 2, 2, none⟩ = some (.int .i64 d.pr) := cell_keep b0 (by simp [go_sem])
  have p3 : w0.cell? ⟨w.heap.size + 2, 3, none⟩ = some (.int .i64 0) := cell_keep b0 (by simp [go_sem])
  have p4 : w0.cell? ⟨w.heap.size + 2, 4, none⟩ = some (.int .i64 0) := cell_keep b0 (by simp [go_sem])
  have p5 : w0.cell? ⟨w.heap.size + 2, 5, none⟩ = some (.slice none 0 0) := cell_keep b0 (by simp [go_sem])
  have qf : ∀ o, w0.frozen? ⟨w.heap.size + 1, o, none⟩ = false := fun o => by rw [f0 _ _ (by simp; try omega)]; simp [go_sem]
  have pf : ∀ o, w0.frozen? ⟨w.heap.size + 2, o, none⟩ = false := fun o => by rw [f0 _ _ (by simp; try omega)]; simp [go_sem]
  clear c0 f0 b0
  simp only [votV]
  go_wp2_with fail
  refine (toVoteS_u _ d.cast _ (votsR.below h1 (by (repeat (first | refine bset ?_ (by simp; omega) _ | refine bset ?_ (by simp) _ | refine balloc ?_ _ | assumption)))) (by omega)).mono ?_
  rintro e w1 ⟨v1, F1, rfl, o1, b1⟩
  have hB1 : Below w.heap.size w w1 := bstep (by (repeat (first | refine bset ?_ (by simp; omega) _ | refine bset ?_ (by simp) _ | refine balloc ?_ _ | assumption))) b1
  obtain ⟨a1, n1, rfl⟩ := vots_form (votsR.ofO o1)
  obtain ⟨c1, f1⟩ := bcell b1
  have z1 := b1.size
  simp at z1
  replace o1 := votsR.base (base' := w.heap.size + 3) o1 (by simp; try omega)
  have y0 : w1.cell? ⟨w.heap.size, 0, none⟩ = some (.int .i64 d.con) := cell_keep b1 (by simp [go_sem, x0, x1, x2, x3, x4, x5, q0, q1, q2, q3, q4, q5, p0, p1, p2, p3, p4, p5])
  have y1 : w1.cell? ⟨w.heap.size, 1, none⟩ = some (.int .i64 d.sh) := cell_keep b1 (by simp [go_sem, x0, x1, x2, x3, x4, x5, q0, q1, q2, q3, q4, q5, p0, p1, p2, p3, p4, p5])
  have y2 : w1.cell? ⟨w.heap.size, 2, none⟩ = some (.int .i64 d.pr) := cell_keep b1 (by simp [go_sem, x0, x1, x2, x3, x4, x5, q0, q1, q2, q3, q4, q5, p0, p1, p2, p3, p4, p5])
  have y3 : w1.cell? ⟨w.heap.size, 3, none⟩ = some (.int .i64 d.lb) := cell_keep b1 (by simp [go_sem, x0, x1, x2, x3, x4, x5, q0, q1, q2, q3, q4, q5, p0, p1, p2, p3, p4, p5])
  have y4 : w1.cell? ⟨w.heap.size, 4, none⟩ = some (.int .i64 d.lv) := cell_keep b1 (by simp [go_sem, x0, x1, x2, x3, x4, x5, q0, q1, q2, q3, q4, q5, p0, p1, p2, p3, p4, p5])
  have y5 : w1.cell? ⟨w.heap.size, 5, none⟩ = some (u1) := cell_keep b1 (by simp [go_sem, x0, x1, x2, x3, x4, x5, q0, q1, q2, q3, q4, q5, p0, p1, p2, p3, p4, p5])
  have r0 : w1.cell? ⟨w.heap.size + 1, 0, none⟩ = some (.int .i64 0) := cell_keep b1 (by simp [go_sem, x0, x1, x2, x3, x4, x5, q0, q1, q2, q3, q4, q5, p0, p1, p2, p3, p4, p5])
  have r1 : w1.cell? ⟨w.heap.size + 1, 1, none⟩ = some (.int .i64 0) := cell_keep b1 (by simp [go_sem, x0, x1, x2, x3, x4, x5, q0, q1, q2, q3, q4, q5, p0, p1, p2, p3, p4, p5])
  have r2 : w1.cell? ⟨w.heap.size + 1, 2, none⟩ = some (.int .i64 0) := cell_keep b1 (by simp [go_sem, x0, x1, x2, x3, x4, x5, q0, q1, q2, q3, q4, q5, p0, p1, p2, p3, p4, p5])
  have r3 : w1.cell? ⟨w.heap.size + 1, 3, none⟩ = some (.int .i64 0) := cell_keep b1 (by simp [go_sem, x0, x1, x2, x3, x4, x5, q0, q1, q2, q3, q4, q5, p0, p1, p2, p3, p4, p5])
  have r4 : w1.cell? ⟨w.heap.size + 1, 4, none⟩ = some (.int .i64 0) := cell_keep b1 (by simp [go_sem, x0, x1, x2, x3, x4, x5, q0, q1, q2, q3, q4, q5, p0, p1, p2, p3, p4, p5])
  have r5 : w1.cell? ⟨w.heap.size + 1, 5, none⟩ = some (.slice none 0 0) := cell_keep b1 (by simp [go_sem, x0, x1, x2, x3, x4, x5, q0, q1, q2, q3, q4, q5, p0, p1, p2, p3, p4, p5])
  have s0 : w1.cell? ⟨w.heap.size + 2, 0, none⟩ = some (.int .i64 d.con) := cell_keep b1 (by simp [go_sem, x0, x1, x2, x3, x4, x5, q0, q1, q2, q3, q4, q5, p0, p1, p2, p3, p4, p5])
  have s1 : w1.cell? ⟨w.heap.size + 2, 1, none⟩ = some (.int .i64 d.sh) := cell_keep b1 (by simp [go_sem, x0, x1, x2, x3, x4, x5, q0, q1, q2, q3, q4, q5, p0, p1, p2, p3, p4, p5])
  have s2 : w1.cell? ⟨w.heap.size + 2, 2, none⟩ = some (.int .i64 d.pr) := cell_keep b1 (by simp [go_sem, x0, x1, x2, x3, x4, x5, q0, q1, q2, q3, q4, q5, p0, p1, p2, p3, p4, p5])
  have s3 : w1.cell? ⟨w.heap.size + 2, 3, none⟩ = some (.int .i64 d.lb) := cell_keep b1 (by simp [go_sem, x0, x1, x2, x3, x4, x5, q0, q1, q2, q3, q4, q5, p0, p1, p2, p3, p4, p5])
  have s4 : w1.cell? ⟨w.heap.size + 2, 4, none⟩ = some (.int .i64 d.lv) := cell_keep b1 (by simp [go_sem, x0, x1, x2, x3, x4, x5, q0, q1, q2, q3, q4, q5, p0, p1, p2, p3, p4, p5])
  have s5 : w1.cell? ⟨w.heap.size + 2, 5, none⟩ = some (.slice none 0 0) := cell_keep b1 (by simp [go_sem, x0, x1, x2, x3, x4, x5, q0, q1, q2, q3, q4, q5, p0, p1, p2, p3, p4, p5])
  have t1 : ∀ o, w1.frozen? ⟨w.heap.size + 1, o, none⟩ = false := fun o => by rw [f1 _ _ (by simp; try omega)]; simp [go_sem, qf]
  have t2 : ∀ o, w1.frozen? ⟨w.heap.size + 2, o, none⟩ = false := fun o => by rw [f1 _ _ (by simp; try omega)]; simp [go_sem, pf]
  clear x0 x1 x2 x3 x4 x5 q0 q1 q2 q3 q4 q5 p0 p1 p2 p3 p4 p5 qf pf
  clear c1 f1
  have x0 := y0
  have x1 := y1
  have x2 := y2
  have x3 := y3
  have x4 := y4
  have x5 := y5
  have q0 := r0
  have q1 := r1
  have q2 := r2
  have q3 := r3
  have q4 := r4
  have q5 := r5
  have p0 := s0
  have p1 := s1
  have p2 := s2
  have p3 := s3
  have p4 := s4
  have p5 := s5
  have qf := t1
  have pf := t2
  clear t1 t2 y0 y1 y2 y3 y4 y5 r0 r1 r2 r3 r4 r5 s0 s1 s2 s3 s4 s5
  clear b1 hB0
  go_wp2
  refine bodyPost_ret (v := .agg #[.int .i64 d.con, .int .i64 d.sh, .int .i64 d.pr, .int .i64 d.lb, .int .i64 d.lv, .slice a1 d.cast.length n1]) ?_ rfl ⟨_, fun b => F1 b, rfl, ⟨_, F1, rfl, votsR.base (base := w.heap.size + 3) (by (repeat (first | refine Rep.set _ ?_ _ (by simp; omega) | refine Rep.set _ ?_ _ (by simp) | refine Rep.alloc _ ?_ _ | assumption))) (by omega), fun b => Iff.rfl⟩, by (repeat (first | refine bset ?_ (by simp; omega) _ | refine bset ?_ (by simp) _ | refine balloc ?_ _ | assumption))⟩
  simp [results, Tryz.results54, go_sem, q0, q1, q2, q3, q4, q5, p0, p1, p2, p3, p4, p5, qf, pf]
set_option maxHeartbeats 1000000 in
theorem szSlot_u (x : Value) (d : Slt) (left : Int) (w : World) (hx : sltR.V w x d) (h0 : 0 ≤ left) (h1 : left ≤ 1048576) :
    Calls Tryz.prog 47 #[x, .int .i64 left] w fun e w' => e = .returned (.int .i64 (szLen left (wtSlt d))) ∧ Below w.heap.size w w' := by
  obtain ⟨u1, rfl, k1⟩ := hx
  go_enter Tryz.func47, Tryz.ntmps47
  go_wp2_with fail
  refine (szVoteS_u _ d.cast left _ (votsR.below k1 (by (repeat (first | exact Below.refl _ _ | assumption | refine Below.drew ?_ | refine balloc ?_ _ | refine bset ?_ (by simp; omega) _ | refine bset ?_ (by simp) _ | refine bstep ?_ (by assumption))))) h0 h1).mono ?_
  rintro e w1 ⟨rfl, b1⟩
  go_wp2
  · rename_i h
    go_ret
    refine ⟨?_, by (repeat (first | exact Below.refl _ _ | assumption | refine Below.drew ?_ | refine balloc ?_ _ | refine bset ?_ (by simp; omega) _ | refine bset ?_ (by simp) _ | refine bstep ?_ (by assumption)))⟩
    rw [szLen_neg (n := wtVots d.cast) (by omega) (wtSlt d) (by unfold wtSlt; omega)]
    rfl
  rename_i h
  go_ret
  exact ⟨rfl, by (repeat (first | exact Below.refl _ _ | assumption | refine Below.drew ?_ | refine balloc ?_ _ | refine bset ?_ (by simp; omega) _ | refine bset ?_ (by simp) _ | refine bstep ?_ (by assumption)))⟩
set_option maxHeartbeats 1000000 in
theorem eqSlot_u (x y : Value) (d d' : Slt) (w : World) (hx : sltR.V w x d) (hy : sltR.V w y d') :
    Calls Tryz.prog 65 #[x, y] w fun e w' => e = .returned (.bool (decide (d = d'))) ∧ Below w.heap.size w w' := by
  obtain ⟨u1, rfl, h1⟩ := hx
  obtain ⟨v1, rfl, k1⟩ := hy
  obtain ⟨con, sh, pr, lb, lv, cast⟩ := d
  obtain ⟨con', sh', pr', lb', lv', cast'⟩ := d'
  dsimp only at h1 k1
  go_enter Tryz.func65, Tryz.ntmps65
  go_wp2_with fail
  all_goals try (go_ret; exact ⟨by first | (simp_all; done) | (simp_all; intros; exfalso; omega), by (repeat (first | exact Below.refl _ _ | assumption | refine Below.drew ?_ | refine balloc ?_ _ | refine bset ?_ (by simp; omega) _ | refine bset ?_ (by simp) _ | refine bstep ?_ (by assumption)))⟩)
  refine (eqVote_any ⟨lb, lv⟩ ⟨lb', lv'⟩ _).mono ?_
  rintro e w0 ⟨rfl, b0⟩
  have x0 : w0.cell? ⟨w.heap.size, 0, none⟩ = some (.int .i64 con) := cell_keep b0 (by simp [go_sem])
  have x1 : w0.cell? ⟨w.heap.size, 1, none⟩ = some (.int .i64 sh) := cell_keep b0 (by simp [go_sem])
  have x2 : w0.cell? ⟨w.heap.size, 2, none⟩ = some (.int .i64 pr) := cell_keep b0 (by simp [go_sem])
  have x3 : w0.cell? ⟨w.heap.size, 3, none⟩ = some (.int .i64 lb) := cell_keep b0 (by simp [go_sem])
  have x4 : w0.cell? ⟨w.heap.size, 4, none⟩ = some (.int .i64 lv) := cell_keep b0 (by simp [go_sem])
  have x5 : w0.cell? ⟨w.heap.size, 5, none⟩ = some (u1) := cell_keep b0 (by simp [go_sem])
  have y0 : w0.cell? ⟨w.heap.size + 1, 0, none⟩ = some (.int .i64 con') := cell_keep b0 (by simp [go_sem])
  have y1 : w0.cell? ⟨w.heap.size + 1, 1, none⟩ = some (.int .i64 sh') := cell_keep b0 (by simp [go_sem])
  have y2 : w0.cell? ⟨w.heap.size + 1, 2, none⟩ = some (.int .i64 pr') := cell_keep b0 (by simp [go_sem])
  have y3 : w0.cell? ⟨w.heap.size + 1, 3, none⟩ = some (.int .i64 lb') := cell_keep b0 (by simp [go_sem])
  have y4 : w0.cell? ⟨w.heap.size + 1, 4, none⟩ = some (.int .i64 lv') := cell_keep b0 (by simp [go_sem])
  have y5 : w0.cell? ⟨w.heap.size + 1, 5, none⟩ = some (v1) := cell_keep b0 (by simp [go_sem])
  go_wp2_with fail
  all_goals try (go_ret; exact ⟨by first | (simp_all; done) | (simp_all; intros; exfalso; omega), by (repeat (first | exact Below.refl _ _ | assumption | refine Below.drew ?_ | refine balloc ?_ _ | refine bset ?_ (by simp; omega) _ | refine bset ?_ (by simp) _ | refine bstep ?_ (by assumption)))⟩)
  refine (eqVoteS_u _ _ cast cast' _ (votsR.below h1 (by (repeat (first | exact Below.refl _ _ | assumption | refine Below.drew ?_ | refine balloc ?_ _ | refine bset ?_ (by simp; omega) _ | refine bset ?_ (by simp) _ | refine bstep ?_ (by assumption))))) (votsR.below k1 (by (repeat (first | exact Below.refl _ _ | assumption | refine Below.drew ?_ | refine balloc ?_ _ | refine bset ?_ (by simp; omega) _ | refine bset ?_ (by simp) _ | refine bstep ?_ (by assumption)))))).mono ?_
  rintro e w1 ⟨rfl, b1⟩
  go_wp2
  all_goals
    go_ret
    exact ⟨by first | (simp_all; done) | (simp_all; intros; exfalso; omega), by (repeat (first | exact Below.refl _ _ | assumption | refine Below.drew ?_ | refine balloc ?_ _ | refine bset ?_ (by simp; omega) _ | refine bset ?_ (by simp) _ | refine bstep ?_ (by assumption)))⟩
end Go.Proofs.YtolihmobkoiplaaGreat

/-
  SlotResult. (Written by program: nest.py.)
-/
namespace Go.Proofs.YtolihmobkoiplaaGreat
open Go.RowKit
set_option linter.unusedSectionVars false
variable [DecidableEq Vot] [Inhabited Vot] [DecidableEq Slt] [Inhabited Slt]
attribute [local go_sem ↓] Go.wp_at_zero Go.wp_at_succ

set_option linter.unusedSimpArgs false

structure SltR where
  code : Int
  ob : Int
  ov : Int
  slot : Slt
variable [DecidableEq SltR] [Inhabited SltR]

def sltRR : Rep SltR where
  V := fun w v x => ∃ u1_1, v = .agg #[.int .i64 x.code, .int .i64 x.ob, .int .i64 x.ov, .int .i64 x.slot.con, .int .i64 x.slot.sh, .int .i64 x.slot.pr, .int .i64 x.slot.lb, .int .i64 x.slot.lv, u1_1] ∧ sltR.V w (.agg #[.int .i64 x.slot.con, .int .i64 x.slot.sh, .int .i64 x.slot.pr, .int .i64 x.slot.lb, .int .i64 x.slot.lv, u1_1]) x.slot
  O := fun w base F v x => ∃ u1_1 F1, v = .agg #[.int .i64 x.code, .int .i64 x.ob, .int .i64 x.ov, .int .i64 x.slot.con, .int .i64 x.slot.sh, .int .i64 x.slot.pr, .int .i64 x.slot.lb, .int .i64 x.slot.lv, u1_1] ∧ sltR.O w base F1 (.agg #[.int .i64 x.slot.con, .int .i64 x.slot.sh, .int .i64 x.slot.pr, .int .i64 x.slot.lb, .int .i64 x.slot.lv, u1_1]) x.slot ∧ (∀ b, F b ↔ (F1 b))
  below := fun h hb => by
    obtain ⟨u1_1, rfl, h1⟩ := h
    exact ⟨u1_1, rfl, sltR.below h1 hb⟩
  ofO := fun h => by
    obtain ⟨u1_1, F1, rfl, h1, _⟩ := h
    exact ⟨u1_1, rfl, sltR.ofO h1⟩
  mod := fun h hm hd => by
    obtain ⟨u1_1, F1, rfl, h1, hF⟩ := h
    exact ⟨u1_1, F1, rfl, sltR.mod h1 hm (fun b hb => hd b ((hF b).2 hb)), hF⟩
  rng := fun h b hb => by
    obtain ⟨u1_1, F1, rfl, h1, hF⟩ := h
    rcases (hF b).1 hb with hb
    · exact sltR.rng h1 b hb
  base := fun h hb => by
    obtain ⟨u1_1, F1, rfl, h1, hF⟩ := h
    exact ⟨u1_1, F1, rfl, sltR.base h1 hb, hF⟩
end Go.Proofs.YtolihmobkoiplaaGreat

/-
  Slices of Balance: the law's own copy, comparison, count, marks. (Written by program after my texts on legs.)
-/
namespace Go.Proofs.YtolihmobkoiplaaGreat
open Go.RowKit
set_option linter.unusedSectionVars false
attribute [local go_sem ↓] Go.wp_at_zero Go.wp_at_succ

structure Bal where
  ac : Int
  ast : Int
  am : Int
variable [DecidableEq Bal] [Inhabited Bal]

end Go.Proofs.YtolihmobkoiplaaGreat

/-
  Ledger. (Written by program: nest.py.)
-/
namespace Go.Proofs.YtolihmobkoiplaaGreat
open Go.RowKit
set_option linter.unusedSectionVars false
variable [DecidableEq Bal] [Inhabited Bal]
attribute [local go_sem ↓] Go.wp_at_zero Go.wp_at_succ

structure Ledg where
  shards : List (List Bal)
variable [DecidableEq Ledg] [Inhabited Ledg]

end Go.Proofs.YtolihmobkoiplaaGreat

