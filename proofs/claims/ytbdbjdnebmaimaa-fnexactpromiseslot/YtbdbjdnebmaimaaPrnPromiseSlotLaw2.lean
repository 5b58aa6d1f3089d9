import Derived.Test.YtbdbjdnebmaimaaPrnPromiseSlotLaw1
import Derived.Deep.RegionHeld3
import Derived.Deep.DrawnRows

/-
  Slot. (Written by program: nest.py.)
-/
namespace Go.Proofs.Ytbdbjdnebmaimaa
open Go.RowKit
set_option linter.unusedSectionVars false
variable [DecidableEq Vot] [Inhabited Vot]
attribute [local go_sem ↓] Go.wp_at_zero Go.wp_at_succ

set_option linter.unusedSimpArgs false

structure Slt where
  con : Int
  sh : Int
  pr : Int
  lb : Int
  lv : Int
  cast : List Vot
variable [DecidableEq Slt] [Inhabited Slt]

def sltR : Rep Slt where
  V := fun w v x => ∃ u1, v = .agg #[.int .i64 x.con, .int .i64 x.sh, .int .i64 x.pr, .int .i64 x.lb, .int .i64 x.lv, u1] ∧ votsR.V w u1 x.cast
  O := fun w base F v x => ∃ u1 F1, v = .agg #[.int .i64 x.con, .int .i64 x.sh, .int .i64 x.pr, .int .i64 x.lb, .int .i64 x.lv, u1] ∧ votsR.O w base F1 u1 x.cast ∧ (∀ b, F b ↔ (F1 b))
  below := fun h hb => by
    obtain ⟨u1, rfl, h1⟩ := h
    exact ⟨u1, rfl, votsR.below h1 hb⟩
  ofO := fun h => by
    obtain ⟨u1, F1, rfl, h1, _⟩ := h
    exact ⟨u1, rfl, votsR.ofO h1⟩
  mod := fun h hm hd => by
    obtain ⟨u1, F1, rfl, h1, hF⟩ := h
    exact ⟨u1, F1, rfl, votsR.mod h1 hm (fun b hb => hd b ((hF b).2 hb)), hF⟩
  rng := fun h b hb => by
    obtain ⟨u1, F1, rfl, h1, hF⟩ := h
    rcases (hF b).1 hb with hb
    · exact votsR.rng h1 b hb
  base := fun h hb => by
    obtain ⟨u1, F1, rfl, h1, hF⟩ := h
    exact ⟨u1, F1, rfl, votsR.base h1 hb, hF⟩
def wtSlt (x : Slt) : Nat := wtVots x.cast
def cntSlt (x : Slt) : Nat := cntVots x.cast
def mkSlt (k : Int) (x : Slt) : Slt := { x with cast := mkVots k x.cast }
theorem slt_form {w : World} {v : Value} {x : Slt} (h : sltR.V w v x) : ∃ a1 c1, v = .agg #[.int .i64 x.con, .int .i64 x.sh, .int .i64 x.pr, .int .i64 x.lb, .int .i64 x.lv, .slice a1 x.cast.length c1] := by
  obtain ⟨u1, rfl, h1⟩ := h
  obtain ⟨a1, c1, rfl⟩ := vots_form h1
  exact ⟨_, _, rfl⟩
theorem slt_cnt (d : Slt) : cntSlt d ≤ 2 * wtSlt d := by
  unfold cntSlt wtSlt
  have q1 := vots_cnt d.cast
  omega
set_option maxHeartbeats 2000000 in
theorem toSlot_u (x : Value) (d : Slt) (w : World) (hx : sltR.V w x d) (hn : wtSlt d ≤ 1048576) :
    Calls Try.prog 23 #[x] w fun e w' => ∃ v F, e = .returned v ∧ sltR.O w' w.heap.size F v d ∧ Below w.heap.size w w' := by
  obtain ⟨u1, rfl, h1⟩ := hx
  unfold wtSlt at hn
  go_enter Try.func23, Try.ntmps23
  go_wp2_with fail
  refine (toVote_any ⟨d.lb, d.lv⟩ _).mono ?_
  rintro e w0 ⟨rfl, b0⟩
  have hB0 : Below w.heap.size w w0 := bstep (by (repeat (first | exact Below.refl _ _ | assumption | refine Below.drew ?_ | refine balloc ?_ _ | refine bset ?_ (by simp; omega) _ | refine bset ?_ (by simp) _ | refine bstep ?_ (by assumption)))) b0
  obtain ⟨c0, f0⟩ := bcell b0
  have z0 := b0.size
  simp at z0
  have x0 : w0.cell? ⟨w.heap.size, 0, none⟩ = some (.int .i64 d.con) := cell_keep b0 (by simp [go_sem])
  have x1 : w0.cell? ⟨w.heap.size, 1, none⟩ = some (.int .i64 d.sh) := cell_keep b0 (by simp [go_sem])
  have x2 : w0.cell? ⟨w.heap.size, 2, none⟩ = some (.int .i64 d.pr) := cell_keep b0 (by simp [go_sem])
  have x3 : w0.cell? ⟨w.heap.size, 3, none⟩ = some (.int .i64 d.lb) := cell_keep b0 (by simp [go_sem])
  have x4 : w0.cell? ⟨w.heap.size, 4, none⟩ = some (.int .i64 d.lv) := cell_keep b0 (by simp [go_sem])
  have x5 : w0.cell? ⟨w.heap.size, 5, none⟩ = some (u1) := cell_keep b0 (by simp [go_sem])
  have q0 : w0.cell? ⟨w.heap.size + 1, 0, none⟩ = some (.int .i64 0) := cell_keep b0 (by simp [go_sem])
  have q1 : w0.cell? ⟨w.heap.size + 1, 1, none⟩ = some (.int .i64 0) := cell_keep b0 (by simp [go_sem])
  have q2 : w0.cell? ⟨w.heap.size + 1, 2, none⟩ = some (.int .i64 0) := cell_keep b0 (by simp [go_sem])
  have q3 : w0.cell? ⟨w.heap.size + 1, 3, none⟩ = some (.int .i64 0) := cell_keep b0 (by simp [go_sem])
  have q4 : w0.cell? ⟨w.heap.size + 1, 4, none⟩ = some (.int .i64 0) := cell_keep b0 (by simp [go_sem])
  have q5 : w0.cell? ⟨w.heap.size + 1, 5, none⟩ = some (.slice none 0 0) := cell_keep b0 (by simp [go_sem])
  have p0 : w0.cell? ⟨w.heap.size + 2, 0, none⟩ = some (.int .i64 d.con) := cell_keep b0 (by simp [go_sem])
  have p1 : w0.cell? ⟨w.heap.size + 2, 1, none⟩ = some (.int .i64 d.sh) := cell_keep b0 (by simp [go_sem])
  have p2 : w0.cell? ⟨w.heap.size + 2, 2, none⟩ = some (.int .i64 d.pr) := cell_keep b0 (by simp [go_sem])
  have p3 : w0.cell? ⟨w.heap.size + 2, 3, none⟩ = some (.int .i64 0) := cell_keep b0 (by simp [go_sem])
  have p4 : w0.cell? ⟨w.heap.size + 2, 4, none⟩ = some (.int .i64 0) := cell_keep b0 (by simp [go_sem])
  have p5 : w0.cell? ⟨w.heap.size + 2, 5, none⟩ = some (.slice none 0 0) := cell_keep b0 (by simp [go_sem])
  have qf : ∀ o, w0.frozen? ⟨w.heap.size + 1, o, none⟩ = false := fun o => by rw [f0 _ _ (by simp; try omega)]; simp [go_sem]
  have pf : ∀ o, w0.frozen? ⟨w.heap.size + 2, o, none⟩ = false := fun o => by rw [f0 _ _ (by simp; try omega)]; simp [go_sem]
  clear c0 f0 b0
  simp only [votV]
  go_wp2_with fail
  refine (toVoteS_u _ d.cast _ (votsR.below h1 (by (repeat (first | refine bset ?_ (by simp; omega) _ | refine bset ?_ (by simp) _ | refine balloc ?_ _ | assumption)))) (by omega)).mono ?_
  rintro e w1 ⟨v1, F1, rfl, o1, b1⟩
  have hB1 : Below w.heap.size w w1 := bstep (by (repeat (first | refine bset ?_ (by simp; omega) _ | refine bset ?_ (by simp) _ | refine balloc ?_ _ | assumption))) b1
  obtain ⟨a1, n1, rfl⟩ := vots_form (votsR.ofO o1)
  obtain ⟨c1, f1⟩ := bcell b1
  have z1 := b1.size
  simp at z1
  replace o1 := votsR.base (base' := w.heap.size + 3) o1 (by simp; try omega)
  have y0 : w1.cell? ⟨w.heap.size, 0, none⟩ = some (.int .i64 d.con) := cell_keep b1 (by simp [go_sem, x0, x1, x2, x3, x4, x5, q0, q1, q2, q3, q4, q5, p0, p1, p2, p3, p4, p5])
  have y1 : w1.cell? ⟨w.heap.size, 1, none⟩ = some (.int .i64 d.sh) := cell_keep b1 (by simp [go_sem, x0, x1, x2, x3, x4, x5, q0, q1, q2, q3, q4, q5, p0, p1, p2, p3, p4, p5])
  have y2 : w1.cell? ⟨w.heap.size, 2, none⟩ = some (.int .i64 d.pr) := cell_keep b1 (by simp [go_sem, x0, x1, x2, x3, x4, x5, q0, q1, q2, q3, q4, q5, p0, p1, p2, p3, p4, p5])
  have y3 : w1.cell? ⟨w.heap.size, 3, none⟩ = some (.int .i64 d.lb) := cell_keep b1 (by simp [go_sem, x0, x1, x2, x3, x4, x5, q0, q1, q2, q3, q4, q5, p0, p1, p2, p3, p4, p5])
  have y4 : w1.cell? ⟨w.heap.size, 4, none⟩ = some (.int .i64 d.lv) := cell_keep b1 (by simp [go_sem, x0, x1, x2, x3, x4, x5, q0, q1, q2, q3, q4, q5, p0, p1, p2, p3, p4, p5])
  have y5 : w1.cell? ⟨w.heap.size, 5, none⟩ = some (u1) := cell_keep b1 (by simp [go_sem, x0, x1, x2, x3, x4, x5, q0, q1, q2, q3, q4, q5, p0, p1, p2, p3, p4, p5])
  have r0 : w1.cell? ⟨w.heap.size + 1, 0, none⟩ = some (.int .i64 0) := cell_keep b1 (by simp [go_sem, x0, x1, x2, x3, x4, x5, q0, q1, q2, q3, q4, q5, p0, p1, p2, p3, p4, p5])
  have r1 : w1.cell? ⟨w.heap.size + 1, 1, none⟩ = some (.int .i64 0) := cell_keep b1 (by simp [go_sem, x0, x1, x2, x3, x4, x5, q0, q1, q2, q3, q4, q5, p0, p1, p2, p3, p4, p5])
  have r2 : w1.cell? ⟨w.heap.size + 1, 2, none⟩ = some (.int .i64 0) := cell_keep b1 (by simp [go_sem, x0, x1, x2, x3, x4, x5, q0, q1, q2, q3, q4, q5, p0, p1, p2, p3, p4, p5])
  have r3 : w1.cell? ⟨w.heap.size + 1, 3, none⟩ = some (.int .i64 0) := cell_keep b1 (by simp [go_sem, x0, x1, x2, x3, x4, x5, q0, q1, q2, q3, q4, q5, p0, p1, p2, p3, p4, p5])
  have r4 : w1.cell? ⟨w.heap.size + 1, 4, none⟩ = some (.int .i64 0) := cell_keep b1 (by simp [go_sem, x0, x1, x2, x3, x4, x5, q0, q1, q2, q3, q4, q5, p0, p1, p2, p3, p4, p5])
  have r5 : w1.cell? ⟨w.heap.size + 1, 5, none⟩ = some (.slice none 0 0) := cell_keep b1 (by simp [go_sem, x0, x1, x2, x3, x4, x5, q0, q1, q2, q3, q4, q5, p0, p1, p2, p3, p4, p5])
  have s0 : w1.cell? ⟨w.heap.size + 2, 0, none⟩ = some (.int .i64 d.con) := cell_keep b1 (by simp [go_sem, x0, x1, x2, x3, x4, x5, q0, q1, q2, q3, q4, q5, p0, p1, p2, p3, p4, p5])
  have s1 : w1.cell? ⟨w.heap.size + 2, 1, none⟩ = some (.int .i64 d.sh) := cell_keep b1 (by simp [go_sem, x0, x1, x2, x3, x4, x5, q0, q1, q2, q3, q4, q5, p0, p1, p2, p3, p4, p5])
  have s2 : w1.cell? ⟨w.heap.size + 2, 2, none⟩ = some (.int .i64 d.pr) := cell_keep b1 (by simp [go_sem, x0, x1, x2, x3, x4, x5, q0, q1, q2, q3, q4, q5, p0, p1, p2, p3, p4, p5])
  have s3 : w1.cell? ⟨w.heap.size + 2, 3, none⟩ = some (.int .i64 d.lb) := cell_keep b1 (by simp [go_sem, x0, x1, x2, x3, x4, x5, q0, q1, q2, q3, q4, q5, p0, p1, p2, p3, p4, p5])
  have s4 : w1.cell? ⟨w.heap.size + 2, 4, none⟩ = some (.int .i64 d.lv) := cell_keep b1 (by simp [go_sem, x0, x1, x2, x3, x4, x5, q0, q1, q2, q3, q4, q5, p0, p1, p2, p3, p4, p5])
  have s5 : w1.cell? ⟨w.heap.size + 2, 5, none⟩ = some (.slice none 0 0) := cell_keep b1 (by simp [go_sem, x0, x1, x2, x3, x4, x5, q0, q1, q2, q3, q4, q5, p0, p1, p2, p3, p4, p5])
  have t1 : ∀ o, w1.frozen? ⟨w.heap.size + 1, o, none⟩ = false := fun o => by rw [f1 _ _ (by simp; try omega)]; simp [go_sem, qf]
  have t2 : ∀ o, w1.frozen? ⟨w.heap.size + 2, o, none⟩ = false := fun o => by rw [f1 _ _ (by simp; try omega)]; simp [go_sem, pf]
  clear x0 x1 x2 x3 x4 x5 q0 q1 q2 q3 q4 q5 p0 p1 p2 p3 p4 p5 qf pf
  clear c1 f1
  have x0 := y0
  have x1 := y1
  have x2 := y2
  have x3 := y3
  have x4 := y4
  have x5 := y5
  have q0 := r0
  have q1 := r1
  have q2 := r2
  have q3 := r3
  have q4 := r4
  have q5 := r5
  have p0 := s0
  have p1 := s1
  have p2 := s2
  have p3 := s3
  have p4 := s4
  have p5 := s5
  have qf := t1
  have pf := t2
  clear t1 t2 y0 y1 y2 y3 y4 y5 r0 r1 r2 r3 r4 r5 s0 s1 s2 s3 s4 s5
  clear b1 hB0
  go_wp2
  refine bodyPost_ret (v := .agg #[.int .i64 d.con, .int .i64 d.sh, .int .i64 d.pr, .int .i64 d.lb, .int .i64 d.lv, .slice a1 d.cast.length n1]) ?_ rfl ⟨_, fun b => F1 b, rfl, ⟨_, F1, rfl, votsR.base (base := w.heap.size + 3) (by (repeat (first | refine Rep.set _ ?_ _ (by simp; omega) | refine Rep.set _ ?_ _ (by simp) | refine Rep.alloc _ ?_ _ | assumption))) (by omega), fun b => Iff.rfl⟩, by (repeat (first | refine bset ?_ (by simp; omega) _ | refine bset ?_ (by simp) _ | refine balloc ?_ _ | assumption))⟩
  simp [results, Try.results23, go_sem, q0, q1, q2, q3, q4, q5, p0, p1, p2, p3, p4, p5, qf, pf]
set_option maxHeartbeats 1000000 in
theorem szSlot_u (x : Value) (d : Slt) (left : Int) (w : World) (hx : sltR.V w x d) (h0 : 0 ≤ left) (h1 : left ≤ 1048576) :
    Calls Try.prog 21 #[x, .int .i64 left] w fun e w' => e = .returned (.int .i64 (szLen left (wtSlt d))) ∧ Below w.heap.size w w' := by
  obtain ⟨u1, rfl, k1⟩ := hx
  go_enter Try.func21, Try.ntmps21
  go_wp2_with fail
  refine (szVoteS_u _ d.cast left _ (votsR.below k1 (by (repeat (first | exact Below.refl _ _ | assumption | refine Below.drew ?_ | refine balloc ?_ _ | refine bset ?_ (by simp; omega) _ | refine bset ?_ (by simp) _ | refine bstep ?_ (by assumption))))) h0 h1).mono ?_
  rintro e w1 ⟨rfl, b1⟩
  go_wp2
  · rename_i h
    go_ret
    refine ⟨?_, by (repeat (first | exact Below.refl _ _ | assumption | refine Below.drew ?_ | refine balloc ?_ _ | refine bset ?_ (by simp; omega) _ | refine bset ?_ (by simp) _ | refine bstep ?_ (by assumption)))⟩
    rw [szLen_neg (n := wtVots d.cast) (by omega) (wtSlt d) (by unfold wtSlt; omega)]
    rfl
  rename_i h
  go_ret
  exact ⟨rfl, by (repeat (first | exact Below.refl _ _ | assumption | refine Below.drew ?_ | refine balloc ?_ _ | refine bset ?_ (by simp; omega) _ | refine bset ?_ (by simp) _ | refine bstep ?_ (by assumption)))⟩
set_option maxHeartbeats 1000000 in
theorem eqSlot_u (x y : Value) (d d' : Slt) (w : World) (hx : sltR.V w x d) (hy : sltR.V w y d') :
    Calls Try.prog 26 #[x, y] w fun e w' => e = .returned (.bool (decide (d = d'))) ∧ Below w.heap.size w w' := by
  obtain ⟨u1, rfl, h1⟩ := hx
  obtain ⟨v1, rfl, k1⟩ := hy
  obtain ⟨con, sh, pr, lb, lv, cast⟩ := d
  obtain ⟨con', sh', pr', lb', lv', cast'⟩ := d'
  dsimp only at h1 k1
  go_enter Try.func26, Try.ntmps26
  go_wp2_with fail
  all_goals try (go_ret; exact ⟨by first | (simp_all; done) | (simp_all; intros; exfalso; omega), by (repeat (first | exact Below.refl _ _ | assumption | refine Below.drew ?_ | refine balloc ?_ _ | refine bset ?_ (by simp; omega) _ | refine bset ?_ (by simp) _ | refine bstep ?_ (by assumption)))⟩)
  refine (eqVote_any ⟨lb, lv⟩ ⟨lb', lv'⟩ _).mono ?_
  rintro e w0 ⟨rfl, b0⟩
  have x0 : w0.cell? ⟨w.heap.size, 0, none⟩ = some (.int .i64 con) := cell_keep b0 (by simp [go_sem])
  have x1 : w0.cell? ⟨w.heap.size, 1, none⟩ = some (.int .i64 sh) := cell_keep b0 (by simp [go_sem])
  have x2 : w0.cell? ⟨w.heap.size, 2, none⟩ = some (.int .i64 pr) := cell_keep b0 (by simp [go_sem])
  have x3 : w0.cell? ⟨w.heap.size, 3, none⟩ = some (.int .i64 lb) := cell_keep b0 (by simp [go_sem])
  have x4 : w0.cell? ⟨w.heap.size, 4, none⟩ = some (.int .i64 lv) := cell_keep b0 (by simp [go_sem])
  have x5 : w0.cell? ⟨w.heap.size, 5, none⟩ = some (u1) := cell_keep b0 (by simp [go_sem])
  have y0 : w0.cell? ⟨w.heap.size + 1, 0, none⟩ = some (.int .i64 con') := cell_keep b0 (by simp [go_sem])
  have y1 : w0.cell? ⟨w.heap.size + 1, 1, none⟩ = some (.int .i64 sh') := cell_keep b0 (by simp [go_sem])
  have y2 : w0.cell? ⟨w.heap.size + 1, 2, none⟩ = some (.int .i64 pr') := cell_keep b0 (by simp [go_sem])
  have y3 : w0.cell? ⟨w.heap.size + 1, 3, none⟩ = some (.int .i64 lb') := cell_keep b0 (by simp [go_sem])
  have y4 : w0.cell? ⟨w.heap.size + 1, 4, none⟩ = some (.int .i64 lv') := cell_keep b0 (by simp [go_sem])
  have y5 : w0.cell? ⟨w.heap.size + 1, 5, none⟩ = some (v1) := cell_keep b0 (by simp [go_sem])
  go_wp2_with fail
  all_goals try (go_ret; exact ⟨by first | (simp_all; done) | (simp_all; intros; exfalso; omega), by (repeat (first | exact Below.refl _ _ | assumption | refine Below.drew ?_ | refine balloc ?_ _ | refine bset ?_ (by simp; omega) _ | refine bset ?_ (by simp) _ | refine bstep ?_ (by assumption)))⟩)
  refine (eqVoteS_u _ _ cast cast' _ (votsR.below h1 (by (repeat (first | exact Below.refl _ _ | assumption | refine Below.drew ?_ | refine balloc ?_ _ | refine bset ?_ (by simp; omega) _ | refine bset ?_ (by simp) _ | refine bstep ?_ (by assumption))))) (votsR.below k1 (by (repeat (first | exact Below.refl _ _ | assumption | refine Below.drew ?_ | refine balloc ?_ _ | refine bset ?_ (by simp; omega) _ | refine bset ?_ (by simp) _ | refine bstep ?_ (by assumption)))))).mono ?_
  rintro e w1 ⟨rfl, b1⟩
  go_wp2
  all_goals
    go_ret
    exact ⟨by first | (simp_all; done) | (simp_all; intros; exfalso; omega), by (repeat (first | exact Below.refl _ _ | assumption | refine Below.drew ?_ | refine balloc ?_ _ | refine bset ?_ (by simp; omega) _ | refine bset ?_ (by simp) _ | refine bstep ?_ (by assumption)))⟩
set_option maxHeartbeats 1000000 in
theorem markSlot_u (v : Value) (d : Slt) (base : Nat) (F : Nat → Prop) (k : Int) (w : World) (ho : sltR.O w base F v d) (hw : wtSlt d ≤ 1048576) (hn : k + cntSlt d ≤ 1073741824) (hk0 : 0 ≤ k) :
    Calls Try.prog 27 #[v, .int .i64 k] w fun r w' => r = .returned (.int .i64 (k + cntSlt d)) ∧ sltR.O w' base F v (mkSlt k d) ∧ Mod F w w' := by
  obtain ⟨u1, F1, rfl, h1, hF⟩ := ho
  unfold wtSlt at hw
  unfold cntSlt at hn ⊢
  have HF : Hid (∀ b, F b ↔ (F1 b)) := hF
  clear hF
  go_enter Try.func27, Try.ntmps27
  go_wp2_with fail
  refine (markVoteS_u _ d.cast base F1 k _ (votsR.alloc h1 _) (by omega) (by omega) (by omega)).mono ?_
  rintro e w1 ⟨rfl, r1, m1⟩
  go_wp2
  go_ret
  refine ⟨?_, ⟨_, F1, rfl, r1, HF.out⟩, ((Mod.refl F w).alloc _).trans (m1.mono (fun b hb => (HF.out b).2 hb))⟩
  simp
  try omega
set_option maxHeartbeats 1000000 in
theorem heldSlot_u (v : Value) (d : Slt) (k : Int) (w : World) (hv : sltR.V w v (mkSlt k d)) (hw : wtSlt d ≤ 1048576) (hn : k + cntSlt d ≤ 1073741824) (hk0 : 0 ≤ k) :
    Calls Try.prog 95 #[v, .int .i64 k] w fun r w' => r = .returned (.int .i64 (k + cntSlt d)) ∧ Below w.heap.size w w' := by
  obtain ⟨u1, rfl, h1⟩ := hv
  unfold wtSlt at hw
  unfold cntSlt at hn ⊢
  go_enter Try.func95, Try.ntmps95
  go_wp2_with fail
  refine (heldVoteS_u _ d.cast k _ (votsR.below h1 (by (repeat (first | exact Below.refl _ _ | assumption | refine Below.drew ?_ | refine balloc ?_ _ | refine bset ?_ (by simp; omega) _ | refine bset ?_ (by simp) _ | refine bstep ?_ (by assumption))))) (by omega) (by omega) (by omega)).mono ?_
  rintro e w1 ⟨rfl, b1⟩
  go_wp2
  go_ret
  refine ⟨?_, by (repeat (first | exact Below.refl _ _ | assumption | refine Below.drew ?_ | refine balloc ?_ _ | refine bset ?_ (by simp; omega) _ | refine bset ?_ (by simp) _ | refine bstep ?_ (by assumption)))⟩
  simp
  try omega
end Go.Proofs.Ytbdbjdnebmaimaa

/-
  SlotResult. (Written by program: nest.py.)
-/
namespace Go.Proofs.Ytbdbjdnebmaimaa
open Go.RowKit
set_option linter.unusedSectionVars false
variable [DecidableEq Vot] [Inhabited Vot] [DecidableEq Slt] [Inhabited Slt]
attribute [local go_sem ↓] Go.wp_at_zero Go.wp_at_succ

set_option linter.unusedSimpArgs false

structure SltR where
  code : Int
  ob : Int
  ov : Int
  slot : Slt
variable [DecidableEq SltR] [Inhabited SltR]

def sltRR : Rep SltR where
  V := fun w v x => ∃ u1_1, v = .agg #[.int .i64 x.code, .int .i64 x.ob, .int .i64 x.ov, .int .i64 x.slot.con, .int .i64 x.slot.sh, .int .i64 x.slot.pr, .int .i64 x.slot.lb, .int .i64 x.slot.lv, u1_1] ∧ sltR.V w (.agg #[.int .i64 x.slot.con, .int .i64 x.slot.sh, .int .i64 x.slot.pr, .int .i64 x.slot.lb, .int .i64 x.slot.lv, u1_1]) x.slot
  O := fun w base F v x => ∃ u1_1 F1, v = .agg #[.int .i64 x.code, .int .i64 x.ob, .int .i64 x.ov, .int .i64 x.slot.con, .int .i64 x.slot.sh, .int .i64 x.slot.pr, .int .i64 x.slot.lb, .int .i64 x.slot.lv, u1_1] ∧ sltR.O w base F1 (.agg #[.int .i64 x.slot.con, .int .i64 x.slot.sh, .int .i64 x.slot.pr, .int .i64 x.slot.lb, .int .i64 x.slot.lv, u1_1]) x.slot ∧ (∀ b, F b ↔ (F1 b))
  below := fun h hb => by
    obtain ⟨u1_1, rfl, h1⟩ := h
    exact ⟨u1_1, rfl, sltR.below h1 hb⟩
  ofO := fun h => by
    obtain ⟨u1_1, F1, rfl, h1, _⟩ := h
    exact ⟨u1_1, rfl, sltR.ofO h1⟩
  mod := fun h hm hd => by
    obtain ⟨u1_1, F1, rfl, h1, hF⟩ := h
    exact ⟨u1_1, F1, rfl, sltR.mod h1 hm (fun b hb => hd b ((hF b).2 hb)), hF⟩
  rng := fun h b hb => by
    obtain ⟨u1_1, F1, rfl, h1, hF⟩ := h
    rcases (hF b).1 hb with hb
    · exact sltR.rng h1 b hb
  base := fun h hb => by
    obtain ⟨u1_1, F1, rfl, h1, hF⟩ := h
    exact ⟨u1_1, F1, rfl, sltR.base h1 hb, hF⟩
def wtSltR (x : SltR) : Nat := wtSlt x.slot
def cntSltR (x : SltR) : Nat := cntSlt x.slot
def mkSltR (k : Int) (x : SltR) : SltR := { x with slot := mkSlt k x.slot }
theorem sltR_form {w : World} {v : Value} {x : SltR} (h : sltRR.V w v x) : ∃ a1_1 c1_1, v = .agg #[.int .i64 x.code, .int .i64 x.ob, .int .i64 x.ov, .int .i64 x.slot.con, .int .i64 x.slot.sh, .int .i64 x.slot.pr, .int .i64 x.slot.lb, .int .i64 x.slot.lv, .slice a1_1 x.slot.cast.length c1_1] := by
  obtain ⟨u1_1, rfl, h1⟩ := h
  obtain ⟨a1_1, c1_1, e1⟩ := slt_form h1
  simp only [Value.agg.injEq, Array.mk.injEq, List.cons.injEq, and_true, true_and] at e1
  obtain rfl := e1
  exact ⟨_, _, rfl⟩
theorem sltR_cnt (d : SltR) : cntSltR d ≤ 2 * wtSltR d := by
  unfold cntSltR wtSltR
  have q1 := slt_cnt d.slot
  omega
set_option maxHeartbeats 1000000 in
theorem eqSlotResult_u (x y : Value) (d d' : SltR) (w : World) (hx : sltRR.V w x d) (hy : sltRR.V w y d') :
    Calls Try.prog 25 #[x, y] w fun e w' => e = .returned (.bool (decide (d = d'))) ∧ Below w.heap.size w w' := by
  obtain ⟨u1_1, rfl, h1⟩ := hx
  obtain ⟨v1_1, rfl, k1⟩ := hy
  obtain ⟨code, ob, ov, slot⟩ := d
  obtain ⟨code', ob', ov', slot'⟩ := d'
  dsimp only at h1 k1
  go_enter Try.func25, Try.ntmps25
  go_wp2_with fail
  all_goals try (go_ret; exact ⟨by first | (simp_all; done) | (simp_all; intros; exfalso; omega), by (repeat (first | exact Below.refl _ _ | assumption | refine Below.drew ?_ | refine balloc ?_ _ | refine bset ?_ (by simp; omega) _ | refine bset ?_ (by simp) _ | refine bstep ?_ (by assumption)))⟩)
  refine (eqVote_any ⟨ob, ov⟩ ⟨ob', ov'⟩ _).mono ?_
  rintro e w0 ⟨rfl, b0⟩
  have x0 : w0.cell? ⟨w.heap.size, 0, none⟩ = some (.int .i64 code) := cell_keep b0 (by simp [go_sem])
  have x1 : w0.cell? ⟨w.heap.size, 1, none⟩ = some (.int .i64 ob) := cell_keep b0 (by simp [go_sem])
  have x2 : w0.cell? ⟨w.heap.size, 2, none⟩ = some (.int .i64 ov) := cell_keep b0 (by simp [go_sem])
  have x3 : w0.cell? ⟨w.heap.size, 3, none⟩ = some (.int .i64 slot.con) := cell_keep b0 (by simp [go_sem])
  have x4 : w0.cell? ⟨w.heap.size, 4, none⟩ = some (.int .i64 slot.sh) := cell_keep b0 (by simp [go_sem])
  have x5 : w0.cell? ⟨w.heap.size, 5, none⟩ = some (.int .i64 slot.pr) := cell_keep b0 (by simp [go_sem])
  have x6 : w0.cell? ⟨w.heap.size, 6, none⟩ = some (.int .i64 slot.lb) := cell_keep b0 (by simp [go_sem])
  have x7 : w0.cell? ⟨w.heap.size, 7, none⟩ = some (.int .i64 slot.lv) := cell_keep b0 (by simp [go_sem])
  have x8 : w0.cell? ⟨w.heap.size, 8, none⟩ = some (u1_1) := cell_keep b0 (by simp [go_sem])
  have y0 : w0.cell? ⟨w.heap.size + 1, 0, none⟩ = some (.int .i64 code') := cell_keep b0 (by simp [go_sem])
  have y1 : w0.cell? ⟨w.heap.size + 1, 1, none⟩ = some (.int .i64 ob') := cell_keep b0 (by simp [go_sem])
  have y2 : w0.cell? ⟨w.heap.size + 1, 2, none⟩ = some (.int .i64 ov') := cell_keep b0 (by simp [go_sem])
  have y3 : w0.cell? ⟨w.heap.size + 1, 3, none⟩ = some (.int .i64 slot'.con) := cell_keep b0 (by simp [go_sem])
  have y4 : w0.cell? ⟨w.heap.size + 1, 4, none⟩ = some (.int .i64 slot'.sh) := cell_keep b0 (by simp [go_sem])
  have y5 : w0.cell? ⟨w.heap.size + 1, 5, none⟩ = some (.int .i64 slot'.pr) := cell_keep b0 (by simp [go_sem])
  have y6 : w0.cell? ⟨w.heap.size + 1, 6, none⟩ = some (.int .i64 slot'.lb) := cell_keep b0 (by simp [go_sem])
  have y7 : w0.cell? ⟨w.heap.size + 1, 7, none⟩ = some (.int .i64 slot'.lv) := cell_keep b0 (by simp [go_sem])
  have y8 : w0.cell? ⟨w.heap.size + 1, 8, none⟩ = some (v1_1) := cell_keep b0 (by simp [go_sem])
  go_wp2_with fail
  all_goals try (go_ret; exact ⟨by first | (simp_all; done) | (simp_all; intros; exfalso; omega), by (repeat (first | exact Below.refl _ _ | assumption | refine Below.drew ?_ | refine balloc ?_ _ | refine bset ?_ (by simp; omega) _ | refine bset ?_ (by simp) _ | refine bstep ?_ (by assumption)))⟩)
  refine (eqSlot_u _ _ slot slot' _ (sltR.below h1 (by (repeat (first | exact Below.refl _ _ | assumption | refine Below.drew ?_ | refine balloc ?_ _ | refine bset ?_ (by simp; omega) _ | refine bset ?_ (by simp) _ | refine bstep ?_ (by assumption))))) (sltR.below k1 (by (repeat (first | exact Below.refl _ _ | assumption | refine Below.drew ?_ | refine balloc ?_ _ | refine bset ?_ (by simp; omega) _ | refine bset ?_ (by simp) _ | refine bstep ?_ (by assumption)))))).mono ?_
  rintro e w1 ⟨rfl, b1⟩
  go_wp2
  all_goals
    go_ret
    exact ⟨by first | (simp_all; done) | (simp_all; intros; exfalso; omega), by (repeat (first | exact Below.refl _ _ | assumption | refine Below.drew ?_ | refine balloc ?_ _ | refine bset ?_ (by simp; omega) _ | refine bset ?_ (by simp) _ | refine bstep ?_ (by assumption)))⟩
set_option maxHeartbeats 1000000 in
theorem markSlotResult_u (v : Value) (d : SltR) (base : Nat) (F : Nat → Prop) (k : Int) (w : World) (ho : sltRR.O w base F v d) (hw : wtSltR d ≤ 1048576) (hn : k + cntSltR d ≤ 1073741824) (hk0 : 0 ≤ k) :
    Calls Try.prog 28 #[v, .int .i64 k] w fun r w' => r = .returned (.int .i64 (k + cntSltR d)) ∧ sltRR.O w' base F v (mkSltR k d) ∧ Mod F w w' := by
  obtain ⟨u1_1, F1, rfl, h1, hF⟩ := ho
  unfold wtSltR at hw
  unfold cntSltR at hn ⊢
  have HF : Hid (∀ b, F b ↔ (F1 b)) := hF
  clear hF
  go_enter Try.func28, Try.ntmps28
  go_wp2_with fail
  refine (markSlot_u _ d.slot base F1 k _ (sltR.alloc h1 _) (by omega) (by omega) (by omega)).mono ?_
  rintro e w1 ⟨rfl, r1, m1⟩
  go_wp2
  go_ret
  refine ⟨?_, ⟨_, F1, rfl, r1, HF.out⟩, ((Mod.refl F w).alloc _).trans (m1.mono (fun b hb => (HF.out b).2 hb))⟩
  simp
  try omega
set_option maxHeartbeats 1000000 in
theorem heldSlotResult_u (v : Value) (d : SltR) (k : Int) (w : World) (hv : sltRR.V w v (mkSltR k d)) (hw : wtSltR d ≤ 1048576) (hn : k + cntSltR d ≤ 1073741824) (hk0 : 0 ≤ k) :
    Calls Try.prog 29 #[v, .int .i64 k] w fun r w' => r = .returned (.int .i64 (k + cntSltR d)) ∧ Below w.heap.size w w' := by
  obtain ⟨u1_1, rfl, h1⟩ := hv
  unfold wtSltR at hw
  unfold cntSltR at hn ⊢
  go_enter Try.func29, Try.ntmps29
  go_wp2_with fail
  refine (heldSlot_u _ d.slot k _ (sltR.below h1 (by (repeat (first | exact Below.refl _ _ | assumption | refine Below.drew ?_ | refine balloc ?_ _ | refine bset ?_ (by simp; omega) _ | refine bset ?_ (by simp) _ | refine bstep ?_ (by assumption))))) (by omega) (by omega) (by omega)).mono ?_
  rintro e w1 ⟨rfl, b1⟩
  go_wp2
  go_ret
  refine ⟨?_, by (repeat (first | exact Below.refl _ _ | assumption | refine Below.drew ?_ | refine balloc ?_ _ | refine bset ?_ (by simp; omega) _ | refine bset ?_ (by simp) _ | refine bstep ?_ (by assumption)))⟩
  simp
  try omega
end Go.Proofs.Ytbdbjdnebmaimaa

/-
  Slices of Balance: the law's own copy, comparison, count, marks. (Written by program after my texts on legs.)
-/
namespace Go.Proofs.Ytbdbjdnebmaimaa
open Go.RowKit
set_option linter.unusedSectionVars false
attribute [local go_sem ↓] Go.wp_at_zero Go.wp_at_succ

structure Bal where
  ac : Int
  ast : Int
  am : Int
variable [DecidableEq Bal] [Inhabited Bal]

end Go.Proofs.Ytbdbjdnebmaimaa

/-
  Ledger. (Written by program: nest.py.)
-/
namespace Go.Proofs.Ytbdbjdnebmaimaa
open Go.RowKit
set_option linter.unusedSectionVars false
variable [DecidableEq Bal] [Inhabited Bal]
attribute [local go_sem ↓] Go.wp_at_zero Go.wp_at_succ

structure Ledg where
  shards : List (List Bal)
variable [DecidableEq Ledg] [Inhabited Ledg]

end Go.Proofs.Ytbdbjdnebmaimaa

