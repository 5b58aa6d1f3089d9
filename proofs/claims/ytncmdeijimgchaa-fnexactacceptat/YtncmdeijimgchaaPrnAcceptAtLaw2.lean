import Derived.Test.YtncmdeijimgchaaPrnAcceptAtLaw1
import Derived.Deep.RegionHeld3
import Derived.Deep.DrawnRows

/-
  Rows of impl.Vote: the uniform forms. (Written by program: nest.py.)
-/
namespace Go.Proofs.Ytncmdeijimgchaa
open Go.RowKit
set_option linter.unusedSectionVars false
variable [DecidableEq Vot] [Inhabited Vot]
attribute [local go_sem ↓] Go.wp_at_zero Go.wp_at_succ

def votsR : Rep (List Vot) := fRep 54 2 votsC VotsV VotsV_below VotsV_of_owns
def wtVots (xs : List Vot) : Nat := xs.length
def cntVots (xs : List Vot) : Nat := 2 * xs.length
def mkVots (k : Int) (xs : List Vot) : List Vot := votMarks k xs.length
theorem vots_form {w : World} {v : Value} {xs : List Vot} (h : votsR.V w v xs) : ∃ a c, v = .slice a xs.length c := by
  obtain ⟨a, c, rfl, _⟩ := h
  exact ⟨_, _, rfl⟩
theorem vots_cnt (d : List Vot) : cntVots d ≤ 2 * wtVots d := by unfold cntVots wtVots; omega
theorem toVoteS_u (x : Value) (d : List Vot) (w : World) (hx : votsR.V w x d) (hn : wtVots d ≤ 1048576) :
    Calls Try.prog 17 #[x] w fun e w' => ∃ v F, e = .returned v ∧ votsR.O w' w.heap.size F v d ∧ Below w.heap.size w w' := by
  refine (toVoteS_any x d w hx hn).mono ?_
  rintro e w' ⟨v, rfl, ho, hb⟩
  exact ⟨v, _, rfl, ⟨ho, rfl⟩, hb⟩
theorem eqVoteS_u (x y : Value) (d d' : List Vot) (w : World) (hx : votsR.V w x d) (hy : votsR.V w y d') :
    Calls Try.prog 20 #[x, y] w fun e w' => e = .returned (.bool (decide (d = d'))) ∧ Below w.heap.size w w' := eqVoteS_any x y d d' w hx hy
theorem szVoteS_u (x : Value) (d : List Vot) (left : Int) (w : World) (hx : votsR.V w x d) (h0 : 0 ≤ left) (h1 : left ≤ 1048576) :
    Calls Try.prog 15 #[x, .int .i64 left] w fun e w' => e = .returned (.int .i64 (szLen left (wtVots d))) ∧ Below w.heap.size w w' := by
  refine (szVoteS_any x d left w hx h0 h1).mono ?_
  rintro e w' ⟨rfl, rfl⟩
  exact ⟨rfl, Below.refl _ _⟩
theorem markVoteS_u (v : Value) (d : List Vot) (base : Nat) (F : Nat → Prop) (k : Int) (w : World) (ho : votsR.O w base F v d) (hw : wtVots d ≤ 1048576) (hn : k + cntVots d ≤ 1073741824) (hk0 : 0 ≤ k) :
    Calls Try.prog 110 #[v, .int .i64 k] w fun r w' => r = .returned (.int .i64 (k + cntVots d)) ∧ votsR.O w' base F v (mkVots k d) ∧ Mod F w w' := by
  refine (markVoteS_any v d.length _ base _ k w ho.1 hw hk0 (by omega)).mono ?_
  rintro e w' ⟨rfl, h1, h2⟩
  refine ⟨by simp [cntVots], ⟨?_, ho.2⟩, by rw [ho.2]; exact Mod.of_grown h2⟩
  unfold mkVots
  rw [length_votMarks]
  exact h1
theorem heldVoteS_u (v : Value) (d : List Vot) (k : Int) (w : World) (hv : votsR.V w v (mkVots k d)) (hw : wtVots d ≤ 1048576) (hn : k + cntVots d ≤ 1073741824) (hk0 : 0 ≤ k) :
    Calls Try.prog 144 #[v, .int .i64 k] w fun r w' => r = .returned (.int .i64 (k + cntVots d)) ∧ Below w.heap.size w w' := by
  refine (heldVoteS_any v d.length k w hv hw hk0 (by omega)).mono ?_
  rintro e w' ⟨rfl, rfl⟩
  exact ⟨by simp [cntVots], Below.refl _ _⟩
end Go.Proofs.Ytncmdeijimgchaa

/-
  Slot. (Written by program: nest.py.)
-/
namespace Go.Proofs.Ytncmdeijimgchaa
open Go.RowKit
set_option linter.unusedSectionVars false
variable [DecidableEq Vot] [Inhabited Vot]
attribute [local go_sem ↓] Go.wp_at_zero Go.wp_at_succ

set_option linter.unusedSimpArgs false

structure Slt where
  con : Int
  sh : Int
  pr : Int
  lb : Int
  lv : Int
  cast : List Vot
variable [DecidableEq Slt] [Inhabited Slt]

def sltR : Rep Slt where
  V := fun w v x => ∃ u1, v = .agg #[.int .i64 x.con, .int .i64 x.sh, .int .i64 x.pr, .int .i64 x.lb, .int .i64 x.lv, u1] ∧ votsR.V w u1 x.cast
  O := fun w base F v x => ∃ u1 F1, v = .agg #[.int .i64 x.con, .int .i64 x.sh, .int .i64 x.pr, .int .i64 x.lb, .int .i64 x.lv, u1] ∧ votsR.O w base F1 u1 x.cast ∧ (∀ b, F b ↔ (F1 b))
  below := fun h hb => by
    obtain ⟨u1, rfl, h1⟩ := h
    exact ⟨u1, rfl, votsR.below h1 hb⟩
  ofO := fun h => by
    obtain ⟨u1, F1, rfl, h1, _⟩ := h
    exact ⟨u1, rfl, votsR.ofO h1⟩
  mod := fun h hm hd => by
    obtain ⟨u1, F1, rfl, h1, hF⟩ := h
    exact ⟨u1, F1, rfl, votsR.mod h1 hm (fun b hb => hd b ((hF b).2 hb)), hF⟩
  rng := fun h b hb => by
    obtain ⟨u1, F1, rfl, h1, hF⟩ := h
    rcases (hF b).1 hb with hb
    · exact votsR.rng h1 b hb
  base := fun h hb => by
    obtain ⟨u1, F1, rfl, h1, hF⟩ := h
    exact ⟨u1, F1, rfl, votsR.base h1 hb, hF⟩
def wtSlt (x : Slt) : Nat := wtVots x.cast
def lvSlt (v : Value) : List Value := match v with | .agg a => one (a.getD 0 (.int .i64 0)) ++ one (a.getD 1 (.int .i64 0)) ++ one (a.getD 2 (.int .i64 0)) ++ one (a.getD 3 (.int .i64 0)) ++ one (a.getD 4 (.int .i64 0)) ++ one (a.getD 5 (.int .i64 0)) | _ => []
def cntElSlt (x : Slt) : Nat := 1 + 1 + 1 + 1 + 1 + cntVots x.cast
def mkElSlt (k : Int) (x : Slt) : Slt := { con := k, sh := k + 1, pr := k + 1 + 1, lb := k + 1 + 1 + 1, lv := k + 1 + 1 + 1 + 1, cast := mkVots (k + 1 + 1 + 1 + 1 + 1) x.cast }
theorem slt_cntEl (d : Slt) : cntElSlt d ≤ 7 * (1 + wtSlt d) := by
  unfold cntElSlt wtSlt
  have q1 := vots_cnt d.cast
  omega
set_option maxHeartbeats 2000000 in
theorem toSlot_u (x : Value) (d : Slt) (w : World) (hx : sltR.V w x d) (hn : wtSlt d ≤ 1048576) :
    Calls Try.prog 106 #[x] w fun e w' => ∃ v F, e = .returned v ∧ sltR.O w' w.heap.size F v d ∧ Below w.heap.size w w' := by
  obtain ⟨u1, rfl, h1⟩ := hx
  unfold wtSlt at hn
  go_enter Try.func106, Try.ntmps106
  go_wp2_with fail
  refine (toVote_any ⟨d.lb, d.lv⟩ _).mono ?_
  rintro e w0 ⟨rfl, b0⟩
  have hB0 : Below w.heap.size w w0 := bstep (by (repeat (first | exact Below.refl _ _ | assumption | refine Below.drew ?_ | refine balloc ?_ _ | refine bset ?_ (by simp; omega) _ | refine bset ?_ (by simp) _ | refine bstep ?_ (by assumption)))) b0
  obtain ⟨c0, f0⟩ := bcell b0
  have z0 := b0.size
  simp at z0
  have x0 : w0.cell? ⟨w.heap.size, 0, none⟩ = some (.int .i64 d.con) := cell_keep b0 (by simp [go_sem])
  have x1 : w0.cell? ⟨w.heap.size, 1, none⟩ = some (.int .i64 d.sh) := cell_keep b0 (by simp [go_sem])
  have x2 : w0.cell? ⟨w.heap.size, 2, none⟩ = some (.int .i64 d.pr) := cell_keep b0 (by simp [go_sem])
  have x3 : w0.cell? ⟨w.heap.size, 3, none⟩ = some (.int .i64 d.lb) := cell_keep b0 (by simp [go_sem])
  have x4 : w0.cell? ⟨w.heap.size, 4, none⟩ = some (.int .i64 d.lv) := cell_keep b0 (by simp [go_sem])
  have x5 : w0.cell? ⟨w.heap.size, 5, none⟩ = some (u1) := cell_keep b0 (by simp [go_sem])
  have q0 : w0.cell? ⟨w.heap.size + 1, 0, none⟩ = some (.int .i64 0) := cell_keep b0 (by simp [go_sem])
  have q1 : w0.cell? ⟨w.heap.size + 1, 1, none⟩ = some (.int .i64 0) := cell_keep b0 (by simp [go_sem])
  have q2 : w0.cell? ⟨w.heap.size + 1, 2, none⟩ = some (.int .i64 0) := cell_keep b0 (by simp [go_sem])
  have q3 : w0.cell? ⟨w.heap.size + 1, 3, none⟩ = some (.int .i64 0) := cell_keep b0 (by simp [go_sem])
  have q4 : w0.cell? ⟨w.heap.size + 1, 4, none⟩ = some (.int .i64 0) := cell_keep b0 (by simp [go_sem])
  have q5 : w0.cell? ⟨w.heap.size + 1, 5, none⟩ = some (.slice none 0 0) := cell_keep b0 (by simp [go_sem])
  have p0 : w0.cell? ⟨w.heap.size + 2, 0, none⟩ = some (.int .i64 d.con) := cell_keep b0 (by simp [go_sem])
  have p1 : w0.cell? ⟨w.heap.size + 2, 1, none⟩ = some (.int .i64 d.sh) := cell_keep b0 (by simp [go_sem])
  have p2 : w0.cell? ⟨w.heap.size + 2, 2, none⟩ = some (.int .i64 d.pr) := cell_keep b0 (by simp [go_sem])
  have p3 : w0.cell? ⟨w.heap.size + 2, 3, none⟩ = some (.int .i64 0) := cell_keep b0 (by simp [go_sem])
  have p4 : w0.cell? ⟨w.heap.size + 2, 4, none⟩ = some (.int .i64 0) := cell_keep b0 (by simp [go_sem])
  have p5 : w0.cell? ⟨w.heap.size + 2, 5, none⟩ = some (.slice none 0 0) := cell_keep b0 (by simp [go_sem])
  have qf : ∀ o, w0.frozen? ⟨w.heap.size + 1, o, none⟩ = false := fun o => by rw [f0 _ _ (by simp; try omega)]; simp [go_sem]
  have pf : ∀ o, w0.frozen? ⟨w.heap.size + 2, o, none⟩ = false := fun o => by rw [f0 _ _ (by simp; try omega)]; simp [go_sem]
  clear c0 f0 b0
  simp only [votV]
  go_wp2_with fail
  refine (toVoteS_u _ d.cast _ (votsR.below h1 (by (repeat (first | refine bset ?_ (by simp; omega) _ | refine bset ?_ (by simp) _ | refine balloc ?_ _ | assumption)))) (by omega)).mono ?_
  rintro e w1 ⟨v1, F1, rfl, o1, b1⟩
  have hB1 : Below w.heap.size w w1 := bstep (by (repeat (first | refine bset ?_ (by simp; omega) _ | refine bset ?_ (by simp) _ | refine balloc ?_ _ | assumption))) b1
  obtain ⟨a1, n1, rfl⟩ := vots_form (votsR.ofO o1)
  obtain ⟨c1, f1⟩ := bcell b1
  have z1 := b1.size
  simp at z1
  replace o1 := votsR.base (base' := w.heap.size + 3) o1 (by simp; try omega)
  have y0 : w1.cell? ⟨w.heap.size, 0, none⟩ = some (.int .i64 d.con) := cell_keep b1 (by simp [go_sem, x0, x1, x2, x3, x4, x5, q0, q1, q2, q3, q4, q5, p0, p1, p2, p3, p4, p5])
  have y1 : w1.cell? ⟨w.heap.size, 1, none⟩ = some (.int .i64 d.sh) := cell_keep b1 (by simp [go_sem, x0, x1, x2, x3, x4, x5, q0, q1, q2, q3, q4, q5, p0, p1, p2, p3, p4, p5])
  have y2 : w1.cell? ⟨w.heap.size, 2, none⟩ = some (.int .i64 d.pr) := cell_keep b1 (by simp [go_sem, x0, x1, x2, x3, x4, x5, q0, q1, q2, q3, q4, q5, p0, p1, p2, p3, p4, p5])
  have y3 : w1.cell? ⟨w.heap.size, 3, none⟩ = some (.int .i64 d.lb) := cell_keep b1 (by simp [go_sem, x0, x1, x2, x3, x4, x5, q0, q1, q2, q3, q4, q5, p0, p1, p2, p3, p4, p5])
  have y4 : w1.cell? ⟨w.heap.size, 4, none⟩ = some (.int .i64 d.lv) := cell_keep b1 (by simp [go_sem, x0, x1, x2, x3, x4, x5, q0, q1, q2, q3, q4, q5, p0, p1, p2, p3, p4, p5])
  have y5 : w1.cell? ⟨w.heap.size, 5, none⟩ = some (u1) := cell_keep b1 (by simp [go_sem, x0, x1, x2, x3, x4, x5, q0, q1, q2, q3, q4, q5, p0, p1, p2, p3, p4, p5])
  have r0 : w1.cell? ⟨w.heap.size + 1, 0, none⟩ = some (.int .i64 0) := cell_keep b1 (by simp [go_sem, x0, x1, x2, x3, x4, x5, q0, q1, q2, q3, q4, q5, p0, p1, p2, p3, p4, p5])
  have r1 : w1.cell? ⟨w.heap.size + 1, 1, none⟩ = some (.int .i64 0) := cell_keep b1 (by simp [go_sem, x0, x1, x2, x3, x4, x5, q0, q1, q2, q3, q4, q5, p0, p1, p2, p3, p4, p5])
  have r2 : w1.cell? ⟨w.heap.size + 1, 2, none⟩ = some (.int .i64 0) := cell_keep b1 (by simp [go_sem, x0, x1, x2, x3, x4, x5, q0, q1, q2, q3, q4, q5, p0, p1, p2, p3, p4, p5])
  have r3 : w1.cell? ⟨w.heap.size + 1, 3, none⟩ = some (.int .i64 0) := cell_keep b1 (by simp [go_sem, x0, x1, x2, x3, x4, x5, q0, q1, q2, q3, q4, q5, p0, p1, p2, p3, p4, p5])
  have r4 : w1.cell? ⟨w.heap.size + 1, 4, none⟩ = some (.int .i64 0) := cell_keep b1 (by simp [go_sem, x0, x1, x2, x3, x4, x5, q0, q1, q2, q3, q4, q5, p0, p1, p2, p3, p4, p5])
  have r5 : w1.cell? ⟨w.heap.size + 1, 5, none⟩ = some (.slice none 0 0) := cell_keep b1 (by simp [go_sem, x0, x1, x2, x3, x4, x5, q0, q1, q2, q3, q4, q5, p0, p1, p2, p3, p4, p5])
  have s0 : w1.cell? ⟨w.heap.size + 2, 0, none⟩ = some (.int .i64 d.con) := cell_keep b1 (by simp [go_sem, x0, x1, x2, x3, x4, x5, q0, q1, q2, q3, q4, q5, p0, p1, p2, p3, p4, p5])
  have s1 : w1.cell? ⟨w.heap.size + 2, 1, none⟩ = some (.int .i64 d.sh) := cell_keep b1 (by simp [go_sem, x0, x1, x2, x3, x4, x5, q0, q1, q2, q3, q4, q5, p0, p1, p2, p3, p4, p5])
  have s2 : w1.cell? ⟨w.heap.size + 2, 2, none⟩ = some (.int .i64 d.pr) := cell_keep b1 (by simp [go_sem, x0, x1, x2, x3, x4, x5, q0, q1, q2, q3, q4, q5, p0, p1, p2, p3, p4, p5])
  have s3 : w1.cell? ⟨w.heap.size + 2, 3, none⟩ = some (.int .i64 d.lb) := cell_keep b1 (by simp [go_sem, x0, x1, x2, x3, x4, x5, q0, q1, q2, q3, q4, q5, p0, p1, p2, p3, p4, p5])
  have s4 : w1.cell? ⟨w.heap.size + 2, 4, none⟩ = some (.int .i64 d.lv) := cell_keep b1 (by simp [go_sem, x0, x1, x2, x3, x4, x5, q0, q1, q2, q3, q4, q5, p0, p1, p2, p3, p4, p5])
  have s5 : w1.cell? ⟨w.heap.size + 2, 5, none⟩ = some (.slice none 0 0) := cell_keep b1 (by simp [go_sem, x0, x1, x2, x3, x4, x5, q0, q1, q2, q3, q4, q5, p0, p1, p2, p3, p4, p5])
  have t1 : ∀ o, w1.frozen? ⟨w.heap.size + 1, o, none⟩ = false := fun o => by rw [f1 _ _ (by simp; try omega)]; simp [go_sem, qf]
  have t2 : ∀ o, w1.frozen? ⟨w.heap.size + 2, o, none⟩ = false := fun o => by rw [f1 _ _ (by simp; try omega)]; simp [go_sem, pf]
  clear x0 x1 x2 x3 x4 x5 q0 q1 q2 q3 q4 q5 p0 p1 p2 p3 p4 p5 qf pf
  clear c1 f1
  have x0 := y0
  have x1 := y1
  have x2 := y2
  have x3 := y3
  have x4 := y4
  have x5 := y5
  have q0 := r0
  have q1 := r1
  have q2 := r2
  have q3 := r3
  have q4 := r4
  have q5 := r5
  have p0 := s0
  have p1 := s1
  have p2 := s2
  have p3 := s3
  have p4 := s4
  have p5 := s5
  have qf := t1
  have pf := t2
  clear t1 t2 y0 y1 y2 y3 y4 y5 r0 r1 r2 r3 r4 r5 s0 s1 s2 s3 s4 s5
  clear b1 hB0
  go_wp2
  refine bodyPost_ret (v := .agg #[.int .i64 d.con, .int .i64 d.sh, .int .i64 d.pr, .int .i64 d.lb, .int .i64 d.lv, .slice a1 d.cast.length n1]) ?_ rfl ⟨_, fun b => F1 b, rfl, ⟨_, F1, rfl, votsR.base (base := w.heap.size + 3) (by (repeat (first | refine Rep.set _ ?_ _ (by simp; omega) | refine Rep.set _ ?_ _ (by simp) | refine Rep.alloc _ ?_ _ | assumption))) (by omega), fun b => Iff.rfl⟩, by (repeat (first | refine bset ?_ (by simp; omega) _ | refine bset ?_ (by simp) _ | refine balloc ?_ _ | assumption))⟩
  simp [results, Try.results106, go_sem, q0, q1, q2, q3, q4, q5, p0, p1, p2, p3, p4, p5, qf, pf]
set_option maxHeartbeats 1000000 in
theorem szSlot_u (x : Value) (d : Slt) (left : Int) (w : World) (hx : sltR.V w x d) (h0 : 0 ≤ left) (h1 : left ≤ 1048576) :
    Calls Try.prog 100 #[x, .int .i64 left] w fun e w' => e = .returned (.int .i64 (szLen left (wtSlt d))) ∧ Below w.heap.size w w' := by
  obtain ⟨u1, rfl, k1⟩ := hx
  go_enter Try.func100, Try.ntmps100
  go_wp2_with fail
  refine (szVoteS_u _ d.cast left _ (votsR.below k1 (by (repeat (first | exact Below.refl _ _ | assumption | refine Below.drew ?_ | refine balloc ?_ _ | refine bset ?_ (by simp; omega) _ | refine bset ?_ (by simp) _ | refine bstep ?_ (by assumption))))) h0 h1).mono ?_
  rintro e w1 ⟨rfl, b1⟩
  go_wp2
  · rename_i h
    go_ret
    refine ⟨?_, by (repeat (first | exact Below.refl _ _ | assumption | refine Below.drew ?_ | refine balloc ?_ _ | refine bset ?_ (by simp; omega) _ | refine bset ?_ (by simp) _ | refine bstep ?_ (by assumption)))⟩
    rw [szLen_neg (n := wtVots d.cast) (by omega) (wtSlt d) (by unfold wtSlt; omega)]
    rfl
  rename_i h
  go_ret
  exact ⟨rfl, by (repeat (first | exact Below.refl _ _ | assumption | refine Below.drew ?_ | refine balloc ?_ _ | refine bset ?_ (by simp; omega) _ | refine bset ?_ (by simp) _ | refine bstep ?_ (by assumption)))⟩
set_option maxHeartbeats 1000000 in
theorem eqSlot_u (x y : Value) (d d' : Slt) (w : World) (hx : sltR.V w x d) (hy : sltR.V w y d') :
    Calls Try.prog 109 #[x, y] w fun e w' => e = .returned (.bool (decide (d = d'))) ∧ Below w.heap.size w w' := by
  obtain ⟨u1, rfl, h1⟩ := hx
  obtain ⟨v1, rfl, k1⟩ := hy
  obtain ⟨con, sh, pr, lb, lv, cast⟩ := d
  obtain ⟨con', sh', pr', lb', lv', cast'⟩ := d'
  dsimp only at h1 k1
  go_enter Try.func109, Try.ntmps109
  go_wp2_with fail
  all_goals try (go_ret; exact ⟨by first | (simp_all; done) | (simp_all; intros; exfalso; omega), by (repeat (first | exact Below.refl _ _ | assumption | refine Below.drew ?_ | refine balloc ?_ _ | refine bset ?_ (by simp; omega) _ | refine bset ?_ (by simp) _ | refine bstep ?_ (by assumption)))⟩)
  refine (eqVote_any ⟨lb, lv⟩ ⟨lb', lv'⟩ _).mono ?_
  rintro e w0 ⟨rfl, b0⟩
  have x0 : w0.cell? ⟨w.heap.size, 0, none⟩ = some (.int .i64 con) := cell_keep b0 (by simp [go_sem])
  have x1 : w0.cell? ⟨w.heap.size, 1, none⟩ = some (.int .i64 sh) := cell_keep b0 (by simp [go_sem])
  have x2 : w0.cell? ⟨w.heap.size, 2, none⟩ = some (.int .i64 pr) := cell_keep b0 (by simp [go_sem])
  have x3 : w0.cell? ⟨w.heap.size, 3, none⟩ = some (.int .i64 lb) := cell_keep b0 (by simp [go_sem])
  have x4 : w0.cell? ⟨w.heap.size, 4, none⟩ = some (.int .i64 lv) := cell_keep b0 (by simp [go_sem])
  have x5 : w0.cell? ⟨w.heap.size, 5, none⟩ = some (u1) := cell_keep b0 (by simp [go_sem])
  have y0 : w0.cell? ⟨w.heap.size + 1, 0, none⟩ = some (.int .i64 con') := cell_keep b0 (by simp [go_sem])
  have y1 : w0.cell? ⟨w.heap.size + 1, 1, none⟩ = some (.int .i64 sh') := cell_keep b0 (by simp [go_sem])
  have y2 : w0.cell? ⟨w.heap.size + 1, 2, none⟩ = some (.int .i64 pr') := cell_keep b0 (by simp [go_sem])
  have y3 : w0.cell? ⟨w.heap.size + 1, 3, none⟩ = some (.int .i64 lb') := cell_keep b0 (by simp [go_sem])
  have y4 : w0.cell? ⟨w.heap.size + 1, 4, none⟩ = some (.int .i64 lv') := cell_keep b0 (by simp [go_sem])
  have y5 : w0.cell? ⟨w.heap.size + 1, 5, none⟩ = some (v1) := cell_keep b0 (by simp [go_sem])
  go_wp2_with fail
  all_goals try (go_ret; exact ⟨by first | (simp_all; done) | (simp_all; intros; exfalso; omega), by (repeat (first | exact Below.refl _ _ | assumption | refine Below.drew ?_ | refine balloc ?_ _ | refine bset ?_ (by simp; omega) _ | refine bset ?_ (by simp) _ | refine bstep ?_ (by assumption)))⟩)
  refine (eqVoteS_u _ _ cast cast' _ (votsR.below h1 (by (repeat (first | exact Below.refl _ _ | assumption | refine Below.drew ?_ | refine balloc ?_ _ | refine bset ?_ (by simp; omega) _ | refine bset ?_ (by simp) _ | refine bstep ?_ (by assumption))))) (votsR.below k1 (by (repeat (first | exact Below.refl _ _ | assumption | refine Below.drew ?_ | refine balloc ?_ _ | refine bset ?_ (by simp; omega) _ | refine bset ?_ (by simp) _ | refine bstep ?_ (by assumption)))))).mono ?_
  rintro e w1 ⟨rfl, b1⟩
  go_wp2
  all_goals
    go_ret
    exact ⟨by first | (simp_all; done) | (simp_all; intros; exfalso; omega), by (repeat (first | exact Below.refl _ _ | assumption | refine Below.drew ?_ | refine balloc ?_ _ | refine bset ?_ (by simp; omega) _ | refine bset ?_ (by simp) _ | refine bstep ?_ (by assumption)))⟩
end Go.Proofs.Ytncmdeijimgchaa

/-
  Rows of Slot. (Written by program: nest.py.)
-/
namespace Go.Proofs.Ytncmdeijimgchaa
open Go.RowKit
set_option linter.unusedSectionVars false
variable [DecidableEq Vot] [Inhabited Vot] [DecidableEq Slt] [Inhabited Slt]
attribute [local go_sem ↓] Go.wp_at_zero Go.wp_at_succ

def sltsR : Rep (List Slt) := nRep sltR 91 6 lvSlt
def wtSlts (xs : List Slt) : Nat := wtL wtSlt xs
def cntSlts (xs : List Slt) : Nat := cntL cntElSlt xs
def mkSlts (k : Int) (xs : List Slt) : List Slt := mkL mkElSlt cntElSlt k xs
theorem slts_form {w : World} {v : Value} {xs : List Slt} (h : sltsR.V w v xs) : ∃ a c, v = .slice a xs.length c := by
  obtain ⟨a, c, rfl, _⟩ := h
  exact ⟨_, _, rfl⟩
theorem slts_cnt (d : List Slt) : cntSlts d ≤ 7 * wtSlts d := cntL_le (fun x => slt_cntEl x) d
theorem infoSlts : (Try.prog.info? 91).map (fun i => (i.zero, i.size, i.bytes)) = some (some (.agg #[.int .i64 0, .int .i64 0, .int .i64 0, .int .i64 0, .int .i64 0, .slice none 0 0]), 6, 64) := by kernel_rfl
theorem keepSlts {w w' : World} {a0 a1 a2 a3 a4 a5 a6 a7 a8 a9 a10 a11 : Addr} {x0 x1 x2 x3 x4 x5 x6 x7 x8 x9 x10 x11 : Value} (hb : Below w.heap.size w w') (g0 : w.cell? a0 = some x0) (g1 : w.cell? a1 = some x1) (g2 : w.cell? a2 = some x2) (g3 : w.cell? a3 = some x3) (g4 : w.cell? a4 = some x4) (g5 : w.cell? a5 = some x5) (g6 : w.cell? a6 = some x6) (g7 : w.cell? a7 = some x7) (g8 : w.cell? a8 = some x8) (g9 : w.cell? a9 = some x9) (g10 : w.cell? a10 = some x10) (g11 : w.cell? a11 = some x11) : Below w.heap.size w w' ∧ w'.cell? a0 = some x0 ∧ w'.cell? a1 = some x1 ∧ w'.cell? a2 = some x2 ∧ w'.cell? a3 = some x3 ∧ w'.cell? a4 = some x4 ∧ w'.cell? a5 = some x5 ∧ w'.cell? a6 = some x6 ∧ w'.cell? a7 = some x7 ∧ w'.cell? a8 = some x8 ∧ w'.cell? a9 = some x9 ∧ w'.cell? a10 = some x10 ∧ w'.cell? a11 = some x11 :=
  ⟨hb, cell_keep hb g0, cell_keep hb g1, cell_keep hb g2, cell_keep hb g3, cell_keep hb g4, cell_keep hb g5, cell_keep hb g6, cell_keep hb g7, cell_keep hb g8, cell_keep hb g9, cell_keep hb g10, cell_keep hb g11⟩
set_option maxHeartbeats 1000000 in
theorem eqSlotS_u (x y : Value) (xs ys : List Slt) (w : World) (hx : sltsR.V w x xs) (hy : sltsR.V w y ys) :
    Calls Try.prog 71 #[x, y] w fun e w' => e = .returned (.bool (decide (xs = ys))) ∧ Below w.heap.size w w' := by
  obtain ⟨ax, cx, rfl, hcx, hmx, hx⟩ := hx
  obtain ⟨ay, cy, rfl, hcy, hmy, hy⟩ := hy
  unfold maxLen at hmx hmy
  by_cases hl : ys.length = xs.length
  · rw [hl] at hcy hy ⊢
    have HL : Hid (ys.length = xs.length) := hl
    clear hl
    generalize hn : xs.length = n at *
    have HN : Hid (xs.length = n) := hn
    clear hn
    go_enter Try.func71, Try.ntmps71
    go_wp2
    go_loopw [5] (fun i w' => ∃ k : Nat, k ≤ n ∧ i = .int .i64 k ∧ (∀ j, j < k → xs.getD j default = ys.getD j default) ∧ Below w.heap.size w w') (fun i _ => n - (intOf i).toNat)
    case atStart => exact ⟨0, Nat.zero_le _, rfl, fun j h => absurd h (Nat.not_lt_zero _), Below.refl _ _⟩
    case round =>
      obtain ⟨k, hk, rfl, hpre, hbl⟩ := hrel
      have HP : Hid (∀ j, j < k → xs.getD j default = ys.getD j default) := hpre
      clear hpre
      by_cases hlt : k < n
      · obtain ⟨bx, ox, ux, rfl, _, p1, hvx⟩ := hx k hlt
        obtain ⟨b2, oy, uy, rfl, _, p2, hvy⟩ := hy k hlt
        obtain ⟨l1, hl1⟩ : ∃ l, l = xs.getD k default := ⟨_, rfl⟩
        obtain ⟨l2, hl2⟩ : ∃ l, l = ys.getD k default := ⟨_, rfl⟩
        rw [← hl1] at hvx
        rw [← hl2] at hvy
        have H1 : Hid (l1 = xs.getD k default) := hl1
        have H2 : Hid (l2 = ys.getD k default) := hl2
        have hvx' := hvx
        obtain ⟨ux1, rfl, _⟩ := hvx'
        have hvy' := hvy
        obtain ⟨uy1, rfl, _⟩ := hvy'
        have g0 : w.cell? ⟨bx, ox + k * 6, none⟩ = some (.int .i64 l1.con) := p1 0 (by omega)
        have g1 : w.cell? ⟨bx, ox + k * 6 + 1, none⟩ = some (.int .i64 l1.sh) := p1 1 (by omega)
        have g2 : w.cell? ⟨bx, ox + k * 6 + 2, none⟩ = some (.int .i64 l1.pr) := p1 2 (by omega)
        have g3 : w.cell? ⟨bx, ox + k * 6 + 3, none⟩ = some (.int .i64 l1.lb) := p1 3 (by omega)
        have g4 : w.cell? ⟨bx, ox + k * 6 + 4, none⟩ = some (.int .i64 l1.lv) := p1 4 (by omega)
        have g5 : w.cell? ⟨bx, ox + k * 6 + 5, none⟩ = some (ux1) := p1 5 (by omega)
        have g6 : w.cell? ⟨b2, oy + k * 6, none⟩ = some (.int .i64 l2.con) := p2 0 (by omega)
        have g7 : w.cell? ⟨b2, oy + k * 6 + 1, none⟩ = some (.int .i64 l2.sh) := p2 1 (by omega)
        have g8 : w.cell? ⟨b2, oy + k * 6 + 2, none⟩ = some (.int .i64 l2.pr) := p2 2 (by omega)
        have g9 : w.cell? ⟨b2, oy + k * 6 + 3, none⟩ = some (.int .i64 l2.lb) := p2 3 (by omega)
        have g10 : w.cell? ⟨b2, oy + k * 6 + 4, none⟩ = some (.int .i64 l2.lv) := p2 4 (by omega)
        have g11 : w.cell? ⟨b2, oy + k * 6 + 5, none⟩ = some (uy1) := p2 5 (by omega)
        clear hl1 hl2 hx hy p1 p2
        go_wp2
        go_region_held3 (fun w' => Below w.heap.size w w' ∧ w'.cell? ⟨bx, ox + k * 6, none⟩ = some (.int .i64 l1.con) ∧ w'.cell? ⟨bx, ox + k * 6 + 1, none⟩ = some (.int .i64 l1.sh) ∧ w'.cell? ⟨bx, ox + k * 6 + 2, none⟩ = some (.int .i64 l1.pr) ∧ w'.cell? ⟨bx, ox + k * 6 + 3, none⟩ = some (.int .i64 l1.lb) ∧ w'.cell? ⟨bx, ox + k * 6 + 4, none⟩ = some (.int .i64 l1.lv) ∧ w'.cell? ⟨bx, ox + k * 6 + 5, none⟩ = some (ux1) ∧ w'.cell? ⟨b2, oy + k * 6, none⟩ = some (.int .i64 l2.con) ∧ w'.cell? ⟨b2, oy + k * 6 + 1, none⟩ = some (.int .i64 l2.sh) ∧ w'.cell? ⟨b2, oy + k * 6 + 2, none⟩ = some (.int .i64 l2.pr) ∧ w'.cell? ⟨b2, oy + k * 6 + 3, none⟩ = some (.int .i64 l2.lb) ∧ w'.cell? ⟨b2, oy + k * 6 + 4, none⟩ = some (.int .i64 l2.lv) ∧ w'.cell? ⟨b2, oy + k * 6 + 5, none⟩ = some (uy1)) ((refine keepSlts ?_ g0 g1 g2 g3 g4 g5 g6 g7 g8 g9 g10 g11; (repeat (first | exact Below.refl _ _ | assumption | refine Below.drew ?_ | refine balloc ?_ _ | refine bstep ?_ (by assumption))))) (first | (go_at_call 109; refine (eqSlot_u (.agg #[.int .i64 l1.con, .int .i64 l1.sh, .int .i64 l1.pr, .int .i64 l1.lb, .int .i64 l1.lv, ux1]) (.agg #[.int .i64 l2.con, .int .i64 l2.sh, .int .i64 l2.pr, .int .i64 l2.lb, .int .i64 l2.lv, uy1]) l1 l2 _ (sltR.below hvx (by (repeat (first | exact Below.refl _ _ | assumption | refine Below.drew ?_ | refine balloc ?_ _ | refine bstep ?_ (by assumption))))) (sltR.below hvy (by (repeat (first | exact Below.refl _ _ | assumption | refine Below.drew ?_ | refine balloc ?_ _ | refine bstep ?_ (by assumption)))))).mono ?_; rintro e w' ⟨rfl, hb1⟩))
        rename_i hH
        have hB := hH.1
        clear hH
        go_wp2
        · rename_i hle
          go_ret
          refine ⟨?_, hB⟩
          have : ¬ xs = ys := fun h => by
            have : l1 = l2 := by rw [H1.out, H2.out, h]
            simp [this] at hle
          simp [this]
        · rename_i hle
          refine ⟨⟨k + 1, by omega, by go_num, fun j hj => ?_, hB⟩, by simp [intOf]; omega⟩
          by_cases hjk : j < k
          · exact HP.out j hjk
          · have : j = k := by omega
            subst this
            rw [← H1.out, ← H2.out]
            simpa using hle
      · go_wp2
        go_ret
        have : k = n := by omega
        subst this
        refine ⟨?_, hbl⟩
        have : xs = ys := rows_eq_of (by rw [HL.out, HN.out]) (by rw [HN.out]; exact HP.out)
        simp [this]
  · go_enter Try.func71, Try.ntmps71
    have hl' : ((xs.length : Int) == (ys.length : Int)) = false := by simp; omega
    go_wp2
    go_ret
    have : ¬ xs = ys := fun h => hl (by rw [h])
    exact ⟨by simp [this], Below.refl _ _⟩
set_option maxHeartbeats 1000000 in
theorem toSlotS_u (x : Value) (xs : List Slt) (w : World) (hx : sltsR.V w x xs) (hn : wtSlts xs ≤ 1048576) :
    Calls Try.prog 69 #[x] w fun e w' => ∃ v F, e = .returned v ∧ sltsR.O w' w.heap.size F v xs ∧ Below w.heap.size w w' := by
  obtain ⟨ax, cx, rfl, hcx, hmx, hx⟩ := hx
  unfold maxLen at hmx
  unfold wtSlts at hn
  have hlen : xs.length ≤ 1048576 := by unfold wtL at hn; omega
  have hW : ∀ k, k < xs.length → wtSlt (xs.getD k default) ≤ 1048576 := fun k hk => (wt_at hn hk).1
  obtain ⟨i0, hi, hz0, hz1, hz2⟩ := info_parts infoSlts
  obtain ⟨w1, hmk, hown, hgr⟩ := run_make_full (P := Try.prog) w w.heap.size 55 91 i0 _ 6 Try.underlying55 hi hz0 hz1 .i64 .i64 xs.length (by rw [hz2]; omega) (by unfold maxLen; omega) (Nat.le_refl _)
  have hbl0 : Below w.heap.size w w1 := (Below.refl _ _).grown hgr (Nat.le_refl _) (fun k h => by cases h)
  clear hn
  generalize hn' : xs.length = n at *
  have HN : Hid (xs.length = n) := hn'
  clear hn'
  go_enter Try.func69, Try.ntmps69
  go_wp2
  go_loopw [4] (fun i w' => ∃ (k : Nat) (cs : List Value) (us : Nat → Value) (fs : Nat → Nat → Prop), k ≤ n ∧ i = .int .i64 k ∧ PO sltR 91 6 lvSlt w' w.heap.size (.slice (some ⟨w.heap.size, 0, none⟩) n n) n k (fun i => xs.getD i default) cs us fs ∧ Below w.heap.size w w') (fun i _ => n - (intOf i).toNat)
  case atStart => exact ⟨0, _, fun _ => .int .i64 0, fun _ _ => False, Nat.zero_le _, rfl, ⟨hown, fun i h => by omega, fun i h => by omega, fun i h => by omega, fun i h => by omega, fun i j h => by omega⟩, hbl0⟩
  case round =>
    obtain ⟨k, cs, us, fs, hk, rfl, hp, hbl⟩ := hrel
    clear hown hmk hgr hbl0
    by_cases hlt : k < n
    · obtain ⟨bx, ox, ux, rfl, _, p1, hvx⟩ := hx k hlt
      have hw := hW k hlt
      obtain ⟨l, hl⟩ : ∃ l, l = xs.getD k default := ⟨_, rfl⟩
      rw [← hl] at hvx hw
      have HL : Hid (l = xs.getD k default) := hl
      have hvx' := hvx
      obtain ⟨ux1, rfl, _⟩ := hvx'
      have g0 : w.cell? ⟨bx, ox + k * 6, none⟩ = some (.int .i64 l.con) := p1 0 (by omega)
      replace g0 := cell_keep hbl g0
      have g1 : w.cell? ⟨bx, ox + k * 6 + 1, none⟩ = some (.int .i64 l.sh) := p1 1 (by omega)
      replace g1 := cell_keep hbl g1
      have g2 : w.cell? ⟨bx, ox + k * 6 + 2, none⟩ = some (.int .i64 l.pr) := p1 2 (by omega)
      replace g2 := cell_keep hbl g2
      have g3 : w.cell? ⟨bx, ox + k * 6 + 3, none⟩ = some (.int .i64 l.lb) := p1 3 (by omega)
      replace g3 := cell_keep hbl g3
      have g4 : w.cell? ⟨bx, ox + k * 6 + 4, none⟩ = some (.int .i64 l.lv) := p1 4 (by omega)
      replace g4 := cell_keep hbl g4
      have g5 : w.cell? ⟨bx, ox + k * 6 + 5, none⟩ = some (ux1) := p1 5 (by omega)
      replace g5 := cell_keep hbl g5
      clear hx p1 hW hl
      go_wp2_with fail
      refine (toSlot_u (.agg #[.int .i64 l.con, .int .i64 l.sh, .int .i64 l.pr, .int .i64 l.lb, .int .i64 l.lv, ux1]) l _ (sltR.below hvx (by (repeat (first | exact Below.refl _ _ | assumption | refine Below.drew ?_ | refine balloc ?_ _ | refine bstep ?_ (by assumption))))) hw).mono ?_
      rintro e wa ⟨v1, F1, rfl, o1, b1⟩
      have ofm1 := sltR.ofO o1
      obtain ⟨x1_1, rfl, y1_1⟩ := ofm1
      obtain ⟨a1_1, n1_1, rfl⟩ := vots_form y1_1
      have ho1 := (hp.keep b1).row
      obtain ⟨y0, q0⟩ := owns_some ho1 (k * 6) (by omega)
      obtain ⟨y1, q1⟩ := owns_some ho1 (k * 6 + 1) (by omega)
      obtain ⟨y2, q2⟩ := owns_some ho1 (k * 6 + 2) (by omega)
      obtain ⟨y3, q3⟩ := owns_some ho1 (k * 6 + 3) (by omega)
      obtain ⟨y4, q4⟩ := owns_some ho1 (k * 6 + 4) (by omega)
      obtain ⟨y5, q5⟩ := owns_some ho1 (k * 6 + 5) (by omega)
      have hf := fun j => ho1.frozenAt j
      go_wp2
      have s0 := ho1.stored (k * 6) (.int .i64 l.con)
      have s1 := s0.1.stored (k * 6 + 1) (.int .i64 l.sh)
      have s2 := s1.1.stored (k * 6 + 2) (.int .i64 l.pr)
      have s3 := s2.1.stored (k * 6 + 3) (.int .i64 l.lb)
      have s4 := s3.1.stored (k * 6 + 4) (.int .i64 l.lv)
      have s5 := s4.1.stored (k * 6 + 5) (.slice a1_1 l.cast.length n1_1)
      have hrow : World.ownsRow _ w.heap.size 91 6 (.slice (some ⟨w.heap.size, 0, none⟩) n n) n (setRow cs (k * 6) [.int .i64 l.con, .int .i64 l.sh, .int .i64 l.pr, .int .i64 l.lb, .int .i64 l.lv, .slice a1_1 l.cast.length n1_1]) := s5.1
      have hcl := hp.row.1
      refine ⟨⟨k + 1, _, _, _, by omega, by go_num, hp.push (u := (.agg #[.int .i64 l.con, .int .i64 l.sh, .int .i64 l.pr, .int .i64 l.lb, .int .i64 l.lv, .slice a1_1 l.cast.length n1_1])) (F := F1) hbl.size b1 (by rw [← HL.out]; exact o1) rfl hrow ((((((Mod.of_grown s0.2).trans (Mod.of_grown s1.2)).trans (Mod.of_grown s2.2)).trans (Mod.of_grown s3.2)).trans (Mod.of_grown s4.2)).trans (Mod.of_grown s5.2)) ?_ ?_, ?_⟩, by simp [intOf]; omega⟩
      · intro i hi j hj
        exact setRow_old _ _ _ _ (.inl (by omega))
      · intro j hj
        exact setRow_new _ _ _ _ (by simp only [List.length_cons, List.length_nil]; omega) hj
      · exact (((((((bstep hbl b1).setCell (Nat.le_refl _) _).setCell (Nat.le_refl _) _).setCell (Nat.le_refl _) _).setCell (Nat.le_refl _) _).setCell (Nat.le_refl _) _).setCell (Nat.le_refl _) _)
    · go_wp2
      go_ret
      have hkn : k = n := by omega
      subst hkn
      have e := HN.out
      subst e
      exact ⟨_, _, rfl, ⟨cs, us, fs, hp, fun b => Iff.rfl⟩, hbl⟩
set_option maxHeartbeats 1000000 in
theorem szSlotS_u (x : Value) (xs : List Slt) (left : Int) (w : World) (hx : sltsR.V w x xs) (h0 : 0 ≤ left) (h1 : left ≤ 1048576) :
    Calls Try.prog 64 #[x, .int .i64 left] w fun e w' => e = .returned (.int .i64 (szLen left (wtSlts xs))) ∧ Below w.heap.size w w' := by
  obtain ⟨ax, cx, rfl, hcx, hmx, hx⟩ := hx
  unfold maxLen at hmx
  unfold wtSlts wtL
  have HT : Hid (∀ k, k < xs.length → cntTo wtSlt (k + 1) xs = cntTo wtSlt k xs + wtSlt (xs.getD k default) ∧ cntTo wtSlt (k + 1) xs ≤ cntTo wtSlt xs.length xs) :=
    fun k hk => ⟨cntTo_succ _ k xs hk, cntTo_le _ _ _ _ hk⟩
  generalize xs.length = n at *
  by_cases h : left < n
  · have h' : left - (n : Int) < 0 := by omega
    clear hx
    go_enter Try.func64, Try.ntmps64
    go_wp2
    go_ret
    exact ⟨by simp only [szLen]; rw [if_pos (by omega)]; rfl, Below.refl _ _⟩
  · have h' : ¬ left - (n : Int) < 0 := by omega
    go_enter Try.func64, Try.ntmps64
    go_wp2
    go_loopw [1, 5] (fun l i w' => ∃ k : Nat, k ≤ n ∧ i = .int .i64 k ∧ l = .int .i64 (left - n - cntTo wtSlt k xs) ∧ 0 ≤ left - n - cntTo wtSlt k xs ∧ Below w.heap.size w w') (fun _ i _ => n - (intOf i).toNat)
    case atStart => exact ⟨0, Nat.zero_le _, rfl, by simp [cntTo], by simp [cntTo]; omega, Below.refl _ _⟩
    case round =>
      obtain ⟨k, hk, rfl, rfl, hpos, hbl⟩ := hrel
      by_cases hlt : k < n
      · obtain ⟨bx, ox, ux, rfl, _, p1, hvx⟩ := hx k hlt
        obtain ⟨t2, t3⟩ := HT.out k hlt
        generalize xs.getD k default = l at *
        have hvx' := hvx
        obtain ⟨ux1, rfl, _⟩ := hvx'
        have g0 : w.cell? ⟨bx, ox + k * 6, none⟩ = some (.int .i64 l.con) := p1 0 (by omega)
        replace g0 := cell_keep hbl g0
        have g1 : w.cell? ⟨bx, ox + k * 6 + 1, none⟩ = some (.int .i64 l.sh) := p1 1 (by omega)
        replace g1 := cell_keep hbl g1
        have g2 : w.cell? ⟨bx, ox + k * 6 + 2, none⟩ = some (.int .i64 l.pr) := p1 2 (by omega)
        replace g2 := cell_keep hbl g2
        have g3 : w.cell? ⟨bx, ox + k * 6 + 3, none⟩ = some (.int .i64 l.lb) := p1 3 (by omega)
        replace g3 := cell_keep hbl g3
        have g4 : w.cell? ⟨bx, ox + k * 6 + 4, none⟩ = some (.int .i64 l.lv) := p1 4 (by omega)
        replace g4 := cell_keep hbl g4
        have g5 : w.cell? ⟨bx, ox + k * 6 + 5, none⟩ = some (ux1) := p1 5 (by omega)
        replace g5 := cell_keep hbl g5
        generalize hm : wtSlt l = m at *
        have HM : Hid (wtSlt l = m) := hm
        clear hx p1 hm
        generalize cntTo wtSlt k xs = c at *
        go_wp2_with fail
        refine (szSlot_u (.agg #[.int .i64 l.con, .int .i64 l.sh, .int .i64 l.pr, .int .i64 l.lb, .int .i64 l.lv, ux1]) l (left - n - c) _ (sltR.below hvx (by (repeat (first | exact Below.refl _ _ | assumption | refine Below.drew ?_ | refine balloc ?_ _ | refine bstep ?_ (by assumption))))) hpos (by omega)).mono ?_
        rintro e wa ⟨rfl, b1⟩
        rw [HM.out]
        go_wp2
        · rename_i hneg
          go_ret
          refine ⟨?_, by (repeat (first | exact Below.refl _ _ | assumption | refine Below.drew ?_ | refine balloc ?_ _ | refine bstep ?_ (by assumption)))⟩
          have : szLen left ↑(n + cntTo wtSlt n xs) = -1 := by
            unfold szLen at hneg ⊢
            rw [if_pos (by split at hneg <;> omega)]
          rw [this]
          rfl
        · rename_i hneg
          refine ⟨⟨k + 1, by omega, by go_num, ?_, ?_, by (repeat (first | exact Below.refl _ _ | assumption | refine Below.drew ?_ | refine balloc ?_ _ | refine bstep ?_ (by assumption)))⟩, by simp [intOf]; omega⟩
          · congr 1
            unfold szLen at hneg ⊢
            split at hneg <;> omega
          · unfold szLen at hneg
            split at hneg <;> omega
      · go_wp2
        go_ret
        have hkn : k = n := by omega
        subst hkn
        refine ⟨?_, hbl⟩
        have : szLen left ↑(k + cntTo wtSlt k xs) = left - k - cntTo wtSlt k xs := by
          unfold szLen
          rw [if_neg (by omega)]
          omega
        rw [this]
        rfl
set_option maxHeartbeats 1000000 in
theorem heldSlotS_u (v : Value) (xs : List Slt) (k : Int) (w : World) (hv : sltsR.V w v (mkSlts k xs)) (hw : wtSlts xs ≤ 1048576) (hn : k + cntSlts xs ≤ 1073741824) (hk0 : 0 ≤ k) :
    Calls Try.prog 111 #[v, .int .i64 k] w fun r w' => r = .returned (.int .i64 (k + cntSlts xs)) ∧ Below w.heap.size w w' := by
  obtain ⟨a, cap, rfl, hnc, hcm, hc⟩ := hv
  unfold mkSlts at hnc hc ⊢
  rw [length_mkL] at hnc hc ⊢
  unfold maxLen at hcm
  have hW : ∀ k, k < xs.length → wtSlt (xs.getD k default) ≤ 1048576 := fun k hk => (wt_at hw hk).1
  unfold cntSlts cntL at hn ⊢
  have HT : Hid (∀ j, j < xs.length → (mkL mkElSlt cntElSlt k xs).getD j default = mkElSlt (k + cntTo cntElSlt j xs) (xs.getD j default) ∧ cntTo cntElSlt (j + 1) xs = cntTo cntElSlt j xs + cntElSlt (xs.getD j default) ∧ cntTo cntElSlt (j + 1) xs ≤ cntTo cntElSlt xs.length xs) :=
    fun j hj => ⟨getD_mkL _ _ _ _ _ hj, cntTo_succ _ j xs hj, cntTo_le _ _ _ _ hj⟩
  clear hw
  generalize xs.length = n at *
  go_enter Try.func111, Try.ntmps111
  go_wp2
  go_loopw [1, 5] (fun q i w' => ∃ j : Nat, j ≤ n ∧ i = .int .i64 j ∧ q = .int .i64 (k + cntTo cntElSlt j xs) ∧ Below w.heap.size w w') (fun _ i _ => n - (intOf i).toNat)
  case atStart => exact ⟨0, Nat.zero_le _, rfl, by simp [cntTo], Below.refl _ _⟩
  case round =>
    obtain ⟨j, hj, rfl, rfl, hbl⟩ := hrel
    by_cases hlt : j < n
    · obtain ⟨bx, ox, ux, rfl, _, p1, hvx⟩ := hc j hlt
      obtain ⟨t1, t2, t3⟩ := HT.out j hlt
      have hw1 := hW j hlt
      rw [t1] at hvx
      generalize xs.getD j default = l at *
      have tC : cntElSlt l = 1 + 1 + 1 + 1 + 1 + cntVots l.cast := rfl
      rw [tC] at t2
      have tW : wtSlt l = wtVots l.cast := rfl
      rw [tW] at hw1
      clear tC tW
      obtain ⟨q, hq⟩ : ∃ q, q = k + cntTo cntElSlt j xs := ⟨_, rfl⟩
      have hq0 : 0 ≤ q := by omega
      rw [← hq] at hvx ⊢
      have T2 : Hid (k + cntTo cntElSlt (j + 1) xs = q + 1 + 1 + 1 + 1 + 1 + cntVots l.cast) := by show _ = _; omega
      have hq1 : q + 1 + 1 + 1 + 1 + 1 + cntVots l.cast ≤ 1073741824 := by omega
      obtain ⟨ux1, rfl, hv1⟩ := hvx
      dsimp only [mkElSlt] at hv1
      have g0 : w.cell? ⟨bx, ox + j * 6, none⟩ = some (.int .i64 (q)) := p1 0 (by omega)
      replace g0 := cell_keep hbl g0
      have g1 : w.cell? ⟨bx, ox + j * 6 + 1, none⟩ = some (.int .i64 (q + 1)) := p1 1 (by omega)
      replace g1 := cell_keep hbl g1
      have g2 : w.cell? ⟨bx, ox + j * 6 + 2, none⟩ = some (.int .i64 (q + 1 + 1)) := p1 2 (by omega)
      replace g2 := cell_keep hbl g2
      have g3 : w.cell? ⟨bx, ox + j * 6 + 3, none⟩ = some (.int .i64 (q + 1 + 1 + 1)) := p1 3 (by omega)
      replace g3 := cell_keep hbl g3
      have g4 : w.cell? ⟨bx, ox + j * 6 + 4, none⟩ = some (.int .i64 (q + 1 + 1 + 1 + 1)) := p1 4 (by omega)
      replace g4 := cell_keep hbl g4
      have g5 : w.cell? ⟨bx, ox + j * 6 + 5, none⟩ = some (ux1) := p1 5 (by omega)
      replace g5 := cell_keep hbl g5
      clear hc p1 t1 t2 t3 hW hq
      go_wp2_with fail
      refine (heldVoteS_u ux1 l.cast (q + 1 + 1 + 1 + 1 + 1) _ (votsR.below hv1 (by (repeat (first | exact Below.refl _ _ | assumption | refine Below.drew ?_ | refine balloc ?_ _ | refine bstep ?_ (by assumption))))) (by omega) (by omega) (by omega)).mono ?_
      rintro e wb1 ⟨rfl, b1⟩
      go_wp2
      refine ⟨⟨j + 1, by omega, by go_num, ?_, by (repeat (first | exact Below.refl _ _ | assumption | refine Below.drew ?_ | refine balloc ?_ _ | refine bstep ?_ (by assumption)))⟩, by simp [intOf]; omega⟩
      rw [T2.out]
    · go_wp2
      go_ret
      have hjn : j = n := by omega
      subst hjn
      exact ⟨rfl, hbl⟩
set_option maxHeartbeats 1000000 in
theorem markSlotS_u (v : Value) (xs : List Slt) (base : Nat) (F : Nat → Prop) (k : Int) (w : World) (ho : sltsR.O w base F v xs) (hw : wtSlts xs ≤ 1048576) (hn : k + cntSlts xs ≤ 1073741824) (hk0 : 0 ≤ k) :
    Calls Try.prog 72 #[v, .int .i64 k] w fun r w' => r = .returned (.int .i64 (k + cntSlts xs)) ∧ sltsR.O w' base F v (mkSlts k xs) ∧ Mod F w w' := by
  obtain ⟨cs, us, fs, hp, hF⟩ := ho
  have hW : ∀ k, k < xs.length → wtSlt (xs.getD k default) ≤ 1048576 := fun k hk => (wt_at hw hk).1
  unfold cntSlts cntL at hn ⊢
  have HT : Hid (∀ j, j < xs.length → (mkL mkElSlt cntElSlt k xs).getD j default = mkElSlt (k + cntTo cntElSlt j xs) (xs.getD j default) ∧ cntTo cntElSlt (j + 1) xs = cntTo cntElSlt j xs + cntElSlt (xs.getD j default) ∧ cntTo cntElSlt (j + 1) xs ≤ cntTo cntElSlt xs.length xs) :=
    fun j hj => ⟨getD_mkL _ _ _ _ _ hj, cntTo_succ _ j xs hj, cntTo_le _ _ _ _ hj⟩
  clear hw
  have hcap := hp.len
  obtain ⟨av, cv, hav⟩ := owns_form hp.row
  subst hav
  have HF : Hid (∀ b, F b ↔ ((Value.slice av xs.length cv).ownBlock = some b ∨ ∃ i, i < xs.length ∧ fs i b)) := hF
  have HM : Hid ((mkL mkElSlt cntElSlt k xs).length = xs.length) := length_mkL _ _ _ _
  clear hF
  generalize hxl : xs.length = n at *
  clear hxl
  go_enter Try.func72, Try.ntmps72
  go_wp2
  go_loopw [1, 5] (fun q i w' => ∃ (j : Nat) (cs : List Value) (us : Nat → Value), j ≤ n ∧ i = .int .i64 j ∧ q = .int .i64 (k + cntTo cntElSlt j xs) ∧ PO sltR 91 6 lvSlt w' base (.slice av n cv) n n (fun i => if i < j then (mkL mkElSlt cntElSlt k xs).getD i default else xs.getD i default) cs us fs ∧ Mod F w w') (fun _ i _ => n - (intOf i).toNat)
  case atStart => exact ⟨0, cs, us, Nat.zero_le _, rfl, by simp [cntTo], hp.cast (fun i hi => by simp), Mod.refl _ _⟩
  case round =>
    clear hp
    obtain ⟨j, cs, us, hj, rfl, rfl, hp1, hm⟩ := hrel
    by_cases hlt : j < n
    · have he := hp1.el j hlt
      simp only [Nat.lt_irrefl, if_false] at he
      obtain ⟨g, rfl, hcl⟩ := hp1.at hlt hlt
      obtain ⟨t1, t2, t3⟩ := HT.out j hlt
      have hw1 := hW j hlt
      obtain ⟨l, hl⟩ : ∃ l, l = xs.getD j default := ⟨_, rfl⟩
      rw [← hl] at t1 t2 hw1 he
      have tC : cntElSlt l = 1 + 1 + 1 + 1 + 1 + cntVots l.cast := rfl
      rw [tC] at t2
      have tW : wtSlt l = wtVots l.cast := rfl
      rw [tW] at hw1
      clear tC tW
      obtain ⟨q, hq⟩ : ∃ q, q = k + cntTo cntElSlt j xs := ⟨_, rfl⟩
      have hq0 : 0 ≤ q := by omega
      rw [← hq] at t1 ⊢
      have T1 : Hid ((mkL mkElSlt cntElSlt k xs).getD j default = mkElSlt q l) := t1
      have T2 : Hid (k + cntTo cntElSlt (j + 1) xs = q + 1 + 1 + 1 + 1 + 1 + cntVots l.cast) := by show _ = _; omega
      have hq1 : q + 1 + 1 + 1 + 1 + 1 + cntVots l.cast ≤ 1073741824 := by omega
      obtain ⟨ux1, F1, hu, h1, hF⟩ := he
      rw [hu] at hcl
      have g0 : wr.cell? ⟨g, j * 6, none⟩ = some (.int .i64 l.con) := hcl 0 (by omega)
      have g1 : wr.cell? ⟨g, j * 6 + 1, none⟩ = some (.int .i64 l.sh) := hcl 1 (by omega)
      have g2 : wr.cell? ⟨g, j * 6 + 2, none⟩ = some (.int .i64 l.pr) := hcl 2 (by omega)
      have g3 : wr.cell? ⟨g, j * 6 + 3, none⟩ = some (.int .i64 l.lb) := hcl 3 (by omega)
      have g4 : wr.cell? ⟨g, j * 6 + 4, none⟩ = some (.int .i64 l.lv) := hcl 4 (by omega)
      have g5 : wr.cell? ⟨g, j * 6 + 5, none⟩ = some (ux1) := hcl 5 (by omega)
      have hrow := hp1.row
      have hclen := hrow.1
      have hf := fun j => hrow.frozenAt j
      clear hl t1 t2 t3 hW hq hcl
      go_wp2_with fail
      have st1 := hrow.stored (j * 6) (.int .i64 (q))
      replace h1 := votsR.mod h1 (Mod.of_grown st1.2) (fun b hb he => hp1.out j hlt b ((hF b).2 hb) he)
      have M1 := (Mod.of_grown st1.2).mono (G := fun b => (Value.slice (some ⟨g, 0, none⟩) n cv).ownBlock = some b ∨ fs j b) (fun b hb => .inl hb)
      have st2 := st1.1.stored (j * 6 + 1) (.int .i64 (q + 1))
      replace h1 := votsR.mod h1 (Mod.of_grown st2.2) (fun b hb he => hp1.out j hlt b ((hF b).2 hb) he)
      have M2 := (Mod.of_grown st2.2).mono (G := fun b => (Value.slice (some ⟨g, 0, none⟩) n cv).ownBlock = some b ∨ fs j b) (fun b hb => .inl hb)
      have st3 := st2.1.stored (j * 6 + 2) (.int .i64 (q + 1 + 1))
      replace h1 := votsR.mod h1 (Mod.of_grown st3.2) (fun b hb he => hp1.out j hlt b ((hF b).2 hb) he)
      have M3 := (Mod.of_grown st3.2).mono (G := fun b => (Value.slice (some ⟨g, 0, none⟩) n cv).ownBlock = some b ∨ fs j b) (fun b hb => .inl hb)
      have st4 := st3.1.stored (j * 6 + 3) (.int .i64 (q + 1 + 1 + 1))
      replace h1 := votsR.mod h1 (Mod.of_grown st4.2) (fun b hb he => hp1.out j hlt b ((hF b).2 hb) he)
      have M4 := (Mod.of_grown st4.2).mono (G := fun b => (Value.slice (some ⟨g, 0, none⟩) n cv).ownBlock = some b ∨ fs j b) (fun b hb => .inl hb)
      have st5 := st4.1.stored (j * 6 + 4) (.int .i64 (q + 1 + 1 + 1 + 1))
      replace h1 := votsR.mod h1 (Mod.of_grown st5.2) (fun b hb he => hp1.out j hlt b ((hF b).2 hb) he)
      have M5 := (Mod.of_grown st5.2).mono (G := fun b => (Value.slice (some ⟨g, 0, none⟩) n cv).ownBlock = some b ∨ fs j b) (fun b hb => .inl hb)
      refine (markVoteS_u ux1 l.cast base F1 (q + 1 + 1 + 1 + 1 + 1) _ h1 (by omega) (by omega) (by omega)).mono ?_
      rintro e wb1 ⟨rfl, r1, m1⟩
      have rw1 := m1.owns st5.1 (fun b he hb => hp1.out j hlt b ((hF b).2 hb) he)
      have M6 := m1.mono (G := fun b => (Value.slice (some ⟨g, 0, none⟩) n cv).ownBlock = some b ∨ fs j b) (fun b hb => .inr ((hF b).2 hb))
      go_wp2
      have hq := hp1.turn (u := (.agg #[.int .i64 (q), .int .i64 (q + 1), .int .i64 (q + 1 + 1), .int .i64 (q + 1 + 1 + 1), .int .i64 (q + 1 + 1 + 1 + 1), ux1])) (x := mkElSlt q l) hlt (((((M1.trans M2).trans M3).trans M4).trans M5).trans M6) ⟨ux1, F1, rfl, r1, hF⟩ rfl rw1 ?_ ?_
      · refine ⟨⟨j + 1, _, _, by omega, by go_num, by rw [T2.out], hq.cast fun i hi => ?_, hm.trans ((((((M1.trans M2).trans M3).trans M4).trans M5).trans M6).mono fun b hb => (HF.out b).2 ?_)⟩, by simp [intOf]; omega⟩
        · by_cases hij : i = j
          · subst hij
            rw [upd_at, if_pos (by omega)]
            exact T1.out
          · rw [upd_ne _ _ hij]
            by_cases h : i < j
            · rw [if_pos h, if_pos (by omega)]
            · rw [if_neg h, if_neg (by omega)]
        · rcases hb with hb | hb
          · exact .inl hb
          · exact .inr ⟨j, hlt, hb⟩
      · intro i hi hij o ho
        simp only [List.getElem?_set]
        rw [if_neg (by omega)]; rw [if_neg (by omega)]; rw [if_neg (by omega)]; rw [if_neg (by omega)]; rw [if_neg (by omega)]
      · intro o ho
        have ho' : o = 0 ∨ o = 1 ∨ o = 2 ∨ o = 3 ∨ o = 4 ∨ o = 5 := by omega
        rcases ho' with rfl | rfl | rfl | rfl | rfl | rfl
        · rw [show j * 6 + 0 = j * 6 from rfl, List.getElem?_set_ne (by omega), List.getElem?_set_ne (by omega), List.getElem?_set_ne (by omega), List.getElem?_set_ne (by omega), List.getElem?_set_self (by (try simp only [List.length_set]); omega)]
          rfl
        · rw [List.getElem?_set_ne (by omega), List.getElem?_set_ne (by omega), List.getElem?_set_ne (by omega), List.getElem?_set_self (by (try simp only [List.length_set]); omega)]
          rfl
        · rw [List.getElem?_set_ne (by omega), List.getElem?_set_ne (by omega), List.getElem?_set_self (by (try simp only [List.length_set]); omega)]
          rfl
        · rw [List.getElem?_set_ne (by omega), List.getElem?_set_self (by (try simp only [List.length_set]); omega)]
          rfl
        · rw [List.getElem?_set_self (by (try simp only [List.length_set]); omega)]
          rfl
        · rw [List.getElem?_set_ne (by omega), List.getElem?_set_ne (by omega), List.getElem?_set_ne (by omega), List.getElem?_set_ne (by omega), List.getElem?_set_ne (by omega), hp1.cell j hlt 5 (by omega), hu]
          rfl
    · go_wp2
      go_ret
      have hjn : j = n := by omega
      subst hjn
      refine ⟨rfl, ⟨cs, us, fs, ?_, ?_⟩, hm⟩
      · unfold mkSlts
        rw [HM.out]
        exact hp1.cast (fun i hi => by rw [if_pos hi])
      · unfold mkSlts
        rw [HM.out]
        exact HF.out
end Go.Proofs.Ytncmdeijimgchaa

/-
  Slices of Balance: the law's own copy, comparison, count, marks. (Written by program after my texts on legs.)
-/
namespace Go.Proofs.Ytncmdeijimgchaa
open Go.RowKit
set_option linter.unusedSectionVars false
attribute [local go_sem ↓] Go.wp_at_zero Go.wp_at_succ

structure Bal where
  ac : Int
  ast : Int
  am : Int
variable [DecidableEq Bal] [Inhabited Bal]

end Go.Proofs.Ytncmdeijimgchaa

