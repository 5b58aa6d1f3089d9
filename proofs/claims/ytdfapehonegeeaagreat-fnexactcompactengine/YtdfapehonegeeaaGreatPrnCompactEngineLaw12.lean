import Derived.Test.YtdfapehonegeeaaGreatPrnCompactEngineLaw11
import Derived.Test.YtdfapehonegeeaaGreatPrnCompactEngineLaw6
import Derived.Test.YtdfapehonegeeaaGreatPrnCompactEngineLaw1
import Derived.Test.YtdfapehonegeeaaGreatPrnCompactEngineLaw3
import Derived.Test.YtdfapehonegeeaaGreatPrnCompactEngineLaw4

/-
  Engine. (Written by program: nest.py.)
-/
namespace Go.Proofs.YtdfapehonegeeaaGreat
open Go.RowKit
set_option linter.unusedSectionVars false
variable [DecidableEq Logg] [Inhabited Logg] [DecidableEq Rw] [Inhabited Rw]
attribute [local go_sem ↓] Go.wp_at_zero Go.wp_at_succ

set_option linter.unusedSimpArgs false

structure Engn where
  log : Logg
  mem : List Rw
  tables : List (List Rw)
  next : Int
variable [DecidableEq Engn] [Inhabited Engn]

def engnR : Rep Engn where
  V := fun w v x => ∃ u1_1 u1_2 u2 u3, v = .agg #[u1_1, u1_2, u2, u3, .int .i64 x.next] ∧ loggR.V w (.agg #[u1_1, u1_2]) x.log ∧ rowsR.V w u2 x.mem ∧ rowssR.V w u3 x.tables
  O := fun w base F v x => ∃ u1_1 u1_2 u2 u3 F1 F2 F3, v = .agg #[u1_1, u1_2, u2, u3, .int .i64 x.next] ∧ loggR.O w base F1 (.agg #[u1_1, u1_2]) x.log ∧ rowsR.O w base F2 u2 x.mem ∧ rowssR.O w base F3 u3 x.tables ∧ (∀ b, F1 b → ¬ F2 b) ∧ (∀ b, F1 b → ¬ F3 b) ∧ (∀ b, F2 b → ¬ F3 b) ∧ (∀ b, F b ↔ (F1 b ∨ F2 b ∨ F3 b))
  below := fun h hb => by
    obtain ⟨u1_1, u1_2, u2, u3, rfl, h1, h2, h3⟩ := h
    exact ⟨u1_1, u1_2, u2, u3, rfl, loggR.below h1 hb, rowsR.below h2 hb, rowssR.below h3 hb⟩
  ofO := fun h => by
    obtain ⟨u1_1, u1_2, u2, u3, F1, F2, F3, rfl, h1, h2, h3, _⟩ := h
    exact ⟨u1_1, u1_2, u2, u3, rfl, loggR.ofO h1, rowsR.ofO h2, rowssR.ofO h3⟩
  mod := fun h hm hd => by
    obtain ⟨u1_1, u1_2, u2, u3, F1, F2, F3, rfl, h1, h2, h3, s12, s13, s23, hF⟩ := h
    exact ⟨u1_1, u1_2, u2, u3, F1, F2, F3, rfl, loggR.mod h1 hm (fun b hb => hd b ((hF b).2 (.inl hb))), rowsR.mod h2 hm (fun b hb => hd b ((hF b).2 (.inr (.inl hb)))), rowssR.mod h3 hm (fun b hb => hd b ((hF b).2 (.inr (.inr hb)))), s12, s13, s23, hF⟩
  rng := fun h b hb => by
    obtain ⟨u1_1, u1_2, u2, u3, F1, F2, F3, rfl, h1, h2, h3, s12, s13, s23, hF⟩ := h
    rcases (hF b).1 hb with hb | hb | hb
    · exact loggR.rng h1 b hb
    · exact rowsR.rng h2 b hb
    · exact rowssR.rng h3 b hb
  base := fun h hb => by
    obtain ⟨u1_1, u1_2, u2, u3, F1, F2, F3, rfl, h1, h2, h3, s12, s13, s23, hF⟩ := h
    exact ⟨u1_1, u1_2, u2, u3, F1, F2, F3, rfl, loggR.base h1 hb, rowsR.base h2 hb, rowssR.base h3 hb, s12, s13, s23, hF⟩
def wtEngn (x : Engn) : Nat := wtLogg x.log + wtRows x.mem + wtRowss x.tables
def cntEngn (x : Engn) : Nat := cntLogg x.log + cntRows x.mem + cntRowss x.tables
def mkEngn (k : Int) (x : Engn) : Engn := { x with log := mkLogg k x.log, mem := mkRows (k + cntLogg x.log) x.mem, tables := mkRowss (k + cntLogg x.log + cntRows x.mem) x.tables }
theorem engn_form {w : World} {v : Value} {x : Engn} (h : engnR.V w v x) : ∃ a1_1 a1_2 a2 a3 c1_1 c1_2 c2 c3, v = .agg #[.slice a1_1 x.log.synced.length c1_1, .slice a1_2 x.log.loose.length c1_2, .slice a2 x.mem.length c2, .slice a3 x.tables.length c3, .int .i64 x.next] := by
  obtain ⟨u1_1, u1_2, u2, u3, rfl, h1, h2, h3⟩ := h
  obtain ⟨a1_1, a1_2, c1_1, c1_2, e1⟩ := logg_form h1
  simp only [Value.agg.injEq, Array.mk.injEq, List.cons.injEq, and_true] at e1
  obtain ⟨rfl, rfl⟩ := e1
  obtain ⟨a2, c2, rfl⟩ := rows_form h2
  obtain ⟨a3, c3, rfl⟩ := rowss_form h3
  exact ⟨_, _, _, _, _, _, _, _, rfl⟩
theorem engn_cnt (d : Engn) : cntEngn d ≤ 4 * wtEngn d := by
  unfold cntEngn wtEngn
  have q1 := logg_cnt d.log
  have q2 := rows_cnt d.mem
  have q3 := rowss_cnt d.tables
  omega
set_option maxHeartbeats 2000000 in
theorem toEngine_u (x : Value) (d : Engn) (w : World) (hx : engnR.V w x d) (hn : wtEngn d ≤ 1048576) :
    Calls Tryz.prog 12 #[x] w fun e w' => ∃ v F, e = .returned v ∧ engnR.O w' w.heap.size F v d ∧ Below w.heap.size w w' := by
  obtain ⟨u1_1, u1_2, u2, u3, rfl, h1, h2, h3⟩ := hx
  unfold wtEngn at hn
  go_enter Tryz.func12, Tryz.ntmps12
  go_wp2_with fail
  refine (toLog_u _ d.log _ (loggR.below h1 (by (repeat (first | exact Below.refl _ _ | assumption | refine Below.drew ?_ | refine balloc ?_ _ | refine bset ?_ (by simp; omega) _ | refine bset ?_ (by simp) _ | refine bstep ?_ (by assumption))))) (by omega)).mono ?_
  rintro e w1 ⟨v1, F1, rfl, o1, b1⟩
  have hB1 : Below w.heap.size w w1 := bstep (by (repeat (first | exact Below.refl _ _ | assumption | refine Below.drew ?_ | refine balloc ?_ _ | refine bset ?_ (by simp; omega) _ | refine bset ?_ (by simp) _ | refine bstep ?_ (by assumption)))) b1
  have ofm1 := loggR.ofO o1
  obtain ⟨x1_1, x1_2, rfl, y1_1, y1_2⟩ := ofm1
  obtain ⟨a1_1, n1_1, rfl⟩ := bytes_form y1_1
  obtain ⟨a1_2, n1_2, rfl⟩ := bytes_form y1_2
  obtain ⟨c1, f1⟩ := bcell b1
  have z1 := b1.size
  simp at z1
  have l1 := fun b hb => loggR.rng o1 b hb
  simp at l1
  replace o1 := loggR.base (base' := w.heap.size + 3) o1 (by simp; try omega)
  have y0 : w1.cell? ⟨w.heap.size, 0, none⟩ = some (u1_1) := cell_keep b1 (by simp [go_sem])
  have y1 : w1.cell? ⟨w.heap.size, 1, none⟩ = some (u1_2) := cell_keep b1 (by simp [go_sem])
  have y2 : w1.cell? ⟨w.heap.size, 2, none⟩ = some (u2) := cell_keep b1 (by simp [go_sem])
  have y3 : w1.cell? ⟨w.heap.size, 3, none⟩ = some (u3) := cell_keep b1 (by simp [go_sem])
  have y4 : w1.cell? ⟨w.heap.size, 4, none⟩ = some (.int .i64 d.next) := cell_keep b1 (by simp [go_sem])
  have r0 : w1.cell? ⟨w.heap.size + 1, 0, none⟩ = some (.slice none 0 0) := cell_keep b1 (by simp [go_sem])
  have r1 : w1.cell? ⟨w.heap.size + 1, 1, none⟩ = some (.slice none 0 0) := cell_keep b1 (by simp [go_sem])
  have r2 : w1.cell? ⟨w.heap.size + 1, 2, none⟩ = some (.slice none 0 0) := cell_keep b1 (by simp [go_sem])
  have r3 : w1.cell? ⟨w.heap.size + 1, 3, none⟩ = some (.slice none 0 0) := cell_keep b1 (by simp [go_sem])
  have r4 : w1.cell? ⟨w.heap.size + 1, 4, none⟩ = some (.int .i64 0) := cell_keep b1 (by simp [go_sem])
  have s0 : w1.cell? ⟨w.heap.size + 2, 0, none⟩ = some (.slice none 0 0) := cell_keep b1 (by simp [go_sem])
  have s1 : w1.cell? ⟨w.heap.size + 2, 1, none⟩ = some (.slice none 0 0) := cell_keep b1 (by simp [go_sem])
  have s2 : w1.cell? ⟨w.heap.size + 2, 2, none⟩ = some (.slice none 0 0) := cell_keep b1 (by simp [go_sem])
  have s3 : w1.cell? ⟨w.heap.size + 2, 3, none⟩ = some (.slice none 0 0) := cell_keep b1 (by simp [go_sem])
  have s4 : w1.cell? ⟨w.heap.size + 2, 4, none⟩ = some (.int .i64 0) := cell_keep b1 (by simp [go_sem])
  have t1 : ∀ o, w1.frozen? ⟨w.heap.size + 1, o, none⟩ = false := fun o => by rw [f1 _ _ (by simp; try omega)]; simp [go_sem]
  have t2 : ∀ o, w1.frozen? ⟨w.heap.size + 2, o, none⟩ = false := fun o => by rw [f1 _ _ (by simp; try omega)]; simp [go_sem]
  clear c1 f1
  have x0 := y0
  have x1 := y1
  have x2 := y2
  have x3 := y3
  have x4 := y4
  have q0 := r0
  have q1 := r1
  have q2 := r2
  have q3 := r3
  have q4 := r4
  have p0 := s0
  have p1 := s1
  have p2 := s2
  have p3 := s3
  have p4 := s4
  have qf := t1
  have pf := t2
  clear t1 t2 y0 y1 y2 y3 y4 r0 r1 r2 r3 r4 s0 s1 s2 s3 s4
  clear b1
  go_wp2_with fail
  refine (toRowS_u _ d.mem _ (rowsR.below h2 (by (repeat (first | refine bset ?_ (by simp; omega) _ | refine bset ?_ (by simp) _ | refine balloc ?_ _ | assumption)))) (by omega)).mono ?_
  rintro e w2 ⟨v2, F2, rfl, o2, b2⟩
  have hB2 : Below w.heap.size w w2 := bstep (by (repeat (first | refine bset ?_ (by simp; omega) _ | refine bset ?_ (by simp) _ | refine balloc ?_ _ | assumption))) b2
  obtain ⟨a2, n2, rfl⟩ := rows_form (rowsR.ofO o2)
  obtain ⟨c2, f2⟩ := bcell b2
  have z2 := b2.size
  simp at z2
  have l2 := fun b hb => rowsR.rng o2 b hb
  simp at l2
  replace o2 := rowsR.base (base' := w.heap.size + 3) o2 (by simp; try omega)
  have hk1 : ∀ F v x, loggR.O w1 (w.heap.size + 3) F v x → loggR.O w2 (w.heap.size + 3) F v x := fun F v x o => loggR.keep (by (repeat (first | refine Rep.set _ ?_ _ (by simp; omega) | refine Rep.set _ ?_ _ (by simp) | refine Rep.alloc _ ?_ _ | assumption))) b2
  replace o1 := hk1 _ _ _ o1
  clear hk1
  have y0 : w2.cell? ⟨w.heap.size, 0, none⟩ = some (u1_1) := cell_keep b2 (by simp [go_sem, x0, x1, x2, x3, x4, q0, q1, q2, q3, q4, p0, p1, p2, p3, p4])
  have y1 : w2.cell? ⟨w.heap.size, 1, none⟩ = some (u1_2) := cell_keep b2 (by simp [go_sem, x0, x1, x2, x3, x4, q0, q1, q2, q3, q4, p0, p1, p2, p3, p4])
  have y2 : w2.cell? ⟨w.heap.size, 2, none⟩ = some (u2) := cell_keep b2 (by simp [go_sem, x0, x1, x2, x3, x4, q0, q1, q2, q3, q4, p0, p1, p2, p3, p4])
  have y3 : w2.cell? ⟨w.heap.size, 3, none⟩ = some (u3) := cell_keep b2 (by simp [go_sem, x0, x1, x2, x3, x4, q0, q1, q2, q3, q4, p0, p1, p2, p3, p4])
  have y4 : w2.cell? ⟨w.heap.size, 4, none⟩ = some (.int .i64 d.next) := cell_keep b2 (by simp [go_sem, x0, x1, x2, x3, x4, q0, q1, q2, q3, q4, p0, p1, p2, p3, p4])
  have r0 : w2.cell? ⟨w.heap.size + 1, 0, none⟩ = some (.slice none 0 0) := cell_keep b2 (by simp [go_sem, x0, x1, x2, x3, x4, q0, q1, q2, q3, q4, p0, p1, p2, p3, p4])
  have r1 : w2.cell? ⟨w.heap.size + 1, 1, none⟩ = some (.slice none 0 0) := cell_keep b2 (by simp [go_sem, x0, x1, x2, x3, x4, q0, q1, q2, q3, q4, p0, p1, p2, p3, p4])
  have r2 : w2.cell? ⟨w.heap.size + 1, 2, none⟩ = some (.slice none 0 0) := cell_keep b2 (by simp [go_sem, x0, x1, x2, x3, x4, q0, q1, q2, q3, q4, p0, p1, p2, p3, p4])
  have r3 : w2.cell? ⟨w.heap.size + 1, 3, none⟩ = some (.slice none 0 0) := cell_keep b2 (by simp [go_sem, x0, x1, x2, x3, x4, q0, q1, q2, q3, q4, p0, p1, p2, p3, p4])
  have r4 : w2.cell? ⟨w.heap.size + 1, 4, none⟩ = some (.int .i64 0) := cell_keep b2 (by simp [go_sem, x0, x1, x2, x3, x4, q0, q1, q2, q3, q4, p0, p1, p2, p3, p4])
  have s0 : w2.cell? ⟨w.heap.size + 2, 0, none⟩ = some (.slice a1_1 d.log.synced.length n1_1) := cell_keep b2 (by simp [go_sem, x0, x1, x2, x3, x4, q0, q1, q2, q3, q4, p0, p1, p2, p3, p4])
  have s1 : w2.cell? ⟨w.heap.size + 2, 1, none⟩ = some (.slice a1_2 d.log.loose.length n1_2) := cell_keep b2 (by simp [go_sem, x0, x1, x2, x3, x4, q0, q1, q2, q3, q4, p0, p1, p2, p3, p4])
  have s2 : w2.cell? ⟨w.heap.size + 2, 2, none⟩ = some (.slice none 0 0) := cell_keep b2 (by simp [go_sem, x0, x1, x2, x3, x4, q0, q1, q2, q3, q4, p0, p1, p2, p3, p4])
  have s3 : w2.cell? ⟨w.heap.size + 2, 3, none⟩ = some (.slice none 0 0) := cell_keep b2 (by simp [go_sem, x0, x1, x2, x3, x4, q0, q1, q2, q3, q4, p0, p1, p2, p3, p4])
  have s4 : w2.cell? ⟨w.heap.size + 2, 4, none⟩ = some (.int .i64 0) := cell_keep b2 (by simp [go_sem, x0, x1, x2, x3, x4, q0, q1, q2, q3, q4, p0, p1, p2, p3, p4])
  have t1 : ∀ o, w2.frozen? ⟨w.heap.size + 1, o, none⟩ = false := fun o => by rw [f2 _ _ (by simp; try omega)]; simp [go_sem, qf]
  have t2 : ∀ o, w2.frozen? ⟨w.heap.size + 2, o, none⟩ = false := fun o => by rw [f2 _ _ (by simp; try omega)]; simp [go_sem, pf]
  clear x0 x1 x2 x3 x4 q0 q1 q2 q3 q4 p0 p1 p2 p3 p4 qf pf
  clear c2 f2
  have x0 := y0
  have x1 := y1
  have x2 := y2
  have x3 := y3
  have x4 := y4
  have q0 := r0
  have q1 := r1
  have q2 := r2
  have q3 := r3
  have q4 := r4
  have p0 := s0
  have p1 := s1
  have p2 := s2
  have p3 := s3
  have p4 := s4
  have qf := t1
  have pf := t2
  clear t1 t2 y0 y1 y2 y3 y4 r0 r1 r2 r3 r4 s0 s1 s2 s3 s4
  clear b2 hB1
  go_wp2_with fail
  refine (toRowSS_u _ d.tables _ (rowssR.below h3 (by (repeat (first | refine bset ?_ (by simp; omega) _ | refine bset ?_ (by simp) _ | refine balloc ?_ _ | assumption)))) (by omega)).mono ?_
  rintro e w3 ⟨v3, F3, rfl, o3, b3⟩
  have hB3 : Below w.heap.size w w3 := bstep (by (repeat (first | refine bset ?_ (by simp; omega) _ | refine bset ?_ (by simp) _ | refine balloc ?_ _ | assumption))) b3
  obtain ⟨a3, n3, rfl⟩ := rowss_form (rowssR.ofO o3)
  obtain ⟨c3, f3⟩ := bcell b3
  have z3 := b3.size
  simp at z3
  have l3 := fun b hb => rowssR.rng o3 b hb
  simp at l3
  replace o3 := rowssR.base (base' := w.heap.size + 3) o3 (by simp; try omega)
  have hk1 : ∀ F v x, loggR.O w2 (w.heap.size + 3) F v x → loggR.O w3 (w.heap.size + 3) F v x := fun F v x o => loggR.keep (by (repeat (first | refine Rep.set _ ?_ _ (by simp; omega) | refine Rep.set _ ?_ _ (by simp) | refine Rep.alloc _ ?_ _ | assumption))) b3
  replace o1 := hk1 _ _ _ o1
  clear hk1
  have hk2 : ∀ F v x, rowsR.O w2 (w.heap.size + 3) F v x → rowsR.O w3 (w.heap.size + 3) F v x := fun F v x o => rowsR.keep (by (repeat (first | refine Rep.set _ ?_ _ (by simp; omega) | refine Rep.set _ ?_ _ (by simp) | refine Rep.alloc _ ?_ _ | assumption))) b3
  replace o2 := hk2 _ _ _ o2
  clear hk2
  have y0 : w3.cell? ⟨w.heap.size, 0, none⟩ = some (u1_1) := cell_keep b3 (by simp [go_sem, x0, x1, x2, x3, x4, q0, q1, q2, q3, q4, p0, p1, p2, p3, p4])
  have y1 : w3.cell? ⟨w.heap.size, 1, none⟩ = some (u1_2) := cell_keep b3 (by simp [go_sem, x0, x1, x2, x3, x4, q0, q1, q2, q3, q4, p0, p1, p2, p3, p4])
  have y2 : w3.cell? ⟨w.heap.size, 2, none⟩ = some (u2) := cell_keep b3 (by simp [go_sem, x0, x1, x2, x3, x4, q0, q1, q2, q3, q4, p0, p1, p2, p3, p4])
  have y3 : w3.cell? ⟨w.heap.size, 3, none⟩ = some (u3) := cell_keep b3 (by simp [go_sem, x0, x1, x2, x3, x4, q0, q1, q2, q3, q4, p0, p1, p2, p3, p4])
  have y4 : w3.cell? ⟨w.heap.size, 4, none⟩ = some (.int .i64 d.next) := cell_keep b3 (by simp [go_sem, x0, x1, x2, x3, x4, q0, q1, q2, q3, q4, p0, p1, p2, p3, p4])
  have r0 : w3.cell? ⟨w.heap.size + 1, 0, none⟩ = some (.slice none 0 0) := cell_keep b3 (by simp [go_sem, x0, x1, x2, x3, x4, q0, q1, q2, q3, q4, p0, p1, p2, p3, p4])
  have r1 : w3.cell? ⟨w.heap.size + 1, 1, none⟩ = some (.slice none 0 0) := cell_keep b3 (by simp [go_sem, x0, x1, x2, x3, x4, q0, q1, q2, q3, q4, p0, p1, p2, p3, p4])
  have r2 : w3.cell? ⟨w.heap.size + 1, 2, none⟩ = some (.slice none 0 0) := cell_keep b3 (by simp [go_sem, x0, x1, x2, x3, x4, q0, q1, q2, q3, q4, p0, p1, p2, p3, p4])
  have r3 : w3.cell? ⟨w.heap.size + 1, 3, none⟩ = some (.slice none 0 0) := cell_keep b3 (by simp [go_sem, x0, x1, x2, x3, x4, q0, q1, q2, q3, q4, p0, p1, p2, p3, p4])
  have r4 : w3.cell? ⟨w.heap.size + 1, 4, none⟩ = some (.int .i64 0) := cell_keep b3 (by simp [go_sem, x0, x1, x2, x3, x4, q0, q1, q2, q3, q4, p0, p1, p2, p3, p4])
  have s0 : w3.cell? ⟨w.heap.size + 2, 0, none⟩ = some (.slice a1_1 d.log.synced.length n1_1) := cell_keep b3 (by simp [go_sem, x0, x1, x2, x3, x4, q0, q1, q2, q3, q4, p0, p1, p2, p3, p4])
  have s1 : w3.cell? ⟨w.heap.size + 2, 1, none⟩ = some (.slice a1_2 d.log.loose.length n1_2) := cell_keep b3 (by simp [go_sem, x0, x1, x2, x3, x4, q0, q1, q2, q3, q4, p0, p1, p2, p3, p4])
  have s2 : w3.cell? ⟨w.heap.size + 2, 2, none⟩ = some (.slice a2 d.mem.length n2) := cell_keep b3 (by simp [go_sem, x0, x1, x2, x3, x4, q0, q1, q2, q3, q4, p0, p1, p2, p3, p4])
  have s3 : w3.cell? ⟨w.heap.size + 2, 3, none⟩ = some (.slice none 0 0) := cell_keep b3 (by simp [go_sem, x0, x1, x2, x3, x4, q0, q1, q2, q3, q4, p0, p1, p2, p3, p4])
  have s4 : w3.cell? ⟨w.heap.size + 2, 4, none⟩ = some (.int .i64 0) := cell_keep b3 (by simp [go_sem, x0, x1, x2, x3, x4, q0, q1, q2, q3, q4, p0, p1, p2, p3, p4])
  have t1 : ∀ o, w3.frozen? ⟨w.heap.size + 1, o, none⟩ = false := fun o => by rw [f3 _ _ (by simp; try omega)]; simp [go_sem, qf]
  have t2 : ∀ o, w3.frozen? ⟨w.heap.size + 2, o, none⟩ = false := fun o => by rw [f3 _ _ (by simp; try omega)]; simp [go_sem, pf]
  clear x0 x1 x2 x3 x4 q0 q1 q2 q3 q4 p0 p1 p2 p3 p4 qf pf
  clear c3 f3
  have x0 := y0
  have x1 := y1
  have x2 := y2
  have x3 := y3
  have x4 := y4
  have q0 := r0
  have q1 := r1
  have q2 := r2
  have q3 := r3
  have q4 := r4
  have p0 := s0
  have p1 := s1
  have p2 := s2
  have p3 := s3
  have p4 := s4
  have qf := t1
  have pf := t2
  clear t1 t2 y0 y1 y2 y3 y4 r0 r1 r2 r3 r4 s0 s1 s2 s3 s4
  clear b3 hB2
  go_wp2
  refine bodyPost_ret (v := .agg #[.slice a1_1 d.log.synced.length n1_1, .slice a1_2 d.log.loose.length n1_2, .slice a2 d.mem.length n2, .slice a3 d.tables.length n3, .int .i64 d.next]) ?_ rfl ⟨_, fun b => F1 b ∨ F2 b ∨ F3 b, rfl, ⟨_, _, _, _, F1, F2, F3, rfl, loggR.base (base := w.heap.size + 3) (by (repeat (first | refine Rep.set _ ?_ _ (by simp; omega) | refine Rep.set _ ?_ _ (by simp) | refine Rep.alloc _ ?_ _ | assumption))) (by omega), rowsR.base (base := w.heap.size + 3) (by (repeat (first | refine Rep.set _ ?_ _ (by simp; omega) | refine Rep.set _ ?_ _ (by simp) | refine Rep.alloc _ ?_ _ | assumption))) (by omega), rowssR.base (base := w.heap.size + 3) (by (repeat (first | refine Rep.set _ ?_ _ (by simp; omega) | refine Rep.set _ ?_ _ (by simp) | refine Rep.alloc _ ?_ _ | assumption))) (by omega), fun b p q => by have := (l1 b p).2; have := (l2 b q).1; omega, fun b p q => by have := (l1 b p).2; have := (l3 b q).1; omega, fun b p q => by have := (l2 b p).2; have := (l3 b q).1; omega, fun b => Iff.rfl⟩, by (repeat (first | refine bset ?_ (by simp; omega) _ | refine bset ?_ (by simp) _ | refine balloc ?_ _ | assumption))⟩
  simp [results, Tryz.results12, go_sem, q0, q1, q2, q3, q4, p0, p1, p2, p3, p4, qf, pf]
set_option maxHeartbeats 1000000 in
theorem szEngine_u (x : Value) (d : Engn) (left : Int) (w : World) (hx : engnR.V w x d) (h0 : 0 ≤ left) (h1 : left ≤ 1048576) :
    Calls Tryz.prog 10 #[x, .int .i64 left] w fun e w' => e = .returned (.int .i64 (szLen left (wtEngn d))) ∧ Below w.heap.size w w' := by
  obtain ⟨u1_1, u1_2, u2, u3, rfl, k1, k2, k3⟩ := hx
  go_enter Tryz.func10, Tryz.ntmps10
  go_wp2_with fail
  refine (szLog_u _ d.log left _ (loggR.below k1 (by (repeat (first | exact Below.refl _ _ | assumption | refine Below.drew ?_ | refine balloc ?_ _ | refine bset ?_ (by simp; omega) _ | refine bset ?_ (by simp) _ | refine bstep ?_ (by assumption))))) h0 h1).mono ?_
  rintro e w1 ⟨rfl, b1⟩
  have x0 : w1.cell? ⟨w.heap.size, 0, none⟩ = some (u1_1) := cell_keep b1 (by simp [go_sem])
  have x1 : w1.cell? ⟨w.heap.size, 1, none⟩ = some (u1_2) := cell_keep b1 (by simp [go_sem])
  have x2 : w1.cell? ⟨w.heap.size, 2, none⟩ = some (u2) := cell_keep b1 (by simp [go_sem])
  have x3 : w1.cell? ⟨w.heap.size, 3, none⟩ = some (u3) := cell_keep b1 (by simp [go_sem])
  have x4 : w1.cell? ⟨w.heap.size, 4, none⟩ = some (.int .i64 d.next) := cell_keep b1 (by simp [go_sem])
  go_wp2_with fail
  · rename_i h
    go_ret
    refine ⟨?_, by (repeat (first | exact Below.refl _ _ | assumption | refine Below.drew ?_ | refine balloc ?_ _ | refine bset ?_ (by simp; omega) _ | refine bset ?_ (by simp) _ | refine bstep ?_ (by assumption)))⟩
    rw [szLen_neg (n := wtLogg d.log) (by omega) (wtEngn d) (by unfold wtEngn; omega)]
    rfl
  rename_i h
  refine (szRowS_u _ d.mem (szLen left (wtLogg d.log : Nat)) _ (rowsR.below k2 (by (repeat (first | exact Below.refl _ _ | assumption | refine Below.drew ?_ | refine balloc ?_ _ | refine bset ?_ (by simp; omega) _ | refine bset ?_ (by simp) _ | refine bstep ?_ (by assumption))))) (by omega) (by have := szLen_le (n := wtLogg d.log) h0; omega)).mono ?_
  rintro e w2 ⟨rfl, b2⟩
  replace x0 : w2.cell? ⟨w.heap.size, 0, none⟩ = some (u1_1) := cell_keep b2 x0
  replace x1 : w2.cell? ⟨w.heap.size, 1, none⟩ = some (u1_2) := cell_keep b2 x1
  replace x2 : w2.cell? ⟨w.heap.size, 2, none⟩ = some (u2) := cell_keep b2 x2
  replace x3 : w2.cell? ⟨w.heap.size, 3, none⟩ = some (u3) := cell_keep b2 x3
  replace x4 : w2.cell? ⟨w.heap.size, 4, none⟩ = some (.int .i64 d.next) := cell_keep b2 x4
  rw [szLen_add (n := wtLogg d.log) (by omega)]
  go_wp2_with fail
  · rename_i h
    go_ret
    refine ⟨?_, by (repeat (first | exact Below.refl _ _ | assumption | refine Below.drew ?_ | refine balloc ?_ _ | refine bset ?_ (by simp; omega) _ | refine bset ?_ (by simp) _ | refine bstep ?_ (by assumption)))⟩
    rw [szLen_neg (n := wtLogg d.log + wtRows d.mem) (by first | omega | (rw [Int.natCast_add]; omega)) (wtEngn d) (by unfold wtEngn; omega)]
    rfl
  rename_i h
  refine (szRowSS_u _ d.tables (szLen left (wtLogg d.log + wtRows d.mem : Nat)) _ (rowssR.below k3 (by (repeat (first | exact Below.refl _ _ | assumption | refine Below.drew ?_ | refine balloc ?_ _ | refine bset ?_ (by simp; omega) _ | refine bset ?_ (by simp) _ | refine bstep ?_ (by assumption))))) (by first | omega | (simp only [Int.natCast_add] at *; omega)) (by have := szLen_le (n := wtLogg d.log + wtRows d.mem) h0; omega)).mono ?_
  rintro e w3 ⟨rfl, b3⟩
  rw [szLen_add (n := wtLogg d.log + wtRows d.mem) (by first | omega | (simp only [Int.natCast_add] at *; omega))]
  go_wp2
  · rename_i h
    go_ret
    refine ⟨?_, by (repeat (first | exact Below.refl _ _ | assumption | refine Below.drew ?_ | refine balloc ?_ _ | refine bset ?_ (by simp; omega) _ | refine bset ?_ (by simp) _ | refine bstep ?_ (by assumption)))⟩
    rw [szLen_neg (n := wtLogg d.log + wtRows d.mem + wtRowss d.tables) (by first | omega | (simp only [Int.natCast_add] at *; omega)) (wtEngn d) (by unfold wtEngn; omega)]
    rfl
  rename_i h
  go_ret
  exact ⟨rfl, by (repeat (first | exact Below.refl _ _ | assumption | refine Below.drew ?_ | refine balloc ?_ _ | refine bset ?_ (by simp; omega) _ | refine bset ?_ (by simp) _ | refine bstep ?_ (by assumption)))⟩
set_option maxHeartbeats 1000000 in
theorem eqEngine_u (x y : Value) (d d' : Engn) (w : World) (hx : engnR.V w x d) (hy : engnR.V w y d') :
    Calls Tryz.prog 14 #[x, y] w fun e w' => e = .returned (.bool (decide (d = d'))) ∧ Below w.heap.size w w' := by
  obtain ⟨u1_1, u1_2, u2, u3, rfl, h1, h2, h3⟩ := hx
  obtain ⟨v1_1, v1_2, v2, v3, rfl, k1, k2, k3⟩ := hy
  obtain ⟨log, mem, tables, next⟩ := d
  obtain ⟨log', mem', tables', next'⟩ := d'
  dsimp only at h1 k1 h2 k2 h3 k3
  go_enter Tryz.func14, Tryz.ntmps14
  go_wp2_with fail
  all_goals try (go_ret; exact ⟨by simp_all, by (repeat (first | exact Below.refl _ _ | assumption | refine Below.drew ?_ | refine balloc ?_ _ | refine bset ?_ (by simp; omega) _ | refine bset ?_ (by simp) _ | refine bstep ?_ (by assumption)))⟩)
  refine (eqLog_u _ _ log log' _ (loggR.below h1 (by (repeat (first | exact Below.refl _ _ | assumption | refine Below.drew ?_ | refine balloc ?_ _ | refine bset ?_ (by simp; omega) _ | refine bset ?_ (by simp) _ | refine bstep ?_ (by assumption))))) (loggR.below k1 (by (repeat (first | exact Below.refl _ _ | assumption | refine Below.drew ?_ | refine balloc ?_ _ | refine bset ?_ (by simp; omega) _ | refine bset ?_ (by simp) _ | refine bstep ?_ (by assumption)))))).mono ?_
  rintro e w1 ⟨rfl, b1⟩
  have x0 : w1.cell? ⟨w.heap.size, 0, none⟩ = some (u1_1) := cell_keep b1 (by simp [go_sem])
  have x1 : w1.cell? ⟨w.heap.size, 1, none⟩ = some (u1_2) := cell_keep b1 (by simp [go_sem])
  have x2 : w1.cell? ⟨w.heap.size, 2, none⟩ = some (u2) := cell_keep b1 (by simp [go_sem])
  have x3 : w1.cell? ⟨w.heap.size, 3, none⟩ = some (u3) := cell_keep b1 (by simp [go_sem])
  have x4 : w1.cell? ⟨w.heap.size, 4, none⟩ = some (.int .i64 next) := cell_keep b1 (by simp [go_sem])
  have y0 : w1.cell? ⟨w.heap.size + 1, 0, none⟩ = some (v1_1) := cell_keep b1 (by simp [go_sem])
  have y1 : w1.cell? ⟨w.heap.size + 1, 1, none⟩ = some (v1_2) := cell_keep b1 (by simp [go_sem])
  have y2 : w1.cell? ⟨w.heap.size + 1, 2, none⟩ = some (v2) := cell_keep b1 (by simp [go_sem])
  have y3 : w1.cell? ⟨w.heap.size + 1, 3, none⟩ = some (v3) := cell_keep b1 (by simp [go_sem])
  have y4 : w1.cell? ⟨w.heap.size + 1, 4, none⟩ = some (.int .i64 next') := cell_keep b1 (by simp [go_sem])
  go_wp2_with fail
  all_goals try (go_ret; exact ⟨by simp_all, by (repeat (first | exact Below.refl _ _ | assumption | refine Below.drew ?_ | refine balloc ?_ _ | refine bset ?_ (by simp; omega) _ | refine bset ?_ (by simp) _ | refine bstep ?_ (by assumption)))⟩)
  refine (eqRowS_u _ _ mem mem' _ (rowsR.below h2 (by (repeat (first | exact Below.refl _ _ | assumption | refine Below.drew ?_ | refine balloc ?_ _ | refine bset ?_ (by simp; omega) _ | refine bset ?_ (by simp) _ | refine bstep ?_ (by assumption))))) (rowsR.below k2 (by (repeat (first | exact Below.refl _ _ | assumption | refine Below.drew ?_ | refine balloc ?_ _ | refine bset ?_ (by simp; omega) _ | refine bset ?_ (by simp) _ | refine bstep ?_ (by assumption)))))).mono ?_
  rintro e w2 ⟨rfl, b2⟩
  replace x0 : w2.cell? ⟨w.heap.size, 0, none⟩ = some (u1_1) := cell_keep b2 x0
  replace x1 : w2.cell? ⟨w.heap.size, 1, none⟩ = some (u1_2) := cell_keep b2 x1
  replace x2 : w2.cell? ⟨w.heap.size, 2, none⟩ = some (u2) := cell_keep b2 x2
  replace x3 : w2.cell? ⟨w.heap.size, 3, none⟩ = some (u3) := cell_keep b2 x3
  replace x4 : w2.cell? ⟨w.heap.size, 4, none⟩ = some (.int .i64 next) := cell_keep b2 x4
  replace y0 : w2.cell? ⟨w.heap.size + 1, 0, none⟩ = some (v1_1) := cell_keep b2 y0
  replace y1 : w2.cell? ⟨w.heap.size + 1, 1, none⟩ = some (v1_2) := cell_keep b2 y1
  replace y2 : w2.cell? ⟨w.heap.size + 1, 2, none⟩ = some (v2) := cell_keep b2 y2
  replace y3 : w2.cell? ⟨w.heap.size + 1, 3, none⟩ = some (v3) := cell_keep b2 y3
  replace y4 : w2.cell? ⟨w.heap.size + 1, 4, none⟩ = some (.int .i64 next') := cell_keep b2 y4
  go_wp2_with fail
  all_goals try (go_ret; exact ⟨by simp_all, by (repeat (first | exact Below.refl _ _ | assumption | refine Below.drew ?_ | refine balloc ?_ _ | refine bset ?_ (by simp; omega) _ | refine bset ?_ (by simp) _ | refine bstep ?_ (by assumption)))⟩)
  refine (eqRowSS_u _ _ tables tables' _ (rowssR.below h3 (by (repeat (first | exact Below.refl _ _ | assumption | refine Below.drew ?_ | refine balloc ?_ _ | refine bset ?_ (by simp; omega) _ | refine bset ?_ (by simp) _ | refine bstep ?_ (by assumption))))) (rowssR.below k3 (by (repeat (first | exact Below.refl _ _ | assumption | refine Below.drew ?_ | refine balloc ?_ _ | refine bset ?_ (by simp; omega) _ | refine bset ?_ (by simp) _ | refine bstep ?_ (by assumption)))))).mono ?_
  rintro e w3 ⟨rfl, b3⟩
  replace x0 : w3.cell? ⟨w.heap.size, 0, none⟩ = some (u1_1) := cell_keep b3 x0
  replace x1 : w3.cell? ⟨w.heap.size, 1, none⟩ = some (u1_2) := cell_keep b3 x1
  replace x2 : w3.cell? ⟨w.heap.size, 2, none⟩ = some (u2) := cell_keep b3 x2
  replace x3 : w3.cell? ⟨w.heap.size, 3, none⟩ = some (u3) := cell_keep b3 x3
  replace x4 : w3.cell? ⟨w.heap.size, 4, none⟩ = some (.int .i64 next) := cell_keep b3 x4
  replace y0 : w3.cell? ⟨w.heap.size + 1, 0, none⟩ = some (v1_1) := cell_keep b3 y0
  replace y1 : w3.cell? ⟨w.heap.size + 1, 1, none⟩ = some (v1_2) := cell_keep b3 y1
  replace y2 : w3.cell? ⟨w.heap.size + 1, 2, none⟩ = some (v2) := cell_keep b3 y2
  replace y3 : w3.cell? ⟨w.heap.size + 1, 3, none⟩ = some (v3) := cell_keep b3 y3
  replace y4 : w3.cell? ⟨w.heap.size + 1, 4, none⟩ = some (.int .i64 next') := cell_keep b3 y4
  go_wp2
  all_goals
    go_ret
    exact ⟨by simp_all, by (repeat (first | exact Below.refl _ _ | assumption | refine Below.drew ?_ | refine balloc ?_ _ | refine bset ?_ (by simp; omega) _ | refine bset ?_ (by simp) _ | refine bstep ?_ (by assumption)))⟩
set_option maxHeartbeats 1000000 in
theorem markEngine_u (v : Value) (d : Engn) (base : Nat) (F : Nat → Prop) (k : Int) (w : World) (ho : engnR.O w base F v d) (hw : wtEngn d ≤ 1048576) (hn : k + cntEngn d ≤ 1073741824) (hk0 : 0 ≤ k) :
    Calls Tryz.prog 21 #[v, .int .i64 k] w fun r w' => r = .returned (.int .i64 (k + cntEngn d)) ∧ engnR.O w' base F v (mkEngn k d) ∧ Mod F w w' := by
  obtain ⟨u1_1, u1_2, u2, u3, F1, F2, F3, rfl, h1, h2, h3, s12, s13, s23, hF⟩ := ho
  unfold wtEngn at hw
  unfold cntEngn at hn ⊢
  have HF : Hid (∀ b, F b ↔ (F1 b ∨ F2 b ∨ F3 b)) := hF
  clear hF
  go_enter Tryz.func21, Tryz.ntmps21
  go_wp2_with fail
  refine (markLog_u _ d.log base F1 k _ (loggR.alloc h1 _) (by omega) (by omega) (by omega)).mono ?_
  rintro e w1 ⟨rfl, r1, m1⟩
  have h2' := rowsR.mod (rowsR.alloc h2 _) m1 (fun b p q => s12 b q p)
  have h3' := rowssR.mod (rowssR.alloc h3 _) m1 (fun b p q => s13 b q p)
  have x0 : w1.cell? ⟨w.heap.size, 0, none⟩ = some (u1_1) := m1.cell (by simp [go_sem]) (fun hf => by have := loggR.rng h1 _ hf; dsimp only at this; omega)
  have x1 : w1.cell? ⟨w.heap.size, 1, none⟩ = some (u1_2) := m1.cell (by simp [go_sem]) (fun hf => by have := loggR.rng h1 _ hf; dsimp only at this; omega)
  have x2 : w1.cell? ⟨w.heap.size, 2, none⟩ = some (u2) := m1.cell (by simp [go_sem]) (fun hf => by have := loggR.rng h1 _ hf; dsimp only at this; omega)
  have x3 : w1.cell? ⟨w.heap.size, 3, none⟩ = some (u3) := m1.cell (by simp [go_sem]) (fun hf => by have := loggR.rng h1 _ hf; dsimp only at this; omega)
  have x4 : w1.cell? ⟨w.heap.size, 4, none⟩ = some (.int .i64 d.next) := m1.cell (by simp [go_sem]) (fun hf => by have := loggR.rng h1 _ hf; dsimp only at this; omega)
  go_wp2_with fail
  refine (markRowS_u _ d.mem base F2 (k + cntLogg d.log) _ h2' (by omega) (by omega) (by omega)).mono ?_
  rintro e w2 ⟨rfl, r2, m2⟩
  have h3'' := rowssR.mod h3' m2 (fun b p q => s23 b q p)
  replace x0 : w2.cell? ⟨w.heap.size, 0, none⟩ = some (u1_1) := m2.cell x0 (fun hf => by have := rowsR.rng h2 _ hf; dsimp only at this; omega)
  replace x1 : w2.cell? ⟨w.heap.size, 1, none⟩ = some (u1_2) := m2.cell x1 (fun hf => by have := rowsR.rng h2 _ hf; dsimp only at this; omega)
  replace x2 : w2.cell? ⟨w.heap.size, 2, none⟩ = some (u2) := m2.cell x2 (fun hf => by have := rowsR.rng h2 _ hf; dsimp only at this; omega)
  replace x3 : w2.cell? ⟨w.heap.size, 3, none⟩ = some (u3) := m2.cell x3 (fun hf => by have := rowsR.rng h2 _ hf; dsimp only at this; omega)
  replace x4 : w2.cell? ⟨w.heap.size, 4, none⟩ = some (.int .i64 d.next) := m2.cell x4 (fun hf => by have := rowsR.rng h2 _ hf; dsimp only at this; omega)
  replace r1 := loggR.mod r1 m2 (fun b p q => s12 b p q)
  go_wp2_with fail
  refine (markRowSS_u _ d.tables base F3 (k + cntLogg d.log + cntRows d.mem) _ h3'' (by omega) (by omega) (by omega)).mono ?_
  rintro e w3 ⟨rfl, r3, m3⟩
  replace r1 := loggR.mod r1 m3 (fun b p q => s13 b p q)
  replace r2 := rowsR.mod r2 m3 (fun b p q => s23 b p q)
  go_wp2
  go_ret
  refine ⟨?_, ⟨_, _, _, _, F1, F2, F3, rfl, r1, r2, r3, s12, s13, s23, HF.out⟩, ((((Mod.refl F w).alloc _).trans (m1.mono (fun b hb => (HF.out b).2 (.inl hb)))).trans (m2.mono (fun b hb => (HF.out b).2 (.inr (.inl hb))))).trans (m3.mono (fun b hb => (HF.out b).2 (.inr (.inr hb))))⟩
  simp
  try omega
set_option maxHeartbeats 1000000 in
theorem heldEngine_u (v : Value) (d : Engn) (k : Int) (w : World) (hv : engnR.V w v (mkEngn k d)) (hw : wtEngn d ≤ 1048576) (hn : k + cntEngn d ≤ 1073741824) (hk0 : 0 ≤ k) :
    Calls Tryz.prog 85 #[v, .int .i64 k] w fun r w' => r = .returned (.int .i64 (k + cntEngn d)) ∧ Below w.heap.size w w' := by
  obtain ⟨u1_1, u1_2, u2, u3, rfl, h1, h2, h3⟩ := hv
  unfold wtEngn at hw
  unfold cntEngn at hn ⊢
  go_enter Tryz.func85, Tryz.ntmps85
  go_wp2_with fail
  refine (heldLog_u _ d.log k _ (loggR.below h1 (by (repeat (first | exact Below.refl _ _ | assumption | refine Below.drew ?_ | refine balloc ?_ _ | refine bset ?_ (by simp; omega) _ | refine bset ?_ (by simp) _ | refine bstep ?_ (by assumption))))) (by omega) (by omega) (by omega)).mono ?_
  rintro e w1 ⟨rfl, b1⟩
  have x0 : w1.cell? ⟨w.heap.size, 0, none⟩ = some (u1_1) := cell_keep b1 (by simp [go_sem, mkEngn])
  have x1 : w1.cell? ⟨w.heap.size, 1, none⟩ = some (u1_2) := cell_keep b1 (by simp [go_sem, mkEngn])
  have x2 : w1.cell? ⟨w.heap.size, 2, none⟩ = some (u2) := cell_keep b1 (by simp [go_sem, mkEngn])
  have x3 : w1.cell? ⟨w.heap.size, 3, none⟩ = some (u3) := cell_keep b1 (by simp [go_sem, mkEngn])
  have x4 : w1.cell? ⟨w.heap.size, 4, none⟩ = some (.int .i64 d.next) := cell_keep b1 (by simp [go_sem, mkEngn])
  go_wp2_with fail
  refine (heldRowS_u _ d.mem (k + cntLogg d.log) _ (rowsR.below h2 (by (repeat (first | exact Below.refl _ _ | assumption | refine Below.drew ?_ | refine balloc ?_ _ | refine bset ?_ (by simp; omega) _ | refine bset ?_ (by simp) _ | refine bstep ?_ (by assumption))))) (by omega) (by omega) (by omega)).mono ?_
  rintro e w2 ⟨rfl, b2⟩
  replace x0 : w2.cell? ⟨w.heap.size, 0, none⟩ = some (u1_1) := cell_keep b2 x0
  replace x1 : w2.cell? ⟨w.heap.size, 1, none⟩ = some (u1_2) := cell_keep b2 x1
  replace x2 : w2.cell? ⟨w.heap.size, 2, none⟩ = some (u2) := cell_keep b2 x2
  replace x3 : w2.cell? ⟨w.heap.size, 3, none⟩ = some (u3) := cell_keep b2 x3
  replace x4 : w2.cell? ⟨w.heap.size, 4, none⟩ = some (.int .i64 d.next) := cell_keep b2 x4
  go_wp2_with fail
  refine (heldRowSS_u _ d.tables (k + cntLogg d.log + cntRows d.mem) _ (rowssR.below h3 (by (repeat (first | exact Below.refl _ _ | assumption | refine Below.drew ?_ | refine balloc ?_ _ | refine bset ?_ (by simp; omega) _ | refine bset ?_ (by simp) _ | refine bstep ?_ (by assumption))))) (by omega) (by omega) (by omega)).mono ?_
  rintro e w3 ⟨rfl, b3⟩
  go_wp2
  go_ret
  refine ⟨?_, by (repeat (first | exact Below.refl _ _ | assumption | refine Below.drew ?_ | refine balloc ?_ _ | refine bset ?_ (by simp; omega) _ | refine bset ?_ (by simp) _ | refine bstep ?_ (by assumption)))⟩
  simp
  try omega
end Go.Proofs.YtdfapehonegeeaaGreat

/-
  LogResult. (Written by program: nest.py.)
-/
namespace Go.Proofs.YtdfapehonegeeaaGreat
open Go.RowKit
set_option linter.unusedSectionVars false
variable [DecidableEq Logg] [Inhabited Logg]
attribute [local go_sem ↓] Go.wp_at_zero Go.wp_at_succ

set_option linter.unusedSimpArgs false

structure LoggR where
  code : Int
  log : Logg
variable [DecidableEq LoggR] [Inhabited LoggR]

end Go.Proofs.YtdfapehonegeeaaGreat

/-
  A piece of a row of bytes.
-/
namespace Go.Proofs.YtdfapehonegeeaaGreat
open Go.RowKit

theorem addP (b o i : Nat) : (Addr.mk b o none).add i = ⟨b, o + i, none⟩ := by
  by_cases h : i = 0
  · subst h; simp [Addr.add]
  · simp [Addr.add, h]
theorem bytes_cut {w : World} {a : Option Addr} {cap : Nat} {xs : List Byte} (hx : BytesV w (.slice a xs.length cap) xs) (l h : Nat) (h1 : l ≤ h) (h2 : h ≤ xs.length) :
    BytesV w (.slice (if cap = l then a else a.map (·.add (l * 1))) (h - l) (cap - l)) ((xs.drop l).take (h - l)) := by
  obtain ⟨a', cap', e, g1, g2, g3⟩ := hx
  simp only [Value.slice.injEq, true_and] at e
  obtain ⟨rfl, rfl⟩ := e
  have hl : ((xs.drop l).take (h - l)).length = h - l := by rw [List.length_take, List.length_drop]; omega
  refine ⟨_, _, by rw [hl], by omega, by omega, fun i hi => ?_⟩
  rw [hl] at hi
  obtain ⟨b, o, rfl, hc⟩ := g3 (l + i) (by omega)
  refine ⟨b, o + l, ?_, ?_⟩
  · rw [if_neg (by omega)]
    simp only [Option.map_some, Nat.mul_one]
    rw [addP]
  · rw [show o + l + i = o + (l + i) by omega, hc]
    simp [List.getD, hi]
theorem cellsB : (sizeOf (Tryz.prog.elem 22)).run Tryz.prog = fun w => .ok 1 w := by
  have he : Tryz.prog.elem 22 = 5 := by kernel_rfl
  obtain ⟨i0, hi, hz0, hz1, hz2⟩ := info_parts infoByte
  funext w
  simp [sizeOf, typeInfo, he, hi, hz1]
theorem undB : Tryz.prog.underlying 22 = some (.slice (Tryz.prog.elem 22)) := by kernel_rfl
theorem cutB {a : Option Addr} {n cap : Nat} (l h : Int) (h0 : 0 ≤ l) (h1 : l ≤ h) (h2 : h ≤ n) (hn : n ≤ cap) :
    ∃ a' c', (∀ w : World, (Instr.sliceAt 22 (.slice a n cap) (some (.int .i64 l)) (some (.int .i64 h)) none).run Tryz.prog w = .ok (.slice a' (h - l).toNat c') w) ∧
      ∀ (w : World) (xs : List Byte), xs.length = n → BytesV w (.slice a n cap) xs → BytesV w (.slice a' (h - l).toNat c') ((xs.drop l.toNat).take (h - l).toNat) := by
  refine ⟨if cap = l.toNat then a else a.map (·.add (l.toNat * 1)), cap - l.toNat, fun w => ?_, fun w xs e hx => ?_⟩
  · rw [run_sliceAt_slice (h := undB), run_slice_lh (ht := undB) (h0 := h0) (h1 := h1) (h2 := by omega), cellsB]
    simp only [Result.andThen, sliced]
    rw [show h.toNat - l.toNat = (h - l).toNat by omega]
  · subst e
    have := bytes_cut hx l.toNat h.toNat (by omega) (by omega)
    rw [show h.toNat - l.toNat = (h - l).toNat by omega] at this
    exact this
theorem cutH {a : Option Addr} {n cap : Nat} (h : Int) (h0 : 0 ≤ h) (h2 : h ≤ n) (hn : n ≤ cap) :
    ∃ a' c', (∀ w : World, (Instr.sliceAt 22 (.slice a n cap) none (some (.int .i64 h)) none).run Tryz.prog w = .ok (.slice a' h.toNat c') w) ∧
      ∀ (w : World) (xs : List Byte), xs.length = n → BytesV w (.slice a n cap) xs → BytesV w (.slice a' h.toNat c') (xs.take h.toNat) := by
  refine ⟨if cap = 0 then a else a.map (·.add (0 * 1)), cap - 0, fun w => ?_, fun w xs e hx => ?_⟩
  · rw [run_sliceAt_slice (h := undB), run_slice_h (ht := undB) (h0 := h0) (h2 := by omega), cellsB]
    simp only [Result.andThen, sliced]
    rw [Nat.sub_zero]
  · subst e
    have := bytes_cut hx 0 h.toNat (by omega) (by omega)
    rw [Nat.sub_zero, List.drop_zero] at this
    exact this
theorem cutL {a : Option Addr} {n cap : Nat} (l : Int) (h0 : 0 ≤ l) (h2 : l ≤ n) (hn : n ≤ cap) :
    ∃ a' c', (∀ w : World, (Instr.sliceAt 22 (.slice a n cap) (some (.int .i64 l)) none none).run Tryz.prog w = .ok (.slice a' (n - l.toNat) c') w) ∧
      ∀ (w : World) (xs : List Byte), xs.length = n → BytesV w (.slice a n cap) xs → BytesV w (.slice a' (n - l.toNat) c') (xs.drop l.toNat) := by
  refine ⟨if cap = l.toNat then a else a.map (·.add (l.toNat * 1)), cap - l.toNat, fun w => ?_, fun w xs e hx => ?_⟩
  · rw [run_sliceAt_slice (h := undB), run_slice_l (ht := undB) (h0 := h0) (h1 := h2), cellsB]
    simp only [Result.andThen, sliced]
  · subst e
    have := bytes_cut hx l.toNat xs.length (by omega) (by omega)
    rw [show (xs.drop l.toNat).take (xs.length - l.toNat) = xs.drop l.toNat from List.take_of_length_le (by rw [List.length_drop]; omega)] at this
    exact this
end Go.Proofs.YtdfapehonegeeaaGreat

/-
  Records told out of bytes: the mathematics, and the program's frameSize.
-/
namespace Go.Proofs.YtdfapehonegeeaaGreat
open Go.RowKit
set_option linter.unusedSectionVars false
variable [DecidableEq BytesR] [Inhabited BytesR]
attribute [local go_sem ↓] Go.wp_at_zero Go.wp_at_succ

def fN (xs : List Byte) : Nat := (xs.getD 0 0).val * 256 + (xs.getD 1 0).val
def fC (xs : List Byte) : Nat := (xs.getD 2 0).val * 256 + (xs.getD 3 0).val
def frameSz (xs : List Byte) : Nat := if 1 ≤ fN xs ∧ fN xs ≤ 500 ∧ 4 + fN xs ≤ xs.length ∧ chk ((xs.drop 4).take (fN xs)) = fC xs then 4 + fN xs else 0
theorem frameSz_pos {xs : List Byte} (h : ¬ frameSz xs = 0) : frameSz xs = 4 + fN xs ∧ 1 ≤ fN xs ∧ fN xs ≤ 500 ∧ 4 + fN xs ≤ xs.length := by
  unfold frameSz at h ⊢
  split at h
  · rename_i h1; rw [if_pos h1]; exact ⟨rfl, h1.1, h1.2.1, h1.2.2.1⟩
  · exact absurd rfl h
def recLF : Nat → List Byte → List (List Byte)
  | 0, _ => []
  | f + 1, xs => if frameSz xs = 0 then [] else (xs.drop 4).take (frameSz xs - 4) :: recLF f (xs.drop (frameSz xs))
def recUF : Nat → List Byte → Nat
  | 0, _ => 0
  | f + 1, xs => if frameSz xs = 0 then 0 else frameSz xs + recUF f (xs.drop (frameSz xs))
def recL (xs : List Byte) : List (List Byte) := recLF xs.length xs
def recU (xs : List Byte) : Nat := recUF xs.length xs
theorem frameSz_nil {xs : List Byte} (h : xs.length = 0) : frameSz xs = 0 := by
  unfold frameSz
  rw [if_neg]
  omega
theorem recF_fuel : ∀ (f g : Nat) (xs : List Byte), xs.length ≤ f → xs.length ≤ g → recLF f xs = recLF g xs ∧ recUF f xs = recUF g xs
  | 0, 0, _, _, _ => ⟨rfl, rfl⟩
  | 0, g + 1, xs, h, _ => by
    have hz := frameSz_nil (xs := xs) (by omega)
    simp only [recLF, recUF, if_pos hz]
    exact ⟨trivial, trivial⟩
  | f + 1, 0, xs, _, h => by
    have hz := frameSz_nil (xs := xs) (by omega)
    simp only [recLF, recUF, if_pos hz]
    exact ⟨trivial, trivial⟩
  | f + 1, g + 1, xs, h1, h2 => by
    by_cases hz : frameSz xs = 0
    · simp only [recLF, recUF, if_pos hz]
      exact ⟨trivial, trivial⟩
    · have hp := frameSz_pos hz
      have ih := recF_fuel f g (xs.drop (frameSz xs)) (by rw [List.length_drop]; omega) (by rw [List.length_drop]; omega)
      simp only [recLF, recUF, if_neg hz, ih.1, ih.2]
      exact ⟨trivial, trivial⟩
theorem recL_end {xs : List Byte} (h : frameSz xs = 0) : recL xs = [] := by
  unfold recL
  cases hl : xs.length with
  | zero => rfl
  | succ f => simp only [recLF, if_pos h]
theorem recU_end {xs : List Byte} (h : frameSz xs = 0) : recU xs = 0 := by
  unfold recU
  cases hl : xs.length with
  | zero => rfl
  | succ f => simp only [recUF, if_pos h]
theorem recL_step {xs : List Byte} (h : ¬ frameSz xs = 0) : recL xs = (xs.drop 4).take (frameSz xs - 4) :: recL (xs.drop (frameSz xs)) := by
  have hp := frameSz_pos h
  unfold recL
  cases hl : xs.length with
  | zero => omega
  | succ f =>
    simp only [recLF, if_neg h]
    rw [(recF_fuel f (xs.drop (frameSz xs)).length (xs.drop (frameSz xs)) (by rw [List.length_drop]; omega) (Nat.le_refl _)).1]
theorem recU_step {xs : List Byte} (h : ¬ frameSz xs = 0) : recU xs = frameSz xs + recU (xs.drop (frameSz xs)) := by
  have hp := frameSz_pos h
  unfold recU
  cases hl : xs.length with
  | zero => omega
  | succ f =>
    simp only [recUF, if_neg h]
    rw [(recF_fuel f (xs.drop (frameSz xs)).length (xs.drop (frameSz xs)) (by rw [List.length_drop]; omega) (Nat.le_refl _)).2]
theorem hiN_two (xs : List Byte) (h : 2 ≤ xs.length) : hiN (xs.take 2) = (fN xs : Int) := by
  match xs, h with
  | a :: b :: r, _ => simp [hiN, fN, List.getD]
theorem hiN_check (xs : List Byte) (h : 4 ≤ xs.length) : hiN ((xs.drop 2).take 2) = (fC xs : Int) := by
  match xs, h with
  | a :: b :: c :: d :: r, _ => simp [hiN, fC, List.getD]
theorem fN_lt (xs : List Byte) : fN xs < 65536 := by
  have := (xs.getD 0 0).isLt
  have := (xs.getD 1 0).isLt
  unfold fN; omega
theorem fC_lt (xs : List Byte) : fC xs < 65536 := by
  have := (xs.getD 2 0).isLt
  have := (xs.getD 3 0).isLt
  unfold fC; omega
set_option maxHeartbeats 2000000 in
theorem frameSize_any (x : Value) (xs : List Byte) (w : World) (hx : BytesV w x xs) :
    Calls Tryz.prog 176 #[x] w fun e w' => e = .returned (.int .i64 (frameSz xs)) ∧ Below w.heap.size w w' := by
  have hX := hx
  obtain ⟨ax, cx, rfl, hcx, hmx, _⟩ := hx
  unfold maxLen at hmx
  by_cases h4 : xs.length < 4
  · have HS : Hid (frameSz xs = 0) := by
      unfold Hid frameSz
      rw [if_neg]
      omega
    rw [HS.out]
    generalize xs.length = n at *
    go_enter Tryz.func176, Tryz.ntmps176
    go_wp2
    go_ret
    exact ⟨rfl, Below.refl _ _⟩
  obtain ⟨a1, c1, run1, V1⟩ := cutH (a := ax) (n := xs.length) (cap := cx) 2 (by omega) (by omega) hcx
  have e1 := hiN_two xs (by omega)
  have hlt := fN_lt xs
  obtain ⟨m, hm⟩ : ∃ m, fN xs = m := ⟨_, rfl⟩
  rw [hm] at e1 hlt
  have HM : Hid (fN xs = m) := hm
  have u1 : hiN (xs.take 2) % 18446744073709551616 = m := by rw [e1]; omega
  have u2 : IntKind.i64.wrap (m : Int) = m := by rw [IntKind.wrap_i64]; omega
  have HV1 : Hid (∀ (w : World) (ys : List Byte), ys.length = xs.length → BytesV w (.slice ax xs.length cx) ys → BytesV w (.slice a1 (2 : Int).toNat c1) (ys.take (2 : Int).toNat)) := V1
  clear V1 hm e1
  by_cases hb : m = 0 ∨ 500 < m ∨ xs.length < 4 + m
  · have HS : Hid (frameSz xs = 0) := by
      unfold Hid frameSz
      rw [if_neg]
      rw [HM.out]
      omega
    rw [HS.out]
    go_enter Tryz.func176, Tryz.ntmps176
    go_wp2_with fail
    refine (bitsIn_any _ (xs.take 2) _ (HV1.out _ xs rfl hX)).mono ?_
    rintro e w1 ⟨rfl, rfl⟩
    rw [u1]
    generalize xs.length = n at *
    clear u1 run1 HV1
    rcases hb with hb | hb | hb
    all_goals
      go_wp2
      all_goals
        go_ret
        exact ⟨rfl, Below.refl _ _⟩
  · have hb1 : ¬ m = 0 := by omega
    have hb2 : ¬ 500 < m := by omega
    have hb3 : ¬ xs.length < 4 + m := by omega
    have d1 : ((4 : Int) + (m : Int) == 4) = false := by simp; omega
    have d2 : ¬ (504 : Int) < 4 + (m : Int) := by omega
    have d3 : ¬ (xs.length : Int) < 4 + (m : Int) := by omega
    obtain ⟨a2, c2, run2, V2⟩ := cutB (a := ax) (n := xs.length) (cap := cx) 2 4 (by omega) (by omega) (by omega) hcx
    obtain ⟨a3, c3, run3, V3⟩ := cutB (a := ax) (n := xs.length) (cap := cx) 4 (4 + m) (by omega) (by omega) (by omega) hcx
    have HV2 := V2 _ xs rfl hX
    have HV3 := V3 _ xs rfl hX
    rw [show ((4 : Int) + (m : Int) - 4).toNat = m by omega] at HV3
    rw [show ((4 : Int) + (m : Int) - 4).toNat = m by omega] at run3
    rw [show ((4 : Int) - 2).toNat = 2 by omega] at run2 HV2
    rw [show (2 : Int).toNat = 2 by omega] at HV2
    rw [show (4 : Int).toNat = 4 by omega] at HV3
    have hl2 := fC_lt xs
    have e2 := hiN_check xs (by omega)
    obtain ⟨q, hq⟩ : ∃ q, fC xs = q := ⟨_, rfl⟩
    rw [hq] at e2 hl2
    have HQ : Hid (fC xs = q) := hq
    have u3 : IntKind.i64.wrap (hiN ((xs.drop 2).take 2)) = q := by rw [e2, IntKind.wrap_i64]; omega
    obtain ⟨r, hr⟩ : ∃ r, chk ((xs.drop 4).take m) = r := ⟨_, rfl⟩
    have HR : Hid (chk ((xs.drop 4).take m) = r) := hr
    clear V2 V3 hq hr e2 hb
    by_cases hc : (q : Int) = r
    · have HS : Hid (frameSz xs = 4 + m) := by
        unfold Hid frameSz
        rw [HM.out, HQ.out, HR.out, if_pos]
        omega
      rw [HS.out]
      have hd : ((q : Int) == r) = true := by simpa using hc
      go_enter Tryz.func176, Tryz.ntmps176
      go_wp2_with fail
      refine (bitsIn_any _ (xs.take 2) _ (HV1.out _ xs rfl hX)).mono ?_
      rintro e w1 ⟨rfl, rfl⟩
      rw [u1]
      clear u1 run1 HV1 hc
      go_wp2
      go_region_held3 (fun w' => Below w1.heap.size w1 w') ((repeat (first | exact Below.refl _ _ | assumption | refine Below.drew ?_ | refine balloc ?_ _ | refine bset ?_ (by simp; omega) _ | refine bset ?_ (by simp) _ | refine bstep ?_ (by assumption)))) (first | (go_at_call 167; refine (numberIn_any _ _ _ (BytesV_below HV2 (by (repeat (first | exact Below.refl _ _ | assumption | refine Below.drew ?_ | refine balloc ?_ _ | refine bset ?_ (by simp; omega) _ | refine bset ?_ (by simp) _ | refine bstep ?_ (by assumption)))))).mono ?_; rintro e w2 ⟨rfl, rfl⟩; rw [u3]) | (go_at_call 156; refine (implChk_any _ _ _ (BytesV_below HV3 (by (repeat (first | exact Below.refl _ _ | assumption | refine Below.drew ?_ | refine balloc ?_ _ | refine bset ?_ (by simp; omega) _ | refine bset ?_ (by simp) _ | refine bstep ?_ (by assumption)))))).mono ?_; rintro e w2 ⟨rfl, rfl⟩; rw [HR.out]))
      all_goals
        rename_i hH
        go_wp2
        go_ret
        exact ⟨rfl, hH⟩
    · have HS : Hid (frameSz xs = 0) := by
        unfold Hid frameSz
        rw [HM.out, HQ.out, HR.out, if_neg]
        intro h
        exact hc h.2.2.2.symm
      rw [HS.out]
      have hd : ((q : Int) == r) = false := by simpa using hc
      go_enter Tryz.func176, Tryz.ntmps176
      go_wp2_with fail
      refine (bitsIn_any _ (xs.take 2) _ (HV1.out _ xs rfl hX)).mono ?_
      rintro e w1 ⟨rfl, rfl⟩
      rw [u1]
      clear u1 run1 HV1 hc
      go_wp2
      go_region_held3 (fun w' => Below w1.heap.size w1 w') ((repeat (first | exact Below.refl _ _ | assumption | refine Below.drew ?_ | refine balloc ?_ _ | refine bset ?_ (by simp; omega) _ | refine bset ?_ (by simp) _ | refine bstep ?_ (by assumption)))) (first | (go_at_call 167; refine (numberIn_any _ _ _ (BytesV_below HV2 (by (repeat (first | exact Below.refl _ _ | assumption | refine Below.drew ?_ | refine balloc ?_ _ | refine bset ?_ (by simp; omega) _ | refine bset ?_ (by simp) _ | refine bstep ?_ (by assumption)))))).mono ?_; rintro e w2 ⟨rfl, rfl⟩; rw [u3]) | (go_at_call 156; refine (implChk_any _ _ _ (BytesV_below HV3 (by (repeat (first | exact Below.refl _ _ | assumption | refine Below.drew ?_ | refine balloc ?_ _ | refine bset ?_ (by simp; omega) _ | refine bset ?_ (by simp) _ | refine bstep ?_ (by assumption)))))).mono ?_; rintro e w2 ⟨rfl, rfl⟩; rw [HR.out]))
      all_goals
        rename_i hH
        go_wp2
        go_ret
        exact ⟨rfl, hH⟩
end Go.Proofs.YtdfapehonegeeaaGreat

