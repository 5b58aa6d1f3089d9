import Derived.Test.YtndghenlapbaaaaGreatDoorPrnShardTextLaw5
import Derived.Test.YtndghenlapbaaaaGreatDoorPrnShardTextLaw4
import Derived.Test.YtndghenlapbaaaaGreatDoorPrnShardTextLaw6
import Derived.Test.YtndghenlapbaaaaGreatDoorPrnShardTextLaw7
import Derived.BigQuiet
import Derived.Deep.QuietTactic
import Derived.Deep.RegionHeld3

/-
  Rows of int64: the uniform forms. (Written by program: nest.py.)
-/
namespace Go.Proofs.YtndghenlapbaaaaGreatDoor
open Go.RowKit
set_option linter.unusedSectionVars false
variable [DecidableEq Leg] [Inhabited Leg]
attribute [local go_sem ↓] Go.wp_at_zero Go.wp_at_succ

def intsR : Rep (List Int) := fRep 2 1 intsC IntsV IntsV_below IntsV_of_owns
def wtInts (xs : List Int) : Nat := xs.length
theorem ints_form {w : World} {v : Value} {xs : List Int} (h : intsR.V w v xs) : ∃ a c, v = .slice a xs.length c := by
  obtain ⟨a, c, rfl, _⟩ := h
  exact ⟨_, _, rfl⟩
theorem toInt64S_u (x : Value) (d : List Int) (w : World) (hx : intsR.V w x d) (hn : wtInts d ≤ 1048576) :
    Calls Tryz.prog 19 #[x] w fun e w' => ∃ v F, e = .returned v ∧ intsR.O w' w.heap.size F v d ∧ Below w.heap.size w w' := by
  refine (toInt64S_any x d w hx hn).mono ?_
  rintro e w' ⟨v, rfl, ho, hb⟩
  exact ⟨v, _, rfl, ⟨ho, rfl⟩, hb⟩
theorem eqInt64S_u (x y : Value) (d d' : List Int) (w : World) (hx : intsR.V w x d) (hy : intsR.V w y d') :
    Calls Tryz.prog 27 #[x, y] w fun e w' => e = .returned (.bool (decide (d = d'))) ∧ Below w.heap.size w w' := eqInt64S_any x y d d' w hx hy
theorem szInt64S_u (x : Value) (d : List Int) (left : Int) (w : World) (hx : intsR.V w x d) (h0 : 0 ≤ left) (h1 : left ≤ 1048576) :
    Calls Tryz.prog 13 #[x, .int .i64 left] w fun e w' => e = .returned (.int .i64 (szLen left (wtInts d))) ∧ Below w.heap.size w w' := by
  refine (szInt64S_any x d left w hx h0 h1).mono ?_
  rintro e w' ⟨rfl, rfl⟩
  exact ⟨rfl, Below.refl _ _⟩
end Go.Proofs.YtndghenlapbaaaaGreatDoor

/-
  Shard. (Written by program: nest.py.)
-/
namespace Go.Proofs.YtndghenlapbaaaaGreatDoor
open Go.RowKit
set_option linter.unusedSectionVars false
variable [DecidableEq Bal] [Inhabited Bal] [DecidableEq Mrk] [Inhabited Mrk] [DecidableEq Leg] [Inhabited Leg] [DecidableEq Cont] [Inhabited Cont]
attribute [local go_sem ↓] Go.wp_at_zero Go.wp_at_succ

set_option linter.unusedSimpArgs false

structure Shd where
  idx : Int
  bals : List Bal
  votes : List Mrk
  held : List Cont
  done : List Mrk
  appl : List Int
variable [DecidableEq Shd] [Inhabited Shd]

def shdR : Rep Shd where
  V := fun w v x => ∃ u1 u2 u3 u4 u5, v = .agg #[.int .i64 x.idx, u1, u2, u3, u4, u5] ∧ balsR.V w u1 x.bals ∧ mrksR.V w u2 x.votes ∧ contsR.V w u3 x.held ∧ mrksR.V w u4 x.done ∧ intsR.V w u5 x.appl
  O := fun w base F v x => ∃ u1 u2 u3 u4 u5 F1 F2 F3 F4 F5, v = .agg #[.int .i64 x.idx, u1, u2, u3, u4, u5] ∧ balsR.O w base F1 u1 x.bals ∧ mrksR.O w base F2 u2 x.votes ∧ contsR.O w base F3 u3 x.held ∧ mrksR.O w base F4 u4 x.done ∧ intsR.O w base F5 u5 x.appl ∧ (∀ b, F1 b → ¬ F2 b) ∧ (∀ b, F1 b → ¬ F3 b) ∧ (∀ b, F1 b → ¬ F4 b) ∧ (∀ b, F1 b → ¬ F5 b) ∧ (∀ b, F2 b → ¬ F3 b) ∧ (∀ b, F2 b → ¬ F4 b) ∧ (∀ b, F2 b → ¬ F5 b) ∧ (∀ b, F3 b → ¬ F4 b) ∧ (∀ b, F3 b → ¬ F5 b) ∧ (∀ b, F4 b → ¬ F5 b) ∧ (∀ b, F b ↔ (F1 b ∨ F2 b ∨ F3 b ∨ F4 b ∨ F5 b))
  below := fun h hb => by
    obtain ⟨u1, u2, u3, u4, u5, rfl, h1, h2, h3, h4, h5⟩ := h
    exact ⟨u1, u2, u3, u4, u5, rfl, balsR.below h1 hb, mrksR.below h2 hb, contsR.below h3 hb, mrksR.below h4 hb, intsR.below h5 hb⟩
  ofO := fun h => by
    obtain ⟨u1, u2, u3, u4, u5, F1, F2, F3, F4, F5, rfl, h1, h2, h3, h4, h5, _⟩ := h
    exact ⟨u1, u2, u3, u4, u5, rfl, balsR.ofO h1, mrksR.ofO h2, contsR.ofO h3, mrksR.ofO h4, intsR.ofO h5⟩
  mod := fun h hm hd => by
    obtain ⟨u1, u2, u3, u4, u5, F1, F2, F3, F4, F5, rfl, h1, h2, h3, h4, h5, s12, s13, s14, s15, s23, s24, s25, s34, s35, s45, hF⟩ := h
    exact ⟨u1, u2, u3, u4, u5, F1, F2, F3, F4, F5, rfl, balsR.mod h1 hm (fun b hb => hd b ((hF b).2 (.inl hb))), mrksR.mod h2 hm (fun b hb => hd b ((hF b).2 (.inr (.inl hb)))), contsR.mod h3 hm (fun b hb => hd b ((hF b).2 (.inr (.inr (.inl hb))))), mrksR.mod h4 hm (fun b hb => hd b ((hF b).2 (.inr (.inr (.inr (.inl hb)))))), intsR.mod h5 hm (fun b hb => hd b ((hF b).2 (.inr (.inr (.inr (.inr hb)))))), s12, s13, s14, s15, s23, s24, s25, s34, s35, s45, hF⟩
  rng := fun h b hb => by
    obtain ⟨u1, u2, u3, u4, u5, F1, F2, F3, F4, F5, rfl, h1, h2, h3, h4, h5, s12, s13, s14, s15, s23, s24, s25, s34, s35, s45, hF⟩ := h
    rcases (hF b).1 hb with hb | hb | hb | hb | hb
    · exact balsR.rng h1 b hb
    · exact mrksR.rng h2 b hb
    · exact contsR.rng h3 b hb
    · exact mrksR.rng h4 b hb
    · exact intsR.rng h5 b hb
  base := fun h hb => by
    obtain ⟨u1, u2, u3, u4, u5, F1, F2, F3, F4, F5, rfl, h1, h2, h3, h4, h5, s12, s13, s14, s15, s23, s24, s25, s34, s35, s45, hF⟩ := h
    exact ⟨u1, u2, u3, u4, u5, F1, F2, F3, F4, F5, rfl, balsR.base h1 hb, mrksR.base h2 hb, contsR.base h3 hb, mrksR.base h4 hb, intsR.base h5 hb, s12, s13, s14, s15, s23, s24, s25, s34, s35, s45, hF⟩
def wtShd (x : Shd) : Nat := wtBals x.bals + wtMrks x.votes + wtConts x.held + wtMrks x.done + wtInts x.appl
set_option maxHeartbeats 2000000 in
theorem toShard_u (x : Value) (d : Shd) (w : World) (hx : shdR.V w x d) (hn : wtShd d ≤ 1048576) :
    Calls Tryz.prog 6 #[x] w fun e w' => ∃ v F, e = .returned v ∧ shdR.O w' w.heap.size F v d ∧ Below w.heap.size w w' := by
  obtain ⟨u1, u2, u3, u4, u5, rfl, h1, h2, h3, h4, h5⟩ := hx
  unfold wtShd at hn
  go_enter Tryz.func6, Tryz.ntmps6
  go_wp2_with fail
  refine (toBalanceS_u _ d.bals _ (balsR.below h1 (by (repeat (first | exact Below.refl _ _ | assumption | refine Below.drew ?_ | refine balloc ?_ _ | refine bset ?_ (by simp; omega) _ | refine bset ?_ (by simp) _ | refine bstep ?_ (by assumption))))) (by omega)).mono ?_
  rintro e w1 ⟨v1, F1, rfl, o1, b1⟩
  have hB1 : Below w.heap.size w w1 := bstep (by (repeat (first | exact Below.refl _ _ | assumption | refine Below.drew ?_ | refine balloc ?_ _ | refine bset ?_ (by simp; omega) _ | refine bset ?_ (by simp) _ | refine bstep ?_ (by assumption)))) b1
  obtain ⟨a1, n1, rfl⟩ := bals_form (balsR.ofO o1)
  obtain ⟨c1, f1⟩ := bcell b1
  have z1 := b1.size
  simp at z1
  have l1 := fun b hb => balsR.rng o1 b hb
  simp at l1
  replace o1 := balsR.base (base' := w.heap.size + 3) o1 (by simp; try omega)
  have y0 : w1.cell? ⟨w.heap.size, 0, none⟩ = some (.int .i64 d.idx) := cell_keep b1 (by simp [go_sem])
  have y1 : w1.cell? ⟨w.heap.size, 1, none⟩ = some (u1) := cell_keep b1 (by simp [go_sem])
  have y2 : w1.cell? ⟨w.heap.size, 2, none⟩ = some (u2) := cell_keep b1 (by simp [go_sem])
  have y3 : w1.cell? ⟨w.heap.size, 3, none⟩ = some (u3) := cell_keep b1 (by simp [go_sem])
  have y4 : w1.cell? ⟨w.heap.size, 4, none⟩ = some (u4) := cell_keep b1 (by simp [go_sem])
  have y5 : w1.cell? ⟨w.heap.size, 5, none⟩ = some (u5) := cell_keep b1 (by simp [go_sem])
  have r0 : w1.cell? ⟨w.heap.size + 1, 0, none⟩ = some (.int .i64 0) := cell_keep b1 (by simp [go_sem])
  have r1 : w1.cell? ⟨w.heap.size + 1, 1, none⟩ = some (.slice none 0 0) := cell_keep b1 (by simp [go_sem])
  have r2 : w1.cell? ⟨w.heap.size + 1, 2, none⟩ = some (.slice none 0 0) := cell_keep b1 (by simp [go_sem])
  have r3 : w1.cell? ⟨w.heap.size + 1, 3, none⟩ = some (.slice none 0 0) := cell_keep b1 (by simp [go_sem])
  have r4 : w1.cell? ⟨w.heap.size + 1, 4, none⟩ = some (.slice none 0 0) := cell_keep b1 (by simp [go_sem])
  have r5 : w1.cell? ⟨w.heap.size + 1, 5, none⟩ = some (.slice none 0 0) := cell_keep b1 (by simp [go_sem])
  have s0 : w1.cell? ⟨w.heap.size + 2, 0, none⟩ = some (.int .i64 d.idx) := cell_keep b1 (by simp [go_sem])
  have s1 : w1.cell? ⟨w.heap.size + 2, 1, none⟩ = some (.slice none 0 0) := cell_keep b1 (by simp [go_sem])
  have s2 : w1.cell? ⟨w.heap.size + 2, 2, none⟩ = some (.slice none 0 0) := cell_keep b1 (by simp [go_sem])
  have s3 : w1.cell? ⟨w.heap.size + 2, 3, none⟩ = some (.slice none 0 0) := cell_keep b1 (by simp [go_sem])
  have s4 : w1.cell? ⟨w.heap.size + 2, 4, none⟩ = some (.slice none 0 0) := cell_keep b1 (by simp [go_sem])
  have s5 : w1.cell? ⟨w.heap.size + 2, 5, none⟩ = some (.slice none 0 0) := cell_keep b1 (by simp [go_sem])
  have t1 : ∀ o, w1.frozen? ⟨w.heap.size + 1, o, none⟩ = false := fun o => by rw [f1 _ _ (by simp; try omega)]; simp [go_sem]
  have t2 : ∀ o, w1.frozen? ⟨w.heap.size + 2, o, none⟩ = false := fun o => by rw [f1 _ _ (by simp; try omega)]; simp [go_sem]
  clear c1 f1
  have x0 := y0
  have x1 := y1
  have x2 := y2
  have x3 := y3
  have x4 := y4
  have x5 := y5
  have q0 := r0
  have q1 := r1
  have q2 := r2
  have q3 := r3
  have q4 := r4
  have q5 := r5
  have p0 := s0
  have p1 := s1
  have p2 := s2
  have p3 := s3
  have p4 := s4
  have p5 := s5
  have qf := t1
  have pf := t2
  clear t1 t2 y0 y1 y2 y3 y4 y5 r0 r1 r2 r3 r4 r5 s0 s1 s2 s3 s4 s5
  clear b1
  go_wp2_with fail
  refine (toMarkS_u _ d.votes _ (mrksR.below h2 (by (repeat (first | refine bset ?_ (by simp; omega) _ | refine bset ?_ (by simp) _ | refine balloc ?_ _ | assumption)))) (by omega)).mono ?_
  rintro e w2 ⟨v2, F2, rfl, o2, b2⟩
  have hB2 : Below w.heap.size w w2 := bstep (by (repeat (first | refine bset ?_ (by simp; omega) _ | refine bset ?_ (by simp) _ | refine balloc ?_ _ | assumption))) b2
  obtain ⟨a2, n2, rfl⟩ := mrks_form (mrksR.ofO o2)
  obtain ⟨c2, f2⟩ := bcell b2
  have z2 := b2.size
  simp at z2
  have l2 := fun b hb => mrksR.rng o2 b hb
  simp at l2
  replace o2 := mrksR.base (base' := w.heap.size + 3) o2 (by simp; try omega)
  have hk1 : ∀ F v x, balsR.O w1 (w.heap.size + 3) F v x → balsR.O w2 (w.heap.size + 3) F v x := fun F v x o => balsR.keep (by (repeat (first | refine Rep.set _ ?_ _ (by simp; omega) | refine Rep.set _ ?_ _ (by simp) | refine Rep.alloc _ ?_ _ | assumption))) b2
  replace o1 := hk1 _ _ _ o1
  clear hk1
  have y0 : w2.cell? ⟨w.heap.size, 0, none⟩ = some (.int .i64 d.idx) := cell_keep b2 (by simp [go_sem, x0, x1, x2, x3, x4, x5, q0, q1, q2, q3, q4, q5, p0, p1, p2, p3, p4, p5])
  have y1 : w2.cell? ⟨w.heap.size, 1, none⟩ = some (u1) := cell_keep b2 (by simp [go_sem, x0, x1, x2, x3, x4, x5, q0, q1, q2, q3, q4, q5, p0, p1, p2, p3, p4, p5])
  have y2 : w2.cell? ⟨w.heap.size, 2, none⟩ = some (u2) := cell_keep b2 (by simp [go_sem, x0, x1, x2, x3, x4, x5, q0, q1, q2, q3, q4, q5, p0, p1, p2, p3, p4, p5])
  have y3 : w2.cell? ⟨w.heap.size, 3, none⟩ = some (u3) := cell_keep b2 (by simp [go_sem, x0, x1, x2, x3, x4, x5, q0, q1, q2, q3, q4, q5, p0, p1, p2, p3, p4, p5])
  have y4 : w2.cell? ⟨w.heap.size, 4, none⟩ = some (u4) := cell_keep b2 (by simp [go_sem, x0, x1, x2, x3, x4, x5, q0, q1, q2, q3, q4, q5, p0, p1, p2, p3, p4, p5])
  have y5 : w2.cell? ⟨w.heap.size, 5, none⟩ = some (u5) := cell_keep b2 (by simp [go_sem, x0, x1, x2, x3, x4, x5, q0, q1, q2, q3, q4, q5, p0, p1, p2, p3, p4, p5])
  have r0 : w2.cell? ⟨w.heap.size + 1, 0, none⟩ = some (.int .i64 0) := cell_keep b2 (by simp [go_sem, x0, x1, x2, x3, x4, x5, q0, q1, q2, q3, q4, q5, p0, p1, p2, p3, p4, p5])
  have r1 : w2.cell? ⟨w.heap.size + 1, 1, none⟩ = some (.slice none 0 0) := cell_keep b2 (by simp [go_sem, x0, x1, x2, x3, x4, x5, q0, q1, q2, q3, q4, q5, p0, p1, p2, p3, p4, p5])
  have r2 : w2.cell? ⟨w.heap.size + 1, 2, none⟩ = some (.slice none 0 0) := cell_keep b2 (by simp [go_sem, x0, x1, x2, x3, x4, x5, q0, q1, q2, q3, q4, q5, p0, p1, p2, p3, p4, p5])
  have r3 : w2.cell? ⟨w.heap.size + 1, 3, none⟩ = some (.slice none 0 0) := cell_keep b2 (by simp [go_sem, x0, x1, x2, x3, x4, x5, q0, q1, q2, q3, q4, q5, p0, p1, p2, p3, p4, p5])
  have r4 : w2.cell? ⟨w.heap.size + 1, 4, none⟩ = some (.slice none 0 0) := cell_keep b2 (by simp [go_sem, x0, x1, x2, x3, x4, x5, q0, q1, q2, q3, q4, q5, p0, p1, p2, p3, p4, p5])
  have r5 : w2.cell? ⟨w.heap.size + 1, 5, none⟩ = some (.slice none 0 0) := cell_keep b2 (by simp [go_sem, x0, x1, x2, x3, x4, x5, q0, q1, q2, q3, q4, q5, p0, p1, p2, p3, p4, p5])
  have s0 : w2.cell? ⟨w.heap.size + 2, 0, none⟩ = some (.int .i64 d.idx) := cell_keep b2 (by simp [go_sem, x0, x1, x2, x3, x4, x5, q0, q1, q2, q3, q4, q5, p0, p1, p2, p3, p4, p5])
  have s1 : w2.cell? ⟨w.heap.size + 2, 1, none⟩ = some (.slice a1 d.bals.length n1) := cell_keep b2 (by simp [go_sem, x0, x1, x2, x3, x4, x5, q0, q1, q2, q3, q4, q5, p0, p1, p2, p3, p4, p5])
  have s2 : w2.cell? ⟨w.heap.size + 2, 2, none⟩ = some (.slice none 0 0) := cell_keep b2 (by simp [go_sem, x0, x1, x2, x3, x4, x5, q0, q1, q2, q3, q4, q5, p0, p1, p2, p3, p4, p5])
  have s3 : w2.cell? ⟨w.heap.size + 2, 3, none⟩ = some (.slice none 0 0) := cell_keep b2 (by simp [go_sem, x0, x1, x2, x3, x4, x5, q0, q1, q2, q3, q4, q5, p0, p1, p2, p3, p4, p5])
  have s4 : w2.cell? ⟨w.heap.size + 2, 4, none⟩ = some (.slice none 0 0) := cell_keep b2 (by simp [go_sem, x0, x1, x2, x3, x4, x5, q0, q1, q2, q3, q4, q5, p0, p1, p2, p3, p4, p5])
  have s5 : w2.cell? ⟨w.heap.size + 2, 5, none⟩ = some (.slice none 0 0) := cell_keep b2 (by simp [go_sem, x0, x1, x2, x3, x4, x5, q0, q1, q2, q3, q4, q5, p0, p1, p2, p3, p4, p5])
  have t1 : ∀ o, w2.frozen? ⟨w.heap.size + 1, o, none⟩ = false := fun o => by rw [f2 _ _ (by simp; try omega)]; simp [go_sem, qf]
  have t2 : ∀ o, w2.frozen? ⟨w.heap.size + 2, o, none⟩ = false := fun o => by rw [f2 _ _ (by simp; try omega)]; simp [go_sem, pf]
  clear x0 x1 x2 x3 x4 x5 q0 q1 q2 q3 q4 q5 p0 p1 p2 p3 p4 p5 qf pf
  clear c2 f2
  have x0 := y0
  have x1 := y1
  have x2 := y2
  have x3 := y3
  have x4 := y4
  have x5 := y5
  have q0 := r0
  have q1 := r1
  have q2 := r2
  have q3 := r3
  have q4 := r4
  have q5 := r5
  have p0 := s0
  have p1 := s1
  have p2 := s2
  have p3 := s3
  have p4 := s4
  have p5 := s5
  have qf := t1
  have pf := t2
  clear t1 t2 y0 y1 y2 y3 y4 y5 r0 r1 r2 r3 r4 r5 s0 s1 s2 s3 s4 s5
  clear b2 hB1
  go_wp2_with fail
  refine (toContractS_u _ d.held _ (contsR.below h3 (by (repeat (first | refine bset ?_ (by simp; omega) _ | refine bset ?_ (by simp) _ | refine balloc ?_ _ | assumption)))) (by omega)).mono ?_
  rintro e w3 ⟨v3, F3, rfl, o3, b3⟩
  have hB3 : Below w.heap.size w w3 := bstep (by (repeat (first | refine bset ?_ (by simp; omega) _ | refine bset ?_ (by simp) _ | refine balloc ?_ _ | assumption))) b3
  obtain ⟨a3, n3, rfl⟩ := conts_form (contsR.ofO o3)
  obtain ⟨c3, f3⟩ := bcell b3
  have z3 := b3.size
  simp at z3
  have l3 := fun b hb => contsR.rng o3 b hb
  simp at l3
  replace o3 := contsR.base (base' := w.heap.size + 3) o3 (by simp; try omega)
  have hk1 : ∀ F v x, balsR.O w2 (w.heap.size + 3) F v x → balsR.O w3 (w.heap.size + 3) F v x := fun F v x o => balsR.keep (by (repeat (first | refine Rep.set _ ?_ _ (by simp; omega) | refine Rep.set _ ?_ _ (by simp) | refine Rep.alloc _ ?_ _ | assumption))) b3
  replace o1 := hk1 _ _ _ o1
  clear hk1
  have hk2 : ∀ F v x, mrksR.O w2 (w.heap.size + 3) F v x → mrksR.O w3 (w.heap.size + 3) F v x := fun F v x o => mrksR.keep (by (repeat (first | refine Rep.set _ ?_ _ (by simp; omega) | refine Rep.set _ ?_ _ (by simp) | refine Rep.alloc _ ?_ _ | assumption))) b3
  replace o2 := hk2 _ _ _ o2
  clear hk2
  have y0 : w3.cell? ⟨w.heap.size, 0, none⟩ = some (.int .i64 d.idx) := cell_keep b3 (by simp [go_sem, x0, x1, x2, x3, x4, x5, q0, q1, q2, q3, q4, q5, p0, p1, p2, p3, p4, p5])
  have y1 : w3.cell? ⟨w.heap.size, 1, none⟩ = some (u1) := cell_keep b3 (by simp [go_sem, x0, x1, x2, x3, x4, x5, q0, q1, q2, q3, q4, q5, p0, p1, p2, p3, p4, p5])
  have y2 : w3.cell? ⟨w.heap.size, 2, none⟩ = some (u2) := cell_keep b3 (by simp [go_sem, x0, x1, x2, x3, x4, x5, q0, q1, q2, q3, q4, q5, p0, p1, p2, p3, p4, p5])
  have y3 : w3.cell? ⟨w.heap.size, 3, none⟩ = some (u3) := cell_keep b3 (by simp [go_sem, x0, x1, x2, x3, x4, x5, q0, q1, q2, q3, q4, q5, p0, p1, p2, p3, p4, p5])
  have y4 : w3.cell? ⟨w.heap.size, 4, none⟩ = some (u4) := cell_keep b3 (by simp [go_sem, x0, x1, x2, x3, x4, x5, q0, q1, q2, q3, q4, q5, p0, p1, p2, p3, p4, p5])
  have y5 : w3.cell? ⟨w.heap.size, 5, none⟩ = some (u5) := cell_keep b3 (by simp [go_sem, x0, x1, x2, x3, x4, x5, q0, q1, q2, q3, q4, q5, p0, p1, p2, p3, p4, p5])
  have r0 : w3.cell? ⟨w.heap.size + 1, 0, none⟩ = some (.int .i64 0) := cell_keep b3 (by simp [go_sem, x0, x1, x2, x3, x4, x5, q0, q1, q2, q3, q4, q5, p0, p1, p2, p3, p4, p5])
  have r1 : w3.cell? ⟨w.heap.size + 1, 1, none⟩ = some (.slice none 0 0) := cell_keep b3 (by simp [go_sem, x0, x1, x2, x3, x4, x5, q0, q1, q2, q3, q4, q5, p0, p1, p2, p3, p4, p5])
  have r2 : w3.cell? ⟨w.heap.size + 1, 2, none⟩ = some (.slice none 0 0) := cell_keep b3 (by simp [go_sem, x0, x1, x2, x3, x4, x5, q0, q1, q2, q3, q4, q5, p0, p1, p2, p3, p4, p5])
  have r3 : w3.cell? ⟨w.heap.size + 1, 3, none⟩ = some (.slice none 0 0) := cell_keep b3 (by simp [go_sem, x0, x1, x2, x3, x4, x5, q0, q1, q2, q3, q4, q5, p0, p1, p2, p3, p4, p5])
  have r4 : w3.cell? ⟨w.heap.size + 1, 4, none⟩ = some (.slice none 0 0) := cell_keep b3 (by simp [go_sem, x0, x1, x2, x3, x4, x5, q0, q1, q2, q3, q4, q5, p0, p1, p2, p3, p4, p5])
  have r5 : w3.cell? ⟨w.heap.size + 1, 5, none⟩ = some (.slice none 0 0) := cell_keep b3 (by simp [go_sem, x0, x1, x2, x3, x4, x5, q0, q1, q2, q3, q4, q5, p0, p1, p2, p3, p4, p5])
  have s0 : w3.cell? ⟨w.heap.size + 2, 0, none⟩ = some (.int .i64 d.idx) := cell_keep b3 (by simp [go_sem, x0, x1, x2, x3, x4, x5, q0, q1, q2, q3, q4, q5, p0, p1, p2, p3, p4, p5])
  have s1 : w3.cell? ⟨w.heap.size + 2, 1, none⟩ = some (.slice a1 d.bals.length n1) := cell_keep b3 (by simp [go_sem, x0, x1, x2, x3, x4, x5, q0, q1, q2, q3, q4, q5, p0, p1, p2, p3, p4, p5])
  have s2 : w3.cell? ⟨w.heap.size + 2, 2, none⟩ = some (.slice a2 d.votes.length n2) := cell_keep b3 (by simp [go_sem, x0, x1, x2, x3, x4, x5, q0, q1, q2, q3, q4, q5, p0, p1, p2, p3, p4, p5])
  have s3 : w3.cell? ⟨w.heap.size + 2, 3, none⟩ = some (.slice none 0 0) := cell_keep b3 (by simp [go_sem, x0, x1, x2, x3, x4, x5, q0, q1, q2, q3, q4, q5, p0, p1, p2, p3, p4, p5])
  have s4 : w3.cell? ⟨w.heap.size + 2, 4, none⟩ = some (.slice none 0 0) := cell_keep b3 (by simp [go_sem, x0, x1, x2, x3, x4, x5, q0, q1, q2, q3, q4, q5, p0, p1, p2, p3, p4, p5])
  have s5 : w3.cell? ⟨w.heap.size + 2, 5, none⟩ = some (.slice none 0 0) := cell_keep b3 (by simp [go_sem, x0, x1, x2, x3, x4, x5, q0, q1, q2, q3, q4, q5, p0, p1, p2, p3, p4, p5])
  have t1 : ∀ o, w3.frozen? ⟨w.heap.size + 1, o, none⟩ = false := fun o => by rw [f3 _ _ (by simp; try omega)]; simp [go_sem, qf]
  have t2 : ∀ o, w3.frozen? ⟨w.heap.size + 2, o, none⟩ = false := fun o => by rw [f3 _ _ (by simp; try omega)]; simp [go_sem, pf]
  clear x0 x1 x2 x3 x4 x5 q0 q1 q2 q3 q4 q5 p0 p1 p2 p3 p4 p5 qf pf
  clear c3 f3
  have x0 := y0
  have x1 := y1
  have x2 := y2
  have x3 := y3
  have x4 := y4
  have x5 := y5
  have q0 := r0
  have q1 := r1
  have q2 := r2
  have q3 := r3
  have q4 := r4
  have q5 := r5
  have p0 := s0
  have p1 := s1
  have p2 := s2
  have p3 := s3
  have p4 := s4
  have p5 := s5
  have qf := t1
  have pf := t2
  clear t1 t2 y0 y1 y2 y3 y4 y5 r0 r1 r2 r3 r4 r5 s0 s1 s2 s3 s4 s5
  clear b3 hB2
  go_wp2_with fail
  refine (toMarkS_u _ d.done _ (mrksR.below h4 (by (repeat (first | refine bset ?_ (by simp; omega) _ | refine bset ?_ (by simp) _ | refine balloc ?_ _ | assumption)))) (by omega)).mono ?_
  rintro e w4 ⟨v4, F4, rfl, o4, b4⟩
  have hB4 : Below w.heap.size w w4 := bstep (by (repeat (first | refine bset ?_ (by simp; omega) _ | refine bset ?_ (by simp) _ | refine balloc ?_ _ | assumption))) b4
  obtain ⟨a4, n4, rfl⟩ := mrks_form (mrksR.ofO o4)
  obtain ⟨c4, f4⟩ := bcell b4
  have z4 := b4.size
  simp at z4
  have l4 := fun b hb => mrksR.rng o4 b hb
  simp at l4
  replace o4 := mrksR.base (base' := w.heap.size + 3) o4 (by simp; try omega)
  have hk1 : ∀ F v x, balsR.O w3 (w.heap.size + 3) F v x → balsR.O w4 (w.heap.size + 3) F v x := fun F v x o => balsR.keep (by (repeat (first | refine Rep.set _ ?_ _ (by simp; omega) | refine Rep.set _ ?_ _ (by simp) | refine Rep.alloc _ ?_ _ | assumption))) b4
  replace o1 := hk1 _ _ _ o1
  clear hk1
  have hk2 : ∀ F v x, mrksR.O w3 (w.heap.size + 3) F v x → mrksR.O w4 (w.heap.size + 3) F v x := fun F v x o => mrksR.keep (by (repeat (first | refine Rep.set _ ?_ _ (by simp; omega) | refine Rep.set _ ?_ _ (by simp) | refine Rep.alloc _ ?_ _ | assumption))) b4
  replace o2 := hk2 _ _ _ o2
  clear hk2
  have hk3 : ∀ F v x, contsR.O w3 (w.heap.size + 3) F v x → contsR.O w4 (w.heap.size + 3) F v x := fun F v x o => contsR.keep (by (repeat (first | refine Rep.set _ ?_ _ (by simp; omega) | refine Rep.set _ ?_ _ (by simp) | refine Rep.alloc _ ?_ _ | assumption))) b4
  replace o3 := hk3 _ _ _ o3
  clear hk3
  have y0 : w4.cell? ⟨w.heap.size, 0, none⟩ = some (.int .i64 d.idx) := cell_keep b4 (by simp [go_sem, x0, x1, x2, x3, x4, x5, q0, q1, q2, q3, q4, q5, p0, p1, p2, p3, p4, p5])
  have y1 : w4.cell? ⟨w.heap.size, 1, none⟩ = some (u1) := cell_keep b4 (by simp [go_sem, x0, x1, x2, x3, x4, x5, q0, q1, q2, q3, q4, q5, p0, p1, p2, p3, p4, p5])
  have y2 : w4.cell? ⟨w.heap.size, 2, none⟩ = some (u2) := cell_keep b4 (by simp [go_sem, x0, x1, x2, x3, x4, x5, q0, q1, q2, q3, q4, q5, p0, p1, p2, p3, p4, p5])
  have y3 : w4.cell? ⟨w.heap.size, 3, none⟩ = some (u3) := cell_keep b4 (by simp [go_sem, x0, x1, x2, x3, x4, x5, q0, q1, q2, q3, q4, q5, p0, p1, p2, p3, p4, p5])
  have y4 : w4.cell? ⟨w.heap.size, 4, none⟩ = some (u4) := cell_keep b4 (by simp [go_sem, x0, x1, x2, x3, x4, x5, q0, q1, q2, q3, q4, q5, p0, p1, p2, p3, p4, p5])
  have y5 : w4.cell? ⟨w.heap.size, 5, none⟩ = some (u5) := cell_keep b4 (by simp [go_sem, x0, x1, x2, x3, x4, x5, q0, q1, q2, q3, q4, q5, p0, p1, p2, p3, p4, p5])
  have r0 : w4.cell? ⟨w.heap.size + 1, 0, none⟩ = some (.int .i64 0) := cell_keep b4 (by simp [go_sem, x0, x1, x2, x3, x4, x5, q0, q1, q2, q3, q4, q5, p0, p1, p2, p3, p4, p5])
  have r1 : w4.cell? ⟨w.heap.size + 1, 1, none⟩ = some (.slice none 0 0) := cell_keep b4 (by simp [go_sem, x0, x1, x2, x3, x4, x5, q0, q1, q2, q3, q4, q5, p0, p1, p2, p3, p4, p5])
  have r2 : w4.cell? ⟨w.heap.size + 1, 2, none⟩ = some (.slice none 0 0) := cell_keep b4 (by simp [go_sem, x0, x1, x2, x3, x4, x5, q0, q1, q2, q3, q4, q5, p0, p1, p2, p3, p4, p5])
  have r3 : w4.cell? ⟨w.heap.size + 1, 3, none⟩ = some (.slice none 0 0) := cell_keep b4 (by simp [go_sem, x0, x1, x2, x3, x4, x5, q0, q1, q2, q3, q4, q5, p0, p1, p2, p3, p4, p5])
  have r4 : w4.cell? ⟨w.heap.size + 1, 4, none⟩ = some (.slice none 0 0) := cell_keep b4 (by simp [go_sem, x0, x1, x2, x3, x4, x5, q0, q1, q2, q3, q4, q5, p0, p1, p2, p3, p4, p5])
  have r5 : w4.cell? ⟨w.heap.size + 1, 5, none⟩ = some (.slice none 0 0) := cell_keep b4 (by simp [go_sem, x0, x1, x2, x3, x4, x5, q0, q1, q2, q3, q4, q5, p0, p1, p2, p3, p4, p5])
  have s0 : w4.cell? ⟨w.heap.size + 2, 0, none⟩ = some (.int .i64 d.idx) := cell_keep b4 (by simp [go_sem, x0, x1, x2, x3, x4, x5, q0, q1, q2, q3, q4, q5, p0, p1, p2, p3, p4, p5])
  have s1 : w4.cell? ⟨w.heap.size + 2, 1, none⟩ = some (.slice a1 d.bals.length n1) := cell_keep b4 (by simp [go_sem, x0, x1, x2, x3, x4, x5, q0, q1, q2, q3, q4, q5, p0, p1, p2, p3, p4, p5])
  have s2 : w4.cell? ⟨w.heap.size + 2, 2, none⟩ = some (.slice a2 d.votes.length n2) := cell_keep b4 (by simp [go_sem, x0, x1, x2, x3, x4, x5, q0, q1, q2, q3, q4, q5, p0, p1, p2, p3, p4, p5])
  have s3 : w4.cell? ⟨w.heap.size + 2, 3, none⟩ = some (.slice a3 d.held.length n3) := cell_keep b4 (by simp [go_sem, x0, x1, x2, x3, x4, x5, q0, q1, q2, q3, q4, q5, p0, p1, p2, p3, p4, p5])
  have s4 : w4.cell? ⟨w.heap.size + 2, 4, none⟩ = some (.slice none 0 0) := cell_keep b4 (by simp [go_sem, x0, x1, x2, x3, x4, x5, q0, q1, q2, q3, q4, q5, p0, p1, p2, p3, p4, p5])
  have s5 : w4.cell? ⟨w.heap.size + 2, 5, none⟩ = some (.slice none 0 0) := cell_keep b4 (by simp [go_sem, x0, x1, x2, x3, x4, x5, q0, q1, q2, q3, q4, q5, p0, p1, p2, p3, p4, p5])
  have t1 : ∀ o, w4.frozen? ⟨w.heap.size + 1, o, none⟩ = false := fun o => by rw [f4 _ _ (by simp; try omega)]; simp [go_sem, qf]
  have t2 : ∀ o, w4.frozen? ⟨w.heap.size + 2, o, none⟩ = false := fun o => by rw [f4 _ _ (by simp; try omega)]; simp [go_sem, pf]
  clear x0 x1 x2 x3 x4 x5 q0 q1 q2 q3 q4 q5 p0 p1 p2 p3 p4 p5 qf pf
  clear c4 f4
  have x0 := y0
  have x1 := y1
  have x2 := y2
  have x3 := y3
  have x4 := y4
  have x5 := y5
  have q0 := r0
  have q1 := r1
  have q2 := r2
  have q3 := r3
  have q4 := r4
  have q5 := r5
  have p0 := s0
  have p1 := s1
  have p2 := s2
  have p3 := s3
  have p4 := s4
  have p5 := s5
  have qf := t1
  have pf := t2
  clear t1 t2 y0 y1 y2 y3 y4 y5 r0 r1 r2 r3 r4 r5 s0 s1 s2 s3 s4 s5
  clear b4 hB3
  go_wp2_with fail
  refine (toInt64S_u _ d.appl _ (intsR.below h5 (by (repeat (first | refine bset ?_ (by simp; omega) _ | refine bset ?_ (by simp) _ | refine balloc ?_ _ | assumption)))) (by omega)).mono ?_
  rintro e w5 ⟨v5, F5, rfl, o5, b5⟩
  have hB5 : Below w.heap.size w w5 := bstep (by (repeat (first | refine bset ?_ (by simp; omega) _ | refine bset ?_ (by simp) _ | refine balloc ?_ _ | assumption))) b5
  obtain ⟨a5, n5, rfl⟩ := ints_form (intsR.ofO o5)
  obtain ⟨c5, f5⟩ := bcell b5
  have z5 := b5.size
  simp at z5
  have l5 := fun b hb => intsR.rng o5 b hb
  simp at l5
  replace o5 := intsR.base (base' := w.heap.size + 3) o5 (by simp; try omega)
  have hk1 : ∀ F v x, balsR.O w4 (w.heap.size + 3) F v x → balsR.O w5 (w.heap.size + 3) F v x := fun F v x o => balsR.keep (by (repeat (first | refine Rep.set _ ?_ _ (by simp; omega) | refine Rep.set _ ?_ _ (by simp) | refine Rep.alloc _ ?_ _ | assumption))) b5
  replace o1 := hk1 _ _ _ o1
  clear hk1
  have hk2 : ∀ F v x, mrksR.O w4 (w.heap.size + 3) F v x → mrksR.O w5 (w.heap.size + 3) F v x := fun F v x o => mrksR.keep (by (repeat (first | refine Rep.set _ ?_ _ (by simp; omega) | refine Rep.set _ ?_ _ (by simp) | refine Rep.alloc _ ?_ _ | assumption))) b5
  replace o2 := hk2 _ _ _ o2
  clear hk2
  have hk3 : ∀ F v x, contsR.O w4 (w.heap.size + 3) F v x → contsR.O w5 (w.heap.size + 3) F v x := fun F v x o => contsR.keep (by (repeat (first | refine Rep.set _ ?_ _ (by simp; omega) | refine Rep.set _ ?_ _ (by simp) | refine Rep.alloc _ ?_ _ | assumption))) b5
  replace o3 := hk3 _ _ _ o3
  clear hk3
  have hk4 : ∀ F v x, mrksR.O w4 (w.heap.size + 3) F v x → mrksR.O w5 (w.heap.size + 3) F v x := fun F v x o => mrksR.keep (by (repeat (first | refine Rep.set _ ?_ _ (by simp; omega) | refine Rep.set _ ?_ _ (by simp) | refine Rep.alloc _ ?_ _ | assumption))) b5
  replace o4 := hk4 _ _ _ o4
  clear hk4
  have y0 : w5.cell? ⟨w.heap.size, 0, none⟩ = some (.int .i64 d.idx) := cell_keep b5 (by simp [go_sem, x0, x1, x2, x3, x4, x5, q0, q1, q2, q3, q4, q5, p0, p1, p2, p3, p4, p5])
  have y1 : w5.cell? ⟨w.heap.size, 1, none⟩ = some (u1) := cell_keep b5 (by simp [go_sem, x0, x1, x2, x3, x4, x5, q0, q1, q2, q3, q4, q5, p0, p1, p2, p3, p4, p5])
  have y2 : w5.cell? ⟨w.heap.size, 2, none⟩ = some (u2) := cell_keep b5 (by simp [go_sem, x0, x1, x2, x3, x4, x5, q0, q1, q2, q3, q4, q5, p0, p1, p2, p3, p4, p5])
  have y3 : w5.cell? ⟨w.heap.size, 3, none⟩ = some (u3) := cell_keep b5 (by simp [go_sem, x0, x1, x2, x3, x4, x5, q0, q1, q2, q3, q4, q5, p0, p1, p2, p3, p4, p5])
  have y4 : w5.cell? ⟨w.heap.size, 4, none⟩ = some (u4) := cell_keep b5 (by simp [go_sem, x0, x1, x2, x3, x4, x5, q0, q1, q2, q3, q4, q5, p0, p1, p2, p3, p4, p5])
  have y5 : w5.cell? ⟨w.heap.size, 5, none⟩ = some (u5) := cell_keep b5 (by simp [go_sem, x0, x1, x2, x3, x4, x5, q0, q1, q2, q3, q4, q5, p0, p1, p2, p3, p4, p5])
  have r0 : w5.cell? ⟨w.heap.size + 1, 0, none⟩ = some (.int .i64 0) := cell_keep b5 (by simp [go_sem, x0, x1, x2, x3, x4, x5, q0, q1, q2, q3, q4, q5, p0, p1, p2, p3, p4, p5])
  have r1 : w5.cell? ⟨w.heap.size + 1, 1, none⟩ = some (.slice none 0 0) := cell_keep b5 (by simp [go_sem, x0, x1, x2, x3, x4, x5, q0, q1, q2, q3, q4, q5, p0, p1, p2, p3, p4, p5])
  have r2 : w5.cell? ⟨w.heap.size + 1, 2, none⟩ = some (.slice none 0 0) := cell_keep b5 (by simp [go_sem, x0, x1, x2, x3, x4, x5, q0, q1, q2, q3, q4, q5, p0, p1, p2, p3, p4, p5])
  have r3 : w5.cell? ⟨w.heap.size + 1, 3, none⟩ = some (.slice none 0 0) := cell_keep b5 (by simp [go_sem, x0, x1, x2, x3, x4, x5, q0, q1, q2, q3, q4, q5, p0, p1, p2, p3, p4, p5])
  have r4 : w5.cell? ⟨w.heap.size + 1, 4, none⟩ = some (.slice none 0 0) := cell_keep b5 (by simp [go_sem, x0, x1, x2, x3, x4, x5, q0, q1, q2, q3, q4, q5, p0, p1, p2, p3, p4, p5])
  have r5 : w5.cell? ⟨w.heap.size + 1, 5, none⟩ = some (.slice none 0 0) := cell_keep b5 (by simp [go_sem, x0, x1, x2, x3, x4, x5, q0, q1, q2, q3, q4, q5, p0, p1, p2, p3, p4, p5])
  have s0 : w5.cell? ⟨w.heap.size + 2, 0, none⟩ = some (.int .i64 d.idx) := cell_keep b5 (by simp [go_sem, x0, x1, x2, x3, x4, x5, q0, q1, q2, q3, q4, q5, p0, p1, p2, p3, p4, p5])
  have s1 : w5.cell? ⟨w.heap.size + 2, 1, none⟩ = some (.slice a1 d.bals.length n1) := cell_keep b5 (by simp [go_sem, x0, x1, x2, x3, x4, x5, q0, q1, q2, q3, q4, q5, p0, p1, p2, p3, p4, p5])
  have s2 : w5.cell? ⟨w.heap.size + 2, 2, none⟩ = some (.slice a2 d.votes.length n2) := cell_keep b5 (by simp [go_sem, x0, x1, x2, x3, x4, x5, q0, q1, q2, q3, q4, q5, p0, p1, p2, p3, p4, p5])
  have s3 : w5.cell? ⟨w.heap.size + 2, 3, none⟩ = some (.slice a3 d.held.length n3) := cell_keep b5 (by simp [go_sem, x0, x1, x2, x3, x4, x5, q0, q1, q2, q3, q4, q5, p0, p1, p2, p3, p4, p5])
  have s4 : w5.cell? ⟨w.heap.size + 2, 4, none⟩ = some (.slice a4 d.done.length n4) := cell_keep b5 (by simp [go_sem, x0, x1, x2, x3, x4, x5, q0, q1, q2, q3, q4, q5, p0, p1, p2, p3, p4, p5])
  have s5 : w5.cell? ⟨w.heap.size + 2, 5, none⟩ = some (.slice none 0 0) := cell_keep b5 (by simp [go_sem, x0, x1, x2, x3, x4, x5, q0, q1, q2, q3, q4, q5, p0, p1, p2, p3, p4, p5])
  have t1 : ∀ o, w5.frozen? ⟨w.heap.size + 1, o, none⟩ = false := fun o => by rw [f5 _ _ (by simp; try omega)]; simp [go_sem, qf]
  have t2 : ∀ o, w5.frozen? ⟨w.heap.size + 2, o, none⟩ = false := fun o => by rw [f5 _ _ (by simp; try omega)]; simp [go_sem, pf]
  clear x0 x1 x2 x3 x4 x5 q0 q1 q2 q3 q4 q5 p0 p1 p2 p3 p4 p5 qf pf
  clear c5 f5
  have x0 := y0
  have x1 := y1
  have x2 := y2
  have x3 := y3
  have x4 := y4
  have x5 := y5
  have q0 := r0
  have q1 := r1
  have q2 := r2
  have q3 := r3
  have q4 := r4
  have q5 := r5
  have p0 := s0
  have p1 := s1
  have p2 := s2
  have p3 := s3
  have p4 := s4
  have p5 := s5
  have qf := t1
  have pf := t2
  clear t1 t2 y0 y1 y2 y3 y4 y5 r0 r1 r2 r3 r4 r5 s0 s1 s2 s3 s4 s5
  clear b5 hB4
  go_wp2
  refine bodyPost_ret (v := .agg #[.int .i64 d.idx, .slice a1 d.bals.length n1, .slice a2 d.votes.length n2, .slice a3 d.held.length n3, .slice a4 d.done.length n4, .slice a5 d.appl.length n5]) ?_ rfl ⟨_, fun b => F1 b ∨ F2 b ∨ F3 b ∨ F4 b ∨ F5 b, rfl, ⟨_, _, _, _, _, F1, F2, F3, F4, F5, rfl, balsR.base (base := w.heap.size + 3) (by (repeat (first | refine Rep.set _ ?_ _ (by simp; omega) | refine Rep.set _ ?_ _ (by simp) | refine Rep.alloc _ ?_ _ | assumption))) (by omega), mrksR.base (base := w.heap.size + 3) (by (repeat (first | refine Rep.set _ ?_ _ (by simp; omega) | refine Rep.set _ ?_ _ (by simp) | refine Rep.alloc _ ?_ _ | assumption))) (by omega), contsR.base (base := w.heap.size + 3) (by (repeat (first | refine Rep.set _ ?_ _ (by simp; omega) | refine Rep.set _ ?_ _ (by simp) | refine Rep.alloc _ ?_ _ | assumption))) (by omega), mrksR.base (base := w.heap.size + 3) (by (repeat (first | refine Rep.set _ ?_ _ (by simp; omega) | refine Rep.set _ ?_ _ (by simp) | refine Rep.alloc _ ?_ _ | assumption))) (by omega), intsR.base (base := w.heap.size + 3) (by (repeat (first | refine Rep.set _ ?_ _ (by simp; omega) | refine Rep.set _ ?_ _ (by simp) | refine Rep.alloc _ ?_ _ | assumption))) (by omega), fun b p q => by have := (l1 b p).2; have := (l2 b q).1; omega, fun b p q => by have := (l1 b p).2; have := (l3 b q).1; omega, fun b p q => by have := (l1 b p).2; have := (l4 b q).1; omega, fun b p q => by have := (l1 b p).2; have := (l5 b q).1; omega, fun b p q => by have := (l2 b p).2; have := (l3 b q).1; omega, fun b p q => by have := (l2 b p).2; have := (l4 b q).1; omega, fun b p q => by have := (l2 b p).2; have := (l5 b q).1; omega, fun b p q => by have := (l3 b p).2; have := (l4 b q).1; omega, fun b p q => by have := (l3 b p).2; have := (l5 b q).1; omega, fun b p q => by have := (l4 b p).2; have := (l5 b q).1; omega, fun b => Iff.rfl⟩, by (repeat (first | refine bset ?_ (by simp; omega) _ | refine bset ?_ (by simp) _ | refine balloc ?_ _ | assumption))⟩
  simp [results, Tryz.results6, go_sem, q0, q1, q2, q3, q4, q5, p0, p1, p2, p3, p4, p5, qf, pf]
set_option maxHeartbeats 1000000 in
theorem szShard_u (x : Value) (d : Shd) (left : Int) (w : World) (hx : shdR.V w x d) (h0 : 0 ≤ left) (h1 : left ≤ 1048576) :
    Calls Tryz.prog 4 #[x, .int .i64 left] w fun e w' => e = .returned (.int .i64 (szLen left (wtShd d))) ∧ Below w.heap.size w w' := by
  obtain ⟨u1, u2, u3, u4, u5, rfl, k1, k2, k3, k4, k5⟩ := hx
  go_enter Tryz.func4, Tryz.ntmps4
  go_wp2_with fail
  refine (szBalanceS_u _ d.bals left _ (balsR.below k1 (by (repeat (first | exact Below.refl _ _ | assumption | refine Below.drew ?_ | refine balloc ?_ _ | refine bset ?_ (by simp; omega) _ | refine bset ?_ (by simp) _ | refine bstep ?_ (by assumption))))) h0 h1).mono ?_
  rintro e w1 ⟨rfl, b1⟩
  have x0 : w1.cell? ⟨w.heap.size, 0, none⟩ = some (.int .i64 d.idx) := cell_keep b1 (by simp [go_sem])
  have x1 : w1.cell? ⟨w.heap.size, 1, none⟩ = some (u1) := cell_keep b1 (by simp [go_sem])
  have x2 : w1.cell? ⟨w.heap.size, 2, none⟩ = some (u2) := cell_keep b1 (by simp [go_sem])
  have x3 : w1.cell? ⟨w.heap.size, 3, none⟩ = some (u3) := cell_keep b1 (by simp [go_sem])
  have x4 : w1.cell? ⟨w.heap.size, 4, none⟩ = some (u4) := cell_keep b1 (by simp [go_sem])
  have x5 : w1.cell? ⟨w.heap.size, 5, none⟩ = some (u5) := cell_keep b1 (by simp [go_sem])
  go_wp2_with fail
  · rename_i h
    go_ret
    refine ⟨?_, by (repeat (first | exact Below.refl _ _ | assumption | refine Below.drew ?_ | refine balloc ?_ _ | refine bset ?_ (by simp; omega) _ | refine bset ?_ (by simp) _ | refine bstep ?_ (by assumption)))⟩
    rw [szLen_neg (n := wtBals d.bals) (by omega) (wtShd d) (by unfold wtShd; omega)]
    rfl
  rename_i h
  refine (szMarkS_u _ d.votes (szLen left (wtBals d.bals : Nat)) _ (mrksR.below k2 (by (repeat (first | exact Below.refl _ _ | assumption | refine Below.drew ?_ | refine balloc ?_ _ | refine bset ?_ (by simp; omega) _ | refine bset ?_ (by simp) _ | refine bstep ?_ (by assumption))))) (by omega) (by have := szLen_le (n := wtBals d.bals) h0; omega)).mono ?_
  rintro e w2 ⟨rfl, b2⟩
  replace x0 : w2.cell? ⟨w.heap.size, 0, none⟩ = some (.int .i64 d.idx) := cell_keep b2 x0
  replace x1 : w2.cell? ⟨w.heap.size, 1, none⟩ = some (u1) := cell_keep b2 x1
  replace x2 : w2.cell? ⟨w.heap.size, 2, none⟩ = some (u2) := cell_keep b2 x2
  replace x3 : w2.cell? ⟨w.heap.size, 3, none⟩ = some (u3) := cell_keep b2 x3
  replace x4 : w2.cell? ⟨w.heap.size, 4, none⟩ = some (u4) := cell_keep b2 x4
  replace x5 : w2.cell? ⟨w.heap.size, 5, none⟩ = some (u5) := cell_keep b2 x5
  rw [szLen_add (n := wtBals d.bals) (by omega)]
  go_wp2_with fail
  · rename_i h
    go_ret
    refine ⟨?_, by (repeat (first | exact Below.refl _ _ | assumption | refine Below.drew ?_ | refine balloc ?_ _ | refine bset ?_ (by simp; omega) _ | refine bset ?_ (by simp) _ | refine bstep ?_ (by assumption)))⟩
    rw [szLen_neg (n := wtBals d.bals + wtMrks d.votes) (by first | omega | (rw [Int.natCast_add]; omega)) (wtShd d) (by unfold wtShd; omega)]
    rfl
  rename_i h
  refine (szContractS_u _ d.held (szLen left (wtBals d.bals + wtMrks d.votes : Nat)) _ (contsR.below k3 (by (repeat (first | exact Below.refl _ _ | assumption | refine Below.drew ?_ | refine balloc ?_ _ | refine bset ?_ (by simp; omega) _ | refine bset ?_ (by simp) _ | refine bstep ?_ (by assumption))))) (by first | omega | (simp only [Int.natCast_add] at *; omega)) (by have := szLen_le (n := wtBals d.bals + wtMrks d.votes) h0; omega)).mono ?_
  rintro e w3 ⟨rfl, b3⟩
  replace x0 : w3.cell? ⟨w.heap.size, 0, none⟩ = some (.int .i64 d.idx) := cell_keep b3 x0
  replace x1 : w3.cell? ⟨w.heap.size, 1, none⟩ = some (u1) := cell_keep b3 x1
  replace x2 : w3.cell? ⟨w.heap.size, 2, none⟩ = some (u2) := cell_keep b3 x2
  replace x3 : w3.cell? ⟨w.heap.size, 3, none⟩ = some (u3) := cell_keep b3 x3
  replace x4 : w3.cell? ⟨w.heap.size, 4, none⟩ = some (u4) := cell_keep b3 x4
  replace x5 : w3.cell? ⟨w.heap.size, 5, none⟩ = some (u5) := cell_keep b3 x5
  rw [szLen_add (n := wtBals d.bals + wtMrks d.votes) (by first | omega | (simp only [Int.natCast_add] at *; omega))]
  go_wp2_with fail
  · rename_i h
    go_ret
    refine ⟨?_, by (repeat (first | exact Below.refl _ _ | assumption | refine Below.drew ?_ | refine balloc ?_ _ | refine bset ?_ (by simp; omega) _ | refine bset ?_ (by simp) _ | refine bstep ?_ (by assumption)))⟩
    rw [szLen_neg (n := wtBals d.bals + wtMrks d.votes + wtConts d.held) (by first | omega | (simp only [Int.natCast_add] at *; omega)) (wtShd d) (by unfold wtShd; omega)]
    rfl
  rename_i h
  refine (szMarkS_u _ d.done (szLen left (wtBals d.bals + wtMrks d.votes + wtConts d.held : Nat)) _ (mrksR.below k4 (by (repeat (first | exact Below.refl _ _ | assumption | refine Below.drew ?_ | refine balloc ?_ _ | refine bset ?_ (by simp; omega) _ | refine bset ?_ (by simp) _ | refine bstep ?_ (by assumption))))) (by first | omega | (simp only [Int.natCast_add] at *; omega)) (by have := szLen_le (n := wtBals d.bals + wtMrks d.votes + wtConts d.held) h0; omega)).mono ?_
  rintro e w4 ⟨rfl, b4⟩
  replace x0 : w4.cell? ⟨w.heap.size, 0, none⟩ = some (.int .i64 d.idx) := cell_keep b4 x0
  replace x1 : w4.cell? ⟨w.heap.size, 1, none⟩ = some (u1) := cell_keep b4 x1
  replace x2 : w4.cell? ⟨w.heap.size, 2, none⟩ = some (u2) := cell_keep b4 x2
  replace x3 : w4.cell? ⟨w.heap.size, 3, none⟩ = some (u3) := cell_keep b4 x3
  replace x4 : w4.cell? ⟨w.heap.size, 4, none⟩ = some (u4) := cell_keep b4 x4
  replace x5 : w4.cell? ⟨w.heap.size, 5, none⟩ = some (u5) := cell_keep b4 x5
  rw [szLen_add (n := wtBals d.bals + wtMrks d.votes + wtConts d.held) (by first | omega | (simp only [Int.natCast_add] at *; omega))]
  go_wp2_with fail
  · rename_i h
    go_ret
    refine ⟨?_, by (repeat (first | exact Below.refl _ _ | assumption | refine Below.drew ?_ | refine balloc ?_ _ | refine bset ?_ (by simp; omega) _ | refine bset ?_ (by simp) _ | refine bstep ?_ (by assumption)))⟩
    rw [szLen_neg (n := wtBals d.bals + wtMrks d.votes + wtConts d.held + wtMrks d.done) (by first | omega | (simp only [Int.natCast_add] at *; omega)) (wtShd d) (by unfold wtShd; omega)]
    rfl
  rename_i h
  refine (szInt64S_u _ d.appl (szLen left (wtBals d.bals + wtMrks d.votes + wtConts d.held + wtMrks d.done : Nat)) _ (intsR.below k5 (by (repeat (first | exact Below.refl _ _ | assumption | refine Below.drew ?_ | refine balloc ?_ _ | refine bset ?_ (by simp; omega) _ | refine bset ?_ (by simp) _ | refine bstep ?_ (by assumption))))) (by first | omega | (simp only [Int.natCast_add] at *; omega)) (by have := szLen_le (n := wtBals d.bals + wtMrks d.votes + wtConts d.held + wtMrks d.done) h0; omega)).mono ?_
  rintro e w5 ⟨rfl, b5⟩
  rw [szLen_add (n := wtBals d.bals + wtMrks d.votes + wtConts d.held + wtMrks d.done) (by first | omega | (simp only [Int.natCast_add] at *; omega))]
  go_wp2
  · rename_i h
    go_ret
    refine ⟨?_, by (repeat (first | exact Below.refl _ _ | assumption | refine Below.drew ?_ | refine balloc ?_ _ | refine bset ?_ (by simp; omega) _ | refine bset ?_ (by simp) _ | refine bstep ?_ (by assumption)))⟩
    rw [szLen_neg (n := wtBals d.bals + wtMrks d.votes + wtConts d.held + wtMrks d.done + wtInts d.appl) (by first | omega | (simp only [Int.natCast_add] at *; omega)) (wtShd d) (by unfold wtShd; omega)]
    rfl
  rename_i h
  go_ret
  exact ⟨rfl, by (repeat (first | exact Below.refl _ _ | assumption | refine Below.drew ?_ | refine balloc ?_ _ | refine bset ?_ (by simp; omega) _ | refine bset ?_ (by simp) _ | refine bstep ?_ (by assumption)))⟩
set_option maxHeartbeats 1000000 in
theorem eqShard_u (x y : Value) (d d' : Shd) (w : World) (hx : shdR.V w x d) (hy : shdR.V w y d') :
    Calls Tryz.prog 9 #[x, y] w fun e w' => e = .returned (.bool (decide (d = d'))) ∧ Below w.heap.size w w' := by
  obtain ⟨u1, u2, u3, u4, u5, rfl, h1, h2, h3, h4, h5⟩ := hx
  obtain ⟨v1, v2, v3, v4, v5, rfl, k1, k2, k3, k4, k5⟩ := hy
  obtain ⟨idx, bals, votes, held, done, appl⟩ := d
  obtain ⟨idx', bals', votes', held', done', appl'⟩ := d'
  dsimp only at h1 k1 h2 k2 h3 k3 h4 k4 h5 k5
  go_enter Tryz.func9, Tryz.ntmps9
  go_wp2_with fail
  all_goals try (go_ret; exact ⟨by simp_all, by (repeat (first | exact Below.refl _ _ | assumption | refine Below.drew ?_ | refine balloc ?_ _ | refine bset ?_ (by simp; omega) _ | refine bset ?_ (by simp) _ | refine bstep ?_ (by assumption)))⟩)
  refine (eqBalanceS_u _ _ bals bals' _ (balsR.below h1 (by (repeat (first | exact Below.refl _ _ | assumption | refine Below.drew ?_ | refine balloc ?_ _ | refine bset ?_ (by simp; omega) _ | refine bset ?_ (by simp) _ | refine bstep ?_ (by assumption))))) (balsR.below k1 (by (repeat (first | exact Below.refl _ _ | assumption | refine Below.drew ?_ | refine balloc ?_ _ | refine bset ?_ (by simp; omega) _ | refine bset ?_ (by simp) _ | refine bstep ?_ (by assumption)))))).mono ?_
  rintro e w1 ⟨rfl, b1⟩
  have x0 : w1.cell? ⟨w.heap.size, 0, none⟩ = some (.int .i64 idx) := cell_keep b1 (by simp [go_sem])
  have x1 : w1.cell? ⟨w.heap.size, 1, none⟩ = some (u1) := cell_keep b1 (by simp [go_sem])
  have x2 : w1.cell? ⟨w.heap.size, 2, none⟩ = some (u2) := cell_keep b1 (by simp [go_sem])
  have x3 : w1.cell? ⟨w.heap.size, 3, none⟩ = some (u3) := cell_keep b1 (by simp [go_sem])
  have x4 : w1.cell? ⟨w.heap.size, 4, none⟩ = some (u4) := cell_keep b1 (by simp [go_sem])
  have x5 : w1.cell? ⟨w.heap.size, 5, none⟩ = some (u5) := cell_keep b1 (by simp [go_sem])
  have y0 : w1.cell? ⟨w.heap.size + 1, 0, none⟩ = some (.int .i64 idx') := cell_keep b1 (by simp [go_sem])
  have y1 : w1.cell? ⟨w.heap.size + 1, 1, none⟩ = some (v1) := cell_keep b1 (by simp [go_sem])
  have y2 : w1.cell? ⟨w.heap.size + 1, 2, none⟩ = some (v2) := cell_keep b1 (by simp [go_sem])
  have y3 : w1.cell? ⟨w.heap.size + 1, 3, none⟩ = some (v3) := cell_keep b1 (by simp [go_sem])
  have y4 : w1.cell? ⟨w.heap.size + 1, 4, none⟩ = some (v4) := cell_keep b1 (by simp [go_sem])
  have y5 : w1.cell? ⟨w.heap.size + 1, 5, none⟩ = some (v5) := cell_keep b1 (by simp [go_sem])
  go_wp2_with fail
  all_goals try (go_ret; exact ⟨by simp_all, by (repeat (first | exact Below.refl _ _ | assumption | refine Below.drew ?_ | refine balloc ?_ _ | refine bset ?_ (by simp; omega) _ | refine bset ?_ (by simp) _ | refine bstep ?_ (by assumption)))⟩)
  refine (eqMarkS_u _ _ votes votes' _ (mrksR.below h2 (by (repeat (first | exact Below.refl _ _ | assumption | refine Below.drew ?_ | refine balloc ?_ _ | refine bset ?_ (by simp; omega) _ | refine bset ?_ (by simp) _ | refine bstep ?_ (by assumption))))) (mrksR.below k2 (by (repeat (first | exact Below.refl _ _ | assumption | refine Below.drew ?_ | refine balloc ?_ _ | refine bset ?_ (by simp; omega) _ | refine bset ?_ (by simp) _ | refine bstep ?_ (by assumption)))))).mono ?_
  rintro e w2 ⟨rfl, b2⟩
  replace x0 : w2.cell? ⟨w.heap.size, 0, none⟩ = some (.int .i64 idx) := cell_keep b2 x0
  replace x1 : w2.cell? ⟨w.heap.size, 1, none⟩ = some (u1) := cell_keep b2 x1
  replace x2 : w2.cell? ⟨w.heap.size, 2, none⟩ = some (u2) := cell_keep b2 x2
  replace x3 : w2.cell? ⟨w.heap.size, 3, none⟩ = some (u3) := cell_keep b2 x3
  replace x4 : w2.cell? ⟨w.heap.size, 4, none⟩ = some (u4) := cell_keep b2 x4
  replace x5 : w2.cell? ⟨w.heap.size, 5, none⟩ = some (u5) := cell_keep b2 x5
  replace y0 : w2.cell? ⟨w.heap.size + 1, 0, none⟩ = some (.int .i64 idx') := cell_keep b2 y0
  replace y1 : w2.cell? ⟨w.heap.size + 1, 1, none⟩ = some (v1) := cell_keep b2 y1
  replace y2 : w2.cell? ⟨w.heap.size + 1, 2, none⟩ = some (v2) := cell_keep b2 y2
  replace y3 : w2.cell? ⟨w.heap.size + 1, 3, none⟩ = some (v3) := cell_keep b2 y3
  replace y4 : w2.cell? ⟨w.heap.size + 1, 4, none⟩ = some (v4) := cell_keep b2 y4
  replace y5 : w2.cell? ⟨w.heap.size + 1, 5, none⟩ = some (v5) := cell_keep b2 y5
  go_wp2_with fail
  all_goals try (go_ret; exact ⟨by simp_all, by (repeat (first | exact Below.refl _ _ | assumption | refine Below.drew ?_ | refine balloc ?_ _ | refine bset ?_ (by simp; omega) _ | refine bset ?_ (by simp) _ | refine bstep ?_ (by assumption)))⟩)
  refine (eqContractS_u _ _ held held' _ (contsR.below h3 (by (repeat (first | exact Below.refl _ _ | assumption | refine Below.drew ?_ | refine balloc ?_ _ | refine bset ?_ (by simp; omega) _ | refine bset ?_ (by simp) _ | refine bstep ?_ (by assumption))))) (contsR.below k3 (by (repeat (first | exact Below.refl _ _ | assumption | refine Below.drew ?_ | refine balloc ?_ _ | refine bset ?_ (by simp; omega) _ | refine bset ?_ (by simp) _ | refine bstep ?_ (by assumption)))))).mono ?_
  rintro e w3 ⟨rfl, b3⟩
  replace x0 : w3.cell? ⟨w.heap.size, 0, none⟩ = some (.int .i64 idx) := cell_keep b3 x0
  replace x1 : w3.cell? ⟨w.heap.size, 1, none⟩ = some (u1) := cell_keep b3 x1
  replace x2 : w3.cell? ⟨w.heap.size, 2, none⟩ = some (u2) := cell_keep b3 x2
  replace x3 : w3.cell? ⟨w.heap.size, 3, none⟩ = some (u3) := cell_keep b3 x3
  replace x4 : w3.cell? ⟨w.heap.size, 4, none⟩ = some (u4) := cell_keep b3 x4
  replace x5 : w3.cell? ⟨w.heap.size, 5, none⟩ = some (u5) := cell_keep b3 x5
  replace y0 : w3.cell? ⟨w.heap.size + 1, 0, none⟩ = some (.int .i64 idx') := cell_keep b3 y0
  replace y1 : w3.cell? ⟨w.heap.size + 1, 1, none⟩ = some (v1) := cell_keep b3 y1
  replace y2 : w3.cell? ⟨w.heap.size + 1, 2, none⟩ = some (v2) := cell_keep b3 y2
  replace y3 : w3.cell? ⟨w.heap.size + 1, 3, none⟩ = some (v3) := cell_keep b3 y3
  replace y4 : w3.cell? ⟨w.heap.size + 1, 4, none⟩ = some (v4) := cell_keep b3 y4
  replace y5 : w3.cell? ⟨w.heap.size + 1, 5, none⟩ = some (v5) := cell_keep b3 y5
  go_wp2_with fail
  all_goals try (go_ret; exact ⟨by simp_all, by (repeat (first | exact Below.refl _ _ | assumption | refine Below.drew ?_ | refine balloc ?_ _ | refine bset ?_ (by simp; omega) _ | refine bset ?_ (by simp) _ | refine bstep ?_ (by assumption)))⟩)
  refine (eqMarkS_u _ _ done done' _ (mrksR.below h4 (by (repeat (first | exact Below.refl _ _ | assumption | refine Below.drew ?_ | refine balloc ?_ _ | refine bset ?_ (by simp; omega) _ | refine bset ?_ (by simp) _ | refine bstep ?_ (by assumption))))) (mrksR.below k4 (by (repeat (first | exact Below.refl _ _ | assumption | refine Below.drew ?_ | refine balloc ?_ _ | refine bset ?_ (by simp; omega) _ | refine bset ?_ (by simp) _ | refine bstep ?_ (by assumption)))))).mono ?_
  rintro e w4 ⟨rfl, b4⟩
  replace x0 : w4.cell? ⟨w.heap.size, 0, none⟩ = some (.int .i64 idx) := cell_keep b4 x0
  replace x1 : w4.cell? ⟨w.heap.size, 1, none⟩ = some (u1) := cell_keep b4 x1
  replace x2 : w4.cell? ⟨w.heap.size, 2, none⟩ = some (u2) := cell_keep b4 x2
  replace x3 : w4.cell? ⟨w.heap.size, 3, none⟩ = some (u3) := cell_keep b4 x3
  replace x4 : w4.cell? ⟨w.heap.size, 4, none⟩ = some (u4) := cell_keep b4 x4
  replace x5 : w4.cell? ⟨w.heap.size, 5, none⟩ = some (u5) := cell_keep b4 x5
  replace y0 : w4.cell? ⟨w.heap.size + 1, 0, none⟩ = some (.int .i64 idx') := cell_keep b4 y0
  replace y1 : w4.cell? ⟨w.heap.size + 1, 1, none⟩ = some (v1) := cell_keep b4 y1
  replace y2 : w4.cell? ⟨w.heap.size + 1, 2, none⟩ = some (v2) := cell_keep b4 y2
  replace y3 : w4.cell? ⟨w.heap.size + 1, 3, none⟩ = some (v3) := cell_keep b4 y3
  replace y4 : w4.cell? ⟨w.heap.size + 1, 4, none⟩ = some (v4) := cell_keep b4 y4
  replace y5 : w4.cell? ⟨w.heap.size + 1, 5, none⟩ = some (v5) := cell_keep b4 y5
  go_wp2_with fail
  all_goals try (go_ret; exact ⟨by simp_all, by (repeat (first | exact Below.refl _ _ | assumption | refine Below.drew ?_ | refine balloc ?_ _ | refine bset ?_ (by simp; omega) _ | refine bset ?_ (by simp) _ | refine bstep ?_ (by assumption)))⟩)
  refine (eqInt64S_u _ _ appl appl' _ (intsR.below h5 (by (repeat (first | exact Below.refl _ _ | assumption | refine Below.drew ?_ | refine balloc ?_ _ | refine bset ?_ (by simp; omega) _ | refine bset ?_ (by simp) _ | refine bstep ?_ (by assumption))))) (intsR.below k5 (by (repeat (first | exact Below.refl _ _ | assumption | refine Below.drew ?_ | refine balloc ?_ _ | refine bset ?_ (by simp; omega) _ | refine bset ?_ (by simp) _ | refine bstep ?_ (by assumption)))))).mono ?_
  rintro e w5 ⟨rfl, b5⟩
  go_wp2
  all_goals
    go_ret
    exact ⟨by simp_all, by (repeat (first | exact Below.refl _ _ | assumption | refine Below.drew ?_ | refine balloc ?_ _ | refine bset ?_ (by simp; omega) _ | refine bset ?_ (by simp) _ | refine bstep ?_ (by assumption)))⟩
end Go.Proofs.YtndghenlapbaaaaGreatDoor

/-
  A shard's text: mathematics.
-/
set_option linter.unusedSimpArgs false
set_option linter.unusedVariables false
namespace Go.Proofs.YtndghenlapbaaaaGreatDoor
open Go.RowKit
set_option linter.unusedSectionVars false
variable [DecidableEq Leg] [Inhabited Leg] [DecidableEq Bal] [Inhabited Bal] [DecidableEq Mrk] [Inhabited Mrk] [DecidableEq Cont] [Inhabited Cont] [DecidableEq Shd] [Inhabited Shd]
attribute [local go_sem ↓] Go.wp_at_zero Go.wp_at_succ

def catT (A : ByteArray) (f : Nat → ByteArray) : Nat → ByteArray
  | 0 => A
  | k + 1 => catT A f k ++ f k
theorem catT_size (A : ByteArray) (f : Nat → ByteArray) (h : ∀ j, (f j).size ≤ 100) : ∀ k, (catT A f k).size ≤ A.size + 100 * k
  | 0 => by simp [catT]
  | k + 1 => by
    have ih := catT_size A f h k
    have := h k
    unfold catT
    rw [ByteArray.size_append]
    omega
theorem lineB_size (wd : ByteArray) (ns : List Int) (h1 : wd.size ≤ 10) (h2 : ns.length ≤ 3) : (lineB wd ns).size ≤ 100 := by
  unfold lineB
  rw [ByteArray.size_append, nlB_size]
  have := numsB_size wd ns
  omega
def hasT (d : Shd) (k : Nat) : ByteArray := lineB ⟨#[104, 97, 115]⟩ [(d.bals.getD k default).ac, (d.bals.getD k default).ast, (d.bals.getD k default).am]
def voteT (d : Shd) (k : Nat) : ByteArray := lineB ⟨#[118, 111, 116, 101]⟩ [(d.votes.getD k default).con, (d.votes.getD k default).val]
def heldT (d : Shd) (k : Nat) : ByteArray := lineB ⟨#[104, 101, 108, 100]⟩ [(d.held.getD k default).id]
def doneT (d : Shd) (k : Nat) : ByteArray := lineB ⟨#[100, 111, 110, 101]⟩ [(d.done.getD k default).con, (d.done.getD k default).val]
def tx0 (d : Shd) : ByteArray := lineB ⟨#[115, 104, 97, 114, 100]⟩ [d.idx]
def tx1 (d : Shd) : ByteArray := catT (tx0 d) (hasT d) d.bals.length
def tx2 (d : Shd) : ByteArray := catT (tx1 d) (voteT d) d.votes.length
def tx3 (d : Shd) : ByteArray := catT (tx2 d) (heldT d) d.held.length
def shTxt (d : Shd) : ByteArray := catT (tx3 d) (doneT d) d.done.length
def okN (n : Int) : Prop := 0 ≤ n ∧ n ≤ 9223372036854775807
structure TxtOk (d : Shd) : Prop where
  ri : okN d.idx
  rb : ∀ k, k < d.bals.length → okN (d.bals.getD k default).ac ∧ okN (d.bals.getD k default).ast ∧ okN (d.bals.getD k default).am
  rv : ∀ k, k < d.votes.length → okN (d.votes.getD k default).con ∧ okN (d.votes.getD k default).val
  rh : ∀ k, k < d.held.length → okN (d.held.getD k default).id
  rd : ∀ k, k < d.done.length → okN (d.done.getD k default).con ∧ okN (d.done.getD k default).val
  nb : d.bals.length ≤ 1048576
  nv : d.votes.length ≤ 1048576
  nh : d.held.length ≤ 1048576
  nd : d.done.length ≤ 1048576
theorem line1_any (wd : ByteArray) (g : Nat) (a : Int) (w : World) (hw : wd.size ≤ 10) (h0 : w.cell? ⟨g, 0, none⟩ = some (.int .i64 a)) (ha : okN a) :
    Calls Tryz.prog 32 #[.string wd, .slice (some ⟨g, 0, none⟩) 1 1] w fun e w' => e = .returned (.string (lineB wd [a])) ∧ Below w.heap.size w w' :=
  l10Line_any wd _ [a] w ⟨some ⟨g, 0, none⟩, 1, rfl, by simp, by unfold maxLen; omega, fun i hi => ⟨g, 0, rfl, by
    have e : i = 0 := by simp at hi; omega
    subst e; simpa using h0⟩⟩ (fun k hk => by
    have e : k = 0 := by simp at hk; omega
    subst e; exact ha) (by simp) (by omega)
theorem line2_any (wd : ByteArray) (g : Nat) (a b : Int) (w : World) (hw : wd.size ≤ 10) (h0 : w.cell? ⟨g, 0, none⟩ = some (.int .i64 a)) (h1 : w.cell? ⟨g, 1, none⟩ = some (.int .i64 b)) (ha : okN a) (hb : okN b) :
    Calls Tryz.prog 32 #[.string wd, .slice (some ⟨g, 0, none⟩) 2 2] w fun e w' => e = .returned (.string (lineB wd [a, b])) ∧ Below w.heap.size w w' :=
  l10Line_any wd _ [a, b] w ⟨some ⟨g, 0, none⟩, 2, rfl, by simp, by unfold maxLen; omega, fun i hi => ⟨g, 0, rfl, by
    have e : i = 0 ∨ i = 1 := by simp at hi; omega
    rcases e with rfl | rfl
    · simpa using h0
    · simpa using h1⟩⟩ (fun k hk => by
    have e : k = 0 ∨ k = 1 := by simp at hk; omega
    rcases e with rfl | rfl
    · exact ha
    · exact hb) (by simp) (by omega)
theorem line3_any (wd : ByteArray) (g : Nat) (a b c : Int) (w : World) (hw : wd.size ≤ 10) (h0 : w.cell? ⟨g, 0, none⟩ = some (.int .i64 a)) (h1 : w.cell? ⟨g, 1, none⟩ = some (.int .i64 b)) (h2 : w.cell? ⟨g, 2, none⟩ = some (.int .i64 c)) (ha : okN a) (hb : okN b) (hc : okN c) :
    Calls Tryz.prog 32 #[.string wd, .slice (some ⟨g, 0, none⟩) 3 3] w fun e w' => e = .returned (.string (lineB wd [a, b, c])) ∧ Below w.heap.size w w' :=
  l10Line_any wd _ [a, b, c] w ⟨some ⟨g, 0, none⟩, 3, rfl, by simp, by unfold maxLen; omega, fun i hi => ⟨g, 0, rfl, by
    have e : i = 0 ∨ i = 1 ∨ i = 2 := by simp at hi; omega
    rcases e with rfl | rfl | rfl
    · simpa using h0
    · simpa using h1
    · simpa using h2⟩⟩ (fun k hk => by
    have e : k = 0 ∨ k = 1 ∨ k = 2 := by simp at hk; omega
    rcases e with rfl | rfl | rfl
    · exact ha
    · exact hb
    · exact hc) (by simp) (by omega)
end Go.Proofs.YtndghenlapbaaaaGreatDoor

/-
  A region that draws its order, none of whose operations breaks what is asked of the world.
-/
namespace Go.Proofs.YtndghenlapbaaaaGreatDoor
open Go.RowKit

section
variable {P : Program} {ops : Array Oper} {Q : Exit → Act → World → Prop} {md : Region.Mode} {S : World → Prop} {t : Nat}

theorem upto_firstN {i : Nat} {oi : Oper} {v : Value} (hi : ops[i]? = some oi) (hsel : Region.noSelect ops = true) (ht : ops[t]? = none)
    (hQ : ∀ c a w, Q (.panic c) (a.put oi.dst v) w → Q (.panic c) a w) :
    ∀ (f : Nat) (listed : Array Bool) (a : Act) (w : World),
      (∀ j oj, ops[j]? = some oj → j ≠ i → listed.getD j true = false → (∀ e ∈ oj.after, Region.binds md e = true → e.on ≠ i) → oi.apart ops oj = true) →
      i ∈ Region.ready md ops listed → YieldsIf P ops S oi v a → S w →
      wpUpto P md ops Q S t f (listed.setIfInBounds i true) (a.put oi.dst v) w → wpUpto P md ops Q S t (f + 1) listed a w := by
  intro f
  induction f with
  | zero =>
    intro listed a w _ hr hy hS H
    refine ⟨fun h => (by rw [h] at hr; cases hr), fun j hj => ?_⟩
    by_cases hji : j = i
    · subst hji
      exact hy.wpOp hi hS ⟨fun _ => hS, H⟩
    · have hm := ready_mono hj hji
      rw [H.1] at hm
      cases hm
  | succ f ih =>
    intro listed a w hfree hr hy hS H
    refine ⟨fun h => (by rw [h] at hr; cases hr), fun j hj => ?_⟩
    by_cases hji : j = i
    · subst hji
      exact hy.wpOp hi hS ⟨fun _ => hS, H⟩
    · obtain ⟨hjun, oj, hoj, hall⟩ := mem_ready.1 hj
      have hun := (mem_ready.1 hr).1
      have hnl : ¬ listed.getD i false = true := by
        intro h1
        rcases Nat.lt_or_ge i listed.size with h' | h'
        · simp [h'] at hun h1
          rw [hun] at h1
          cases h1
        · simp [Array.getElem?_eq_none h'] at h1
      have hnot : ∀ e ∈ oj.after, Region.binds md e = true → e.on ≠ i := fun e he hb heq => hnl (by rw [← heq]; exact hall e he hb)
      have hjt : j ≠ t := by
        rintro rfl
        rw [ht] at hoj
        cases hoj
      have h1 := H.2 j (ready_mono hj hji)
      have h2 := wpOp_putIf hoj (hfree j oj hoj hji hjun hnot) (fun cs b => Region.noSelect_spec hsel i oi cs b hi) (fun cs b => Region.noSelect_spec hsel j oj cs b hoj) hQ hy h1
      refine wpOp_mono (fun a' w' h3 => ⟨h3.2.1, ih (listed.setIfInBounds j true) a' w' ?_ (ready_mono hr (Ne.symm hji)) h3.1 (h3.2.1 hjt) ?_⟩) h2
      · intro k ok hk hki hunk hno
        refine hfree k ok hk hki ?_ hno
        by_cases hjk : j = k
        · subst hjk; exact hjun
        · rw [getD_set_ne true hjk] at hunk; exact hunk
      · rw [Array.setIfInBounds_comm _ _ hji]
        exact h3.2.2
theorem upto_takeN {i : Nat} {oi : Oper} {v : Value} {f : Nat} {listed : Array Bool} {a : Act} {w : World} (hi : ops[i]? = some oi) (hsel : Region.noSelect ops = true) (ht : ops[t]? = none)
    (hf : Region.free md ops listed i = true) (hr : (Region.ready md ops listed).contains i = true) (hQ : ∀ c a w, Q (.panic c) (a.put oi.dst v) w → Q (.panic c) a w)
    (hwd : Region.wanted oi (yielded ops a.tmps) = true) (hS : S w) (hy : ∀ w, S w → (execOp a.eval oi).run P w = .ok (.value v) w)
    (h : wpUpto P md ops Q S t f (listed.setIfInBounds i true) (a.put oi.dst v) w) : wpUpto P md ops Q S t (f + 1) listed a w :=
  upto_firstN hi hsel ht hQ f listed a w (Region.free_spec hi hf) (by simpa using hr) (Or.inl ⟨hwd, hy⟩) hS h
end

end Go.Proofs.YtndghenlapbaaaaGreatDoor

