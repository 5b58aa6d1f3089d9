import Derived.Test.YtndghenlapbaaaaGreatPrnDecideShardLaw3
import Derived.Test.YtndghenlapbaaaaGreatPrnDecideShardLaw17
import Derived.Test.YtndghenlapbaaaaGreatPrnDecideShardLaw16
import Derived.Test.YtndghenlapbaaaaGreatPrnDecideShardLaw1
import Derived.Test.YtndghenlapbaaaaGreatPrnDecideShardLaw4
import Derived.BigQuiet
import Derived.Deep.QuietTactic
import Derived.Deep.RegionHeld3
set_option linter.unusedSectionVars false
set_option linter.unusedSimpArgs false
set_option linter.unusedVariables false

/-
 Shard. (Written by program: nest.py.)
-/
namespace Go.Proofs.YtndghenlapbaaaaGreat
open Go.RowKit
variable [DecidableEq Bal] [Inhabited Bal] [DecidableEq Mrk] [Inhabited Mrk] [DecidableEq Leg] [Inhabited Leg] [DecidableEq Cont] [Inhabited Cont]
attribute [local go_sem ↓] Go.wp_at_zero Go.wp_at_succ


structure Shd where
 idx : Int
 bals : List Bal
 votes : List Mrk
 held : List Cont
 done : List Mrk
 appl : List Int
variable [DecidableEq Shd] [Inhabited Shd]

def shdR : Rep Shd where
 V := fun w v x => ∃ u1 u2 u3 u4 u5, v = .agg #[.int .i64 x.idx, u1, u2, u3, u4, u5] ∧ balsR.V w u1 x.bals ∧ mrksR.V w u2 x.votes ∧ contsR.V w u3 x.held ∧ mrksR.V w u4 x.done ∧ intsR.V w u5 x.appl
 O := fun w base F v x => ∃ u1 u2 u3 u4 u5 F1 F2 F3 F4 F5, v = .agg #[.int .i64 x.idx, u1, u2, u3, u4, u5] ∧ balsR.O w base F1 u1 x.bals ∧ mrksR.O w base F2 u2 x.votes ∧ contsR.O w base F3 u3 x.held ∧ mrksR.O w base F4 u4 x.done ∧ intsR.O w base F5 u5 x.appl ∧ (∀ b, F1 b → ¬ F2 b) ∧ (∀ b, F1 b → ¬ F3 b) ∧ (∀ b, F1 b → ¬ F4 b) ∧ (∀ b, F1 b → ¬ F5 b) ∧ (∀ b, F2 b → ¬ F3 b) ∧ (∀ b, F2 b → ¬ F4 b) ∧ (∀ b, F2 b → ¬ F5 b) ∧ (∀ b, F3 b → ¬ F4 b) ∧ (∀ b, F3 b → ¬ F5 b) ∧ (∀ b, F4 b → ¬ F5 b) ∧ (∀ b, F b ↔ (F1 b ∨ F2 b ∨ F3 b ∨ F4 b ∨ F5 b))
 below := fun h hb => by
  obtain ⟨u1, u2, u3, u4, u5, rfl, h1, h2, h3, h4, h5⟩ := h
  exact ⟨u1, u2, u3, u4, u5, rfl, balsR.below h1 hb, mrksR.below h2 hb, contsR.below h3 hb, mrksR.below h4 hb, intsR.below h5 hb⟩
 ofO := fun h => by
  obtain ⟨u1, u2, u3, u4, u5, F1, F2, F3, F4, F5, rfl, h1, h2, h3, h4, h5, _⟩ := h
  exact ⟨u1, u2, u3, u4, u5, rfl, balsR.ofO h1, mrksR.ofO h2, contsR.ofO h3, mrksR.ofO h4, intsR.ofO h5⟩
 mod := fun h hm hd => by
  obtain ⟨u1, u2, u3, u4, u5, F1, F2, F3, F4, F5, rfl, h1, h2, h3, h4, h5, s12, s13, s14, s15, s23, s24, s25, s34, s35, s45, hF⟩ := h
  exact ⟨u1, u2, u3, u4, u5, F1, F2, F3, F4, F5, rfl, balsR.mod h1 hm (fun b hb => hd b ((hF b).2 (.inl hb))), mrksR.mod h2 hm (fun b hb => hd b ((hF b).2 (.inr (.inl hb)))), contsR.mod h3 hm (fun b hb => hd b ((hF b).2 (.inr (.inr (.inl hb))))), mrksR.mod h4 hm (fun b hb => hd b ((hF b).2 (.inr (.inr (.inr (.inl hb)))))), intsR.mod h5 hm (fun b hb => hd b ((hF b).2 (.inr (.inr (.inr (.inr hb)))))), s12, s13, s14, s15, s23, s24, s25, s34, s35, s45, hF⟩
 rng := fun h b hb => by
  obtain ⟨u1, u2, u3, u4, u5, F1, F2, F3, F4, F5, rfl, h1, h2, h3, h4, h5, s12, s13, s14, s15, s23, s24, s25, s34, s35, s45, hF⟩ := h
  rcases (hF b).1 hb with hb | hb | hb | hb | hb
  ·
   exact balsR.rng h1 b hb
  ·
   exact mrksR.rng h2 b hb
  ·
   exact contsR.rng h3 b hb
  ·
   exact mrksR.rng h4 b hb
  ·
   exact intsR.rng h5 b hb
 base := fun h hb => by
  obtain ⟨u1, u2, u3, u4, u5, F1, F2, F3, F4, F5, rfl, h1, h2, h3, h4, h5, s12, s13, s14, s15, s23, s24, s25, s34, s35, s45, hF⟩ := h
  exact ⟨u1, u2, u3, u4, u5, F1, F2, F3, F4, F5, rfl, balsR.base h1 hb, mrksR.base h2 hb, contsR.base h3 hb, mrksR.base h4 hb, intsR.base h5 hb, s12, s13, s14, s15, s23, s24, s25, s34, s35, s45, hF⟩
def wtShd (x : Shd) : Nat := wtBals x.bals + wtMrks x.votes + wtConts x.held + wtMrks x.done + wtInts x.appl
def cntShd (x : Shd) : Nat := cntBals x.bals + cntMrks x.votes + cntConts x.held + cntMrks x.done + cntInts x.appl
def mkShd (k : Int) (x : Shd) : Shd := { x with bals := mkBals k x.bals, votes := mkMrks (k + cntBals x.bals) x.votes, held := mkConts (k + cntBals x.bals + cntMrks x.votes) x.held, done := mkMrks (k + cntBals x.bals + cntMrks x.votes + cntConts x.held) x.done, appl := mkInts (k + cntBals x.bals + cntMrks x.votes + cntConts x.held + cntMrks x.done) x.appl }
theorem shd_form {w : World} {v : Value} {x : Shd} (h : shdR.V w v x) : ∃ a1 a2 a3 a4 a5 c1 c2 c3 c4 c5, v = .agg #[.int .i64 x.idx, .slice a1 x.bals.length c1, .slice a2 x.votes.length c2, .slice a3 x.held.length c3, .slice a4 x.done.length c4, .slice a5 x.appl.length c5] := by
 obtain ⟨u1, u2, u3, u4, u5, rfl, h1, h2, h3, h4, h5⟩ := h
 obtain ⟨a1, c1, rfl⟩ := bals_form h1
 obtain ⟨a2, c2, rfl⟩ := mrks_form h2
 obtain ⟨a3, c3, rfl⟩ := conts_form h3
 obtain ⟨a4, c4, rfl⟩ := mrks_form h4
 obtain ⟨a5, c5, rfl⟩ := ints_form h5
 exact ⟨_, _, _, _, _, _, _, _, _, _, rfl⟩
theorem shd_cnt (d : Shd) : cntShd d ≤ 5 * wtShd d := by
 unfold cntShd wtShd
 have q1 := bals_cnt d.bals
 have q2 := mrks_cnt d.votes
 have q3 := conts_cnt d.held
 have q4 := mrks_cnt d.done
 have q5 := ints_cnt d.appl
 omega
set_option maxHeartbeats 2000000 in
theorem toShard_u (x : Value) (d : Shd) (w : World) (hx : shdR.V w x d) (hn : wtShd d ≤ 1048576) :
  Calls Tryz.prog 8 #[x] w fun e w' => ∃ v F, e = .returned v ∧ shdR.O w' w.heap.size F v d ∧ Below w.heap.size w w' := by
 obtain ⟨u1, u2, u3, u4, u5, rfl, h1, h2, h3, h4, h5⟩ := hx
 unfold wtShd at hn
 go_enter Tryz.func8, Tryz.ntmps8
 go_wp2_with fail
 refine (toBalanceS_u _ d.bals _ (balsR.below h1 (qBq)) (by omega)).mono ?_
 rintro e w1 ⟨v1, F1, rfl, o1, b1⟩
 have hB1 : Below w.heap.size w w1 := bS (qBq) b1
 obtain ⟨a1, n1, rfl⟩ := bals_form (balsR.ofO o1)
 obtain ⟨c1, f1⟩ := bcell b1
 have z1 := b1.size
 simp at z1
 have l1 := fun b hb => balsR.rng o1 b hb
 simp at l1
 replace o1 := balsR.base (base' := w.heap.size + 3) o1 (by simp; try omega)
 have y0 : w1.cell? ⟨w.heap.size, 0, none⟩ = some (.int .i64 d.idx) := cK b1 (by simp [go_sem])
 have y1 : w1.cell? ⟨w.heap.size, 1, none⟩ = some (u1) := cK b1 (by simp [go_sem])
 have y2 : w1.cell? ⟨w.heap.size, 2, none⟩ = some (u2) := cK b1 (by simp [go_sem])
 have y3 : w1.cell? ⟨w.heap.size, 3, none⟩ = some (u3) := cK b1 (by simp [go_sem])
 have y4 : w1.cell? ⟨w.heap.size, 4, none⟩ = some (u4) := cK b1 (by simp [go_sem])
 have y5 : w1.cell? ⟨w.heap.size, 5, none⟩ = some (u5) := cK b1 (by simp [go_sem])
 have r0 : w1.cell? ⟨w.heap.size + 1, 0, none⟩ = some (.int .i64 0) := cK b1 (by simp [go_sem])
 have r1 : w1.cell? ⟨w.heap.size + 1, 1, none⟩ = some (.slice none 0 0) := cK b1 (by simp [go_sem])
 have r2 : w1.cell? ⟨w.heap.size + 1, 2, none⟩ = some (.slice none 0 0) := cK b1 (by simp [go_sem])
 have r3 : w1.cell? ⟨w.heap.size + 1, 3, none⟩ = some (.slice none 0 0) := cK b1 (by simp [go_sem])
 have r4 : w1.cell? ⟨w.heap.size + 1, 4, none⟩ = some (.slice none 0 0) := cK b1 (by simp [go_sem])
 have r5 : w1.cell? ⟨w.heap.size + 1, 5, none⟩ = some (.slice none 0 0) := cK b1 (by simp [go_sem])
 have s0 : w1.cell? ⟨w.heap.size + 2, 0, none⟩ = some (.int .i64 d.idx) := cK b1 (by simp [go_sem])
 have s1 : w1.cell? ⟨w.heap.size + 2, 1, none⟩ = some (.slice none 0 0) := cK b1 (by simp [go_sem])
 have s2 : w1.cell? ⟨w.heap.size + 2, 2, none⟩ = some (.slice none 0 0) := cK b1 (by simp [go_sem])
 have s3 : w1.cell? ⟨w.heap.size + 2, 3, none⟩ = some (.slice none 0 0) := cK b1 (by simp [go_sem])
 have s4 : w1.cell? ⟨w.heap.size + 2, 4, none⟩ = some (.slice none 0 0) := cK b1 (by simp [go_sem])
 have s5 : w1.cell? ⟨w.heap.size + 2, 5, none⟩ = some (.slice none 0 0) := cK b1 (by simp [go_sem])
 have t1 : ∀ o, w1.frozen? ⟨w.heap.size + 1, o, none⟩ = false := fun o => by rw [f1 _ _ (by simp; try omega)]; simp [go_sem]
 have t2 : ∀ o, w1.frozen? ⟨w.heap.size + 2, o, none⟩ = false := fun o => by rw [f1 _ _ (by simp; try omega)]; simp [go_sem]
 clear c1 f1
 have x0 := y0
 have x1 := y1
 have x2 := y2
 have x3 := y3
 have x4 := y4
 have x5 := y5
 have q0 := r0
 have q1 := r1
 have q2 := r2
 have q3 := r3
 have q4 := r4
 have q5 := r5
 have p0 := s0
 have p1 := s1
 have p2 := s2
 have p3 := s3
 have p4 := s4
 have p5 := s5
 have qf := t1
 have pf := t2
 clear t1 t2 y0 y1 y2 y3 y4 y5 r0 r1 r2 r3 r4 r5 s0 s1 s2 s3 s4 s5
 clear b1
 go_wp2_with fail
 refine (toMarkS_u _ d.votes _ (mrksR.below h2 (by (repeat (first | refine bset ?_ (by simp; omega) _ | refine bset ?_ (by simp) _ | refine bA ?_ _ | assumption)))) (by omega)).mono ?_
 rintro e w2 ⟨v2, F2, rfl, o2, b2⟩
 have hB2 : Below w.heap.size w w2 := bS (by (repeat (first | refine bset ?_ (by simp; omega) _ | refine bset ?_ (by simp) _ | refine bA ?_ _ | assumption))) b2
 obtain ⟨a2, n2, rfl⟩ := mrks_form (mrksR.ofO o2)
 obtain ⟨c2, f2⟩ := bcell b2
 have z2 := b2.size
 simp at z2
 have l2 := fun b hb => mrksR.rng o2 b hb
 simp at l2
 replace o2 := mrksR.base (base' := w.heap.size + 3) o2 (by simp; try omega)
 have hk1 : ∀ F v x, balsR.O w1 (w.heap.size + 3) F v x → balsR.O w2 (w.heap.size + 3) F v x := fun F v x o => balsR.keep (by (repeat (first | refine Rep.set _ ?_ _ (by simp; omega) | refine Rep.set _ ?_ _ (by simp) | refine Rep.alloc _ ?_ _ | assumption))) b2
 replace o1 := hk1 _ _ _ o1
 clear hk1
 have y0 : w2.cell? ⟨w.heap.size, 0, none⟩ = some (.int .i64 d.idx) := cK b2 (by simp [go_sem, x0, x1, x2, x3, x4, x5, q0, q1, q2, q3, q4, q5, p0, p1, p2, p3, p4, p5])
 have y1 : w2.cell? ⟨w.heap.size, 1, none⟩ = some (u1) := cK b2 (by simp [go_sem, x0, x1, x2, x3, x4, x5, q0, q1, q2, q3, q4, q5, p0, p1, p2, p3, p4, p5])
 have y2 : w2.cell? ⟨w.heap.size, 2, none⟩ = some (u2) := cK b2 (by simp [go_sem, x0, x1, x2, x3, x4, x5, q0, q1, q2, q3, q4, q5, p0, p1, p2, p3, p4, p5])
 have y3 : w2.cell? ⟨w.heap.size, 3, none⟩ = some (u3) := cK b2 (by simp [go_sem, x0, x1, x2, x3, x4, x5, q0, q1, q2, q3, q4, q5, p0, p1, p2, p3, p4, p5])
 have y4 : w2.cell? ⟨w.heap.size, 4, none⟩ = some (u4) := cK b2 (by simp [go_sem, x0, x1, x2, x3, x4, x5, q0, q1, q2, q3, q4, q5, p0, p1, p2, p3, p4, p5])
 have y5 : w2.cell? ⟨w.heap.size, 5, none⟩ = some (u5) := cK b2 (by simp [go_sem, x0, x1, x2, x3, x4, x5, q0, q1, q2, q3, q4, q5, p0, p1, p2, p3, p4, p5])
 have r0 : w2.cell? ⟨w.heap.size + 1, 0, none⟩ = some (.int .i64 0) := cK b2 (by simp [go_sem, x0, x1, x2, x3, x4, x5, q0, q1, q2, q3, q4, q5, p0, p1, p2, p3, p4, p5])
 have r1 : w2.cell? ⟨w.heap.size + 1, 1, none⟩ = some (.slice none 0 0) := cK b2 (by simp [go_sem, x0, x1, x2, x3, x4, x5, q0, q1, q2, q3, q4, q5, p0, p1, p2, p3, p4, p5])
 have r2 : w2.cell? ⟨w.heap.size + 1, 2, none⟩ = some (.slice none 0 0) := cK b2 (by simp [go_sem, x0, x1, x2, x3, x4, x5, q0, q1, q2, q3, q4, q5, p0, p1, p2, p3, p4, p5])
 have r3 : w2.cell? ⟨w.heap.size + 1, 3, none⟩ = some (.slice none 0 0) := cK b2 (by simp [go_sem, x0, x1, x2, x3, x4, x5, q0, q1, q2, q3, q4, q5, p0, p1, p2, p3, p4, p5])
 have r4 : w2.cell? ⟨w.heap.size + 1, 4, none⟩ = some (.slice none 0 0) := cK b2 (by simp [go_sem, x0, x1, x2, x3, x4, x5, q0, q1, q2, q3, q4, q5, p0, p1, p2, p3, p4, p5])
 have r5 : w2.cell? ⟨w.heap.size + 1, 5, none⟩ = some (.slice none 0 0) := cK b2 (by simp [go_sem, x0, x1, x2, x3, x4, x5, q0, q1, q2, q3, q4, q5, p0, p1, p2, p3, p4, p5])
 have s0 : w2.cell? ⟨w.heap.size + 2, 0, none⟩ = some (.int .i64 d.idx) := cK b2 (by simp [go_sem, x0, x1, x2, x3, x4, x5, q0, q1, q2, q3, q4, q5, p0, p1, p2, p3, p4, p5])
 have s1 : w2.cell? ⟨w.heap.size + 2, 1, none⟩ = some (.slice a1 d.bals.length n1) := cK b2 (by simp [go_sem, x0, x1, x2, x3, x4, x5, q0, q1, q2, q3, q4, q5, p0, p1, p2, p3, p4, p5])
 have s2 : w2.cell? ⟨w.heap.size + 2, 2, none⟩ = some (.slice none 0 0) := cK b2 (by simp [go_sem, x0, x1, x2, x3, x4, x5, q0, q1, q2, q3, q4, q5, p0, p1, p2, p3, p4, p5])
 have s3 : w2.cell? ⟨w.heap.size + 2, 3, none⟩ = some (.slice none 0 0) := cK b2 (by simp [go_sem, x0, x1, x2, x3, x4, x5, q0, q1, q2, q3, q4, q5, p0, p1, p2, p3, p4, p5])
 have s4 : w2.cell? ⟨w.heap.size + 2, 4, none⟩ = some (.slice none 0 0) := cK b2 (by simp [go_sem, x0, x1, x2, x3, x4, x5, q0, q1, q2, q3, q4, q5, p0, p1, p2, p3, p4, p5])
 have s5 : w2.cell? ⟨w.heap.size + 2, 5, none⟩ = some (.slice none 0 0) := cK b2 (by simp [go_sem, x0, x1, x2, x3, x4, x5, q0, q1, q2, q3, q4, q5, p0, p1, p2, p3, p4, p5])
 have t1 : ∀ o, w2.frozen? ⟨w.heap.size + 1, o, none⟩ = false := fun o => by rw [f2 _ _ (by simp; try omega)]; simp [go_sem, qf]
 have t2 : ∀ o, w2.frozen? ⟨w.heap.size + 2, o, none⟩ = false := fun o => by rw [f2 _ _ (by simp; try omega)]; simp [go_sem, pf]
 clear x0 x1 x2 x3 x4 x5 q0 q1 q2 q3 q4 q5 p0 p1 p2 p3 p4 p5 qf pf
 clear c2 f2
 have x0 := y0
 have x1 := y1
 have x2 := y2
 have x3 := y3
 have x4 := y4
 have x5 := y5
 have q0 := r0
 have q1 := r1
 have q2 := r2
 have q3 := r3
 have q4 := r4
 have q5 := r5
 have p0 := s0
 have p1 := s1
 have p2 := s2
 have p3 := s3
 have p4 := s4
 have p5 := s5
 have qf := t1
 have pf := t2
 clear t1 t2 y0 y1 y2 y3 y4 y5 r0 r1 r2 r3 r4 r5 s0 s1 s2 s3 s4 s5
 clear b2 hB1
 go_wp2_with fail
 refine (toContractS_u _ d.held _ (contsR.below h3 (by (repeat (first | refine bset ?_ (by simp; omega) _ | refine bset ?_ (by simp) _ | refine bA ?_ _ | assumption)))) (by omega)).mono ?_
 rintro e w3 ⟨v3, F3, rfl, o3, b3⟩
 have hB3 : Below w.heap.size w w3 := bS (by (repeat (first | refine bset ?_ (by simp; omega) _ | refine bset ?_ (by simp) _ | refine bA ?_ _ | assumption))) b3
 obtain ⟨a3, n3, rfl⟩ := conts_form (contsR.ofO o3)
 obtain ⟨c3, f3⟩ := bcell b3
 have z3 := b3.size
 simp at z3
 have l3 := fun b hb => contsR.rng o3 b hb
 simp at l3
 replace o3 := contsR.base (base' := w.heap.size + 3) o3 (by simp; try omega)
 have hk1 : ∀ F v x, balsR.O w2 (w.heap.size + 3) F v x → balsR.O w3 (w.heap.size + 3) F v x := fun F v x o => balsR.keep (by (repeat (first | refine Rep.set _ ?_ _ (by simp; omega) | refine Rep.set _ ?_ _ (by simp) | refine Rep.alloc _ ?_ _ | assumption))) b3
 replace o1 := hk1 _ _ _ o1
 clear hk1
 have hk2 : ∀ F v x, mrksR.O w2 (w.heap.size + 3) F v x → mrksR.O w3 (w.heap.size + 3) F v x := fun F v x o => mrksR.keep (by (repeat (first | refine Rep.set _ ?_ _ (by simp; omega) | refine Rep.set _ ?_ _ (by simp) | refine Rep.alloc _ ?_ _ | assumption))) b3
 replace o2 := hk2 _ _ _ o2
 clear hk2
 have y0 : w3.cell? ⟨w.heap.size, 0, none⟩ = some (.int .i64 d.idx) := cK b3 (by simp [go_sem, x0, x1, x2, x3, x4, x5, q0, q1, q2, q3, q4, q5, p0, p1, p2, p3, p4, p5])
 have y1 : w3.cell? ⟨w.heap.size, 1, none⟩ = some (u1) := cK b3 (by simp [go_sem, x0, x1, x2, x3, x4, x5, q0, q1, q2, q3, q4, q5, p0, p1, p2, p3, p4, p5])
 have y2 : w3.cell? ⟨w.heap.size, 2, none⟩ = some (u2) := cK b3 (by simp [go_sem, x0, x1, x2, x3, x4, x5, q0, q1, q2, q3, q4, q5, p0, p1, p2, p3, p4, p5])
 have y3 : w3.cell? ⟨w.heap.size, 3, none⟩ = some (u3) := cK b3 (by simp [go_sem, x0, x1, x2, x3, x4, x5, q0, q1, q2, q3, q4, q5, p0, p1, p2, p3, p4, p5])
 have y4 : w3.cell? ⟨w.heap.size, 4, none⟩ = some (u4) := cK b3 (by simp [go_sem, x0, x1, x2, x3, x4, x5, q0, q1, q2, q3, q4, q5, p0, p1, p2, p3, p4, p5])
 have y5 : w3.cell? ⟨w.heap.size, 5, none⟩ = some (u5) := cK b3 (by simp [go_sem, x0, x1, x2, x3, x4, x5, q0, q1, q2, q3, q4, q5, p0, p1, p2, p3, p4, p5])
 have r0 : w3.cell? ⟨w.heap.size + 1, 0, none⟩ = some (.int .i64 0) := cK b3 (by simp [go_sem, x0, x1, x2, x3, x4, x5, q0, q1, q2, q3, q4, q5, p0, p1, p2, p3, p4, p5])
 have r1 : w3.cell? ⟨w.heap.size + 1, 1, none⟩ = some (.slice none 0 0) := cK b3 (by simp [go_sem, x0, x1, x2, x3, x4, x5, q0, q1, q2, q3, q4, q5, p0, p1, p2, p3, p4, p5])
 have r2 : w3.cell? ⟨w.heap.size + 1, 2, none⟩ = some (.slice none 0 0) := cK b3 (by simp [go_sem, x0, x1, x2, x3, x4, x5, q0, q1, q2, q3, q4, q5, p0, p1, p2, p3, p4, p5])
 have r3 : w3.cell? ⟨w.heap.size + 1, 3, none⟩ = some (.slice none 0 0) := cK b3 (by simp [go_sem, x0, x1, x2, x3, x4, x5, q0, q1, q2, q3, q4, q5, p0, p1, p2, p3, p4, p5])
 have r4 : w3.cell? ⟨w.heap.size + 1, 4, none⟩ = some (.slice none 0 0) := cK b3 (by simp [go_sem, x0, x1, x2, x3, x4, x5, q0, q1, q2, q3, q4, q5, p0, p1, p2, p3, p4, p5])
 have r5 : w3.cell? ⟨w.heap.size + 1, 5, none⟩ = some (.slice none 0 0) := cK b3 (by simp [go_sem, x0, x1, x2, x3, x4, x5, q0, q1, q2, q3, q4, q5, p0, p1, p2, p3, p4, p5])
 have s0 : w3.cell? ⟨w.heap.size + 2, 0, none⟩ = some (.int .i64 d.idx) := cK b3 (by simp [go_sem, x0, x1, x2, x3, x4, x5, q0, q1, q2, q3, q4, q5, p0, p1, p2, p3, p4, p5])
 have s1 : w3.cell? ⟨w.heap.size + 2, 1, none⟩ = some (.slice a1 d.bals.length n1) := cK b3 (by simp [go_sem, x0, x1, x2, x3, x4, x5, q0, q1, q2, q3, q4, q5, p0, p1, p2, p3, p4, p5])
 have s2 : w3.cell? ⟨w.heap.size + 2, 2, none⟩ = some (.slice a2 d.votes.length n2) := cK b3 (by simp [go_sem, x0, x1, x2, x3, x4, x5, q0, q1, q2, q3, q4, q5, p0, p1, p2, p3, p4, p5])
 have s3 : w3.cell? ⟨w.heap.size + 2, 3, none⟩ = some (.slice none 0 0) := cK b3 (by simp [go_sem, x0, x1, x2, x3, x4, x5, q0, q1, q2, q3, q4, q5, p0, p1, p2, p3, p4, p5])
 have s4 : w3.cell? ⟨w.heap.size + 2, 4, none⟩ = some (.slice none 0 0) := cK b3 (by simp [go_sem, x0, x1, x2, x3, x4, x5, q0, q1, q2, q3, q4, q5, p0, p1, p2, p3, p4, p5])
 have s5 : w3.cell? ⟨w.heap.size + 2, 5, none⟩ = some (.slice none 0 0) := cK b3 (by simp [go_sem, x0, x1, x2, x3, x4, x5, q0, q1, q2, q3, q4, q5, p0, p1, p2, p3, p4, p5])
 have t1 : ∀ o, w3.frozen? ⟨w.heap.size + 1, o, none⟩ = false := fun o => by rw [f3 _ _ (by simp; try omega)]; simp [go_sem, qf]
 have t2 : ∀ o, w3.frozen? ⟨w.heap.size + 2, o, none⟩ = false := fun o => by rw [f3 _ _ (by simp; try omega)]; simp [go_sem, pf]
 clear x0 x1 x2 x3 x4 x5 q0 q1 q2 q3 q4 q5 p0 p1 p2 p3 p4 p5 qf pf
 clear c3 f3
 have x0 := y0
 have x1 := y1
 have x2 := y2
 have x3 := y3
 have x4 := y4
 have x5 := y5
 have q0 := r0
 have q1 := r1
 have q2 := r2
 have q3 := r3
 have q4 := r4
 have q5 := r5
 have p0 := s0
 have p1 := s1
 have p2 := s2
 have p3 := s3
 have p4 := s4
 have p5 := s5
 have qf := t1
 have pf := t2
 clear t1 t2 y0 y1 y2 y3 y4 y5 r0 r1 r2 r3 r4 r5 s0 s1 s2 s3 s4 s5
 clear b3 hB2
 go_wp2_with fail
 refine (toMarkS_u _ d.done _ (mrksR.below h4 (by (repeat (first | refine bset ?_ (by simp; omega) _ | refine bset ?_ (by simp) _ | refine bA ?_ _ | assumption)))) (by omega)).mono ?_
 rintro e w4 ⟨v4, F4, rfl, o4, b4⟩
 have hB4 : Below w.heap.size w w4 := bS (by (repeat (first | refine bset ?_ (by simp; omega) _ | refine bset ?_ (by simp) _ | refine bA ?_ _ | assumption))) b4
 obtain ⟨a4, n4, rfl⟩ := mrks_form (mrksR.ofO o4)
 obtain ⟨c4, f4⟩ := bcell b4
 have z4 := b4.size
 simp at z4
 have l4 := fun b hb => mrksR.rng o4 b hb
 simp at l4
 replace o4 := mrksR.base (base' := w.heap.size + 3) o4 (by simp; try omega)
 have hk1 : ∀ F v x, balsR.O w3 (w.heap.size + 3) F v x → balsR.O w4 (w.heap.size + 3) F v x := fun F v x o => balsR.keep (by (repeat (first | refine Rep.set _ ?_ _ (by simp; omega) | refine Rep.set _ ?_ _ (by simp) | refine Rep.alloc _ ?_ _ | assumption))) b4
 replace o1 := hk1 _ _ _ o1
 clear hk1
 have hk2 : ∀ F v x, mrksR.O w3 (w.heap.size + 3) F v x → mrksR.O w4 (w.heap.size + 3) F v x := fun F v x o => mrksR.keep (by (repeat (first | refine Rep.set _ ?_ _ (by simp; omega) | refine Rep.set _ ?_ _ (by simp) | refine Rep.alloc _ ?_ _ | assumption))) b4
 replace o2 := hk2 _ _ _ o2
 clear hk2
 have hk3 : ∀ F v x, contsR.O w3 (w.heap.size + 3) F v x → contsR.O w4 (w.heap.size + 3) F v x := fun F v x o => contsR.keep (by (repeat (first | refine Rep.set _ ?_ _ (by simp; omega) | refine Rep.set _ ?_ _ (by simp) | refine Rep.alloc _ ?_ _ | assumption))) b4
 replace o3 := hk3 _ _ _ o3
 clear hk3
 have y0 : w4.cell? ⟨w.heap.size, 0, none⟩ = some (.int .i64 d.idx) := cK b4 (by simp [go_sem, x0, x1, x2, x3, x4, x5, q0, q1, q2, q3, q4, q5, p0, p1, p2, p3, p4, p5])
 have y1 : w4.cell? ⟨w.heap.size, 1, none⟩ = some (u1) := cK b4 (by simp [go_sem, x0, x1, x2, x3, x4, x5, q0, q1, q2, q3, q4, q5, p0, p1, p2, p3, p4, p5])
 have y2 : w4.cell? ⟨w.heap.size, 2, none⟩ = some (u2) := cK b4 (by simp [go_sem, x0, x1, x2, x3, x4, x5, q0, q1, q2, q3, q4, q5, p0, p1, p2, p3, p4, p5])
 have y3 : w4.cell? ⟨w.heap.size, 3, none⟩ = some (u3) := cK b4 (by simp [go_sem, x0, x1, x2, x3, x4, x5, q0, q1, q2, q3, q4, q5, p0, p1, p2, p3, p4, p5])
 have y4 : w4.cell? ⟨w.heap.size, 4, none⟩ = some (u4) := cK b4 (by simp [go_sem, x0, x1, x2, x3, x4, x5, q0, q1, q2, q3, q4, q5, p0, p1, p2, p3, p4, p5])
 have y5 : w4.cell? ⟨w.heap.size, 5, none⟩ = some (u5) := cK b4 (by simp [go_sem, x0, x1, x2, x3, x4, x5, q0, q1, q2, q3, q4, q5, p0, p1, p2, p3, p4, p5])
 have r0 : w4.cell? ⟨w.heap.size + 1, 0, none⟩ = some (.int .i64 0) := cK b4 (by simp [go_sem, x0, x1, x2, x3, x4, x5, q0, q1, q2, q3, q4, q5, p0, p1, p2, p3, p4, p5])
 have r1 : w4.cell? ⟨w.heap.size + 1, 1, none⟩ = some (.slice none 0 0) := cK b4 (by simp [go_sem, x0, x1, x2, x3, x4, x5, q0, q1, q2, q3, q4, q5, p0, p1, p2, p3, p4, p5])
 have r2 : w4.cell? ⟨w.heap.size + 1, 2, none⟩ = some (.slice none 0 0) := cK b4 (by simp [go_sem, x0, x1, x2, x3, x4, x5, q0, q1, q2, q3, q4, q5, p0, p1, p2, p3, p4, p5])
 have r3 : w4.cell? ⟨w.heap.size + 1, 3, none⟩ = some (.slice none 0 0) := cK b4 (by simp [go_sem, x0, x1, x2, x3, x4, x5, q0, q1, q2, q3, q4, q5, p0, p1, p2, p3, p4, p5])
 have r4 : w4.cell? ⟨w.heap.size + 1, 4, none⟩ = some (.slice none 0 0) := cK b4 (by simp [go_sem, x0, x1, x2, x3, x4, x5, q0, q1, q2, q3, q4, q5, p0, p1, p2, p3, p4, p5])
 have r5 : w4.cell? ⟨w.heap.size + 1, 5, none⟩ = some (.slice none 0 0) := cK b4 (by simp [go_sem, x0, x1, x2, x3, x4, x5, q0, q1, q2, q3, q4, q5, p0, p1, p2, p3, p4, p5])
 have s0 : w4.cell? ⟨w.heap.size + 2, 0, none⟩ = some (.int .i64 d.idx) := cK b4 (by simp [go_sem, x0, x1, x2, x3, x4, x5, q0, q1, q2, q3, q4, q5, p0, p1, p2, p3, p4, p5])
 have s1 : w4.cell? ⟨w.heap.size + 2, 1, none⟩ = some (.slice a1 d.bals.length n1) := cK b4 (by simp [go_sem, x0, x1, x2, x3, x4, x5, q0, q1, q2, q3, q4, q5, p0, p1, p2, p3, p4, p5])
 have s2 : w4.cell? ⟨w.heap.size + 2, 2, none⟩ = some (.slice a2 d.votes.length n2) := cK b4 (by simp [go_sem, x0, x1, x2, x3, x4, x5, q0, q1, q2, q3, q4, q5, p0, p1, p2, p3, p4, p5])
 have s3 : w4.cell? ⟨w.heap.size + 2, 3, none⟩ = some (.slice a3 d.held.length n3) := cK b4 (by simp [go_sem, x0, x1, x2, x3, x4, x5, q0, q1, q2, q3, q4, q5, p0, p1, p2, p3, p4, p5])
 have s4 : w4.cell? ⟨w.heap.size + 2, 4, none⟩ = some (.slice none 0 0) := cK b4 (by simp [go_sem, x0, x1, x2, x3, x4, x5, q0, q1, q2, q3, q4, q5, p0, p1, p2, p3, p4, p5])
 have s5 : w4.cell? ⟨w.heap.size + 2, 5, none⟩ = some (.slice none 0 0) := cK b4 (by simp [go_sem, x0, x1, x2, x3, x4, x5, q0, q1, q2, q3, q4, q5, p0, p1, p2, p3, p4, p5])
 have t1 : ∀ o, w4.frozen? ⟨w.heap.size + 1, o, none⟩ = false := fun o => by rw [f4 _ _ (by simp; try omega)]; simp [go_sem, qf]
 have t2 : ∀ o, w4.frozen? ⟨w.heap.size + 2, o, none⟩ = false := fun o => by rw [f4 _ _ (by simp; try omega)]; simp [go_sem, pf]
 clear x0 x1 x2 x3 x4 x5 q0 q1 q2 q3 q4 q5 p0 p1 p2 p3 p4 p5 qf pf
 clear c4 f4
 have x0 := y0
 have x1 := y1
 have x2 := y2
 have x3 := y3
 have x4 := y4
 have x5 := y5
 have q0 := r0
 have q1 := r1
 have q2 := r2
 have q3 := r3
 have q4 := r4
 have q5 := r5
 have p0 := s0
 have p1 := s1
 have p2 := s2
 have p3 := s3
 have p4 := s4
 have p5 := s5
 have qf := t1
 have pf := t2
 clear t1 t2 y0 y1 y2 y3 y4 y5 r0 r1 r2 r3 r4 r5 s0 s1 s2 s3 s4 s5
 clear b4 hB3
 go_wp2_with fail
 refine (toInt64S_u _ d.appl _ (intsR.below h5 (by (repeat (first | refine bset ?_ (by simp; omega) _ | refine bset ?_ (by simp) _ | refine bA ?_ _ | assumption)))) (by omega)).mono ?_
 rintro e w5 ⟨v5, F5, rfl, o5, b5⟩
 have hB5 : Below w.heap.size w w5 := bS (by (repeat (first | refine bset ?_ (by simp; omega) _ | refine bset ?_ (by simp) _ | refine bA ?_ _ | assumption))) b5
 obtain ⟨a5, n5, rfl⟩ := ints_form (intsR.ofO o5)
 obtain ⟨c5, f5⟩ := bcell b5
 have z5 := b5.size
 simp at z5
 have l5 := fun b hb => intsR.rng o5 b hb
 simp at l5
 replace o5 := intsR.base (base' := w.heap.size + 3) o5 (by simp; try omega)
 have hk1 : ∀ F v x, balsR.O w4 (w.heap.size + 3) F v x → balsR.O w5 (w.heap.size + 3) F v x := fun F v x o => balsR.keep (by (repeat (first | refine Rep.set _ ?_ _ (by simp; omega) | refine Rep.set _ ?_ _ (by simp) | refine Rep.alloc _ ?_ _ | assumption))) b5
 replace o1 := hk1 _ _ _ o1
 clear hk1
 have hk2 : ∀ F v x, mrksR.O w4 (w.heap.size + 3) F v x → mrksR.O w5 (w.heap.size + 3) F v x := fun F v x o => mrksR.keep (by (repeat (first | refine Rep.set _ ?_ _ (by simp; omega) | refine Rep.set _ ?_ _ (by simp) | refine Rep.alloc _ ?_ _ | assumption))) b5
 replace o2 := hk2 _ _ _ o2
 clear hk2
 have hk3 : ∀ F v x, contsR.O w4 (w.heap.size + 3) F v x → contsR.O w5 (w.heap.size + 3) F v x := fun F v x o => contsR.keep (by (repeat (first | refine Rep.set _ ?_ _ (by simp; omega) | refine Rep.set _ ?_ _ (by simp) | refine Rep.alloc _ ?_ _ | assumption))) b5
 replace o3 := hk3 _ _ _ o3
 clear hk3
 have hk4 : ∀ F v x, mrksR.O w4 (w.heap.size + 3) F v x → mrksR.O w5 (w.heap.size + 3) F v x := fun F v x o => mrksR.keep (by (repeat (first | refine Rep.set _ ?_ _ (by simp; omega) | refine Rep.set _ ?_ _ (by simp) | refine Rep.alloc _ ?_ _ | assumption))) b5
 replace o4 := hk4 _ _ _ o4
 clear hk4
 have y0 : w5.cell? ⟨w.heap.size, 0, none⟩ = some (.int .i64 d.idx) := cK b5 (by simp [go_sem, x0, x1, x2, x3, x4, x5, q0, q1, q2, q3, q4, q5, p0, p1, p2, p3, p4, p5])
 have y1 : w5.cell? ⟨w.heap.size, 1, none⟩ = some (u1) := cK b5 (by simp [go_sem, x0, x1, x2, x3, x4, x5, q0, q1, q2, q3, q4, q5, p0, p1, p2, p3, p4, p5])
 have y2 : w5.cell? ⟨w.heap.size, 2, none⟩ = some (u2) := cK b5 (by simp [go_sem, x0, x1, x2, x3, x4, x5, q0, q1, q2, q3, q4, q5, p0, p1, p2, p3, p4, p5])
 have y3 : w5.cell? ⟨w.heap.size, 3, none⟩ = some (u3) := cK b5 (by simp [go_sem, x0, x1, x2, x3, x4, x5, q0, q1, q2, q3, q4, q5, p0, p1, p2, p3, p4, p5])
 have y4 : w5.cell? ⟨w.heap.size, 4, none⟩ = some (u4) := cK b5 (by simp [go_sem, x0, x1, x2, x3, x4, x5, q0, q1, q2, q3, q4, q5, p0, p1, p2, p3, p4, p5])
 have y5 : w5.cell? ⟨w.heap.size, 5, none⟩ = some (u5) := cK b5 (by simp [go_sem, x0, x1, x2, x3, x4, x5, q0, q1, q2, q3, q4, q5, p0, p1, p2, p3, p4, p5])
 have r0 : w5.cell? ⟨w.heap.size + 1, 0, none⟩ = some (.int .i64 0) := cK b5 (by simp [go_sem, x0, x1, x2, x3, x4, x5, q0, q1, q2, q3, q4, q5, p0, p1, p2, p3, p4, p5])
 have r1 : w5.cell? ⟨w.heap.size + 1, 1, none⟩ = some (.slice none 0 0) := cK b5 (by simp [go_sem, x0, x1, x2, x3, x4, x5, q0, q1, q2, q3, q4, q5, p0, p1, p2, p3, p4, p5])
 have r2 : w5.cell? ⟨w.heap.size + 1, 2, none⟩ = some (.slice none 0 0) := cK b5 (by simp [go_sem, x0, x1, x2, x3, x4, x5, q0, q1, q2, q3, q4, q5, p0, p1, p2, p3, p4, p5])
 have r3 : w5.cell? ⟨w.heap.size + 1, 3, none⟩ = some (.slice none 0 0) := cK b5 (by simp [go_sem, x0, x1, x2, x3, x4, x5, q0, q1, q2, q3, q4, q5, p0, p1, p2, p3, p4, p5])
 have r4 : w5.cell? ⟨w.heap.size + 1, 4, none⟩ = some (.slice none 0 0) := cK b5 (by simp [go_sem, x0, x1, x2, x3, x4, x5, q0, q1, q2, q3, q4, q5, p0, p1, p2, p3, p4, p5])
 have r5 : w5.cell? ⟨w.heap.size + 1, 5, none⟩ = some (.slice none 0 0) := cK b5 (by simp [go_sem, x0, x1, x2, x3, x4, x5, q0, q1, q2, q3, q4, q5, p0, p1, p2, p3, p4, p5])
 have s0 : w5.cell? ⟨w.heap.size + 2, 0, none⟩ = some (.int .i64 d.idx) := cK b5 (by simp [go_sem, x0, x1, x2, x3, x4, x5, q0, q1, q2, q3, q4, q5, p0, p1, p2, p3, p4, p5])
 have s1 : w5.cell? ⟨w.heap.size + 2, 1, none⟩ = some (.slice a1 d.bals.length n1) := cK b5 (by simp [go_sem, x0, x1, x2, x3, x4, x5, q0, q1, q2, q3, q4, q5, p0, p1, p2, p3, p4, p5])
 have s2 : w5.cell? ⟨w.heap.size + 2, 2, none⟩ = some (.slice a2 d.votes.length n2) := cK b5 (by simp [go_sem, x0, x1, x2, x3, x4, x5, q0, q1, q2, q3, q4, q5, p0, p1, p2, p3, p4, p5])
 have s3 : w5.cell? ⟨w.heap.size + 2, 3, none⟩ = some (.slice a3 d.held.length n3) := cK b5 (by simp [go_sem, x0, x1, x2, x3, x4, x5, q0, q1, q2, q3, q4, q5, p0, p1, p2, p3, p4, p5])
 have s4 : w5.cell? ⟨w.heap.size + 2, 4, none⟩ = some (.slice a4 d.done.length n4) := cK b5 (by simp [go_sem, x0, x1, x2, x3, x4, x5, q0, q1, q2, q3, q4, q5, p0, p1, p2, p3, p4, p5])
 have s5 : w5.cell? ⟨w.heap.size + 2, 5, none⟩ = some (.slice none 0 0) := cK b5 (by simp [go_sem, x0, x1, x2, x3, x4, x5, q0, q1, q2, q3, q4, q5, p0, p1, p2, p3, p4, p5])
 have t1 : ∀ o, w5.frozen? ⟨w.heap.size + 1, o, none⟩ = false := fun o => by rw [f5 _ _ (by simp; try omega)]; simp [go_sem, qf]
 have t2 : ∀ o, w5.frozen? ⟨w.heap.size + 2, o, none⟩ = false := fun o => by rw [f5 _ _ (by simp; try omega)]; simp [go_sem, pf]
 clear x0 x1 x2 x3 x4 x5 q0 q1 q2 q3 q4 q5 p0 p1 p2 p3 p4 p5 qf pf
 clear c5 f5
 have x0 := y0
 have x1 := y1
 have x2 := y2
 have x3 := y3
 have x4 := y4
 have x5 := y5
 have q0 := r0
 have q1 := r1
 have q2 := r2
 have q3 := r3
 have q4 := r4
 have q5 := r5
 have p0 := s0
 have p1 := s1
 have p2 := s2
 have p3 := s3
 have p4 := s4
 have p5 := s5
 have qf := t1
 have pf := t2
 clear t1 t2 y0 y1 y2 y3 y4 y5 r0 r1 r2 r3 r4 r5 s0 s1 s2 s3 s4 s5
 clear b5 hB4
 go_wp2
 refine bodyPost_ret (v := .agg #[.int .i64 d.idx, .slice a1 d.bals.length n1, .slice a2 d.votes.length n2, .slice a3 d.held.length n3, .slice a4 d.done.length n4, .slice a5 d.appl.length n5]) ?_ rfl ⟨_, fun b => F1 b ∨ F2 b ∨ F3 b ∨ F4 b ∨ F5 b, rfl, ⟨_, _, _, _, _, F1, F2, F3, F4, F5, rfl, balsR.base (base := w.heap.size + 3) (by (repeat (first | refine Rep.set _ ?_ _ (by simp; omega) | refine Rep.set _ ?_ _ (by simp) | refine Rep.alloc _ ?_ _ | assumption))) (by omega), mrksR.base (base := w.heap.size + 3) (by (repeat (first | refine Rep.set _ ?_ _ (by simp; omega) | refine Rep.set _ ?_ _ (by simp) | refine Rep.alloc _ ?_ _ | assumption))) (by omega), contsR.base (base := w.heap.size + 3) (by (repeat (first | refine Rep.set _ ?_ _ (by simp; omega) | refine Rep.set _ ?_ _ (by simp) | refine Rep.alloc _ ?_ _ | assumption))) (by omega), mrksR.base (base := w.heap.size + 3) (by (repeat (first | refine Rep.set _ ?_ _ (by simp; omega) | refine Rep.set _ ?_ _ (by simp) | refine Rep.alloc _ ?_ _ | assumption))) (by omega), intsR.base (base := w.heap.size + 3) (by (repeat (first | refine Rep.set _ ?_ _ (by simp; omega) | refine Rep.set _ ?_ _ (by simp) | refine Rep.alloc _ ?_ _ | assumption))) (by omega), fun b p q => by have := (l1 b p).2; have := (l2 b q).1; omega, fun b p q => by have := (l1 b p).2; have := (l3 b q).1; omega, fun b p q => by have := (l1 b p).2; have := (l4 b q).1; omega, fun b p q => by have := (l1 b p).2; have := (l5 b q).1; omega, fun b p q => by have := (l2 b p).2; have := (l3 b q).1; omega, fun b p q => by have := (l2 b p).2; have := (l4 b q).1; omega, fun b p q => by have := (l2 b p).2; have := (l5 b q).1; omega, fun b p q => by have := (l3 b p).2; have := (l4 b q).1; omega, fun b p q => by have := (l3 b p).2; have := (l5 b q).1; omega, fun b p q => by have := (l4 b p).2; have := (l5 b q).1; omega, fun b => Iff.rfl⟩, by (repeat (first | refine bset ?_ (by simp; omega) _ | refine bset ?_ (by simp) _ | refine bA ?_ _ | assumption))⟩
 simp [results, Tryz.results8, go_sem, q0, q1, q2, q3, q4, q5, p0, p1, p2, p3, p4, p5, qf, pf]
set_option maxHeartbeats 1000000 in
theorem szShard_u (x : Value) (d : Shd) (left : Int) (w : World) (hx : shdR.V w x d) (h0 : 0 ≤ left) (h1 : left ≤ 1048576) :
  Calls Tryz.prog 5 #[x, .int .i64 left] w fun e w' => e = .returned (.int .i64 (szLen left (wtShd d))) ∧ Below w.heap.size w w' := by
 obtain ⟨u1, u2, u3, u4, u5, rfl, k1, k2, k3, k4, k5⟩ := hx
 go_enter Tryz.func5, Tryz.ntmps5
 go_wp2_with fail
 refine (szBalanceS_u _ d.bals left _ (balsR.below k1 (qBq)) h0 h1).mono ?_
 rintro e w1 ⟨rfl, b1⟩
 have x0 : w1.cell? ⟨w.heap.size, 0, none⟩ = some (.int .i64 d.idx) := cK b1 (by simp [go_sem])
 have x1 : w1.cell? ⟨w.heap.size, 1, none⟩ = some (u1) := cK b1 (by simp [go_sem])
 have x2 : w1.cell? ⟨w.heap.size, 2, none⟩ = some (u2) := cK b1 (by simp [go_sem])
 have x3 : w1.cell? ⟨w.heap.size, 3, none⟩ = some (u3) := cK b1 (by simp [go_sem])
 have x4 : w1.cell? ⟨w.heap.size, 4, none⟩ = some (u4) := cK b1 (by simp [go_sem])
 have x5 : w1.cell? ⟨w.heap.size, 5, none⟩ = some (u5) := cK b1 (by simp [go_sem])
 go_wp2_with fail
 ·
  rename_i h
  go_ret
  refine ⟨?_, qBq⟩
  rw [szLen_neg (n := wtBals d.bals) (by omega) (wtShd d) (by unfold wtShd; omega)]
  rfl
 rename_i h
 refine (szMarkS_u _ d.votes (szLen left (wtBals d.bals : Nat)) _ (mrksR.below k2 (qBq)) (by omega) (by have := szLen_le (n := wtBals d.bals) h0; omega)).mono ?_
 rintro e w2 ⟨rfl, b2⟩
 replace x0 : w2.cell? ⟨w.heap.size, 0, none⟩ = some (.int .i64 d.idx) := cK b2 x0
 replace x1 : w2.cell? ⟨w.heap.size, 1, none⟩ = some (u1) := cK b2 x1
 replace x2 : w2.cell? ⟨w.heap.size, 2, none⟩ = some (u2) := cK b2 x2
 replace x3 : w2.cell? ⟨w.heap.size, 3, none⟩ = some (u3) := cK b2 x3
 replace x4 : w2.cell? ⟨w.heap.size, 4, none⟩ = some (u4) := cK b2 x4
 replace x5 : w2.cell? ⟨w.heap.size, 5, none⟩ = some (u5) := cK b2 x5
 rw [szLen_add (n := wtBals d.bals) (by omega)]
 go_wp2_with fail
 ·
  rename_i h
  go_ret
  refine ⟨?_, qBq⟩
  rw [szLen_neg (n := wtBals d.bals + wtMrks d.votes) (by first | omega | (rw [Int.natCast_add]; omega)) (wtShd d) (by unfold wtShd; omega)]
  rfl
 rename_i h
 refine (szContractS_u _ d.held (szLen left (wtBals d.bals + wtMrks d.votes : Nat)) _ (contsR.below k3 (qBq)) (by first | omega | (simp only [Int.natCast_add] at *; omega)) (by have := szLen_le (n := wtBals d.bals + wtMrks d.votes) h0; omega)).mono ?_
 rintro e w3 ⟨rfl, b3⟩
 replace x0 : w3.cell? ⟨w.heap.size, 0, none⟩ = some (.int .i64 d.idx) := cK b3 x0
 replace x1 : w3.cell? ⟨w.heap.size, 1, none⟩ = some (u1) := cK b3 x1
 replace x2 : w3.cell? ⟨w.heap.size, 2, none⟩ = some (u2) := cK b3 x2
 replace x3 : w3.cell? ⟨w.heap.size, 3, none⟩ = some (u3) := cK b3 x3
 replace x4 : w3.cell? ⟨w.heap.size, 4, none⟩ = some (u4) := cK b3 x4
 replace x5 : w3.cell? ⟨w.heap.size, 5, none⟩ = some (u5) := cK b3 x5
 rw [szLen_add (n := wtBals d.bals + wtMrks d.votes) (by first | omega | (simp only [Int.natCast_add] at *; omega))]
 go_wp2_with fail
 ·
  rename_i h
  go_ret
  refine ⟨?_, qBq⟩
  rw [szLen_neg (n := wtBals d.bals + wtMrks d.votes + wtConts d.held) (by first | omega | (simp only [Int.natCast_add] at *; omega)) (wtShd d) (by unfold wtShd; omega)]
  rfl
 rename_i h
 refine (szMarkS_u _ d.done (szLen left (wtBals d.bals + wtMrks d.votes + wtConts d.held : Nat)) _ (mrksR.below k4 (qBq)) (by first | omega | (simp only [Int.natCast_add] at *; omega)) (by have := szLen_le (n := wtBals d.bals + wtMrks d.votes + wtConts d.held) h0; omega)).mono ?_
 rintro e w4 ⟨rfl, b4⟩
 replace x0 : w4.cell? ⟨w.heap.size, 0, none⟩ = some (.int .i64 d.idx) := cK b4 x0
 replace x1 : w4.cell? ⟨w.heap.size, 1, none⟩ = some (u1) := cK b4 x1
 replace x2 : w4.cell? ⟨w.heap.size, 2, none⟩ = some (u2) := cK b4 x2
 replace x3 : w4.cell? ⟨w.heap.size, 3, none⟩ = some (u3) := cK b4 x3
 replace x4 : w4.cell? ⟨w.heap.size, 4, none⟩ = some (u4) := cK b4 x4
 replace x5 : w4.cell? ⟨w.heap.size, 5, none⟩ = some (u5) := cK b4 x5
 rw [szLen_add (n := wtBals d.bals + wtMrks d.votes + wtConts d.held) (by first | omega | (simp only [Int.natCast_add] at *; omega))]
 go_wp2_with fail
 ·
  rename_i h
  go_ret
  refine ⟨?_, qBq⟩
  rw [szLen_neg (n := wtBals d.bals + wtMrks d.votes + wtConts d.held + wtMrks d.done) (by first | omega | (simp only [Int.natCast_add] at *; omega)) (wtShd d) (by unfold wtShd; omega)]
  rfl
 rename_i h
 refine (szInt64S_u _ d.appl (szLen left (wtBals d.bals + wtMrks d.votes + wtConts d.held + wtMrks d.done : Nat)) _ (intsR.below k5 (qBq)) (by first | omega | (simp only [Int.natCast_add] at *; omega)) (by have := szLen_le (n := wtBals d.bals + wtMrks d.votes + wtConts d.held + wtMrks d.done) h0; omega)).mono ?_
 rintro e w5 ⟨rfl, b5⟩
 rw [szLen_add (n := wtBals d.bals + wtMrks d.votes + wtConts d.held + wtMrks d.done) (by first | omega | (simp only [Int.natCast_add] at *; omega))]
 go_wp2
 ·
  rename_i h
  go_ret
  refine ⟨?_, qBq⟩
  rw [szLen_neg (n := wtBals d.bals + wtMrks d.votes + wtConts d.held + wtMrks d.done + wtInts d.appl) (by first | omega | (simp only [Int.natCast_add] at *; omega)) (wtShd d) (by unfold wtShd; omega)]
  rfl
 rename_i h
 go_ret
 exact ⟨rfl, qBq⟩
set_option maxHeartbeats 1000000 in
theorem eqShard_u (x y : Value) (d d' : Shd) (w : World) (hx : shdR.V w x d) (hy : shdR.V w y d') :
  Calls Tryz.prog 12 #[x, y] w fun e w' => e = .returned (.bool (decide (d = d'))) ∧ Below w.heap.size w w' := by
 obtain ⟨u1, u2, u3, u4, u5, rfl, h1, h2, h3, h4, h5⟩ := hx
 obtain ⟨v1, v2, v3, v4, v5, rfl, k1, k2, k3, k4, k5⟩ := hy
 obtain ⟨idx, bals, votes, held, done, appl⟩ := d
 obtain ⟨idx', bals', votes', held', done', appl'⟩ := d'
 dsimp only at h1 k1 h2 k2 h3 k3 h4 k4 h5 k5
 go_enter Tryz.func12, Tryz.ntmps12
 go_wp2_with fail
 all_goals try (go_ret; exact ⟨by simp_all, qBq⟩)
 refine (eqBalanceS_u _ _ bals bals' _ (balsR.below h1 (qBq)) (balsR.below k1 (qBq))).mono ?_
 rintro e w1 ⟨rfl, b1⟩
 have x0 : w1.cell? ⟨w.heap.size, 0, none⟩ = some (.int .i64 idx) := cK b1 (by simp [go_sem])
 have x1 : w1.cell? ⟨w.heap.size, 1, none⟩ = some (u1) := cK b1 (by simp [go_sem])
 have x2 : w1.cell? ⟨w.heap.size, 2, none⟩ = some (u2) := cK b1 (by simp [go_sem])
 have x3 : w1.cell? ⟨w.heap.size, 3, none⟩ = some (u3) := cK b1 (by simp [go_sem])
 have x4 : w1.cell? ⟨w.heap.size, 4, none⟩ = some (u4) := cK b1 (by simp [go_sem])
 have x5 : w1.cell? ⟨w.heap.size, 5, none⟩ = some (u5) := cK b1 (by simp [go_sem])
 have y0 : w1.cell? ⟨w.heap.size + 1, 0, none⟩ = some (.int .i64 idx') := cK b1 (by simp [go_sem])
 have y1 : w1.cell? ⟨w.heap.size + 1, 1, none⟩ = some (v1) := cK b1 (by simp [go_sem])
 have y2 : w1.cell? ⟨w.heap.size + 1, 2, none⟩ = some (v2) := cK b1 (by simp [go_sem])
 have y3 : w1.cell? ⟨w.heap.size + 1, 3, none⟩ = some (v3) := cK b1 (by simp [go_sem])
 have y4 : w1.cell? ⟨w.heap.size + 1, 4, none⟩ = some (v4) := cK b1 (by simp [go_sem])
 have y5 : w1.cell? ⟨w.heap.size + 1, 5, none⟩ = some (v5) := cK b1 (by simp [go_sem])
 go_wp2_with fail
 all_goals try (go_ret; exact ⟨by simp_all, qBq⟩)
 refine (eqMarkS_u _ _ votes votes' _ (mrksR.below h2 (qBq)) (mrksR.below k2 (qBq))).mono ?_
 rintro e w2 ⟨rfl, b2⟩
 replace x0 : w2.cell? ⟨w.heap.size, 0, none⟩ = some (.int .i64 idx) := cK b2 x0
 replace x1 : w2.cell? ⟨w.heap.size, 1, none⟩ = some (u1) := cK b2 x1
 replace x2 : w2.cell? ⟨w.heap.size, 2, none⟩ = some (u2) := cK b2 x2
 replace x3 : w2.cell? ⟨w.heap.size, 3, none⟩ = some (u3) := cK b2 x3
 replace x4 : w2.cell? ⟨w.heap.size, 4, none⟩ = some (u4) := cK b2 x4
 replace x5 : w2.cell? ⟨w.heap.size, 5, none⟩ = some (u5) := cK b2 x5
 replace y0 : w2.cell? ⟨w.heap.size + 1, 0, none⟩ = some (.int .i64 idx') := cK b2 y0
 replace y1 : w2.cell? ⟨w.heap.size + 1, 1, none⟩ = some (v1) := cK b2 y1
 replace y2 : w2.cell? ⟨w.heap.size + 1, 2, none⟩ = some (v2) := cK b2 y2
 replace y3 : w2.cell? ⟨w.heap.size + 1, 3, none⟩ = some (v3) := cK b2 y3
 replace y4 : w2.cell? ⟨w.heap.size + 1, 4, none⟩ = some (v4) := cK b2 y4
 replace y5 : w2.cell? ⟨w.heap.size + 1, 5, none⟩ = some (v5) := cK b2 y5
 go_wp2_with fail
 all_goals try (go_ret; exact ⟨by simp_all, qBq⟩)
 refine (eqContractS_u _ _ held held' _ (contsR.below h3 (qBq)) (contsR.below k3 (qBq))).mono ?_
 rintro e w3 ⟨rfl, b3⟩
 replace x0 : w3.cell? ⟨w.heap.size, 0, none⟩ = some (.int .i64 idx) := cK b3 x0
 replace x1 : w3.cell? ⟨w.heap.size, 1, none⟩ = some (u1) := cK b3 x1
 replace x2 : w3.cell? ⟨w.heap.size, 2, none⟩ = some (u2) := cK b3 x2
 replace x3 : w3.cell? ⟨w.heap.size, 3, none⟩ = some (u3) := cK b3 x3
 replace x4 : w3.cell? ⟨w.heap.size, 4, none⟩ = some (u4) := cK b3 x4
 replace x5 : w3.cell? ⟨w.heap.size, 5, none⟩ = some (u5) := cK b3 x5
 replace y0 : w3.cell? ⟨w.heap.size + 1, 0, none⟩ = some (.int .i64 idx') := cK b3 y0
 replace y1 : w3.cell? ⟨w.heap.size + 1, 1, none⟩ = some (v1) := cK b3 y1
 replace y2 : w3.cell? ⟨w.heap.size + 1, 2, none⟩ = some (v2) := cK b3 y2
 replace y3 : w3.cell? ⟨w.heap.size + 1, 3, none⟩ = some (v3) := cK b3 y3
 replace y4 : w3.cell? ⟨w.heap.size + 1, 4, none⟩ = some (v4) := cK b3 y4
 replace y5 : w3.cell? ⟨w.heap.size + 1, 5, none⟩ = some (v5) := cK b3 y5
 go_wp2_with fail
 all_goals try (go_ret; exact ⟨by simp_all, qBq⟩)
 refine (eqMarkS_u _ _ done done' _ (mrksR.below h4 (qBq)) (mrksR.below k4 (qBq))).mono ?_
 rintro e w4 ⟨rfl, b4⟩
 replace x0 : w4.cell? ⟨w.heap.size, 0, none⟩ = some (.int .i64 idx) := cK b4 x0
 replace x1 : w4.cell? ⟨w.heap.size, 1, none⟩ = some (u1) := cK b4 x1
 replace x2 : w4.cell? ⟨w.heap.size, 2, none⟩ = some (u2) := cK b4 x2
 replace x3 : w4.cell? ⟨w.heap.size, 3, none⟩ = some (u3) := cK b4 x3
 replace x4 : w4.cell? ⟨w.heap.size, 4, none⟩ = some (u4) := cK b4 x4
 replace x5 : w4.cell? ⟨w.heap.size, 5, none⟩ = some (u5) := cK b4 x5
 replace y0 : w4.cell? ⟨w.heap.size + 1, 0, none⟩ = some (.int .i64 idx') := cK b4 y0
 replace y1 : w4.cell? ⟨w.heap.size + 1, 1, none⟩ = some (v1) := cK b4 y1
 replace y2 : w4.cell? ⟨w.heap.size + 1, 2, none⟩ = some (v2) := cK b4 y2
 replace y3 : w4.cell? ⟨w.heap.size + 1, 3, none⟩ = some (v3) := cK b4 y3
 replace y4 : w4.cell? ⟨w.heap.size + 1, 4, none⟩ = some (v4) := cK b4 y4
 replace y5 : w4.cell? ⟨w.heap.size + 1, 5, none⟩ = some (v5) := cK b4 y5
 go_wp2_with fail
 all_goals try (go_ret; exact ⟨by simp_all, qBq⟩)
 refine (eqInt64S_u _ _ appl appl' _ (intsR.below h5 (qBq)) (intsR.below k5 (qBq))).mono ?_
 rintro e w5 ⟨rfl, b5⟩
 go_wp2
 all_goals
  go_ret
  exact ⟨by simp_all, qBq⟩
set_option maxHeartbeats 1000000 in
theorem markShard_u (v : Value) (d : Shd) (base : Nat) (F : Nat → Prop) (k : Int) (w : World) (ho : shdR.O w base F v d) (hw : wtShd d ≤ 1048576) (hn : k + cntShd d ≤ 1073741824) (hk0 : 0 ≤ k) :
  Calls Tryz.prog 14 #[v, .int .i64 k] w fun r w' => r = .returned (.int .i64 (k + cntShd d)) ∧ shdR.O w' base F v (mkShd k d) ∧ Mod F w w' := by
 obtain ⟨u1, u2, u3, u4, u5, F1, F2, F3, F4, F5, rfl, h1, h2, h3, h4, h5, s12, s13, s14, s15, s23, s24, s25, s34, s35, s45, hF⟩ := ho
 unfold wtShd at hw
 unfold cntShd at hn ⊢
 have HF : Hid (∀ b, F b ↔ (F1 b ∨ F2 b ∨ F3 b ∨ F4 b ∨ F5 b)) := hF
 clear hF
 go_enter Tryz.func14, Tryz.ntmps14
 go_wp2_with fail
 refine (markBalanceS_u _ d.bals base F1 k _ (balsR.alloc h1 _) (by omega) (by omega) (by omega)).mono ?_
 rintro e w1 ⟨rfl, r1, m1⟩
 have h2' := mrksR.mod (mrksR.alloc h2 _) m1 (fun b p q => s12 b q p)
 have h3' := contsR.mod (contsR.alloc h3 _) m1 (fun b p q => s13 b q p)
 have h4' := mrksR.mod (mrksR.alloc h4 _) m1 (fun b p q => s14 b q p)
 have h5' := intsR.mod (intsR.alloc h5 _) m1 (fun b p q => s15 b q p)
 have x0 : w1.cell? ⟨w.heap.size, 0, none⟩ = some (.int .i64 d.idx) := m1.cell (by simp [go_sem]) (fun hf => by have := balsR.rng h1 _ hf; dsimp only at this; omega)
 have x1 : w1.cell? ⟨w.heap.size, 1, none⟩ = some (u1) := m1.cell (by simp [go_sem]) (fun hf => by have := balsR.rng h1 _ hf; dsimp only at this; omega)
 have x2 : w1.cell? ⟨w.heap.size, 2, none⟩ = some (u2) := m1.cell (by simp [go_sem]) (fun hf => by have := balsR.rng h1 _ hf; dsimp only at this; omega)
 have x3 : w1.cell? ⟨w.heap.size, 3, none⟩ = some (u3) := m1.cell (by simp [go_sem]) (fun hf => by have := balsR.rng h1 _ hf; dsimp only at this; omega)
 have x4 : w1.cell? ⟨w.heap.size, 4, none⟩ = some (u4) := m1.cell (by simp [go_sem]) (fun hf => by have := balsR.rng h1 _ hf; dsimp only at this; omega)
 have x5 : w1.cell? ⟨w.heap.size, 5, none⟩ = some (u5) := m1.cell (by simp [go_sem]) (fun hf => by have := balsR.rng h1 _ hf; dsimp only at this; omega)
 go_wp2_with fail
 refine (markMarkS_u _ d.votes base F2 (k + cntBals d.bals) _ h2' (by omega) (by omega) (by omega)).mono ?_
 rintro e w2 ⟨rfl, r2, m2⟩
 have h3'' := contsR.mod h3' m2 (fun b p q => s23 b q p)
 have h4'' := mrksR.mod h4' m2 (fun b p q => s24 b q p)
 have h5'' := intsR.mod h5' m2 (fun b p q => s25 b q p)
 replace x0 : w2.cell? ⟨w.heap.size, 0, none⟩ = some (.int .i64 d.idx) := m2.cell x0 (fun hf => by have := mrksR.rng h2 _ hf; dsimp only at this; omega)
 replace x1 : w2.cell? ⟨w.heap.size, 1, none⟩ = some (u1) := m2.cell x1 (fun hf => by have := mrksR.rng h2 _ hf; dsimp only at this; omega)
 replace x2 : w2.cell? ⟨w.heap.size, 2, none⟩ = some (u2) := m2.cell x2 (fun hf => by have := mrksR.rng h2 _ hf; dsimp only at this; omega)
 replace x3 : w2.cell? ⟨w.heap.size, 3, none⟩ = some (u3) := m2.cell x3 (fun hf => by have := mrksR.rng h2 _ hf; dsimp only at this; omega)
 replace x4 : w2.cell? ⟨w.heap.size, 4, none⟩ = some (u4) := m2.cell x4 (fun hf => by have := mrksR.rng h2 _ hf; dsimp only at this; omega)
 replace x5 : w2.cell? ⟨w.heap.size, 5, none⟩ = some (u5) := m2.cell x5 (fun hf => by have := mrksR.rng h2 _ hf; dsimp only at this; omega)
 replace r1 := balsR.mod r1 m2 (fun b p q => s12 b p q)
 go_wp2_with fail
 refine (markContractS_u _ d.held base F3 (k + cntBals d.bals + cntMrks d.votes) _ h3'' (by omega) (by omega) (by omega)).mono ?_
 rintro e w3 ⟨rfl, r3, m3⟩
 have h4''' := mrksR.mod h4'' m3 (fun b p q => s34 b q p)
 have h5''' := intsR.mod h5'' m3 (fun b p q => s35 b q p)
 replace x0 : w3.cell? ⟨w.heap.size, 0, none⟩ = some (.int .i64 d.idx) := m3.cell x0 (fun hf => by have := contsR.rng h3 _ hf; dsimp only at this; omega)
 replace x1 : w3.cell? ⟨w.heap.size, 1, none⟩ = some (u1) := m3.cell x1 (fun hf => by have := contsR.rng h3 _ hf; dsimp only at this; omega)
 replace x2 : w3.cell? ⟨w.heap.size, 2, none⟩ = some (u2) := m3.cell x2 (fun hf => by have := contsR.rng h3 _ hf; dsimp only at this; omega)
 replace x3 : w3.cell? ⟨w.heap.size, 3, none⟩ = some (u3) := m3.cell x3 (fun hf => by have := contsR.rng h3 _ hf; dsimp only at this; omega)
 replace x4 : w3.cell? ⟨w.heap.size, 4, none⟩ = some (u4) := m3.cell x4 (fun hf => by have := contsR.rng h3 _ hf; dsimp only at this; omega)
 replace x5 : w3.cell? ⟨w.heap.size, 5, none⟩ = some (u5) := m3.cell x5 (fun hf => by have := contsR.rng h3 _ hf; dsimp only at this; omega)
 replace r1 := balsR.mod r1 m3 (fun b p q => s13 b p q)
 replace r2 := mrksR.mod r2 m3 (fun b p q => s23 b p q)
 go_wp2_with fail
 refine (markMarkS_u _ d.done base F4 (k + cntBals d.bals + cntMrks d.votes + cntConts d.held) _ h4''' (by omega) (by omega) (by omega)).mono ?_
 rintro e w4 ⟨rfl, r4, m4⟩
 have h5'''' := intsR.mod h5''' m4 (fun b p q => s45 b q p)
 replace x0 : w4.cell? ⟨w.heap.size, 0, none⟩ = some (.int .i64 d.idx) := m4.cell x0 (fun hf => by have := mrksR.rng h4 _ hf; dsimp only at this; omega)
 replace x1 : w4.cell? ⟨w.heap.size, 1, none⟩ = some (u1) := m4.cell x1 (fun hf => by have := mrksR.rng h4 _ hf; dsimp only at this; omega)
 replace x2 : w4.cell? ⟨w.heap.size, 2, none⟩ = some (u2) := m4.cell x2 (fun hf => by have := mrksR.rng h4 _ hf; dsimp only at this; omega)
 replace x3 : w4.cell? ⟨w.heap.size, 3, none⟩ = some (u3) := m4.cell x3 (fun hf => by have := mrksR.rng h4 _ hf; dsimp only at this; omega)
 replace x4 : w4.cell? ⟨w.heap.size, 4, none⟩ = some (u4) := m4.cell x4 (fun hf => by have := mrksR.rng h4 _ hf; dsimp only at this; omega)
 replace x5 : w4.cell? ⟨w.heap.size, 5, none⟩ = some (u5) := m4.cell x5 (fun hf => by have := mrksR.rng h4 _ hf; dsimp only at this; omega)
 replace r1 := balsR.mod r1 m4 (fun b p q => s14 b p q)
 replace r2 := mrksR.mod r2 m4 (fun b p q => s24 b p q)
 replace r3 := contsR.mod r3 m4 (fun b p q => s34 b p q)
 go_wp2_with fail
 refine (markInt64S_u _ d.appl base F5 (k + cntBals d.bals + cntMrks d.votes + cntConts d.held + cntMrks d.done) _ h5'''' (by omega) (by omega) (by omega)).mono ?_
 rintro e w5 ⟨rfl, r5, m5⟩
 replace r1 := balsR.mod r1 m5 (fun b p q => s15 b p q)
 replace r2 := mrksR.mod r2 m5 (fun b p q => s25 b p q)
 replace r3 := contsR.mod r3 m5 (fun b p q => s35 b p q)
 replace r4 := mrksR.mod r4 m5 (fun b p q => s45 b p q)
 go_wp2
 go_ret
 refine ⟨?_, ⟨_, _, _, _, _, F1, F2, F3, F4, F5, rfl, r1, r2, r3, r4, r5, s12, s13, s14, s15, s23, s24, s25, s34, s35, s45, HF.out⟩, ((((((Mod.refl F w).alloc _).trans (m1.mono (fun b hb => (HF.out b).2 (.inl hb)))).trans (m2.mono (fun b hb => (HF.out b).2 (.inr (.inl hb))))).trans (m3.mono (fun b hb => (HF.out b).2 (.inr (.inr (.inl hb)))))).trans (m4.mono (fun b hb => (HF.out b).2 (.inr (.inr (.inr (.inl hb))))))).trans (m5.mono (fun b hb => (HF.out b).2 (.inr (.inr (.inr (.inr hb))))))⟩
 simp
 try omega
set_option maxHeartbeats 1000000 in
theorem heldShard_u (v : Value) (d : Shd) (k : Int) (w : World) (hv : shdR.V w v (mkShd k d)) (hw : wtShd d ≤ 1048576) (hn : k + cntShd d ≤ 1073741824) (hk0 : 0 ≤ k) :
  Calls Tryz.prog 51 #[v, .int .i64 k] w fun r w' => r = .returned (.int .i64 (k + cntShd d)) ∧ Below w.heap.size w w' := by
 obtain ⟨u1, u2, u3, u4, u5, rfl, h1, h2, h3, h4, h5⟩ := hv
 unfold wtShd at hw
 unfold cntShd at hn ⊢
 go_enter Tryz.func51, Tryz.ntmps51
 go_wp2_with fail
 refine (heldBalanceS_u _ d.bals k _ (balsR.below h1 (qBq)) (by omega) (by omega) (by omega)).mono ?_
 rintro e w1 ⟨rfl, b1⟩
 have x0 : w1.cell? ⟨w.heap.size, 0, none⟩ = some (.int .i64 d.idx) := cK b1 (by simp [go_sem, mkShd])
 have x1 : w1.cell? ⟨w.heap.size, 1, none⟩ = some (u1) := cK b1 (by simp [go_sem, mkShd])
 have x2 : w1.cell? ⟨w.heap.size, 2, none⟩ = some (u2) := cK b1 (by simp [go_sem, mkShd])
 have x3 : w1.cell? ⟨w.heap.size, 3, none⟩ = some (u3) := cK b1 (by simp [go_sem, mkShd])
 have x4 : w1.cell? ⟨w.heap.size, 4, none⟩ = some (u4) := cK b1 (by simp [go_sem, mkShd])
 have x5 : w1.cell? ⟨w.heap.size, 5, none⟩ = some (u5) := cK b1 (by simp [go_sem, mkShd])
 go_wp2_with fail
 refine (heldMarkS_u _ d.votes (k + cntBals d.bals) _ (mrksR.below h2 (qBq)) (by omega) (by omega) (by omega)).mono ?_
 rintro e w2 ⟨rfl, b2⟩
 replace x0 : w2.cell? ⟨w.heap.size, 0, none⟩ = some (.int .i64 d.idx) := cK b2 x0
 replace x1 : w2.cell? ⟨w.heap.size, 1, none⟩ = some (u1) := cK b2 x1
 replace x2 : w2.cell? ⟨w.heap.size, 2, none⟩ = some (u2) := cK b2 x2
 replace x3 : w2.cell? ⟨w.heap.size, 3, none⟩ = some (u3) := cK b2 x3
 replace x4 : w2.cell? ⟨w.heap.size, 4, none⟩ = some (u4) := cK b2 x4
 replace x5 : w2.cell? ⟨w.heap.size, 5, none⟩ = some (u5) := cK b2 x5
 go_wp2_with fail
 refine (heldContractS_u _ d.held (k + cntBals d.bals + cntMrks d.votes) _ (contsR.below h3 (qBq)) (by omega) (by omega) (by omega)).mono ?_
 rintro e w3 ⟨rfl, b3⟩
 replace x0 : w3.cell? ⟨w.heap.size, 0, none⟩ = some (.int .i64 d.idx) := cK b3 x0
 replace x1 : w3.cell? ⟨w.heap.size, 1, none⟩ = some (u1) := cK b3 x1
 replace x2 : w3.cell? ⟨w.heap.size, 2, none⟩ = some (u2) := cK b3 x2
 replace x3 : w3.cell? ⟨w.heap.size, 3, none⟩ = some (u3) := cK b3 x3
 replace x4 : w3.cell? ⟨w.heap.size, 4, none⟩ = some (u4) := cK b3 x4
 replace x5 : w3.cell? ⟨w.heap.size, 5, none⟩ = some (u5) := cK b3 x5
 go_wp2_with fail
 refine (heldMarkS_u _ d.done (k + cntBals d.bals + cntMrks d.votes + cntConts d.held) _ (mrksR.below h4 (qBq)) (by omega) (by omega) (by omega)).mono ?_
 rintro e w4 ⟨rfl, b4⟩
 replace x0 : w4.cell? ⟨w.heap.size, 0, none⟩ = some (.int .i64 d.idx) := cK b4 x0
 replace x1 : w4.cell? ⟨w.heap.size, 1, none⟩ = some (u1) := cK b4 x1
 replace x2 : w4.cell? ⟨w.heap.size, 2, none⟩ = some (u2) := cK b4 x2
 replace x3 : w4.cell? ⟨w.heap.size, 3, none⟩ = some (u3) := cK b4 x3
 replace x4 : w4.cell? ⟨w.heap.size, 4, none⟩ = some (u4) := cK b4 x4
 replace x5 : w4.cell? ⟨w.heap.size, 5, none⟩ = some (u5) := cK b4 x5
 go_wp2_with fail
 refine (heldInt64S_u _ d.appl (k + cntBals d.bals + cntMrks d.votes + cntConts d.held + cntMrks d.done) _ (intsR.below h5 (qBq)) (by omega) (by omega) (by omega)).mono ?_
 rintro e w5 ⟨rfl, b5⟩
 go_wp2
 go_ret
 refine ⟨?_, qBq⟩
 simp
 try omega
end Go.Proofs.YtndghenlapbaaaaGreat

/-
 ShardResult. (Written by program: nest.py.)
-/
namespace Go.Proofs.YtndghenlapbaaaaGreat
open Go.RowKit
variable [DecidableEq Bal] [Inhabited Bal] [DecidableEq Mrk] [Inhabited Mrk] [DecidableEq Leg] [Inhabited Leg] [DecidableEq Cont] [Inhabited Cont] [DecidableEq Shd] [Inhabited Shd]
attribute [local go_sem ↓] Go.wp_at_zero Go.wp_at_succ


structure ShdR where
 code : Int
 vote : Int
 shard : Shd
variable [DecidableEq ShdR] [Inhabited ShdR]

def shdRR : Rep ShdR where
 V := fun w v x => ∃ u1_1 u1_2 u1_3 u1_4 u1_5, v = .agg #[.int .i64 x.code, .int .i64 x.vote, .int .i64 x.shard.idx, u1_1, u1_2, u1_3, u1_4, u1_5] ∧ shdR.V w (.agg #[.int .i64 x.shard.idx, u1_1, u1_2, u1_3, u1_4, u1_5]) x.shard
 O := fun w base F v x => ∃ u1_1 u1_2 u1_3 u1_4 u1_5 F1, v = .agg #[.int .i64 x.code, .int .i64 x.vote, .int .i64 x.shard.idx, u1_1, u1_2, u1_3, u1_4, u1_5] ∧ shdR.O w base F1 (.agg #[.int .i64 x.shard.idx, u1_1, u1_2, u1_3, u1_4, u1_5]) x.shard ∧ (∀ b, F b ↔ (F1 b))
 below := fun h hb => by
  obtain ⟨u1_1, u1_2, u1_3, u1_4, u1_5, rfl, h1⟩ := h
  exact ⟨u1_1, u1_2, u1_3, u1_4, u1_5, rfl, shdR.below h1 hb⟩
 ofO := fun h => by
  obtain ⟨u1_1, u1_2, u1_3, u1_4, u1_5, F1, rfl, h1, _⟩ := h
  exact ⟨u1_1, u1_2, u1_3, u1_4, u1_5, rfl, shdR.ofO h1⟩
 mod := fun h hm hd => by
  obtain ⟨u1_1, u1_2, u1_3, u1_4, u1_5, F1, rfl, h1, hF⟩ := h
  exact ⟨u1_1, u1_2, u1_3, u1_4, u1_5, F1, rfl, shdR.mod h1 hm (fun b hb => hd b ((hF b).2 hb)), hF⟩
 rng := fun h b hb => by
  obtain ⟨u1_1, u1_2, u1_3, u1_4, u1_5, F1, rfl, h1, hF⟩ := h
  rcases (hF b).1 hb with hb
  ·
   exact shdR.rng h1 b hb
 base := fun h hb => by
  obtain ⟨u1_1, u1_2, u1_3, u1_4, u1_5, F1, rfl, h1, hF⟩ := h
  exact ⟨u1_1, u1_2, u1_3, u1_4, u1_5, F1, rfl, shdR.base h1 hb, hF⟩
def wtShdR (x : ShdR) : Nat := wtShd x.shard
def cntShdR (x : ShdR) : Nat := cntShd x.shard
def mkShdR (k : Int) (x : ShdR) : ShdR := { x with shard := mkShd k x.shard }
theorem shdR_form {w : World} {v : Value} {x : ShdR} (h : shdRR.V w v x) : ∃ a1_1 a1_2 a1_3 a1_4 a1_5 c1_1 c1_2 c1_3 c1_4 c1_5, v = .agg #[.int .i64 x.code, .int .i64 x.vote, .int .i64 x.shard.idx, .slice a1_1 x.shard.bals.length c1_1, .slice a1_2 x.shard.votes.length c1_2, .slice a1_3 x.shard.held.length c1_3, .slice a1_4 x.shard.done.length c1_4, .slice a1_5 x.shard.appl.length c1_5] := by
 obtain ⟨u1_1, u1_2, u1_3, u1_4, u1_5, rfl, h1⟩ := h
 obtain ⟨a1_1, a1_2, a1_3, a1_4, a1_5, c1_1, c1_2, c1_3, c1_4, c1_5, e1⟩ := shd_form h1
 simp only [Value.agg.injEq, Array.mk.injEq, List.cons.injEq, and_true, true_and] at e1
 obtain ⟨rfl, rfl, rfl, rfl, rfl⟩ := e1
 exact ⟨_, _, _, _, _, _, _, _, _, _, rfl⟩
theorem shdR_cnt (d : ShdR) : cntShdR d ≤ 5 * wtShdR d := by
 unfold cntShdR wtShdR
 have q1 := shd_cnt d.shard
 omega
set_option maxHeartbeats 1000000 in
theorem eqShardResult_u (x y : Value) (d d' : ShdR) (w : World) (hx : shdRR.V w x d) (hy : shdRR.V w y d') :
  Calls Tryz.prog 11 #[x, y] w fun e w' => e = .returned (.bool (decide (d = d'))) ∧ Below w.heap.size w w' := by
 obtain ⟨u1_1, u1_2, u1_3, u1_4, u1_5, rfl, h1⟩ := hx
 obtain ⟨v1_1, v1_2, v1_3, v1_4, v1_5, rfl, k1⟩ := hy
 obtain ⟨code, vote, shard⟩ := d
 obtain ⟨code', vote', shard'⟩ := d'
 dsimp only at h1 k1
 go_enter Tryz.func11, Tryz.ntmps11
 go_wp2_with fail
 all_goals try (go_ret; exact ⟨by simp_all, qBq⟩)
 refine (eqShard_u _ _ shard shard' _ (shdR.below h1 (qBq)) (shdR.below k1 (qBq))).mono ?_
 rintro e w1 ⟨rfl, b1⟩
 go_wp2
 all_goals
  go_ret
  exact ⟨by simp_all, qBq⟩
set_option maxHeartbeats 1000000 in
theorem markShardResult_u (v : Value) (d : ShdR) (base : Nat) (F : Nat → Prop) (k : Int) (w : World) (ho : shdRR.O w base F v d) (hw : wtShdR d ≤ 1048576) (hn : k + cntShdR d ≤ 1073741824) (hk0 : 0 ≤ k) :
  Calls Tryz.prog 16 #[v, .int .i64 k] w fun r w' => r = .returned (.int .i64 (k + cntShdR d)) ∧ shdRR.O w' base F v (mkShdR k d) ∧ Mod F w w' := by
 obtain ⟨u1_1, u1_2, u1_3, u1_4, u1_5, F1, rfl, h1, hF⟩ := ho
 unfold wtShdR at hw
 unfold cntShdR at hn ⊢
 have HF : Hid (∀ b, F b ↔ (F1 b)) := hF
 clear hF
 go_enter Tryz.func16, Tryz.ntmps16
 go_wp2_with fail
 refine (markShard_u _ d.shard base F1 k _ (shdR.alloc h1 _) (by omega) (by omega) (by omega)).mono ?_
 rintro e w1 ⟨rfl, r1, m1⟩
 go_wp2
 go_ret
 refine ⟨?_, ⟨_, _, _, _, _, F1, rfl, r1, HF.out⟩, ((Mod.refl F w).alloc _).trans (m1.mono (fun b hb => (HF.out b).2 hb))⟩
 simp
 try omega
set_option maxHeartbeats 1000000 in
theorem heldShardResult_u (v : Value) (d : ShdR) (k : Int) (w : World) (hv : shdRR.V w v (mkShdR k d)) (hw : wtShdR d ≤ 1048576) (hn : k + cntShdR d ≤ 1073741824) (hk0 : 0 ≤ k) :
  Calls Tryz.prog 17 #[v, .int .i64 k] w fun r w' => r = .returned (.int .i64 (k + cntShdR d)) ∧ Below w.heap.size w w' := by
 obtain ⟨u1_1, u1_2, u1_3, u1_4, u1_5, rfl, h1⟩ := hv
 unfold wtShdR at hw
 unfold cntShdR at hn ⊢
 go_enter Tryz.func17, Tryz.ntmps17
 go_wp2_with fail
 refine (heldShard_u _ d.shard k _ (shdR.below h1 (qBq)) (by omega) (by omega) (by omega)).mono ?_
 rintro e w1 ⟨rfl, b1⟩
 go_wp2
 go_ret
 refine ⟨?_, qBq⟩
 simp
 try omega
end Go.Proofs.YtndghenlapbaaaaGreat

/-
 A shard, in mathematics.
-/
namespace Go.Proofs.YtndghenlapbaaaaGreat
open Go.RowKit
variable [DecidableEq Rw] [Inhabited Rw] [DecidableEq Bal] [Inhabited Bal] [DecidableEq Ledg] [Inhabited Ledg] [DecidableEq Leg] [Inhabited Leg] [DecidableEq Cont] [Inhabited Cont] [DecidableEq LedgR] [Inhabited LedgR] [DecidableEq OutcR] [Inhabited OutcR] [DecidableEq Mrk] [Inhabited Mrk] [DecidableEq Shd] [Inhabited Shd] [DecidableEq ShdR] [Inhabited ShdR]

def findM (c : Int) : List Mrk → Int
 | [] => 0
 | m :: r => if m.con = c then m.val else findM c r
def mrkAt (xs : List Mrk) (k : Nat) : Int := if (inB (xs.getD k default).con 1 1000000000 && inB (xs.getD k default).val 1 2) = true then (if 0 < k ∧ ¬ (xs.getD (k - 1) default).con < (xs.getD k default).con then 1 else 0) else 3
def mrkF (xs : List Mrk) : Int := scanI (mrkAt xs) xs.length
def heldIn (hs : List Cont) (c : Int) : Bool := hs.any (fun x => x.id == c)
def sameAA (x y : Leg) : Bool := x.ac == y.ac && x.ast == y.ast
def touch (a b : List Leg) : Bool := a.any (fun x => b.any (fun y => sameAA x y))
def riseC (hs : List Cont) (k : Nat) : Bool := decide (k = 0 ∨ (hs.getD (k - 1) default).id < (hs.getD k default).id)
def heldAt (s : Shd) (k : Nat) : Int :=
 if contractFault (s.held.getD k default).id (s.held.getD k default).legs = 0 then
  (if riseC s.held k = true ∧ ¬ (onSh s.idx (s.held.getD k default).legs).length = 0 ∧ findM (s.held.getD k default).id s.votes = 1 ∧ findM (s.held.getD k default).id s.done = 0 then 0 else 1)
 else contractFault (s.held.getD k default).id (s.held.getD k default).legs
def lostAt (s : Shd) (k : Nat) : Int := if (s.votes.getD k default).val = 1 ∧ heldIn s.held (s.votes.getD k default).con = false ∧ findM (s.votes.getD k default).con s.done = 0 then 1 else 0
def doneL (s : List Mrk) : List Int := (s.filter (fun m => m.val == 1)).map (fun m => m.con)
def applG (done : List Mrk) (appl : List Int) : Bool := decide ((doneL done).length = appl.length ∧ ∀ k, k < appl.length → findM (appl.getD k 0) done = 1 ∧ ¬ (appl.getD k 0) ∈ appl.take k)
def legsH (s : Shd) (k : Nat) : List Leg := onSh s.idx (s.held.getD k default).legs
def apartAt (s : Shd) (k : Nat) : Int := if (List.range k).any (fun j => touch (legsH s k) (legsH s j)) = true then 7 else 0
def canLs (xs : List Bal) (ls : List Leg) : Int := scanI (fun k => canB xs (ls.getD k default)) ls.length
def coverAt (s : Shd) (k : Nat) : Int := canLs s.bals (legsH s k)
def baseF (idx : Int) (bs : List Bal) : Int := if inB idx 0 2 = true then balFault bs else 3
def listsF (s : Shd) : Int :=
 if baseF s.idx s.bals = 0 then
  (if 100 < s.votes.length ∨ 100 < s.held.length ∨ 100 < s.done.length ∨ 100 < s.appl.length then 2
   else if mrkF s.votes = 0 then
    (if mrkF s.done = 0 then
     (if scanI (heldAt s) s.held.length = 0 then
      (if scanI (lostAt s) s.votes.length = 0 then (if applG s.done s.appl = true then 0 else 1) else 1)
     else scanI (heldAt s) s.held.length)
    else mrkF s.done)
   else mrkF s.votes)
 else baseF s.idx s.bals
def keptF (s : Shd) : Int := if scanI (apartAt s) s.held.length = 0 then scanI (coverAt s) s.held.length else scanI (apartAt s) s.held.length
def shdF (s : Shd) : Int := if listsF s = 0 then keptF s else listsF s
theorem findM_drop {c : Int} {xs : List Mrk} {k : Nat} (h : k < xs.length) : findM c (xs.drop k) = if (xs.getD k default).con = c then (xs.getD k default).val else findM c (xs.drop (k + 1)) := by
 rw [List.drop_eq_getElem_cons h]
 simp [findM, List.getD, h]
theorem findM_skip {c : Int} {xs : List Mrk} : ∀ {i : Nat}, i ≤ xs.length → (∀ k, k < i → ¬ (xs.getD k default).con = c) → findM c xs = findM c (xs.drop i)
 | 0, _, _ => by simp
 | i + 1, h, hn => by
  rw [findM_skip (i := i) (by omega) (fun k hk => hn k (by omega)), findM_drop (by omega), if_neg (hn i (by omega))]
theorem findM_none {c : Int} {xs : List Mrk} (h : ∀ k, k < xs.length → ¬ (xs.getD k default).con = c) : findM c xs = 0 := by
 rw [findM_skip (Nat.le_refl _) h]; simp [findM]
structure MrksOk (xs : List Mrk) : Prop where
 ok : ∀ k, k < xs.length → (1 ≤ (xs.getD k default).con ∧ (xs.getD k default).con ≤ 1000000000) ∧ (1 ≤ (xs.getD k default).val ∧ (xs.getD k default).val ≤ 2)
 rise : ∀ i j, i < j → j < xs.length → (xs.getD i default).con < (xs.getD j default).con
theorem mrksOk_of {xs : List Mrk} (h : mrkF xs = 0) : MrksOk xs := by
 have h1 : ∀ k, k < xs.length → mrkAt xs k = 0 := scanI_zero h
 have hr : ∀ k, k + 1 < xs.length → (xs.getD k default).con < (xs.getD (k + 1) default).con := fun k hk => by
  have h2 := h1 (k + 1) hk
  unfold mrkAt at h2
  split at h2
  ·
   split at h2
   ·
    omega
   ·
    rename_i h3
    rw [Nat.add_sub_cancel] at h3
    by_cases h4 : (xs.getD k default).con < (xs.getD (k + 1) default).con
    ·
     exact h4
    ·
     exact absurd ⟨by omega, h4⟩ h3
  ·
   omega
 refine ⟨fun k hk => ?_, fun i j => ?_⟩
 ·
  have h2 := h1 k hk
  unfold mrkAt at h2
  split at h2
  ·
   rename_i h3
   simp only [Bool.and_eq_true, inBi] at h3
   exact h3
  ·
   omega
 ·
  induction j with
  | zero => intro h; omega
  | succ j ih =>
   intro hij hj
   have := hr j hj
   by_cases e : i = j
   ·
    rw [e]; exact this
   ·
    have := ih (by omega) (by omega); omega
theorem findM_at {xs : List Mrk} {c : Int} {i : Nat} (hr : ∀ i j, i < j → j < xs.length → (xs.getD i default).con < (xs.getD j default).con) (hi : i ≤ xs.length) (h1 : ∀ k, k < i → (xs.getD k default).con < c) (h2 : ∀ k, i ≤ k → k < xs.length → c ≤ (xs.getD k default).con) :
  findM c xs = if i < xs.length ∧ (xs.getD i default).con = c then (xs.getD i default).val else 0 := by
 rw [findM_skip hi (fun k hk => by have := h1 k hk; omega)]
 by_cases hl : i < xs.length
 ·
  rw [findM_drop hl]
  by_cases he : (xs.getD i default).con = c
  ·
   rw [if_pos he, if_pos ⟨hl, he⟩]
  ·
   rw [if_neg he, if_neg (fun h => he h.2)]
   refine findM_none fun k hk => ?_
   rw [List.length_drop] at hk
   have e : (xs.drop (i + 1)).getD k default = xs.getD (i + 1 + k) default := by simp [List.getD]
   rw [e]
   have a := hr i (i + 1 + k) (by omega) (by omega)
   have b := h2 i (Nat.le_refl _) hl
   omega
 ·
  rw [if_neg (fun h => hl h.1), List.drop_eq_nil_of_le (by omega)]; rfl
theorem heldIn_mem {hs : List Cont} {c : Int} : heldIn hs c = true ↔ ∃ k, k < hs.length ∧ (hs.getD k default).id = c := by
 unfold heldIn
 rw [List.any_eq_true]
 constructor
 ·
  rintro ⟨x, hx, h⟩
  obtain ⟨k, hk, rfl⟩ := List.getElem_of_mem hx
  exact ⟨k, hk, by simpa [List.getD, hk] using h⟩
 ·
  rintro ⟨k, hk, h⟩
  exact ⟨hs[k], List.getElem_mem hk, by simpa [List.getD, hk] using h⟩
theorem heldIn_at {hs : List Cont} {c : Int} {i : Nat} (hr : ∀ i j, i < j → j < hs.length → (hs.getD i default).id < (hs.getD j default).id) (h1 : ∀ k, k < i → (hs.getD k default).id < c) (h2 : ∀ k, i ≤ k → k < hs.length → c ≤ (hs.getD k default).id) :
  heldIn hs c = decide (i < hs.length ∧ (hs.getD i default).id = c) := by
 rw [Bool.eq_iff_iff, heldIn_mem, decide_eq_true_iff]
 constructor
 ·
  rintro ⟨k, hk, e⟩
  by_cases a : k < i
  ·
   have := h1 k a; omega
  ·
   by_cases b : k = i
   ·
    rw [← b]; exact ⟨hk, e⟩
   ·
    have := hr i k (by omega) hk
    have := h2 i (Nat.le_refl _) (by omega)
    omega
 ·
  rintro ⟨a, b⟩; exact ⟨i, a, b⟩
theorem heldIn_take {hs : List Cont} {c : Int} {k : Nat} (hk : k < hs.length) : heldIn (hs.take (k + 1)) c = (heldIn (hs.take k) c || decide ((hs.getD k default).id = c)) := by
 have e : hs.take (k + 1) = hs.take k ++ [hs.getD k default] := by rw [List.take_add_one]; simp [List.getD, hk]
 unfold heldIn
 rw [e, List.any_append]
 simp only [List.any_cons, List.any_nil, Bool.or_false]
 congr 1
theorem doneL_snoc {xs : List Mrk} {k : Nat} (hk : k < xs.length) : doneL (xs.take (k + 1)) = if (xs.getD k default).val = 1 then doneL (xs.take k) ++ [(xs.getD k default).con] else doneL (xs.take k) := by
 have e : xs.take (k + 1) = xs.take k ++ [xs.getD k default] := by rw [List.take_add_one]; simp [List.getD, hk]
 unfold doneL
 rw [e, List.filter_append, List.map_append]
 by_cases h : (xs.getD k default).val = 1
 ·
  rw [if_pos h, List.filter_cons_of_pos (by simp only [beq_iff_eq]; exact h)]; rfl
 ·
  rw [if_neg h, List.filter_cons_of_neg (by simp only [beq_iff_eq]; exact h)]; simp
theorem doneL_le (xs : List Mrk) : (doneL xs).length ≤ xs.length := by
 unfold doneL; rw [List.length_map]; exact List.length_filter_le _ _
theorem doneL_mem {xs : List Mrk} (h : MrksOk xs) {c : Int} : c ∈ doneL xs ↔ findM c xs = 1 := by
 unfold doneL
 rw [List.mem_map]
 constructor
 ·
  rintro ⟨m, hm, rfl⟩
  obtain ⟨h1, h2⟩ := List.mem_filter.1 hm
  obtain ⟨k, hk, rfl⟩ := List.getElem_of_mem h1
  have e : xs[k] = xs.getD k default := by simp [List.getD, hk]
  rw [e] at h2 ⊢
  rw [findM_at (i := k) h.rise (by omega) (fun j hj => h.rise j k hj hk) (fun j hj hl => by
   by_cases e : k = j
   ·
    rw [e]; exact Int.le_refl _
   ·
    have := h.rise k j (by omega) hl; omega), if_pos ⟨hk, rfl⟩]
  simpa using h2
 ·
  intro hf
  by_cases hex : ∃ k, k < xs.length ∧ (xs.getD k default).con = c
  ·
   obtain ⟨k, hk, rfl⟩ := hex
   rw [findM_at (i := k) h.rise (by omega) (fun j hj => h.rise j k hj hk) (fun j hj hl => by
    by_cases e : k = j
    ·
     rw [e]; exact Int.le_refl _
    ·
     have := h.rise k j (by omega) hl; omega), if_pos ⟨hk, rfl⟩] at hf
   have e : xs[k] = xs.getD k default := by simp [List.getD, hk]
   exact ⟨xs[k], List.mem_filter.2 ⟨List.getElem_mem hk, by rw [e]; simp only [beq_iff_eq]; exact hf⟩, by rw [e]⟩
  ·
   rw [findM_none (fun k hk he => hex ⟨k, hk, he⟩)] at hf; omega
theorem doneL_rise {xs : List Mrk} (h : MrksOk xs) : (doneL xs).Pairwise (fun a b => a < b) := by
 unfold doneL
 rw [List.pairwise_map]
 refine List.Pairwise.filter _ ?_
 rw [List.pairwise_iff_getElem]
 intro i j hi hj hij
 have := h.rise i j hij hj
 simpa [List.getD, hi, hj] using this
theorem perm_of_sub : ∀ {l1 l2 : List Int}, l1.Nodup → (∀ x ∈ l1, x ∈ l2) → l2.length = l1.length → l1.Perm l2
 | [], l2, _, _, hl => by rw [List.length_nil] at hl; rw [List.eq_nil_of_length_eq_zero hl]
 | x :: l1, l2, hn, hs, hl => by
  obtain ⟨hx, hn⟩ := List.nodup_cons.1 hn
  have hm := hs x (List.mem_cons_self ..)
  have hp := List.perm_cons_erase hm
  refine List.Perm.trans (List.Perm.cons x (perm_of_sub hn (fun y hy => ?_) ?_)) hp.symm
  ·
   have : y ≠ x := fun e => hx (e ▸ hy)
   exact (List.mem_erase_of_ne this).2 (hs y (List.mem_cons_of_mem _ hy))
  ·
   rw [List.length_erase_of_mem hm, hl]; rfl
theorem nodup_take {l : List Int} (h : ∀ k, k < l.length → ¬ (l.getD k 0) ∈ l.take k) : l.Nodup := by
 unfold List.Nodup
 rw [List.pairwise_iff_getElem]
 intro i j hi hj hij e
 refine h j hj ?_
 have e2 : l.getD j 0 = l[j] := by simp [List.getD, hj]
 rw [e2, ← e]
 exact List.mem_take_iff_getElem.2 ⟨i, by omega, rfl⟩
theorem take_nodup {l : List Int} (h : l.Nodup) {k : Nat} (hk : k < l.length) : ¬ (l.getD k 0) ∈ l.take k := by
 intro hm
 obtain ⟨i, hi, e⟩ := List.mem_take_iff_getElem.1 hm
 unfold List.Nodup at h
 rw [List.pairwise_iff_getElem] at h
 have e2 : l.getD k 0 = l[k] := by simp [List.getD, hk]
 exact h i k (by omega) hk (by omega) (by rw [e, e2])
theorem applG_sort {done : List Mrk} (h : MrksOk done) (appl : List Int) : applG done appl = decide (appl.mergeSort (fun x y => decide (x ≤ y)) = doneL done) := by
 unfold applG
 rw [decide_eq_decide]
 have hsort := doneL_rise h
 have hle : (doneL done).Pairwise (fun a b => decide (a ≤ b) = true) := hsort.imp (fun h => by simp; omega)
 constructor
 ·
  rintro ⟨hl, hk⟩
  have hp : appl.Perm (doneL done) := perm_of_sub (nodup_take fun k hk' => (hk k hk').2) (fun x hx => by
   obtain ⟨k, hk', rfl⟩ := List.getElem_of_mem hx
   have := (hk k hk').1
   rw [doneL_mem h]
   simpa [List.getD, hk'] using this) hl
  refine List.Perm.eq_of_pairwise (le := fun a b => decide (a ≤ b) = true) (fun a b _ _ h1 h2 => ?_) (List.pairwise_mergeSort (fun a b c h1 h2 => ?_) (fun a b => ?_) _) hle ((List.mergeSort_perm _ _).trans hp)
  ·
   simp at h1 h2; omega
  ·
   simp at h1 h2 ⊢; omega
  ·
   simp; omega
 ·
  intro he
  have hp : appl.Perm (doneL done) := by rw [← he]; exact (List.mergeSort_perm _ _).symm
  have hn : appl.Nodup := hp.nodup_iff.2 (hsort.imp (fun h e => by omega))
  refine ⟨hp.length_eq.symm, fun k hk => ⟨?_, take_nodup hn hk⟩⟩
  rw [← doneL_mem h]
  exact hp.mem_iff.1 (by simp [List.getD, hk])
def apartB (idx : Int) (hs : List Cont) (ls : List Leg) : Bool := (onSh idx ls).any (fun l => hs.any (fun o => hasPlace o.legs l))
theorem touch_place {idx : Int} {a b : List Leg} : (onSh idx a).any (fun l => hasPlace b l) = touch (onSh idx a) (onSh idx b) := by
 unfold touch
 rw [Bool.eq_iff_iff, List.any_eq_true, List.any_eq_true]
 constructor
 ·
  rintro ⟨l, hl, h⟩
  refine ⟨l, hl, ?_⟩
  unfold hasPlace at h
  rw [List.any_eq_true] at h ⊢
  obtain ⟨o, ho, h⟩ := h
  simp only [samePlace, Bool.and_eq_true, beq_iff_eq] at h
  obtain ⟨_, hs⟩ := List.mem_filter.1 hl
  simp only [beq_iff_eq] at hs
  exact ⟨o, List.mem_filter.2 ⟨ho, by simp only [beq_iff_eq]; omega⟩, by simp only [sameAA, Bool.and_eq_true, beq_iff_eq]; omega⟩
 ·
  rintro ⟨l, hl, h⟩
  refine ⟨l, hl, ?_⟩
  unfold hasPlace
  rw [List.any_eq_true] at h ⊢
  obtain ⟨o, ho, h⟩ := h
  obtain ⟨ho, hs⟩ := List.mem_filter.1 ho
  obtain ⟨_, hs2⟩ := List.mem_filter.1 hl
  simp only [sameAA, Bool.and_eq_true, beq_iff_eq] at h hs hs2
  exact ⟨o, ho, by simp only [samePlace, Bool.and_eq_true, beq_iff_eq]; omega⟩
theorem apartB_touch {idx : Int} {hs : List Cont} {ls : List Leg} : apartB idx hs ls = hs.any (fun o => touch (onSh idx ls) (onSh idx o.legs)) := by
 unfold apartB
 have e : ∀ o : Cont, touch (onSh idx ls) (onSh idx o.legs) = (onSh idx ls).any (fun l => hasPlace o.legs l) := fun o => touch_place.symm
 simp only [e]
 rw [Bool.eq_iff_iff]
 simp only [List.any_eq_true]
 constructor
 ·
  rintro ⟨l, hl, o, ho, h⟩; exact ⟨o, ho, l, hl, h⟩
 ·
  rintro ⟨o, ho, l, hl, h⟩; exact ⟨l, hl, o, ho, h⟩
theorem apartB_range {idx : Int} {hs : List Cont} {ls : List Leg} {k : Nat} (hk : k ≤ hs.length) : apartB idx (hs.take k) ls = (List.range k).any (fun j => touch (onSh idx ls) (onSh idx (hs.getD j default).legs)) := by
 rw [apartB_touch, Bool.eq_iff_iff]
 simp only [List.any_eq_true, List.mem_range]
 constructor
 ·
  rintro ⟨o, ho, h⟩
  obtain ⟨i, hi, e⟩ := List.mem_take_iff_getElem.1 ho
  refine ⟨i, by omega, ?_⟩
  have : hs.getD i default = o := by rw [← e]; simp [List.getD, show i < hs.length by omega]
  rw [this]; exact h
 ·
  rintro ⟨j, hj, h⟩
  refine ⟨hs.getD j default, List.mem_take_iff_getElem.2 ⟨j, by omega, by simp [List.getD, show j < hs.length by omega]⟩, h⟩
end Go.Proofs.YtndghenlapbaaaaGreat

/-
 Marks and contracts of a shard: what is found, the document's.
-/
namespace Go.Proofs.YtndghenlapbaaaaGreat
open Go.RowKit
variable [DecidableEq Rw] [Inhabited Rw] [DecidableEq Bal] [Inhabited Bal] [DecidableEq Ledg] [Inhabited Ledg] [DecidableEq Leg] [Inhabited Leg] [DecidableEq Cont] [Inhabited Cont] [DecidableEq LedgR] [Inhabited LedgR] [DecidableEq OutcR] [Inhabited OutcR] [DecidableEq Mrk] [Inhabited Mrk] [DecidableEq Shd] [Inhabited Shd] [DecidableEq ShdR] [Inhabited ShdR]
attribute [local go_sem ↓] Go.wp_at_zero Go.wp_at_succ

theorem conts_at {w : World} {v : Value} {xs : List Cont} (hx : contsR.V w v xs) : ∃ a c, v = .slice a xs.length c ∧ xs.length ≤ c ∧ c ≤ maxLen ∧ ∀ k, k < xs.length → ∃ b o p q, a = some ⟨b, o, none⟩ ∧ w.cell? ⟨b, o + k * 2, none⟩ = some (.int .i64 (xs.getD k default).id) ∧ w.cell? ⟨b, o + k * 2 + 1, none⟩ = some (.slice p (xs.getD k default).legs.length q) ∧ contR.V w (.agg #[.int .i64 (xs.getD k default).id, .slice p (xs.getD k default).legs.length q]) (xs.getD k default) := by
 obtain ⟨a, c, rfl, h1, h2, h3⟩ := hx
 refine ⟨a, c, rfl, h1, h2, fun k hk => ?_⟩
 obtain ⟨b, o, u, e, _, p, hv⟩ := h3 k hk
 have hV := hv
 obtain ⟨s, rfl, hc⟩ := hv
 obtain ⟨au, cu, rfl⟩ := legs_form hc
 exact ⟨b, o, au, cu, e, p 0 (by omega), p 1 (by omega), hV⟩
theorem mrkAt_bad {xs : List Mrk} {k : Nat} (h : (inB (xs.getD k default).con 1 1000000000 && inB (xs.getD k default).val 1 2) = false) : mrkAt xs k = 3 := by unfold mrkAt; rw [h]; rfl
theorem mrkAt_zero {xs : List Mrk} (h : (inB (xs.getD 0 default).con 1 1000000000 && inB (xs.getD 0 default).val 1 2) = true) : mrkAt xs 0 = 0 := by unfold mrkAt; rw [if_pos h, if_neg (by omega)]
theorem mrkAt_fall {xs : List Mrk} {k : Nat} (h : (inB (xs.getD (k + 1) default).con 1 1000000000 && inB (xs.getD (k + 1) default).val 1 2) = true) (h2 : (xs.getD (k + 1) default).con ≤ (xs.getD k default).con) : mrkAt xs (k + 1) = 1 := by unfold mrkAt; rw [if_pos h, if_pos ⟨by omega, by rw [Nat.add_sub_cancel]; omega⟩]
theorem mrkAt_rise {xs : List Mrk} {k : Nat} (h : (inB (xs.getD (k + 1) default).con 1 1000000000 && inB (xs.getD (k + 1) default).val 1 2) = true) (h2 : (xs.getD k default).con < (xs.getD (k + 1) default).con) : mrkAt xs (k + 1) = 0 := by unfold mrkAt; rw [if_pos h, if_neg (by rw [Nat.add_sub_cancel]; omega)]
theorem mrkF_hit {xs : List Mrk} {k : Nat} {c : Int} (hk : k < xs.length) (hs : scanI (mrkAt xs) k = 0) (h : mrkAt xs k = c) (hc : c ≠ 0) : mrkF xs = c := by
 unfold mrkF; rw [scanI_hit hs (by rw [h]; exact hc) _ hk, h]
set_option maxHeartbeats 2000000 in
theorem l10Find_any (x : Value) (xs : List Mrk) (c : Int) (w : World) (hx : mrksR.V w x xs) :
  Calls Tryz.prog 65 #[x, .int .i64 c] w fun e w' => e = .returned (.int .i64 (findM c xs)) ∧ Below w.heap.size w w' := by
 obtain ⟨ax, cx, rfl, hcx, hmx, hx⟩ := hx
 unfold maxLen at hmx
 have HS0 : Hid (∀ k, k < xs.length → findM c (xs.drop k) = if (xs.getD k default).con = c then (xs.getD k default).val else findM c (xs.drop (k + 1))) := fun k hk => findM_drop hk
 have HE : Hid (findM c (xs.drop xs.length) = 0) := by show _ = _; rw [List.drop_length]; rfl
 generalize hn' : xs.length = n at *
 clear hn'
 go_enter Tryz.func65, Tryz.ntmps65
 go_wp2
 go_loopw [5] (fun i w' => ∃ k : Nat, k ≤ n ∧ i = .int .i64 k ∧ Hid (findM c xs = findM c (xs.drop k)) ∧ Below w.heap.size w w') (fun i _ => n - (intOf i).toNat)
 case atStart => exact ⟨0, Nat.zero_le _, rfl, rfl, Below.refl _ _⟩
 case round =>
  obtain ⟨k, hk, rfl, HS, hbl⟩ := hrel
  by_cases hlt : k < n
  ·
   obtain ⟨bx, ox, rfl, g1⟩ := hx k hlt
   have h1 := HS0.out k hlt
   obtain ⟨l, hl⟩ : ∃ l, l = xs.getD k default := ⟨_, rfl⟩
   rw [← hl] at g1 h1
   have H1 : Hid (findM c (xs.drop k) = if l.con = c then l.val else findM c (xs.drop (k + 1))) := h1
   clear hl hx h1
   obtain ⟨a1, a2⟩ := mrkCells_below hbl g1
   by_cases he : l.con = c
   ·
    have HC : Hid (findM c xs = l.val) := by show _ = _; rw [HS.out, H1.out, if_pos he]
    have he' : (l.con == c) = true := by simp [he]
    clear H1 HS
    go_wp2
    go_ret
    exact ⟨by rw [HC.out]; rfl, qBq⟩
   ·
    have HC : Hid (findM c xs = findM c (xs.drop (k + 1))) := by show _ = _; rw [HS.out, H1.out, if_neg he]
    have he' : (l.con == c) = false := by simp [he]
    clear H1 HS
    go_wp2
    exact ⟨⟨k + 1, by omega, by go_num, HC, qBq⟩, by simp [intOf]; omega⟩
  ·
   have hkn : k = n := by omega
   subst hkn
   have HC : Hid (findM c xs = 0) := by show _ = _; rw [HS.out, HE.out]
   go_wp2
   go_ret
   exact ⟨by rw [HC.out]; rfl, qBq⟩
set_option maxHeartbeats 4000000 in
theorem l10Marks_any (x : Value) (xs : List Mrk) (w : World) (hx : mrksR.V w x xs) :
  Calls Tryz.prog 61 #[x] w fun e w' => e = .returned (.int .i64 (mrkF xs)) ∧ Below w.heap.size w w' := by
 obtain ⟨ax, cx, rfl, hcx, hmx, hx⟩ := hx
 unfold maxLen at hmx
 have HH : Hid (∀ k c, k < xs.length → scanI (mrkAt xs) k = 0 → mrkAt xs k = c → c ≠ 0 → mrkF xs = c) := fun k c hk hs h hc => mrkF_hit hk hs h hc
 have HE : Hid (scanI (mrkAt xs) xs.length = 0 → mrkF xs = 0) := fun h => h
 generalize hn' : xs.length = n at *
 clear hn'
 go_enter Tryz.func61, Tryz.ntmps61
 go_wp2
 go_loopw [3] (fun i w' => ∃ k : Nat, k ≤ n ∧ i = .int .i64 k ∧ Hid (scanI (mrkAt xs) k = 0) ∧ Below w.heap.size w w') (fun i _ => n - (intOf i).toNat)
 case atStart => exact ⟨0, Nat.zero_le _, rfl, rfl, Below.refl _ _⟩
 case round =>
  obtain ⟨k, hk, rfl, HS, hbl⟩ := hrel
  by_cases hlt : k < n
  ·
   obtain ⟨bx, ox, rfl, g1⟩ := hx k hlt
   obtain ⟨l, hl⟩ : ∃ l, l = xs.getD k default := ⟨_, rfl⟩
   rw [← hl] at g1
   have HL : Hid (l = xs.getD k default) := hl
   clear hl
   obtain ⟨a1, a2⟩ := mrkCells_below hbl g1
   cases h1 : inB l.con 1 1000000000
   ·
    have HC : Hid (mrkF xs = 3) := HH.out k 3 hlt HS.out (mrkAt_bad (by rw [← HL.out, h1]; rfl)) (by omega)
    clear hx
    go_wp2_with (first | (go_at_call 52; refine (l1Id_any _ _).mono ?_; rintro e w' ⟨rfl, rfl⟩; rw [h1]))
    go_ret
    exact ⟨by rw [HC.out]; rfl, qBq⟩
   cases h2 : inB l.val 1 2
   ·
    have HC : Hid (mrkF xs = 3) := HH.out k 3 hlt HS.out (mrkAt_bad (by rw [← HL.out, h1, h2]; rfl)) (by omega)
    clear hx
    go_wp2_with (first | (go_at_call 52; refine (l1Id_any _ _).mono ?_; rintro e w' ⟨rfl, rfl⟩; rw [h1]) | (go_at_call 53; refine (l1In_any _ _ _ _).mono ?_; rintro e w' ⟨rfl, rfl⟩; rw [h2]))
    go_ret
    exact ⟨by rw [HC.out]; rfl, qBq⟩
   have hok : Hid ((inB (xs.getD k default).con 1 1000000000 && inB (xs.getD k default).val 1 2) = true) := by show _ = _; rw [← HL.out, h1, h2]; rfl
   cases k with
   | zero =>
    have HS2 : Hid (scanI (mrkAt xs) 1 = 0) := scanI_succ HS.out (mrkAt_zero hok.out)
    clear hx
    simp only [Nat.zero_mul, Nat.add_zero] at a1 a2
    go_wp2_with (first | (go_at_call 52; refine (l1Id_any _ _).mono ?_; rintro e w' ⟨rfl, rfl⟩; rw [h1]) | (go_at_call 53; refine (l1In_any _ _ _ _).mono ?_; rintro e w' ⟨rfl, rfl⟩; rw [h2]))
    go_quiet (fail)
    go_wp2
    exact ⟨⟨1, by omega, by go_num, HS2, bdrewN hbl _⟩, by simp [intOf]; omega⟩
   | succ m =>
    obtain ⟨bx', ox', he, g2⟩ := hx m (by omega)
    simp only [Option.some.injEq, Addr.mk.injEq, and_true] at he
    obtain ⟨rfl, rfl⟩ := he
    obtain ⟨l', hl'⟩ : ∃ l', l' = xs.getD m default := ⟨_, rfl⟩
    rw [← hl'] at g2
    have HL' : Hid (l' = xs.getD m default) := hl'
    clear hl' hx
    obtain ⟨a3, a4⟩ := mrkCells_below hbl g2
    have hw1 : IntKind.i64.wrap (((m + 1 : Nat) : Int) - 1) = (m : Int) := by rw [IntKind.wrap_i64]; omega
    have hw2 : (((m + 1 : Nat) : Int) - 1) = (m : Int) := by omega
    have e1 : ((m + 1 : Nat) : Int) < n := by omega
    have e2 : (m : Int) < n := by omega
    have e3 : (0 : Int) ≤ m := by omega
    have e4 : (0 : Int) < ((m + 1 : Nat) : Int) := by omega
    have e5 : (0 : Int) ≤ ((m + 1 : Nat) : Int) := by omega
    have HFa : Hid (l.con ≤ l'.con → mrkF xs = 1) := fun h => HH.out (m + 1) 1 hlt HS.out (mrkAt_fall hok.out (by rw [← HL.out, ← HL'.out]; exact h)) (by omega)
    have HRi : Hid (l'.con < l.con → scanI (mrkAt xs) (m + 1 + 1) = 0) := fun h => scanI_succ HS.out (mrkAt_rise hok.out (by rw [← HL.out, ← HL'.out]; exact h))
    clear hok
    obtain ⟨ii, hii⟩ : ∃ ii : Nat, ii = m + 1 := ⟨_, rfl⟩
    have HII : Hid (ii = m + 1) := hii
    rw [← hii] at a1 a2 hw1 hw2 e1 e4 e5 HRi ⊢
    clear hii HS
    have e6 : decide (0 < ii) = true := decide_eq_true (by have := HII.out; omega)
    by_cases hle : l.con ≤ l'.con
    ·
     have HC := HFa.out hle
     go_wp2_with (first | (go_at_call 52; refine (l1Id_any _ _).mono ?_; rintro e w' ⟨rfl, rfl⟩; rw [h1]) | (go_at_call 53; refine (l1In_any _ _ _ _).mono ?_; rintro e w' ⟨rfl, rfl⟩; rw [h2]))
     go_quiet (fail)
     go_wp2
     go_ret
     exact ⟨by rw [HC]; rfl, bdrewN hbl _⟩
    ·
     have HS2 : Hid (scanI (mrkAt xs) (ii + 1) = 0) := HRi.out (by omega)
     go_wp2_with (first | (go_at_call 52; refine (l1Id_any _ _).mono ?_; rintro e w' ⟨rfl, rfl⟩; rw [h1]) | (go_at_call 53; refine (l1In_any _ _ _ _).mono ?_; rintro e w' ⟨rfl, rfl⟩; rw [h2]))
     go_quiet (fail)
     go_wp2
     exact ⟨⟨ii + 1, by omega, by go_num, HS2, bdrewN hbl _⟩, by simp [intOf]; omega⟩
  ·
   have hkn : k = n := by omega
   subst hkn
   have HC := HE.out HS.out
   go_wp2
   go_ret
   exact ⟨by rw [HC]; rfl, qBq⟩
end Go.Proofs.YtndghenlapbaaaaGreat

