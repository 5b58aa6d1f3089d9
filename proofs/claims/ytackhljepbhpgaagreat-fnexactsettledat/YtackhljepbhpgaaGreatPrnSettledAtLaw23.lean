import Derived.Test.YtackhljepbhpgaaGreatPrnSettledAtLaw22
import Derived.BigQuiet
import Derived.Deep.QuietTactic
import Derived.Deep.RegionHeld3
import Derived.Deep.Slices
import Derived.Lib.SmallJoins
import Derived.Deep.Strs
set_option maxHeartbeats 32000000
set_option maxRecDepth 20000
set_option linter.unusedSimpArgs false
set_option linter.unusedVariables false
set_option linter.unusedSectionVars false

namespace Go.Proofs.YtackhljepbhpgaaGreat
open Go.RowKit
variable [DecidableEq Leg] [Inhabited Leg] [DecidableEq Cont] [Inhabited Cont] [DecidableEq Bal] [Inhabited Bal] [DecidableEq Mrk] [Inhabited Mrk] [DecidableEq Shd] [Inhabited Shd] [DecidableEq Vot] [Inhabited Vot] [DecidableEq Slt] [Inhabited Slt] [DecidableEq Acc] [Inhabited Acc] [DecidableEq Trr] [Inhabited Trr] [DecidableEq Hrd] [Inhabited Hrd] [DecidableEq Ldr] [Inhabited Ldr] [DecidableEq Msg] [Inhabited Msg] [DecidableEq Clu] [Inhabited Clu] [DecidableEq Ledg] [Inhabited Ledg] [DecidableEq SltR] [Inhabited SltR] [DecidableEq AccR] [Inhabited AccR] [DecidableEq AccsR] [Inhabited AccsR] [DecidableEq SltsR] [Inhabited SltsR] [DecidableEq Rw] [Inhabited Rw] [DecidableEq LedgR] [Inhabited LedgR] [DecidableEq OutcR] [Inhabited OutcR] [DecidableEq ShdR] [Inhabited ShdR]
attribute [local go_sem ↓] Go.wp_at_zero Go.wp_at_succ

theorem strange1_any (x : Value) (c : Clu) (B C : Nat) (m : Mrk) (s : Int) (w : World) (a0 a1 a2 a3 a4 : Option Addr) (n0 n1 n2 n3 n4 c0 c1 c2 c3 c4 : Nat) (hx : cluR.V w (.agg #[.slice a0 n0 c0, .slice a1 n1 c1, .slice a2 n2 c2, .slice a3 n3 c3, .slice a4 n4 c4]) c) (y : w.cell? ⟨B, 0, none⟩ = some (.slice a0 n0 c0) ∧ w.cell? ⟨B, 1, none⟩ = some (.slice a1 n1 c1) ∧ w.cell? ⟨B, 2, none⟩ = some (.slice a2 n2 c2) ∧ w.cell? ⟨B, 3, none⟩ = some (.slice a3 n3 c3) ∧ w.cell? ⟨B, 4, none⟩ = some (.slice a4 n4 c4)) (z : w.cell? ⟨C, 0, none⟩ = some (.int .i64 s)) :
  Calls Tryz.prog 143 #[mrkV m, .pointer (some ⟨B, 0, none⟩), .pointer (some ⟨C, 0, none⟩)] w fun e w' => e = .returned (.bool (!hasL c m.con s)) ∧ Below w.heap.size w w' := by
 have HP : Hid (∀ W, Below w.heap.size w W → Calls Tryz.prog 100 #[.agg #[.slice a0 n0 c0, .slice a1 n1 c1, .slice a2 n2 c2, .slice a3 n3 c3, .slice a4 n4 c4], .int .i64 m.con, .int .i64 s] W fun e w' => e = .returned (.bool (hasL c m.con s)) ∧ Below W.heap.size W w') := fun W hW => hasPart_any _ c _ _ W (cluR.below hx hW)
 clear hx; obtain ⟨y0, y1, y2, y3, y4⟩ := y
 have zB : B < w.heap.size := wL w _ y0
 have zC : C < w.heap.size := wL w _ z
 generalize hasL c m.con s = b at *
 unfold mrkV
 go_enter Tryz.func143, Tryz.ntmps143
 go_wp2_with fail
 refine (HP.out _ (qBq)).mono ?_
 rintro e w1 ⟨rfl, hb1⟩
 have hB1 : Below w.heap.size w w1 := qBq
 clear hb1 HP
 cases b
 all_goals
  go_wp2; go_ret; exact ⟨rfl, hB1⟩
theorem strange2_any (c : Clu) (B : Nat) (l : Cont) (item : Value) (w : World) (a0 a1 a2 a3 a4 : Option Addr) (n0 n1 n2 n3 n4 c0 c1 c2 c3 c4 : Nat) (hx : cluR.V w (.agg #[.slice a0 n0 c0, .slice a1 n1 c1, .slice a2 n2 c2, .slice a3 n3 c3, .slice a4 n4 c4]) c) (y : w.cell? ⟨B, 0, none⟩ = some (.slice a0 n0 c0) ∧ w.cell? ⟨B, 1, none⟩ = some (.slice a1 n1 c1) ∧ w.cell? ⟨B, 2, none⟩ = some (.slice a2 n2 c2) ∧ w.cell? ⟨B, 3, none⟩ = some (.slice a3 n3 c3) ∧ w.cell? ⟨B, 4, none⟩ = some (.slice a4 n4 c4)) (hi : contR.V w item l) :
  Calls Tryz.prog 146 #[item, .pointer (some ⟨B, 0, none⟩)] w fun e w' => e = .returned (.bool (!sameIn c l)) ∧ Below w.heap.size w w' := by
 obtain ⟨u, rfl, hl⟩ := hi
 have HL : Hid (∀ W, Below w.heap.size w W → legsR.V W u l.legs) := fun W hW => legsR.below hl hW
 have HSu : Hid (∀ W, Below w.heap.size w W → Calls Tryz.prog 22 #[.agg #[.slice a0 n0 c0, .slice a1 n1 c1, .slice a2 n2 c2, .slice a3 n3 c3, .slice a4 n4 c4], .int .i64 l.id] W (SubE c.cons l.id W)) := fun W hW => submitted_v _ c l.id W (cluR.below hx hW)
 obtain ⟨p, q, rfl⟩ := legs_form hl; clear hx hl; obtain ⟨y0, y1, y2, y3, y4⟩ := y
 have zB : B < w.heap.size := wL w _ y0
 have H1 : Hid (firstC c.cons l.id < c.cons.length → sameIn c l = decide ((c.cons.getD (firstC c.cons l.id) default).id = l.id ∧ (c.cons.getD (firstC c.cons l.id) default).legs = l.legs)) := fun h => by unfold sameIn; rw [decide_eq_true h]; rfl
 have H2 : Hid (¬ firstC c.cons l.id < c.cons.length → sameIn c l = false) := fun h => by unfold sameIn; rw [decide_eq_false h]; rfl
 generalize sameIn c l = R at *
 go_enter Tryz.func146, Tryz.ntmps146
 go_wp2_with fail
 refine (HSu.out _ (qBq)).mono ?_
 rintro e w1 ⟨hb1, hr⟩
 have hB1 : Below w.heap.size w w1 := qBq
 have x0 : w1.cell? ⟨w.heap.size, 0, none⟩ = some (.int .i64 l.id) := cK hb1 (by simp [go_sem])
 have x1 : w1.cell? ⟨w.heap.size, 1, none⟩ = some (.slice p l.legs.length q) := cK hb1 (by simp [go_sem])
 have zx : w.heap.size < w1.heap.size := wL w1 _ x0
 clear hb1 HSu y0 y1 y2 y3 y4
 rcases hr with ⟨hlt, p1, q1, rfl, hlv⟩ | ⟨hlt, rfl⟩
 ·
  have HC : Hid _ := H1.out hlt
  have HSa : Hid (∀ W, Below w1.heap.size w1 W → Calls Tryz.prog 147 #[.agg #[.int .i64 (c.cons.getD (firstC c.cons l.id) default).id, .slice p1 (c.cons.getD (firstC c.cons l.id) default).legs.length q1], .agg #[.int .i64 l.id, .slice p l.legs.length q]] W fun e w' => e = .returned (.bool (decide ((c.cons.getD (firstC c.cons l.id) default).id = l.id ∧ (c.cons.getD (firstC c.cons l.id) default).legs = l.legs))) ∧ Below W.heap.size W w') := fun W hW => implSame_any _ _ _ _ _ _ W (legsR.below hlv hW) (HL.out W (bS hB1 hW))
  clear H1 H2 hlt hlv HL; generalize c.cons.getD (firstC c.cons l.id) default = k at *; generalize decide (k.id = l.id ∧ k.legs = l.legs) = b at *; generalize k.legs.length = m1 at *; generalize l.legs.length = m2 at *; generalize k.id = i1 at *; generalize l.id = i2 at *
  go_wp2_with fail
  refine (HSa.out _ (qBq)).mono ?_
  rintro e w2 ⟨rfl, hb2⟩
  have hB2 : Below w.heap.size w w2 := bS (qBq) hb2
  clear hb2 HSa
  obtain rfl : R = b := HC.out
  cases R
  all_goals
   go_wp2; go_ret; exact ⟨rfl, hB2⟩
 ·
  obtain rfl : R = false := H2.out hlt
  clear H1 H2 hlt HL; go_wp2; go_ret
  exact ⟨rfl, qBq⟩
theorem slotOff1_any (c : Clu) (B : Nat) (s : Slt) (u : Value) (w : World) (a0 a1 a2 a3 a4 : Option Addr) (n0 n1 n2 n3 n4 c0 c1 c2 c3 c4 : Nat) (hx : cluR.V w (.agg #[.slice a0 n0 c0, .slice a1 n1 c1, .slice a2 n2 c2, .slice a3 n3 c3, .slice a4 n4 c4]) c) (y : w.cell? ⟨B, 0, none⟩ = some (.slice a0 n0 c0) ∧ w.cell? ⟨B, 1, none⟩ = some (.slice a1 n1 c1) ∧ w.cell? ⟨B, 2, none⟩ = some (.slice a2 n2 c2) ∧ w.cell? ⟨B, 3, none⟩ = some (.slice a3 n3 c3) ∧ w.cell? ⟨B, 4, none⟩ = some (.slice a4 n4 c4)) :
  Calls Tryz.prog 99 #[.agg #[.int .i64 s.con, .int .i64 s.sh, .int .i64 s.pr, .int .i64 s.lb, .int .i64 s.lv, u], .pointer (some ⟨B, 0, none⟩)] w fun e w' => e = .returned (.bool (!hasL c s.con s.sh)) ∧ Below w.heap.size w w' := by
 have HP : Hid (∀ W, Below w.heap.size w W → Calls Tryz.prog 100 #[.agg #[.slice a0 n0 c0, .slice a1 n1 c1, .slice a2 n2 c2, .slice a3 n3 c3, .slice a4 n4 c4], .int .i64 s.con, .int .i64 s.sh] W fun e w' => e = .returned (.bool (hasL c s.con s.sh)) ∧ Below W.heap.size W w') := fun W hW => hasPart_any _ c _ _ W (cluR.below hx hW)
 clear hx; obtain ⟨y0, y1, y2, y3, y4⟩ := y
 have zB : B < w.heap.size := wL w _ y0
 generalize hasL c s.con s.sh = b at *
 go_enter Tryz.func99, Tryz.ntmps99
 go_wp2_with fail
 refine (HP.out _ (qBq)).mono ?_
 rintro e w1 ⟨rfl, hb1⟩
 have hB1 : Below w.heap.size w w1 := qBq
 clear hb1 HP
 cases b
 all_goals
  go_wp2; go_ret; exact ⟨rfl, hB1⟩
theorem ykeep {w W : World} {B : Nat} {a0 a1 a2 a3 a4 : Option Addr} {n0 n1 n2 n3 n4 c0 c1 c2 c3 c4 : Nat} (h : Below w.heap.size w W) (y : w.cell? ⟨B, 0, none⟩ = some (.slice a0 n0 c0) ∧ w.cell? ⟨B, 1, none⟩ = some (.slice a1 n1 c1) ∧ w.cell? ⟨B, 2, none⟩ = some (.slice a2 n2 c2) ∧ w.cell? ⟨B, 3, none⟩ = some (.slice a3 n3 c3) ∧ w.cell? ⟨B, 4, none⟩ = some (.slice a4 n4 c4)) : W.cell? ⟨B, 0, none⟩ = some (.slice a0 n0 c0) ∧ W.cell? ⟨B, 1, none⟩ = some (.slice a1 n1 c1) ∧ W.cell? ⟨B, 2, none⟩ = some (.slice a2 n2 c2) ∧ W.cell? ⟨B, 3, none⟩ = some (.slice a3 n3 c3) ∧ W.cell? ⟨B, 4, none⟩ = some (.slice a4 n4 c4) := ⟨cK h y.1, cK h y.2.1, cK h y.2.2.1, cK h y.2.2.2.1, cK h y.2.2.2.2⟩
theorem knows_any (x y : Value) (c : Clu) (s : Shd) (w : World) (hx : cluR.V w x c) (hy : shdR.V w y s) :
  Calls Tryz.prog 96 #[x, y] w fun e w' => e = .returned (.bool (knowsB c s)) ∧ Below w.heap.size w w' := by
 have HV : Hid (∀ W, Below w.heap.size w W → cluR.V W x c) := fun W hW => cluR.below hx hW
 obtain ⟨a0, a1, a2, a3, a4, c0, c1, c2, c3, c4, n0, n1, n2, n3, n4, rfl, e0, e1, e2, e3, e4, L0, L1, L2, L3, L4⟩ := clu_formN hx; clear e0 e1 e2 e3 e4 L0 L1 L2 L3 L4 hx; obtain ⟨u1, u2, u3, u4, u5, rfl, g1, g2, g3, g4, g5⟩ := hy; obtain ⟨p1, q1, rfl⟩ := bals_form g1; obtain ⟨p2, q2, rfl⟩ := mrks_form g2; obtain ⟨p3, q3, rfl⟩ := conts_form g3; obtain ⟨p4, q4, rfl⟩ := mrks_form g4; obtain ⟨p5, q5, rfl⟩ := ints_form g5
 have eg1 := enters_of Tryz.func143 (by kernel_rfl) rfl
 have eg2 := enters_of Tryz.func146 (by kernel_rfl) rfl
 have HCM : Hid (∀ (v : Value) (ms : List Mrk) (W : World), Below w.heap.size w W → mrksR.V W v ms → (W.cell? ⟨w.heap.size, 0, none⟩ = some (.slice a0 n0 c0) ∧ W.cell? ⟨w.heap.size, 1, none⟩ = some (.slice a1 n1 c1) ∧ W.cell? ⟨w.heap.size, 2, none⟩ = some (.slice a2 n2 c2) ∧ W.cell? ⟨w.heap.size, 3, none⟩ = some (.slice a3 n3 c3) ∧ W.cell? ⟨w.heap.size, 4, none⟩ = some (.slice a4 n4 c4)) → W.cell? ⟨w.heap.size + 1, 0, none⟩ = some (.int .i64 s.idx) → Calls Tryz.prog 144 #[v, .func (.func 143) #[] #[.pointer (some ⟨w.heap.size, 0, none⟩), .pointer (some ⟨w.heap.size + 1, 0, none⟩)]] W fun e w' => e = .returned (.bool (strange c s.idx ms)) ∧ Below W.heap.size W w') := fun v ms W hW hv hY hz => containsMf_any 143 _ _ (fun m => !hasL c m.con s.idx) v ms W hv eg1 (fun k W' hk hW' => strange1_any (.int .i64 0) c _ _ _ _ W' a0 a1 a2 a3 a4 n0 n1 n2 n3 n4 c0 c1 c2 c3 c4 (HV.out W' (bS hW hW')) (ykeep hW' hY) (cK hW' hz))
 have HCC : Hid (∀ (v : Value) (W : World), Below w.heap.size w W → contsR.V W v s.held → (W.cell? ⟨w.heap.size, 0, none⟩ = some (.slice a0 n0 c0) ∧ W.cell? ⟨w.heap.size, 1, none⟩ = some (.slice a1 n1 c1) ∧ W.cell? ⟨w.heap.size, 2, none⟩ = some (.slice a2 n2 c2) ∧ W.cell? ⟨w.heap.size, 3, none⟩ = some (.slice a3 n3 c3) ∧ W.cell? ⟨w.heap.size, 4, none⟩ = some (.slice a4 n4 c4)) → Calls Tryz.prog 145 #[v, .func (.func 146) #[] #[.pointer (some ⟨w.heap.size, 0, none⟩)]] W fun e w' => e = .returned (.bool (heldOff c s.held)) ∧ Below W.heap.size W w') := fun v W hW hv hY => containsCf_any 146 _ (fun l => !sameIn c l) v s.held W hv eg2 (fun k W' hk hW' item hi => strange2_any c _ _ item W' a0 a1 a2 a3 a4 n0 n1 n2 n3 n4 c0 c1 c2 c3 c4 (HV.out W' (bS hW hW')) (ykeep hW' hY) hi)
 have G2 : Hid (∀ W, Below w.heap.size w W → mrksR.V W (.slice p2 s.votes.length q2) s.votes) := fun W hW => mrksR.below g2 hW
 have G3 : Hid (∀ W, Below w.heap.size w W → contsR.V W (.slice p3 s.held.length q3) s.held) := fun W hW => contsR.below g3 hW
 have G4 : Hid (∀ W, Below w.heap.size w W → mrksR.V W (.slice p4 s.done.length q4) s.done) := fun W hW => mrksR.below g4 hW
 clear g1 g2 g3 g4 g5 eg1 eg2
 have HK : Hid (knowsB c s = (!strange c s.idx s.votes && (!strange c s.idx s.done && !heldOff c s.held))) := rfl
 generalize knowsB c s = R at *
 go_enter Tryz.func96, Tryz.ntmps96
 go_wp2_with fail
 refine (HCM.out _ s.votes _ (qBq) (G2.out _ (qBq)) ⟨by simp [go_sem], by simp [go_sem], by simp [go_sem], by simp [go_sem], by simp [go_sem]⟩ (by simp [go_sem])).mono ?_
 rintro e w1 ⟨rfl, hb1⟩
 have hB1 : Below w.heap.size w w1 := qBq
 have Y1 : w1.cell? ⟨w.heap.size, 0, none⟩ = some (.slice a0 n0 c0) ∧ w1.cell? ⟨w.heap.size, 1, none⟩ = some (.slice a1 n1 c1) ∧ w1.cell? ⟨w.heap.size, 2, none⟩ = some (.slice a2 n2 c2) ∧ w1.cell? ⟨w.heap.size, 3, none⟩ = some (.slice a3 n3 c3) ∧ w1.cell? ⟨w.heap.size, 4, none⟩ = some (.slice a4 n4 c4) := ⟨cK hb1 (by simp [go_sem]), cK hb1 (by simp [go_sem]), cK hb1 (by simp [go_sem]), cK hb1 (by simp [go_sem]), cK hb1 (by simp [go_sem])⟩
 have z0 : w1.cell? ⟨w.heap.size + 1, 0, none⟩ = some (.int .i64 s.idx) := cK hb1 (by simp [go_sem])
 have z3 : w1.cell? ⟨w.heap.size + 1, 3, none⟩ = some (.slice p3 s.held.length q3) := cK hb1 (by simp [go_sem])
 have z4 : w1.cell? ⟨w.heap.size + 1, 4, none⟩ = some (.slice p4 s.done.length q4) := cK hb1 (by simp [go_sem])
 clear hb1
 cases hv : strange c s.idx s.votes
 rotate_left
 ·
  have HC : Hid (R = false) := by show _ = _; rw [HK.out, hv]; rfl
  go_wp2; go_ret; exact ⟨by rw [HC.out]; rfl, hB1⟩
 have HK1 : Hid (R = (!strange c s.idx s.done && !heldOff c s.held)) := by show _ = _; rw [HK.out, hv]; rfl
 clear HK hv
 go_wp2_with fail
 refine (HCM.out _ s.done _ (qBq) (G4.out _ (qBq)) (by first | exact Y1 | exact ykeep (qBq) Y1) (by first | exact z0 | exact cK (qBq) z0)).mono ?_
 rintro e w2 ⟨rfl, hb2⟩
 have hB2 : Below w.heap.size w w2 := bS (qBq) hb2
 replace Y1 : w2.cell? ⟨w.heap.size, 0, none⟩ = some (.slice a0 n0 c0) ∧ w2.cell? ⟨w.heap.size, 1, none⟩ = some (.slice a1 n1 c1) ∧ w2.cell? ⟨w.heap.size, 2, none⟩ = some (.slice a2 n2 c2) ∧ w2.cell? ⟨w.heap.size, 3, none⟩ = some (.slice a3 n3 c3) ∧ w2.cell? ⟨w.heap.size, 4, none⟩ = some (.slice a4 n4 c4) := ykeep hb2 (by first | exact Y1 | exact ykeep (qBq) Y1)
 replace z3 := cK hb2 (by first | exact z3 | exact cK (qBq) z3)
 clear hb2 z4 z0
 cases hd : strange c s.idx s.done
 rotate_left
 ·
  have HC : Hid (R = false) := by show _ = _; rw [HK1.out, hd]; rfl
  go_wp2; go_ret; exact ⟨by rw [HC.out]; rfl, hB2⟩
 have HK2 : Hid (R = !heldOff c s.held) := by show _ = _; rw [HK1.out, hd]; rfl
 clear HK1 hd
 go_wp2_with fail
 refine (HCC.out _ _ (qBq) (G3.out _ (qBq)) (by first | exact Y1 | exact ykeep (qBq) Y1)).mono ?_
 rintro e w3 ⟨rfl, hb3⟩
 have hB3 : Below w.heap.size w w3 := bS (qBq) hb3
 clear hb3; generalize heldOff c s.held = hq at *
 cases hq
 all_goals
  go_wp2; go_ret; exact ⟨by rw [HK2.out]; rfl, hB3⟩
theorem shardsF_any (x : Value) (c : Clu) (w : World) (hx : cluR.V w x c) :
  Calls Tryz.prog 48 #[x] w fun e w' => e = .returned (.int .i64 (shdsF c)) ∧ Below w.heap.size w w' := by
 have HV : Hid (∀ W, Below w.heap.size w W → cluR.V W x c) := fun W hW => cluR.below hx hW
 have hx' := hx
 obtain ⟨a0, a1, a2, a3, a4, c0, c1, c2, c3, c4, n0, n1, n2, n3, n4, rfl, e0, e1, e2, e3, e4, L0, L1, L2, L3, L4⟩ := clu_formN hx
 obtain ⟨u1, u2, u3, u4, u5, eq, h1, h2, h3, h4, h5⟩ := hx'
 simp only [Value.agg.injEq, Array.mk.injEq, List.cons.injEq, and_true] at eq
 obtain ⟨rfl, rfl, rfl, rfl, rfl⟩ := eq; obtain ⟨_, hnc, hmc, HA⟩ := shds_at h2
 unfold maxLen at hmc
 have HX : Hid _ := HA
 clear HA h1 h2 h3 h4 h5 hx
 have H1 : Hid (∀ k, k < n1 → scanI (shdAt c) k = 0 → ¬ shdAt c k = 0 → shdsF c = shdAt c k) := fun k hk hs h0 => by unfold shdsF; exact scanI_hit hs h0 _ (by rw [e1]; exact hk)
 have H2 : Hid (scanI (shdAt c) n1 = 0 → shdsF c = 0) := fun h => by unfold shdsF; rw [e1]; exact h
 clear e0 e1 e2 e3 e4 L0 L2 L3 L4; generalize shdsF c = R at *
 go_enter Tryz.func48, Tryz.ntmps48
 go_wp2
 go_loopw [9] (fun i w' => ∃ k : Nat, k ≤ n1 ∧ i = .int .i64 k ∧ Hid (scanI (shdAt c) k = 0) ∧ (w'.cell? ⟨w.heap.size, 0, none⟩ = some (.slice a0 n0 c0) ∧ w'.cell? ⟨w.heap.size, 1, none⟩ = some (.slice a1 n1 c1) ∧ w'.cell? ⟨w.heap.size, 2, none⟩ = some (.slice a2 n2 c2) ∧ w'.cell? ⟨w.heap.size, 3, none⟩ = some (.slice a3 n3 c3) ∧ w'.cell? ⟨w.heap.size, 4, none⟩ = some (.slice a4 n4 c4)) ∧ Below w.heap.size w w') (fun i _ => n1 - (intOf i).toNat)
 case atStart => exact ⟨0, Nat.zero_le _, rfl, rfl, ⟨by simp [go_sem], by simp [go_sem], by simp [go_sem], by simp [go_sem], by simp [go_sem]⟩, qBq⟩
 case round =>
  obtain ⟨k, hk, rfl, HS, ⟨y0, y1, y2, y3, y4⟩, hbl⟩ := hrel
  have zq : w.heap.size < wr.heap.size := wL wr _ y0
  by_cases hlt : k < n1
  ·
   have HA := HX.out k hlt
   have HH : Hid (¬ shdAt c k = 0 → R = shdAt c k) := fun h => H1.out k hlt HS.out h
   have HZ : Hid (shdAt c k = 0 → scanI (shdAt c) (k + 1) = 0) := fun h => scanI_succ HS.out h
   have HD : Hid (shdAt c k = orF (shdF (c.shards.getD k default)) (if (c.shards.getD k default).idx = (k : Int) ∧ knowsB c (c.shards.getD k default) = true then 0 else 1)) := rfl
   obtain ⟨s, hs0⟩ : ∃ s, s = c.shards.getD k default := ⟨_, rfl⟩
   rw [← hs0] at HA HD
   clear hs0; obtain ⟨b, o, v1, v2, v3, v4, v5, rfl, g0, g1, g2, g3, g4, g5, hv⟩ := HA
   have HF : Hid (∀ W, Below w.heap.size w W → Calls Tryz.prog 95 #[.agg #[.int .i64 s.idx, v1, v2, v3, v4, v5]] W fun e w' => e = .returned (.int .i64 (shdF s)) ∧ Below W.heap.size W w') := fun W hW => implShdF_any _ s W (shdR.below hv hW)
   have HKn : Hid (∀ W, Below w.heap.size w W → Calls Tryz.prog 96 #[.agg #[.slice a0 n0 c0, .slice (some ⟨b, o, none⟩) n1 c1, .slice a2 n2 c2, .slice a3 n3 c3, .slice a4 n4 c4], .agg #[.int .i64 s.idx, v1, v2, v3, v4, v5]] W fun e w' => e = .returned (.bool (knowsB c s)) ∧ Below W.heap.size W w') := fun W hW => knows_any _ _ c s W (HV.out W hW) (shdR.below hv hW)
   obtain ⟨_, _, _, _, _, eq, f1, f2, f3, f4, f5⟩ := hv
   simp only [Value.agg.injEq, Array.mk.injEq, List.cons.injEq, and_true, true_and] at eq
   obtain ⟨rfl, rfl, rfl, rfl, rfl⟩ := eq; obtain ⟨p1, q1, rfl⟩ := bals_form f1; obtain ⟨p2, q2, rfl⟩ := mrks_form f2; obtain ⟨p3, q3, rfl⟩ := conts_form f3; obtain ⟨p4, q4, rfl⟩ := mrks_form f4; obtain ⟨p5, q5, rfl⟩ := ints_form f5; clear f1 f2 f3 f4 f5; replace g0 := cK hbl g0; replace g1 := cK hbl g1; replace g2 := cK hbl g2; replace g3 := cK hbl g3; replace g4 := cK hbl g4; replace g5 := cK hbl g5
   have zb : b < wr.heap.size := wL wr _ g0
   have hti : (k : Int) < (n1 : Int) := by omega
   generalize shdAt c k = z at *; generalize knowsB c s = kn at *; generalize shdF s = sf at *; generalize s.bals.length = l1 at *; generalize s.votes.length = l2 at *; generalize s.held.length = l3 at *; generalize s.done.length = l4 at *; generalize s.appl.length = l5 at *; generalize s.idx = ix at *
   go_wp2_with fail
   refine (HF.out _ (qBq)).mono ?_
   rintro e w1 ⟨rfl, hb1⟩
   have hB1 : Below w.heap.size w w1 := bS (qBq) hb1
   have t0 : w1.cell? ⟨wr.heap.size, 0, none⟩ = some (.int .i64 ix) := cK hb1 (by simp [go_sem])
   have t1 : w1.cell? ⟨wr.heap.size, 1, none⟩ = some (.slice p1 l1 q1) := cK hb1 (by simp [go_sem])
   have t2 : w1.cell? ⟨wr.heap.size, 2, none⟩ = some (.slice p2 l2 q2) := cK hb1 (by simp [go_sem])
   have t3 : w1.cell? ⟨wr.heap.size, 3, none⟩ = some (.slice p3 l3 q3) := cK hb1 (by simp [go_sem])
   have t4 : w1.cell? ⟨wr.heap.size, 4, none⟩ = some (.slice p4 l4 q4) := cK hb1 (by simp [go_sem])
   have t5 : w1.cell? ⟨wr.heap.size, 5, none⟩ = some (.slice p5 l5 q5) := cK hb1 (by simp [go_sem])
   replace y0 := cK hb1 (cK (qBq) y0)
   replace y1 := cK hb1 (cK (qBq) y1)
   replace y2 := cK hb1 (cK (qBq) y2)
   replace y3 := cK hb1 (cK (qBq) y3)
   replace y4 := cK hb1 (cK (qBq) y4)
   have zw1 : wr.heap.size < w1.heap.size := wL w1 _ t0
   clear hb1 HF g0 g1 g2 g3 g4 g5
   by_cases hsf : sf = 0
   rotate_left
   ·
    have hz : z = sf := by rw [HD.out, orF_n hsf]
    have HC : Hid (R = sf) := by show _ = _; rw [← hz]; exact HH.out (by rw [hz]; exact hsf)
    have hsf' : (sf != 0) = true := by simp [hsf]
    clear HH HZ HD hz; go_wp2; go_ret
    exact ⟨by rw [HC.out]; rfl, hB1⟩
   subst hsf
   have HD2 : Hid (z = if ix = (k : Int) ∧ kn = true then 0 else 1) := by show _ = _; rw [HD.out, orF_z rfl]
   clear HD
   by_cases hix : ix = (k : Int)
   rotate_left
   ·
    have hz : z = 1 := by rw [HD2.out, if_neg (fun h => hix h.1)]
    have HC : Hid (R = 1) := by show _ = _; rw [← hz]; exact HH.out (by rw [hz]; omega)
    have hix' : (ix != (k : Int)) = true := by simp [hix]
    clear HH HZ HD2 hz; go_wp2; go_ret
    exact ⟨by rw [HC.out]; rfl, hB1⟩
   have hix' : (ix != (k : Int)) = false := by simp [hix]
   have HIX : Hid (ix = (k : Int)) := hix
   clear hix
   go_wp2_with fail
   refine (HKn.out _ (qBq)).mono ?_
   rintro e w2 ⟨rfl, hb2⟩
   have hB2 : Below w.heap.size w w2 := bS (qBq) hb2
   have Y2 : w2.cell? ⟨w.heap.size, 0, none⟩ = some (.slice a0 n0 c0) ∧ w2.cell? ⟨w.heap.size, 1, none⟩ = some (.slice (some ⟨b, o, none⟩) n1 c1) ∧ w2.cell? ⟨w.heap.size, 2, none⟩ = some (.slice a2 n2 c2) ∧ w2.cell? ⟨w.heap.size, 3, none⟩ = some (.slice a3 n3 c3) ∧ w2.cell? ⟨w.heap.size, 4, none⟩ = some (.slice a4 n4 c4) := ⟨cK hb2 (by first | exact y0 | exact cK (qBq) y0), cK hb2 (by first | exact y1 | exact cK (qBq) y1), cK hb2 (by first | exact y2 | exact cK (qBq) y2), cK hb2 (by first | exact y3 | exact cK (qBq) y3), cK hb2 (by first | exact y4 | exact cK (qBq) y4)⟩
   clear hb2 HKn
   cases kn
   ·
    have hz : z = 1 := by rw [HD2.out, if_neg (fun h => by cases h.2)]
    have HC : Hid (R = 1) := by show _ = _; rw [← hz]; exact HH.out (by rw [hz]; omega)
    clear HH HZ HD2 hz; go_wp2; go_ret
    exact ⟨by rw [HC.out]; rfl, hB2⟩
   ·
    have hz : z = 0 := by rw [HD2.out, if_pos ⟨HIX.out, rfl⟩]
    have HQ : Hid _ := HZ.out hz
    clear HH HZ HD2 hz; go_wp2
    exact ⟨⟨k + 1, by omega, by go_num, HQ, Y2, hB2⟩, by simp [intOf]; omega⟩
  ·
   obtain rfl : k = n1 := by omega
   have hti : ¬ (k : Int) < (k : Int) := by omega
   have HC : Hid (R = 0) := H2.out HS.out
   go_wp2; go_ret; exact ⟨by rw [HC.out]; rfl, hbl⟩
theorem slotsF_any (x : Value) (c : Clu) (w : World) (hx : cluR.V w x c) :
  Calls Tryz.prog 49 #[x] w fun e w' => e = .returned (.int .i64 (accsF c)) ∧ Below w.heap.size w w' := by
 have HV : Hid (∀ W, Below w.heap.size w W → cluR.V W x c) := fun W hW => cluR.below hx hW
 have hx' := hx
 obtain ⟨a0, a1, a2, a3, a4, c0, c1, c2, c3, c4, n0, n1, n2, n3, n4, rfl, e0, e1, e2, e3, e4, L0, L1, L2, L3, L4⟩ := clu_formN hx
 obtain ⟨u1, u2, u3, u4, u5, eq, h1, h2, h3, h4, h5⟩ := hx'
 simp only [Value.agg.injEq, Array.mk.injEq, List.cons.injEq, and_true] at eq
 obtain ⟨rfl, rfl, rfl, rfl, rfl⟩ := eq; obtain ⟨_, hnc, hmc, HA⟩ := accs_atC h3
 unfold maxLen at hmc
 have HX : Hid _ := HA
 clear HA h1 h2 h3 h4 h5 hx
 have eg1 := enters_of Tryz.func99 (by kernel_rfl) rfl
 have HCS : Hid (∀ (v : Value) (ss : List Slt) (W : World), Below w.heap.size w W → sltsR.V W v ss → (W.cell? ⟨w.heap.size, 0, none⟩ = some (.slice a0 n0 c0) ∧ W.cell? ⟨w.heap.size, 1, none⟩ = some (.slice a1 n1 c1) ∧ W.cell? ⟨w.heap.size, 2, none⟩ = some (.slice a2 n2 c2) ∧ W.cell? ⟨w.heap.size, 3, none⟩ = some (.slice a3 n3 c3) ∧ W.cell? ⟨w.heap.size, 4, none⟩ = some (.slice a4 n4 c4)) → Calls Tryz.prog 98 #[v, .func (.func 99) #[] #[.pointer (some ⟨w.heap.size, 0, none⟩)]] W fun e w' => e = .returned (.bool (slotOff c ss)) ∧ Below W.heap.size W w') := fun v ss W hW hv hY => containsSf_any 99 _ (fun s => !hasL c s.con s.sh) v ss W hv eg1 (fun k W' hk hW' u => slotOff1_any c _ _ u W' a0 a1 a2 a3 a4 n0 n1 n2 n3 n4 c0 c1 c2 c3 c4 (HV.out W' (bS hW hW')) (ykeep hW' hY))
 clear eg1
 have H1 : Hid (∀ k, k < n2 → scanI (accAtC c) k = 0 → ¬ accAtC c k = 0 → accsF c = accAtC c k) := fun k hk hs h0 => by unfold accsF; exact scanI_hit hs h0 _ (by rw [e2]; exact hk)
 have H2 : Hid (scanI (accAtC c) n2 = 0 → accsF c = 0) := fun h => by unfold accsF; rw [e2]; exact h
 clear e0 e1 e2 e3 e4 L0 L1 L3 L4; generalize accsF c = R at *
 go_enter Tryz.func49, Tryz.ntmps49
 go_wp2
 go_loopw [9] (fun i w' => ∃ k : Nat, k ≤ n2 ∧ i = .int .i64 k ∧ Hid (scanI (accAtC c) k = 0) ∧ (w'.cell? ⟨w.heap.size, 0, none⟩ = some (.slice a0 n0 c0) ∧ w'.cell? ⟨w.heap.size, 1, none⟩ = some (.slice a1 n1 c1) ∧ w'.cell? ⟨w.heap.size, 2, none⟩ = some (.slice a2 n2 c2) ∧ w'.cell? ⟨w.heap.size, 3, none⟩ = some (.slice a3 n3 c3) ∧ w'.cell? ⟨w.heap.size, 4, none⟩ = some (.slice a4 n4 c4)) ∧ Below w.heap.size w w') (fun i _ => n2 - (intOf i).toNat)
 case atStart => exact ⟨0, Nat.zero_le _, rfl, rfl, ⟨by simp [go_sem], by simp [go_sem], by simp [go_sem], by simp [go_sem], by simp [go_sem]⟩, qBq⟩
 case round =>
  obtain ⟨k, hk, rfl, HS, ⟨y0, y1, y2, y3, y4⟩, hbl⟩ := hrel
  have zq : w.heap.size < wr.heap.size := wL wr _ y0
  by_cases hlt : k < n2
  ·
   have HA := HX.out k hlt
   have HH : Hid (¬ accAtC c k = 0 → R = accAtC c k) := fun h => H1.out k hlt HS.out h
   have HZ : Hid (accAtC c k = 0 → scanI (accAtC c) (k + 1) = 0) := fun h => scanI_succ HS.out h
   have HD : Hid (accAtC c k = orF (accF (c.accs.getD k default).slots) (if slotOff c (c.accs.getD k default).slots = true then 4 else 0)) := rfl
   obtain ⟨s, hs0⟩ : ∃ s, s = c.accs.getD k default := ⟨_, rfl⟩
   rw [← hs0] at HA HD
   clear hs0; obtain ⟨b, o, p, q, rfl, g0, hv⟩ := HA
   have HF : Hid (∀ W, Below w.heap.size w W → Calls Tryz.prog 97 #[.agg #[.slice p s.slots.length q]] W fun e w' => e = .returned (.int .i64 (accF s.slots)) ∧ Below W.heap.size W w') := fun W hW => implAccF_any _ s W ⟨_, rfl, sltsR.below hv hW⟩
   have HKn : Hid (∀ W, Below w.heap.size w W → (W.cell? ⟨w.heap.size, 0, none⟩ = some (.slice a0 n0 c0) ∧ W.cell? ⟨w.heap.size, 1, none⟩ = some (.slice a1 n1 c1) ∧ W.cell? ⟨w.heap.size, 2, none⟩ = some (.slice (some ⟨b, o, none⟩) n2 c2) ∧ W.cell? ⟨w.heap.size, 3, none⟩ = some (.slice a3 n3 c3) ∧ W.cell? ⟨w.heap.size, 4, none⟩ = some (.slice a4 n4 c4)) → Calls Tryz.prog 98 #[.slice p s.slots.length q, .func (.func 99) #[] #[.pointer (some ⟨w.heap.size, 0, none⟩)]] W fun e w' => e = .returned (.bool (slotOff c s.slots)) ∧ Below W.heap.size W w') := fun W hW hY => HCS.out _ _ W hW (sltsR.below hv hW) hY
   clear hv; replace g0 := cK hbl g0
   have zb : b < wr.heap.size := wL wr _ g0
   have hti : (k : Int) < (n2 : Int) := by omega
   generalize accAtC c k = z at *; generalize slotOff c s.slots = kn at *; generalize accF s.slots = sf at *; generalize s.slots.length = l1 at *
   go_wp2_with fail
   refine (HF.out _ (qBq)).mono ?_
   rintro e w1 ⟨rfl, hb1⟩
   have hB1 : Below w.heap.size w w1 := bS (qBq) hb1
   have t0 : w1.cell? ⟨wr.heap.size, 0, none⟩ = some (.slice p l1 q) := cK hb1 (by simp [go_sem])
   replace y0 := cK hb1 (cK (qBq) y0)
   replace y1 := cK hb1 (cK (qBq) y1)
   replace y2 := cK hb1 (cK (qBq) y2)
   replace y3 := cK hb1 (cK (qBq) y3)
   replace y4 := cK hb1 (cK (qBq) y4)
   have zw1 : wr.heap.size < w1.heap.size := wL w1 _ t0
   clear hb1 HF g0
   by_cases hsf : sf = 0
   rotate_left
   ·
    have hz : z = sf := by rw [HD.out, orF_n hsf]
    have HC : Hid (R = sf) := by show _ = _; rw [← hz]; exact HH.out (by rw [hz]; exact hsf)
    have hsf' : (sf != 0) = true := by simp [hsf]
    clear HH HZ HD hz; go_wp2; go_ret
    exact ⟨by rw [HC.out]; rfl, hB1⟩
   subst hsf
   have HD2 : Hid (z = if kn = true then 4 else 0) := by show _ = _; rw [HD.out, orF_z rfl]
   clear HD
   go_wp2_with fail
   refine (HKn.out _ (qBq) (by first | exact ⟨y0, y1, y2, y3, y4⟩ | exact ykeep (qBq) ⟨y0, y1, y2, y3, y4⟩)).mono ?_
   rintro e w2 ⟨rfl, hb2⟩
   have hB2 : Below w.heap.size w w2 := bS (qBq) hb2
   have Y2 : w2.cell? ⟨w.heap.size, 0, none⟩ = some (.slice a0 n0 c0) ∧ w2.cell? ⟨w.heap.size, 1, none⟩ = some (.slice a1 n1 c1) ∧ w2.cell? ⟨w.heap.size, 2, none⟩ = some (.slice (some ⟨b, o, none⟩) n2 c2) ∧ w2.cell? ⟨w.heap.size, 3, none⟩ = some (.slice a3 n3 c3) ∧ w2.cell? ⟨w.heap.size, 4, none⟩ = some (.slice a4 n4 c4) := ⟨cK hb2 (by first | exact y0 | exact cK (qBq) y0), cK hb2 (by first | exact y1 | exact cK (qBq) y1), cK hb2 (by first | exact y2 | exact cK (qBq) y2), cK hb2 (by first | exact y3 | exact cK (qBq) y3), cK hb2 (by first | exact y4 | exact cK (qBq) y4)⟩
   clear hb2 HKn
   cases kn
   rotate_left
   ·
    have hz : z = 4 := by rw [HD2.out, if_pos rfl]
    have HC : Hid (R = 4) := by show _ = _; rw [← hz]; exact HH.out (by rw [hz]; omega)
    clear HH HZ HD2 hz; go_wp2; go_ret
    exact ⟨by rw [HC.out]; rfl, hB2⟩
   ·
    have hz : z = 0 := by rw [HD2.out]; rfl
    have HQ : Hid _ := HZ.out hz
    clear HH HZ HD2 hz; go_wp2
    exact ⟨⟨k + 1, by omega, by go_num, HQ, Y2, hB2⟩, by simp [intOf]; omega⟩
  ·
   obtain rfl : k = n2 := by omega
   have hti : ¬ (k : Int) < (k : Int) := by omega
   have HC : Hid (R = 0) := H2.out HS.out
   go_wp2; go_ret; exact ⟨by rw [HC.out]; rfl, hbl⟩
theorem specCluF_any (x : Value) (c : Clu) (w : World) (hx : cluR.V w x c) (hlen : ∀ k, k < c.cons.length → (c.cons.getD k default).legs.length ≤ 1048576) (hsz : ∀ k, k < c.shards.length → (c.shards.getD k default).votes.length ≤ 1048576 ∧ (c.shards.getD k default).done.length ≤ 1048576) (hneed : ∀ k, k < c.ldrs.length → ∀ i, i < (c.ldrs.getD k default).tries.length → ((c.ldrs.getD k default).tries.getD i default).frm.length ≤ 1048576) :
  Calls Tryz.prog 14 #[x] w fun e w' => e = .returned (.int .i64 (cluS c)) ∧ Below w.heap.size w w' := by
 have HV : Hid (∀ W, Below w.heap.size w W → cluR.V W x c) := fun W hW => cluR.below hx hW
 have hx' := hx
 obtain ⟨a0, a1, a2, a3, a4, c0, c1, c2, c3, c4, n0, n1, n2, n3, n4, rfl, e0, e1, e2, e3, e4, L0, L1, L2, L3, L4⟩ := clu_formN hx
 obtain ⟨u1, u2, u3, u4, u5, eq, h1, h2, h3, h4, h5⟩ := hx'
 simp only [Value.agg.injEq, Array.mk.injEq, List.cons.injEq, and_true] at eq
 obtain ⟨rfl, rfl, rfl, rfl, rfl⟩ := eq
 have HB : ∀ W, Below w.heap.size w W → (W.cell? ⟨w.heap.size, 0, none⟩ = some (.slice a0 n0 c0) ∧ W.cell? ⟨w.heap.size, 1, none⟩ = some (.slice a1 n1 c1) ∧ W.cell? ⟨w.heap.size, 2, none⟩ = some (.slice a2 n2 c2) ∧ W.cell? ⟨w.heap.size, 3, none⟩ = some (.slice a3 n3 c3) ∧ W.cell? ⟨w.heap.size, 4, none⟩ = some (.slice a4 n4 c4)) → CluB W w.heap.size c := fun W hW hY => ⟨a0, a1, a2, a3, a4, c0, c1, c2, c3, c4, n0, n1, n2, n3, n4, hY, HV.out W hW⟩
 have HL0 : Hid (∀ W, Below w.heap.size w W → (W.cell? ⟨w.heap.size, 0, none⟩ = some (.slice a0 n0 c0) ∧ W.cell? ⟨w.heap.size, 1, none⟩ = some (.slice a1 n1 c1) ∧ W.cell? ⟨w.heap.size, 2, none⟩ = some (.slice a2 n2 c2) ∧ W.cell? ⟨w.heap.size, 3, none⟩ = some (.slice a3 n3 c3) ∧ W.cell? ⟨w.heap.size, 4, none⟩ = some (.slice a4 n4 c4)) → Calls Tryz.prog 33 #[.pointer (some ⟨w.heap.size, 0, none⟩)] W fun e w' => e = .returned (.int .i64 (consF c)) ∧ Below W.heap.size W w') := fun W hW hY => l11Contracts_any _ c W (HB W hW hY) hlen
 have HL1 : Hid (∀ W, Below w.heap.size w W → (W.cell? ⟨w.heap.size, 0, none⟩ = some (.slice a0 n0 c0) ∧ W.cell? ⟨w.heap.size, 1, none⟩ = some (.slice a1 n1 c1) ∧ W.cell? ⟨w.heap.size, 2, none⟩ = some (.slice a2 n2 c2) ∧ W.cell? ⟨w.heap.size, 3, none⟩ = some (.slice a3 n3 c3) ∧ W.cell? ⟨w.heap.size, 4, none⟩ = some (.slice a4 n4 c4)) → Calls Tryz.prog 34 #[.pointer (some ⟨w.heap.size, 0, none⟩)] W fun e w' => e = .returned (.int .i64 (shdsF c)) ∧ Below W.heap.size W w') := fun W hW hY => l11Shards_any _ c W (HB W hW hY) hlen hsz
 have HL2 : Hid (∀ W, Below w.heap.size w W → (W.cell? ⟨w.heap.size, 0, none⟩ = some (.slice a0 n0 c0) ∧ W.cell? ⟨w.heap.size, 1, none⟩ = some (.slice a1 n1 c1) ∧ W.cell? ⟨w.heap.size, 2, none⟩ = some (.slice a2 n2 c2) ∧ W.cell? ⟨w.heap.size, 3, none⟩ = some (.slice a3 n3 c3) ∧ W.cell? ⟨w.heap.size, 4, none⟩ = some (.slice a4 n4 c4)) → Calls Tryz.prog 35 #[.pointer (some ⟨w.heap.size, 0, none⟩)] W fun e w' => e = .returned (.int .i64 (accsF c)) ∧ Below W.heap.size W w') := fun W hW hY => l11Acceptors_any _ c W (HB W hW hY) hlen
 have HL3 : Hid (∀ W, Below w.heap.size w W → (W.cell? ⟨w.heap.size, 0, none⟩ = some (.slice a0 n0 c0) ∧ W.cell? ⟨w.heap.size, 1, none⟩ = some (.slice a1 n1 c1) ∧ W.cell? ⟨w.heap.size, 2, none⟩ = some (.slice a2 n2 c2) ∧ W.cell? ⟨w.heap.size, 3, none⟩ = some (.slice a3 n3 c3) ∧ W.cell? ⟨w.heap.size, 4, none⟩ = some (.slice a4 n4 c4)) → Calls Tryz.prog 36 #[.pointer (some ⟨w.heap.size, 0, none⟩)] W fun e w' => e = .returned (.int .i64 (ldrsA c)) ∧ Below W.heap.size W w') := fun W hW hY => l11Leaders_any _ c W (HB W hW hY) hlen hneed
 have HLM : Hid (∀ m W, Below w.heap.size w W → (W.cell? ⟨w.heap.size, 0, none⟩ = some (.slice a0 n0 c0) ∧ W.cell? ⟨w.heap.size, 1, none⟩ = some (.slice a1 n1 c1) ∧ W.cell? ⟨w.heap.size, 2, none⟩ = some (.slice a2 n2 c2) ∧ W.cell? ⟨w.heap.size, 3, none⟩ = some (.slice a3 n3 c3) ∧ W.cell? ⟨w.heap.size, 4, none⟩ = some (.slice a4 n4 c4)) → Calls Tryz.prog 37 #[.pointer (some ⟨w.heap.size, 0, none⟩), msgV m] W fun e w' => e = .returned (.int .i64 (msgF c m)) ∧ Below W.heap.size W w') := fun m W hW hY => l11Message_any _ c m W ((HB W hW hY).p) hlen
 obtain ⟨_, hnc, hmc, HA⟩ := msgs_atF h5
 unfold maxLen at hmc
 have HX : Hid _ := HA
 have HR : Hid (cluS c = orF (szC c) (orF (consF c) (orF (shdsF c) (orF (accsF c) (orF (ldrsA c) (msgsF c)))))) := rfl
 have HZ0 : Hid (szC c = if n0 ≤ 20 ∧ (1 ≤ n1 ∧ n1 ≤ 3) ∧ (1 ≤ n2 ∧ n2 ≤ 5) ∧ n3 = 2 ∧ n4 ≤ 200 then 0 else 2) := by show _ = _; unfold szC; rw [e0, e1, e2, e3, e4]
 have HM1 : Hid (∀ k, k < n4 → scanI (fun k => msgF c (c.msgs.getD k default)) k = 0 → ¬ msgF c (c.msgs.getD k default) = 0 → msgsF c = msgF c (c.msgs.getD k default)) := fun k hk hs h0 => by unfold msgsF; exact scanI_hit (f := fun k => msgF c (c.msgs.getD k default)) hs h0 _ (by rw [e4]; exact hk)
 have HM2 : Hid (scanI (fun k => msgF c (c.msgs.getD k default)) n4 = 0 → msgsF c = 0) := fun h => by unfold msgsF; rw [e4]; exact h
 clear HV HA hx h1 h2 h3 h4 h5 hlen hsz hneed e0 e1 e2 e3 e4; generalize cluS c = R at *; generalize szC c = z0 at *; generalize consF c = z1 at *; generalize shdsF c = z2 at *; generalize accsF c = z3 at *; generalize ldrsA c = z4 at *; generalize msgsF c = z5 at *
 by_cases q0 : 20 < n0
 ·
  have HC : Hid (R = 2) := by show _ = _; rw [HR.out, HZ0.out, if_neg (fun x => by omega)]; rfl
  have b0 : (20 : Int) < (n0 : Int) := by omega
  clear HR HZ0 HB HL0 HL1 HL2 HL3 HLM
  go_enter Tryz.func14, Tryz.ntmps14
  go_wp2; go_ret; exact ⟨by rw [HC.out]; rfl, qBq⟩
 have b0 : ¬ (20 : Int) < (n0 : Int) := by omega
 by_cases q1 : n1 < 1
 ·
  have HC : Hid (R = 2) := by show _ = _; rw [HR.out, HZ0.out, if_neg (fun x => by omega)]; rfl
  have b1 : (n1 : Int) < 1 := by omega
  clear HR HZ0 HB HL0 HL1 HL2 HL3 HLM
  go_enter Tryz.func14, Tryz.ntmps14
  go_wp2; go_ret; exact ⟨by rw [HC.out]; rfl, qBq⟩
 have b1 : ¬ (n1 : Int) < 1 := by omega
 by_cases q2 : 3 < n1
 ·
  have HC : Hid (R = 2) := by show _ = _; rw [HR.out, HZ0.out, if_neg (fun x => by omega)]; rfl
  have b2 : (3 : Int) < (n1 : Int) := by omega
  clear HR HZ0 HB HL0 HL1 HL2 HL3 HLM
  go_enter Tryz.func14, Tryz.ntmps14
  go_wp2; go_ret; exact ⟨by rw [HC.out]; rfl, qBq⟩
 have b2 : ¬ (3 : Int) < (n1 : Int) := by omega
 by_cases q3 : n2 < 1
 ·
  have HC : Hid (R = 2) := by show _ = _; rw [HR.out, HZ0.out, if_neg (fun x => by omega)]; rfl
  have b3 : (n2 : Int) < 1 := by omega
  clear HR HZ0 HB HL0 HL1 HL2 HL3 HLM
  go_enter Tryz.func14, Tryz.ntmps14
  go_wp2; go_ret; exact ⟨by rw [HC.out]; rfl, qBq⟩
 have b3 : ¬ (n2 : Int) < 1 := by omega
 by_cases q4 : 5 < n2
 ·
  have HC : Hid (R = 2) := by show _ = _; rw [HR.out, HZ0.out, if_neg (fun x => by omega)]; rfl
  have b4 : (5 : Int) < (n2 : Int) := by omega
  clear HR HZ0 HB HL0 HL1 HL2 HL3 HLM
  go_enter Tryz.func14, Tryz.ntmps14
  go_wp2; go_ret; exact ⟨by rw [HC.out]; rfl, qBq⟩
 have b4 : ¬ (5 : Int) < (n2 : Int) := by omega
 by_cases q5 : ¬ n3 = 2
 ·
  have HC : Hid (R = 2) := by show _ = _; rw [HR.out, HZ0.out, if_neg (fun x => by omega)]; rfl
  have b5 : ((n3 : Int) != 2) = true := by simp; omega
  clear HR HZ0 HB HL0 HL1 HL2 HL3 HLM
  go_enter Tryz.func14, Tryz.ntmps14
  go_wp2; go_ret; exact ⟨by rw [HC.out]; rfl, qBq⟩
 have b5 : ((n3 : Int) != 2) = false := by simp; omega
 by_cases q6 : 200 < n4
 ·
  have HC : Hid (R = 2) := by show _ = _; rw [HR.out, HZ0.out, if_neg (fun x => by omega)]; rfl
  have b6 : (200 : Int) < (n4 : Int) := by omega
  clear HR HZ0 HB HL0 HL1 HL2 HL3 HLM
  go_enter Tryz.func14, Tryz.ntmps14
  go_wp2; go_ret; exact ⟨by rw [HC.out]; rfl, qBq⟩
 have b6 : ¬ (200 : Int) < (n4 : Int) := by omega
 have HRR : Hid (R = orF z1 (orF z2 (orF z3 (orF z4 z5)))) := by show _ = _; rw [HR.out, orF_z (by rw [HZ0.out, if_pos ⟨by omega, ⟨by omega, by omega⟩, ⟨by omega, by omega⟩, by omega, by omega⟩])]
 clear HR HZ0 HB q0 q1 q2 q3 q4 q5 q6
 go_enter Tryz.func14, Tryz.ntmps14
 go_wp2_with fail
 refine (HL0.out _ (qBq) (by first | exact Y | exact ykeep (qBq) Y | exact ⟨by simp [go_sem], by simp [go_sem], by simp [go_sem], by simp [go_sem], by simp [go_sem]⟩)).mono ?_
 rintro e w1 ⟨rfl, hb⟩
 have hB1 : Below w.heap.size w w1 := bS (qBq) hb
 have Y1 : w1.cell? ⟨w.heap.size, 0, none⟩ = some (.slice a0 n0 c0) ∧ w1.cell? ⟨w.heap.size, 1, none⟩ = some (.slice a1 n1 c1) ∧ w1.cell? ⟨w.heap.size, 2, none⟩ = some (.slice a2 n2 c2) ∧ w1.cell? ⟨w.heap.size, 3, none⟩ = some (.slice a3 n3 c3) ∧ w1.cell? ⟨w.heap.size, 4, none⟩ = some (.slice a4 n4 c4) := ⟨cK hb (by simp [go_sem]), cK hb (by simp [go_sem]), cK hb (by simp [go_sem]), cK hb (by simp [go_sem]), cK hb (by simp [go_sem])⟩
 clear hb HL0
 by_cases hz0 : z1 = 0
 rotate_left
 ·
  have HC : Hid (R = z1) := by show _ = _; rw [HRR.out, orF_n hz0]
  have hz' : (z1 != 0) = true := by simp [hz0]
  clear HRR; go_wp2; go_ret
  exact ⟨by rw [HC.out]; rfl, hB1⟩
 subst hz0
 have HRR1 : Hid (R = orF z2 (orF z3 (orF z4 z5))) := by show _ = _; rw [HRR.out, orF_z rfl]
 clear HRR b0 b1 b2 b3 b4 b5 b6
 go_wp2_with fail
 refine (HL1.out _ (qBq) (by first | exact Y1 | exact ykeep (qBq) Y1)).mono ?_
 rintro e w2 ⟨rfl, hb⟩
 have hB2 : Below w.heap.size w w2 := bS (qBq) hb
 have Y2 : w2.cell? ⟨w.heap.size, 0, none⟩ = some (.slice a0 n0 c0) ∧ w2.cell? ⟨w.heap.size, 1, none⟩ = some (.slice a1 n1 c1) ∧ w2.cell? ⟨w.heap.size, 2, none⟩ = some (.slice a2 n2 c2) ∧ w2.cell? ⟨w.heap.size, 3, none⟩ = some (.slice a3 n3 c3) ∧ w2.cell? ⟨w.heap.size, 4, none⟩ = some (.slice a4 n4 c4) := ykeep hb (by first | exact Y1 | exact ykeep (qBq) Y1)
 clear hb HL1
 by_cases hz1 : z2 = 0
 rotate_left
 ·
  have HC : Hid (R = z2) := by show _ = _; rw [HRR1.out, orF_n hz1]
  have hz' : (z2 != 0) = true := by simp [hz1]
  clear HRR1; go_wp2; go_ret
  exact ⟨by rw [HC.out]; rfl, hB2⟩
 subst hz1
 have HRR2 : Hid (R = orF z3 (orF z4 z5)) := by show _ = _; rw [HRR1.out, orF_z rfl]
 clear HRR1 Y1 hB1
 go_wp2_with fail
 refine (HL2.out _ (qBq) (by first | exact Y2 | exact ykeep (qBq) Y2)).mono ?_
 rintro e w3 ⟨rfl, hb⟩
 have hB3 : Below w.heap.size w w3 := bS (qBq) hb
 have Y3 : w3.cell? ⟨w.heap.size, 0, none⟩ = some (.slice a0 n0 c0) ∧ w3.cell? ⟨w.heap.size, 1, none⟩ = some (.slice a1 n1 c1) ∧ w3.cell? ⟨w.heap.size, 2, none⟩ = some (.slice a2 n2 c2) ∧ w3.cell? ⟨w.heap.size, 3, none⟩ = some (.slice a3 n3 c3) ∧ w3.cell? ⟨w.heap.size, 4, none⟩ = some (.slice a4 n4 c4) := ykeep hb (by first | exact Y2 | exact ykeep (qBq) Y2)
 clear hb HL2
 by_cases hz2 : z3 = 0
 rotate_left
 ·
  have HC : Hid (R = z3) := by show _ = _; rw [HRR2.out, orF_n hz2]
  have hz' : (z3 != 0) = true := by simp [hz2]
  clear HRR2; go_wp2; go_ret
  exact ⟨by rw [HC.out]; rfl, hB3⟩
 subst hz2
 have HRR3 : Hid (R = orF z4 z5) := by show _ = _; rw [HRR2.out, orF_z rfl]
 clear HRR2 Y2 hB2
 go_wp2_with fail
 refine (HL3.out _ (qBq) (by first | exact Y3 | exact ykeep (qBq) Y3)).mono ?_
 rintro e w4 ⟨rfl, hb⟩
 have hB4 : Below w.heap.size w w4 := bS (qBq) hb
 have Y4 : w4.cell? ⟨w.heap.size, 0, none⟩ = some (.slice a0 n0 c0) ∧ w4.cell? ⟨w.heap.size, 1, none⟩ = some (.slice a1 n1 c1) ∧ w4.cell? ⟨w.heap.size, 2, none⟩ = some (.slice a2 n2 c2) ∧ w4.cell? ⟨w.heap.size, 3, none⟩ = some (.slice a3 n3 c3) ∧ w4.cell? ⟨w.heap.size, 4, none⟩ = some (.slice a4 n4 c4) := ykeep hb (by first | exact Y3 | exact ykeep (qBq) Y3)
 clear hb HL3
 by_cases hz3 : z4 = 0
 rotate_left
 ·
  have HC : Hid (R = z4) := by show _ = _; rw [HRR3.out, orF_n hz3]
  have hz' : (z4 != 0) = true := by simp [hz3]
  clear HRR3; go_wp2; go_ret
  exact ⟨by rw [HC.out]; rfl, hB4⟩
 subst hz3
 have HR5 : Hid (R = z5) := by show _ = _; rw [HRR3.out, orF_z rfl]
 clear HRR3 Y3 hB3; go_wp2
 go_loopw [7] (fun i w' => ∃ k : Nat, k ≤ n4 ∧ i = .int .i64 k ∧ Hid (scanI (fun k => msgF c (c.msgs.getD k default)) k = 0) ∧ (w'.cell? ⟨w.heap.size, 0, none⟩ = some (.slice a0 n0 c0) ∧ w'.cell? ⟨w.heap.size, 1, none⟩ = some (.slice a1 n1 c1) ∧ w'.cell? ⟨w.heap.size, 2, none⟩ = some (.slice a2 n2 c2) ∧ w'.cell? ⟨w.heap.size, 3, none⟩ = some (.slice a3 n3 c3) ∧ w'.cell? ⟨w.heap.size, 4, none⟩ = some (.slice a4 n4 c4)) ∧ Below w.heap.size w w') (fun i _ => n4 - (intOf i).toNat)
 case atStart => exact ⟨0, Nat.zero_le _, rfl, rfl, Y4, hB4⟩
 case round =>
  obtain ⟨k, hk, rfl, HS, Y, hbl⟩ := hrel
  have zq : w.heap.size < _ := wL _ _ Y.1
  have y4 := Y.2.2.2.2
  by_cases hlt : k < n4
  ·
   have HA := HX.out k hlt
   have HM := HLM.out (c.msgs.getD k default)
   have HM' : Hid _ := HM
   have HH : Hid (¬ msgF c (c.msgs.getD k default) = 0 → R = msgF c (c.msgs.getD k default)) := fun h => by show _ = _; rw [HR5.out]; exact HM1.out k hlt HS.out h
   have HZ : Hid (msgF c (c.msgs.getD k default) = 0 → scanI (fun k => msgF c (c.msgs.getD k default)) (k + 1) = 0) := fun h => scanI_succ (f := fun k => msgF c (c.msgs.getD k default)) HS.out h
   clear HM
   obtain ⟨m, hm0⟩ : ∃ m, m = c.msgs.getD k default := ⟨_, rfl⟩
   rw [← hm0] at HA HH HZ HM'
   clear hm0; obtain ⟨b, o, rfl, g0, g1, g2, g3, g4, g5, g6, g7, g8⟩ := HA; replace g0 := cK hbl g0; replace g1 := cK hbl g1; replace g2 := cK hbl g2; replace g3 := cK hbl g3; replace g4 := cK hbl g4; replace g5 := cK hbl g5; replace g6 := cK hbl g6; replace g7 := cK hbl g7; replace g8 := cK hbl g8
   have hti : (k : Int) < (n4 : Int) := by omega
   generalize msgF c m = z at *
   unfold msgV at HM'
   obtain ⟨m0, m1, m2, m3, m4, m5, m6, m7, m8⟩ := m
   dsimp only at HM' g0 g1 g2 g3 g4 g5 g6 g7 g8
   go_wp2_with fail
   refine (HM'.out _ (qBq) (by first | exact Y | exact ykeep (qBq) Y)).mono ?_
   rintro e w5 ⟨rfl, hb5⟩
   have hB5 : Below w.heap.size w w5 := bS (qBq) hb5
   have Y5 : w5.cell? ⟨w.heap.size, 0, none⟩ = some (.slice a0 n0 c0) ∧ w5.cell? ⟨w.heap.size, 1, none⟩ = some (.slice a1 n1 c1) ∧ w5.cell? ⟨w.heap.size, 2, none⟩ = some (.slice a2 n2 c2) ∧ w5.cell? ⟨w.heap.size, 3, none⟩ = some (.slice a3 n3 c3) ∧ w5.cell? ⟨w.heap.size, 4, none⟩ = some (.slice (some ⟨b, o, none⟩) n4 c4) := ykeep hb5 (by first | exact Y | exact ykeep (qBq) Y)
   clear hb5 HM' g0 g1 g2 g3 g4 g5 g6 g7 g8
   by_cases hz : z = 0
   ·
    have HQ : Hid _ := HZ.out hz
    subst hz; clear HH HZ; go_wp2
    exact ⟨⟨k + 1, by omega, by go_num, HQ, Y5, hB5⟩, by simp [intOf]; omega⟩
   ·
    have HC : Hid _ := HH.out hz
    have hz' : (z != 0) = true := by simp [hz]
    clear HH HZ; go_wp2; go_ret
    exact ⟨by rw [HC.out]; rfl, hB5⟩
  ·
   obtain rfl : k = n4 := by omega
   have hti : ¬ (k : Int) < (k : Int) := by omega
   have HC : Hid (R = 0) := by show _ = _; rw [HR5.out]; exact HM2.out HS.out
   go_wp2; go_ret; exact ⟨by rw [HC.out]; rfl, hbl⟩
theorem zkeep {w W : World} {B : Nat} (h : Below w.heap.size w W) (z : w.cell? ⟨B, 0, none⟩ = some (.func (.func 46) #[] #[]) ∧ w.cell? ⟨B, 1, none⟩ = some (.func (.func 47) #[] #[]) ∧ w.cell? ⟨B, 2, none⟩ = some (.func (.func 48) #[] #[]) ∧ w.cell? ⟨B, 3, none⟩ = some (.func (.func 49) #[] #[]) ∧ w.cell? ⟨B, 4, none⟩ = some (.func (.func 50) #[] #[]) ∧ w.cell? ⟨B, 5, none⟩ = some (.func (.func 51) #[] #[]) ∧ w.cell? ⟨B, 6, none⟩ = some (.func (.func 52) #[] #[]) ∧ w.cell? ⟨B, 7, none⟩ = some (.func (.func 53) #[] #[])) : W.cell? ⟨B, 0, none⟩ = some (.func (.func 46) #[] #[]) ∧ W.cell? ⟨B, 1, none⟩ = some (.func (.func 47) #[] #[]) ∧ W.cell? ⟨B, 2, none⟩ = some (.func (.func 48) #[] #[]) ∧ W.cell? ⟨B, 3, none⟩ = some (.func (.func 49) #[] #[]) ∧ W.cell? ⟨B, 4, none⟩ = some (.func (.func 50) #[] #[]) ∧ W.cell? ⟨B, 5, none⟩ = some (.func (.func 51) #[] #[]) ∧ W.cell? ⟨B, 6, none⟩ = some (.func (.func 52) #[] #[]) ∧ W.cell? ⟨B, 7, none⟩ = some (.func (.func 53) #[] #[]) := ⟨cK h z.1, cK h z.2.1, cK h z.2.2.1, cK h z.2.2.2.1, cK h z.2.2.2.2.1, cK h z.2.2.2.2.2.1, cK h z.2.2.2.2.2.2.1, cK h z.2.2.2.2.2.2.2⟩
theorem implCluF_any (x : Value) (c : Clu) (w : World) (hx : cluR.V w x c) (hneed : ∀ k, k < c.ldrs.length → ∀ i, i < (c.ldrs.getD k default).tries.length → ((c.ldrs.getD k default).tries.getD i default).frm.length ≤ 1048576) :
  Calls Tryz.prog 21 #[x] w fun e w' => e = .returned (.int .i64 (cluF c)) ∧ Below w.heap.size w w' := by
 have HV : ∀ W, Below w.heap.size w W → cluR.V W x c := fun W hW => cluR.below hx hW
 have HF0 : Hid (∀ W, Below w.heap.size w W → Calls Tryz.prog 46 #[x] W fun e w' => e = .returned (.int .i64 (partF c 0)) ∧ Below W.heap.size W w') := fun W hW => sizes_any x c W (HV W hW)
 have eg0 := enters_of Tryz.func46 (by kernel_rfl) rfl
 have HF1 : Hid (∀ W, Below w.heap.size w W → Calls Tryz.prog 47 #[x] W fun e w' => e = .returned (.int .i64 (partF c 1)) ∧ Below W.heap.size W w') := fun W hW => contractsF_any x c W (HV W hW)
 have eg1 := enters_of Tryz.func47 (by kernel_rfl) rfl
 have HF2 : Hid (∀ W, Below w.heap.size w W → Calls Tryz.prog 48 #[x] W fun e w' => e = .returned (.int .i64 (partF c 2)) ∧ Below W.heap.size W w') := fun W hW => shardsF_any x c W (HV W hW)
 have eg2 := enters_of Tryz.func48 (by kernel_rfl) rfl
 have HF3 : Hid (∀ W, Below w.heap.size w W → Calls Tryz.prog 49 #[x] W fun e w' => e = .returned (.int .i64 (partF c 3)) ∧ Below W.heap.size W w') := fun W hW => slotsF_any x c W (HV W hW)
 have eg3 := enters_of Tryz.func49 (by kernel_rfl) rfl
 have HF4 : Hid (∀ W, Below w.heap.size w W → Calls Tryz.prog 50 #[x] W fun e w' => e = .returned (.int .i64 (partF c 4)) ∧ Below W.heap.size W w') := fun W hW => leadersF_any x c W (HV W hW)
 have eg4 := enters_of Tryz.func50 (by kernel_rfl) rfl
 have HF5 : Hid (∀ W, Below w.heap.size w W → Calls Tryz.prog 51 #[x] W fun e w' => e = .returned (.int .i64 (partF c 5)) ∧ Below W.heap.size W w') := fun W hW => triesF_any x c W (HV W hW) hneed
 have eg5 := enters_of Tryz.func51 (by kernel_rfl) rfl
 have HF6 : Hid (∀ W, Below w.heap.size w W → Calls Tryz.prog 52 #[x] W fun e w' => e = .returned (.int .i64 (partF c 6)) ∧ Below W.heap.size W w') := fun W hW => knownF_any x c W (HV W hW)
 have eg6 := enters_of Tryz.func52 (by kernel_rfl) rfl
 have HF7 : Hid (∀ W, Below w.heap.size w W → Calls Tryz.prog 53 #[x] W fun e w' => e = .returned (.int .i64 (partF c 7)) ∧ Below W.heap.size W w') := fun W hW => messagesF_any x c W (HV W hW)
 have eg7 := enters_of Tryz.func53 (by kernel_rfl) rfl
 clear HV hneed; obtain ⟨a0, a1, a2, a3, a4, c0, c1, c2, c3, c4, n0, n1, n2, n3, n4, rfl, e0, e1, e2, e3, e4, L0, L1, L2, L3, L4⟩ := clu_formN hx; clear hx e0 e1 e2 e3 e4 L0 L1 L2 L3 L4
 have H1 : Hid (∀ k, k < 8 → scanI (partF c) k = 0 → ¬ partF c k = 0 → cluF c = partF c k) := fun k hk hs h0 => scanI_hit hs h0 8 hk
 have H2 : Hid (scanI (partF c) 8 = 0 → cluF c = 0) := fun h => h
 generalize cluF c = R at *
 go_enter Tryz.func21, Tryz.ntmps21
 go_wp2
 go_loopw [10] (fun i w' => ∃ k : Nat, k ≤ 8 ∧ i = .int .i64 k ∧ Hid (scanI (partF c) k = 0) ∧ (w'.cell? ⟨w.heap.size, 0, none⟩ = some (.slice a0 n0 c0) ∧ w'.cell? ⟨w.heap.size, 1, none⟩ = some (.slice a1 n1 c1) ∧ w'.cell? ⟨w.heap.size, 2, none⟩ = some (.slice a2 n2 c2) ∧ w'.cell? ⟨w.heap.size, 3, none⟩ = some (.slice a3 n3 c3) ∧ w'.cell? ⟨w.heap.size, 4, none⟩ = some (.slice a4 n4 c4)) ∧ (w'.cell? ⟨w.heap.size + 1, 0, none⟩ = some (.func (.func 46) #[] #[]) ∧ w'.cell? ⟨w.heap.size + 1, 1, none⟩ = some (.func (.func 47) #[] #[]) ∧ w'.cell? ⟨w.heap.size + 1, 2, none⟩ = some (.func (.func 48) #[] #[]) ∧ w'.cell? ⟨w.heap.size + 1, 3, none⟩ = some (.func (.func 49) #[] #[]) ∧ w'.cell? ⟨w.heap.size + 1, 4, none⟩ = some (.func (.func 50) #[] #[]) ∧ w'.cell? ⟨w.heap.size + 1, 5, none⟩ = some (.func (.func 51) #[] #[]) ∧ w'.cell? ⟨w.heap.size + 1, 6, none⟩ = some (.func (.func 52) #[] #[]) ∧ w'.cell? ⟨w.heap.size + 1, 7, none⟩ = some (.func (.func 53) #[] #[])) ∧ Below w.heap.size w w') (fun i _ => 8 - (intOf i).toNat)
 case atStart => exact ⟨0, Nat.zero_le _, rfl, rfl, ⟨by simp [go_sem], by simp [go_sem], by simp [go_sem], by simp [go_sem], by simp [go_sem]⟩, ⟨by simp [go_sem], by simp [go_sem], by simp [go_sem], by simp [go_sem], by simp [go_sem], by simp [go_sem], by simp [go_sem], by simp [go_sem]⟩, qBq⟩
 case round =>
  obtain ⟨k, hk, rfl, HS, Y, Z, hbl⟩ := hrel
  have zq : w.heap.size < wr.heap.size := wL wr _ Y.1
  obtain rfl | rfl | rfl | rfl | rfl | rfl | rfl | rfl | rfl : k = 0 ∨ k = 1 ∨ k = 2 ∨ k = 3 ∨ k = 4 ∨ k = 5 ∨ k = 6 ∨ k = 7 ∨ k = 8 := by omega
  ·
   have HH : Hid (¬ partF c 0 = 0 → R = partF c 0) := fun h => H1.out 0 (by omega) HS.out h
   have HZ : Hid (partF c 0 = 0 → scanI (partF c) 1 = 0) := fun h => scanI_succ HS.out h
   have HC : Hid _ := HF0.out
   clear H1 H2 HS HF0 HF1 HF2 HF3 HF4 HF5 HF6 HF7 eg1 eg2 eg3 eg4 eg5 eg6 eg7; obtain ⟨y0, y1, y2, y3, y4⟩ := Y
   have z0 := Z.1
   generalize partF c 0 = z at *
   go_wp2_with fail
   refine (HC.out _ (qBq)).mono ?_
   rintro e w1 ⟨rfl, hb1⟩
   have hB1 : Below w.heap.size w w1 := bS (qBq) hb1
   have Y1 := ykeep hb1 (ykeep (qBq) (And.intro y0 (And.intro y1 (And.intro y2 (And.intro y3 y4)))))
   have Z1 := zkeep hb1 (zkeep (qBq) Z)
   clear hb1 HC Z
   by_cases hz : z = 0
   ·
    have HQ : Hid _ := HZ.out hz
    subst hz; clear HH HZ; go_wp2
    exact ⟨⟨1, by omega, by first | rfl | go_num, HQ, Y1, Z1, hB1⟩, by simp [intOf]⟩
   ·
    have HR : Hid _ := HH.out hz
    have hz' : (z != 0) = true := by simp [hz]
    clear HH HZ; go_wp2; go_ret
    exact ⟨by rw [HR.out]; rfl, hB1⟩
  ·
   have HH : Hid (¬ partF c 1 = 0 → R = partF c 1) := fun h => H1.out 1 (by omega) HS.out h
   have HZ : Hid (partF c 1 = 0 → scanI (partF c) 2 = 0) := fun h => scanI_succ HS.out h
   have HC : Hid _ := HF1.out
   clear H1 H2 HS HF0 HF1 HF2 HF3 HF4 HF5 HF6 HF7 eg0 eg2 eg3 eg4 eg5 eg6 eg7; obtain ⟨y0, y1, y2, y3, y4⟩ := Y
   have z1 := Z.2.1
   generalize partF c 1 = z at *
   go_wp2_with fail
   refine (HC.out _ (qBq)).mono ?_
   rintro e w1 ⟨rfl, hb1⟩
   have hB1 : Below w.heap.size w w1 := bS (qBq) hb1
   have Y1 := ykeep hb1 (ykeep (qBq) (And.intro y0 (And.intro y1 (And.intro y2 (And.intro y3 y4)))))
   have Z1 := zkeep hb1 (zkeep (qBq) Z)
   clear hb1 HC Z
   by_cases hz : z = 0
   ·
    have HQ : Hid _ := HZ.out hz
    subst hz; clear HH HZ; go_wp2
    exact ⟨⟨2, by omega, by first | rfl | go_num, HQ, Y1, Z1, hB1⟩, by simp [intOf]⟩
   ·
    have HR : Hid _ := HH.out hz
    have hz' : (z != 0) = true := by simp [hz]
    clear HH HZ; go_wp2; go_ret
    exact ⟨by rw [HR.out]; rfl, hB1⟩
  ·
   have HH : Hid (¬ partF c 2 = 0 → R = partF c 2) := fun h => H1.out 2 (by omega) HS.out h
   have HZ : Hid (partF c 2 = 0 → scanI (partF c) 3 = 0) := fun h => scanI_succ HS.out h
   have HC : Hid _ := HF2.out
   clear H1 H2 HS HF0 HF1 HF2 HF3 HF4 HF5 HF6 HF7 eg0 eg1 eg3 eg4 eg5 eg6 eg7; obtain ⟨y0, y1, y2, y3, y4⟩ := Y
   have z2 := Z.2.2.1
   generalize partF c 2 = z at *
   go_wp2_with fail
   refine (HC.out _ (qBq)).mono ?_
   rintro e w1 ⟨rfl, hb1⟩
   have hB1 : Below w.heap.size w w1 := bS (qBq) hb1
   have Y1 := ykeep hb1 (ykeep (qBq) (And.intro y0 (And.intro y1 (And.intro y2 (And.intro y3 y4)))))
   have Z1 := zkeep hb1 (zkeep (qBq) Z)
   clear hb1 HC Z
   by_cases hz : z = 0
   ·
    have HQ : Hid _ := HZ.out hz
    subst hz; clear HH HZ; go_wp2
    exact ⟨⟨3, by omega, by first | rfl | go_num, HQ, Y1, Z1, hB1⟩, by simp [intOf]⟩
   ·
    have HR : Hid _ := HH.out hz
    have hz' : (z != 0) = true := by simp [hz]
    clear HH HZ; go_wp2; go_ret
    exact ⟨by rw [HR.out]; rfl, hB1⟩
  ·
   have HH : Hid (¬ partF c 3 = 0 → R = partF c 3) := fun h => H1.out 3 (by omega) HS.out h
   have HZ : Hid (partF c 3 = 0 → scanI (partF c) 4 = 0) := fun h => scanI_succ HS.out h
   have HC : Hid _ := HF3.out
   clear H1 H2 HS HF0 HF1 HF2 HF3 HF4 HF5 HF6 HF7 eg0 eg1 eg2 eg4 eg5 eg6 eg7; obtain ⟨y0, y1, y2, y3, y4⟩ := Y
   have z3 := Z.2.2.2.1
   generalize partF c 3 = z at *
   go_wp2_with fail
   refine (HC.out _ (qBq)).mono ?_
   rintro e w1 ⟨rfl, hb1⟩
   have hB1 : Below w.heap.size w w1 := bS (qBq) hb1
   have Y1 := ykeep hb1 (ykeep (qBq) (And.intro y0 (And.intro y1 (And.intro y2 (And.intro y3 y4)))))
   have Z1 := zkeep hb1 (zkeep (qBq) Z)
   clear hb1 HC Z
   by_cases hz : z = 0
   ·
    have HQ : Hid _ := HZ.out hz
    subst hz; clear HH HZ; go_wp2
    exact ⟨⟨4, by omega, by first | rfl | go_num, HQ, Y1, Z1, hB1⟩, by simp [intOf]⟩
   ·
    have HR : Hid _ := HH.out hz
    have hz' : (z != 0) = true := by simp [hz]
    clear HH HZ; go_wp2; go_ret
    exact ⟨by rw [HR.out]; rfl, hB1⟩
  ·
   have HH : Hid (¬ partF c 4 = 0 → R = partF c 4) := fun h => H1.out 4 (by omega) HS.out h
   have HZ : Hid (partF c 4 = 0 → scanI (partF c) 5 = 0) := fun h => scanI_succ HS.out h
   have HC : Hid _ := HF4.out
   clear H1 H2 HS HF0 HF1 HF2 HF3 HF4 HF5 HF6 HF7 eg0 eg1 eg2 eg3 eg5 eg6 eg7; obtain ⟨y0, y1, y2, y3, y4⟩ := Y
   have z4 := Z.2.2.2.2.1
   generalize partF c 4 = z at *
   go_wp2_with fail
   refine (HC.out _ (qBq)).mono ?_
   rintro e w1 ⟨rfl, hb1⟩
   have hB1 : Below w.heap.size w w1 := bS (qBq) hb1
   have Y1 := ykeep hb1 (ykeep (qBq) (And.intro y0 (And.intro y1 (And.intro y2 (And.intro y3 y4)))))
   have Z1 := zkeep hb1 (zkeep (qBq) Z)
   clear hb1 HC Z
   by_cases hz : z = 0
   ·
    have HQ : Hid _ := HZ.out hz
    subst hz; clear HH HZ; go_wp2
    exact ⟨⟨5, by omega, by first | rfl | go_num, HQ, Y1, Z1, hB1⟩, by simp [intOf]⟩
   ·
    have HR : Hid _ := HH.out hz
    have hz' : (z != 0) = true := by simp [hz]
    clear HH HZ; go_wp2; go_ret
    exact ⟨by rw [HR.out]; rfl, hB1⟩
  ·
   have HH : Hid (¬ partF c 5 = 0 → R = partF c 5) := fun h => H1.out 5 (by omega) HS.out h
   have HZ : Hid (partF c 5 = 0 → scanI (partF c) 6 = 0) := fun h => scanI_succ HS.out h
   have HC : Hid _ := HF5.out
   clear H1 H2 HS HF0 HF1 HF2 HF3 HF4 HF5 HF6 HF7 eg0 eg1 eg2 eg3 eg4 eg6 eg7; obtain ⟨y0, y1, y2, y3, y4⟩ := Y
   have z5 := Z.2.2.2.2.2.1
   generalize partF c 5 = z at *
   go_wp2_with fail
   refine (HC.out _ (qBq)).mono ?_
   rintro e w1 ⟨rfl, hb1⟩
   have hB1 : Below w.heap.size w w1 := bS (qBq) hb1
   have Y1 := ykeep hb1 (ykeep (qBq) (And.intro y0 (And.intro y1 (And.intro y2 (And.intro y3 y4)))))
   have Z1 := zkeep hb1 (zkeep (qBq) Z)
   clear hb1 HC Z
   by_cases hz : z = 0
   ·
    have HQ : Hid _ := HZ.out hz
    subst hz; clear HH HZ; go_wp2
    exact ⟨⟨6, by omega, by first | rfl | go_num, HQ, Y1, Z1, hB1⟩, by simp [intOf]⟩
   ·
    have HR : Hid _ := HH.out hz
    have hz' : (z != 0) = true := by simp [hz]
    clear HH HZ; go_wp2; go_ret
    exact ⟨by rw [HR.out]; rfl, hB1⟩
  ·
   have HH : Hid (¬ partF c 6 = 0 → R = partF c 6) := fun h => H1.out 6 (by omega) HS.out h
   have HZ : Hid (partF c 6 = 0 → scanI (partF c) 7 = 0) := fun h => scanI_succ HS.out h
   have HC : Hid _ := HF6.out
   clear H1 H2 HS HF0 HF1 HF2 HF3 HF4 HF5 HF6 HF7 eg0 eg1 eg2 eg3 eg4 eg5 eg7; obtain ⟨y0, y1, y2, y3, y4⟩ := Y
   have z6 := Z.2.2.2.2.2.2.1
   generalize partF c 6 = z at *
   go_wp2_with fail
   refine (HC.out _ (qBq)).mono ?_
   rintro e w1 ⟨rfl, hb1⟩
   have hB1 : Below w.heap.size w w1 := bS (qBq) hb1
   have Y1 := ykeep hb1 (ykeep (qBq) (And.intro y0 (And.intro y1 (And.intro y2 (And.intro y3 y4)))))
   have Z1 := zkeep hb1 (zkeep (qBq) Z)
   clear hb1 HC Z
   by_cases hz : z = 0
   ·
    have HQ : Hid _ := HZ.out hz
    subst hz; clear HH HZ; go_wp2
    exact ⟨⟨7, by omega, by first | rfl | go_num, HQ, Y1, Z1, hB1⟩, by simp [intOf]⟩
   ·
    have HR : Hid _ := HH.out hz
    have hz' : (z != 0) = true := by simp [hz]
    clear HH HZ; go_wp2; go_ret
    exact ⟨by rw [HR.out]; rfl, hB1⟩
  ·
   have HH : Hid (¬ partF c 7 = 0 → R = partF c 7) := fun h => H1.out 7 (by omega) HS.out h
   have HZ : Hid (partF c 7 = 0 → scanI (partF c) 8 = 0) := fun h => scanI_succ HS.out h
   have HC : Hid _ := HF7.out
   clear H1 H2 HS HF0 HF1 HF2 HF3 HF4 HF5 HF6 HF7 eg0 eg1 eg2 eg3 eg4 eg5 eg6; obtain ⟨y0, y1, y2, y3, y4⟩ := Y
   have z7 := Z.2.2.2.2.2.2.2
   generalize partF c 7 = z at *
   go_wp2_with fail
   refine (HC.out _ (qBq)).mono ?_
   rintro e w1 ⟨rfl, hb1⟩
   have hB1 : Below w.heap.size w w1 := bS (qBq) hb1
   have Y1 := ykeep hb1 (ykeep (qBq) (And.intro y0 (And.intro y1 (And.intro y2 (And.intro y3 y4)))))
   have Z1 := zkeep hb1 (zkeep (qBq) Z)
   clear hb1 HC Z
   by_cases hz : z = 0
   ·
    have HQ : Hid _ := HZ.out hz
    subst hz; clear HH HZ; go_wp2
    exact ⟨⟨8, by omega, by first | rfl | go_num, HQ, Y1, Z1, hB1⟩, by simp [intOf]⟩
   ·
    have HR : Hid _ := HH.out hz
    have hz' : (z != 0) = true := by simp [hz]
    clear HH HZ; go_wp2; go_ret
    exact ⟨by rw [HR.out]; rfl, hB1⟩
  ·
   have HC : Hid (R = 0) := H2.out HS.out
   go_wp2; go_ret; exact ⟨by rw [HC.out]; rfl, hbl⟩
def settB (c : Clu) (x : Cont) : Bool := (shardsL x.legs).all (fun s => findM x.id (c.shards.getD s.toNat default).done != 0)
def settD (c : Clu) (id : Int) : Bool := decide (cluF c = 0) && (decide (firstC c.cons id < c.cons.length) && settB c (c.cons.getD (firstC c.cons id) default))
theorem firstC_id {cs : List Cont} {id : Int} (h : firstC cs id < cs.length) : (cs.getD (firstC cs id) default).id = id := by
 have := List.findIdx_getElem (p := fun x : Cont => x.id == id) (w := h)
 simp only [beq_iff_eq] at this
 simp only [List.getD, List.getElem?_eq_getElem h, Option.getD_some]
 exact this
theorem clu_con {c : Clu} (h : cluF c = 0) {k : Nat} (hk : k < c.cons.length) : contractFault (c.cons.getD k default).id (c.cons.getD k default).legs = 0 ∧ ∀ s, s ∈ shardsL (c.cons.getD k default).legs → 0 ≤ s ∧ s < (c.shards.length : Int) := by
 have h1 := (cluF_zero.1 h).2.1
 unfold consF at h1
 have h2 := scanI_zero h1 k hk
 unfold conAt at h2
 have h3 := (orF_zero.1 h2).1
 unfold subF at h3
 obtain ⟨h4, h5⟩ := orF_zero.1 h3
 refine ⟨h4, fun s hs => ?_⟩
 have h6 : legsIn c.shards.length (c.cons.getD k default).legs = true := by
  cases hq : legsIn c.shards.length (c.cons.getD k default).legs with
  | true => rfl
  | false => rw [hq] at h5; simp at h5
 have hh : hasS (c.cons.getD k default).legs s = true := by
  unfold shardsL sl at hs
  cases q0 : hasS (c.cons.getD k default).legs 0 <;> cases q1 : hasS (c.cons.getD k default).legs 1 <;> cases q2 : hasS (c.cons.getD k default).legs 2 <;> rw [q0, q1, q2] at hs <;> simp at hs
  all_goals rcases hs with rfl | rfl | rfl
  all_goals first | exact q0 | exact q1 | exact q2
 unfold hasS at hh
 rw [List.any_eq_true] at hh
 obtain ⟨l, hl, e⟩ := hh
 unfold legsIn at h6
 rw [List.all_eq_true] at h6
 have := h6 l hl
 rw [inBi] at this
 rw [beq_iff_eq] at e
 omega
theorem clu_shd {c : Clu} (h : cluF c = 0) {k : Nat} (hk : k < c.shards.length) : LsOk (c.shards.getD k default) := by
 have h1 := (cluF_zero.1 h).2.2.1
 unfold shdsF at h1
 have h2 := scanI_zero h1 k hk
 unfold shdAt at h2
 have h3 := (orF_zero.1 h2).1
 unfold shdF at h3
 by_cases hl : listsF (c.shards.getD k default) = 0
 ·
  exact (listsF_ok hl).2.1
 ·
  rw [if_neg hl] at h3
  exact absurd h3 hl
theorem settB_hit {c : Clu} {x : Cont} {j : Nat} (hj : j < (shardsL x.legs).length) (h : findM x.id (c.shards.getD ((shardsL x.legs).getD j 0).toNat default).done = 0) : settB c x = false := by
 unfold settB
 rw [List.all_eq_false]
 refine ⟨(shardsL x.legs).getD j 0, ?_, by rw [h]; simp⟩
 simp only [List.getD, List.getElem?_eq_getElem hj, Option.getD_some]
 exact List.getElem_mem hj
theorem settB_all {c : Clu} {x : Cont} (h : ∀ j, j < (shardsL x.legs).length → ¬ findM x.id (c.shards.getD ((shardsL x.legs).getD j 0).toNat default).done = 0) : settB c x = true := by
 unfold settB
 rw [List.all_eq_true]
 intro s hs
 obtain ⟨i, hi, rfl⟩ := List.getElem_of_mem hs
 have := h i hi
 simp only [List.getD, List.getElem?_eq_getElem hi, Option.getD_some] at this
 simpa [List.getD] using this
theorem isSettled_any (x y : Value) (c : Clu) (l : Cont) (w : World) (hx : cluR.V w x c) (hy : contR.V w y l) (hcf : contractFault l.id l.legs = 0) (hsh : ∀ s, s ∈ shardsL l.legs → 0 ≤ s ∧ s < (c.shards.length : Int)) (hls : ∀ k, k < c.shards.length → LsOk (c.shards.getD k default)) :
  Calls Tryz.prog 23 #[x, y] w fun e w' => e = .returned (.bool (settB c l)) ∧ Below w.heap.size w w' := by
 obtain ⟨u, rfl, hl⟩ := hy
 have HSo : Hid (∀ W, Below w.heap.size w W → Calls Tryz.prog 56 #[.agg #[.int .i64 l.id, u]] W fun e w' => ∃ v, e = .returned (.agg #[.int .i64 (shCode l.id l.legs), v]) ∧ w'.ownsRow W.heap.size 2 1 v (shardsL l.legs).length (intsC (shardsL l.legs)) ∧ Below W.heap.size W w') := fun W hW => by
  have h := implShardsOf_any l.id u l.legs W (legsR.below hl hW)
  rw [show shList l.id l.legs = shardsL l.legs from if_pos hcf] at h
  exact h
 obtain ⟨p, q, rfl⟩ := legs_form hl
 have hx' := hx
 obtain ⟨a0, a1, a2, a3, a4, c0, c1, c2, c3, c4, n0, n1, n2, n3, n4, rfl, e0, e1, e2, e3, e4, L0, L1, L2, L3, L4⟩ := clu_formN hx
 obtain ⟨u1, u2, u3, u4, u5, eq, h1, h2, h3, h4, h5⟩ := hx'
 simp only [Value.agg.injEq, Array.mk.injEq, List.cons.injEq, and_true] at eq
 obtain ⟨rfl, rfl, rfl, rfl, rfl⟩ := eq; obtain ⟨_, hnc, hmc, HA⟩ := shds_at h2
 unfold maxLen at hmc
 have HX : Hid _ := HA
 rw [e1] at hsh hls
 have HSh : Hid _ := hsh
 have HLs : Hid _ := hls
 have HT1 : Hid (∀ j, j < (shardsL l.legs).length → findM l.id (c.shards.getD ((shardsL l.legs).getD j 0).toNat default).done = 0 → settB c l = false) := fun j hj h => settB_hit hj h
 have HT2 : Hid ((∀ j, j < (shardsL l.legs).length → ¬ findM l.id (c.shards.getD ((shardsL l.legs).getD j 0).toNat default).done = 0) → settB c l = true) := fun h => settB_all h
 clear HA h1 h2 h3 h4 h5 hx hl hcf hsh hls e0 e1 e2 e3 e4 L0 L2 L3 L4; generalize settB c l = R at *; generalize shCode l.id l.legs = cd at *
 obtain ⟨SL, hSL⟩ : ∃ SL, SL = shardsL l.legs := ⟨_, rfl⟩
 rw [← hSL] at HSo HSh HT1 HT2
 clear hSL; generalize hml : l.legs.length = ml at *; clear hml
 go_enter Tryz.func23, Tryz.ntmps23
 go_wp2_with fail
 refine (HSo.out _ (qBq)).mono ?_
 rintro e w1 ⟨v, rfl, ho, hb1⟩
 have hB1 : Below w.heap.size w w1 := qBq
 have y1 : w1.cell? ⟨w.heap.size, 1, none⟩ = some (.slice a1 n1 c1) := cK hb1 (by simp [go_sem])
 have t0 : w1.cell? ⟨w.heap.size + 1, 0, none⟩ = some (.int .i64 l.id) := cK hb1 (by simp [go_sem])
 obtain ⟨a5, c5, rfl, hc5, hm5, hIV⟩ := IntsV_of_owns ho
 unfold maxLen at hm5
 have HI : Hid _ := hIV
 clear ho hb1 hIV HSo; generalize hmm : SL.length = m at *
 have hfd : ∀ w : World, (Instr.field 116 (.agg #[.int .i64 cd, .slice a5 m c5]) 1).run Tryz.prog w = .ok (.slice a5 m c5) w := fun _ => by kernel_rfl
 go_wp2
 clear hfd
 go_loopw [11] (fun i w' => ∃ j : Nat, j ≤ m ∧ i = .int .i64 j ∧ Hid (∀ j', j' < j → ¬ findM l.id (c.shards.getD (SL.getD j' 0).toNat default).done = 0) ∧ Below w1.heap.size w1 w') (fun i _ => m - (intOf i).toNat)
 case atStart => exact ⟨0, Nat.zero_le _, rfl, fun j hj => absurd hj (Nat.not_lt_zero _), Below.refl _ _⟩
 case round =>
  obtain ⟨j, hj, rfl, HS, hbl⟩ := hrel
  have hblw := bS hB1 hbl
  replace y1 := cK hbl y1; replace t0 := cK hbl t0
  by_cases hlt : j < m
  ·
   obtain ⟨b5, o5, rfl, g5⟩ := HI.out j hlt
   have hs := HSh.out (SL.getD j 0) (by simp only [List.getD, List.getElem?_eq_getElem (show j < SL.length by rw [hmm]; exact hlt), Option.getD_some]; exact List.getElem_mem _)
   obtain ⟨sN, hsN⟩ : ∃ sN : Nat, SL.getD j 0 = (sN : Int) := ⟨(SL.getD j 0).toNat, by omega⟩
   have HN : Hid (findM l.id (c.shards.getD sN default).done = 0 → R = false) := fun h => HT1.out j hlt (by rw [hsN]; exact h)
   have HG : Hid (¬ findM l.id (c.shards.getD sN default).done = 0 → ∀ j', j' < j + 1 → ¬ findM l.id (c.shards.getD (SL.getD j' 0).toNat default).done = 0) := fun h j' hj' => by
    by_cases e : j' = j
    ·
     rw [e, hsN]; exact h
    ·
     exact HS.out j' (by omega)
   rw [hsN] at g5 hs
   clear hsN
   have hsn : sN < n1 := by omega
   have HA := HX.out sN hsn
   have hok := HLs.out sN hsn
   obtain ⟨s, hs0⟩ : ∃ s, s = c.shards.getD sN default := ⟨_, rfl⟩
   rw [← hs0] at HA HN HG hok
   clear hs0; obtain ⟨b, o, v1, v2, v3, v4, v5, rfl, g0, g1, g2, g3, g4, g6, hv⟩ := HA
   have HDn : Hid (∀ W, Below w.heap.size w W → Calls Tryz.prog 57 #[.agg #[.int .i64 s.idx, v1, v2, v3, v4, v5], .int .i64 l.id] W fun e w' => e = .returned (.bool (findM l.id s.done != 0)) ∧ Below W.heap.size W w') := fun W hW => isDone_any _ s l.id W (shdR.below hv hW) (by have := hok.nd; omega) hok.od
   clear hv hok; replace g5 := cK hbl g5; replace g0 := cK hblw g0; replace g1 := cK hblw g1; replace g2 := cK hblw g2; replace g3 := cK hblw g3; replace g4 := cK hblw g4; replace g6 := cK hblw g6
   have hti : (j : Int) < (m : Int) := by omega
   have hs1 : (sN : Int) < (n1 : Int) := by omega
   have hs2 : (0 : Int) ≤ (sN : Int) := by omega
   generalize findM l.id s.done = fm at *; generalize s.idx = ix at *; go_wp2
   refine wp_region_noPanic ?_
   refine region_upto (fun W => W.cell? ⟨w.heap.size, 1, none⟩ = some (.slice (some ⟨b, o, none⟩) n1 c1) ∧ W.cell? ⟨w.heap.size + 1, 0, none⟩ = some (.int .i64 l.id) ∧ W.cell? ⟨b, o + sN * 6, none⟩ = some (.int .i64 ix) ∧ W.cell? ⟨b, o + sN * 6 + 1, none⟩ = some (v1) ∧ W.cell? ⟨b, o + sN * 6 + 2, none⟩ = some (v2) ∧ W.cell? ⟨b, o + sN * 6 + 3, none⟩ = some (v3) ∧ W.cell? ⟨b, o + sN * 6 + 4, none⟩ = some (v4) ∧ W.cell? ⟨b, o + sN * 6 + 5, none⟩ = some (v5)) 9 (by kernel_rfl) ⟨cK (qBq) y1, cK (qBq) t0, cK (qBq) g0, cK (qBq) g1, cK (qBq) g2, cK (qBq) g3, cK (qBq) g4, cK (qBq) g6⟩ (fun hS => ?_)
   refine tM 0 rfl hS ?_; try simp only [jX]
   refine tM 1 rfl hS ?_; try simp only [jX]
   refine tM 2 rfl hS ?_; try simp only [jX]
   refine tM 3 rfl hS ?_; try simp only [jX]
   refine tM 4 rfl hS ?_; try simp only [jX]
   refine tM 5 rfl hS ?_; try simp only [jX]
   refine tM 6 rfl hS ?_; try simp only [jX]
   refine uS 7 rfl (fun K hK => ?_)
   go_simp
   refine (HDn.out _ (qBq)).mono ?_
   rintro e w3 ⟨rfl, hb3⟩
   have hB3 : Below w1.heap.size w1 w3 := bS (qBq) hb3
   have hS3 := And.intro (cK hb3 hS.1) (And.intro (cK hb3 hS.2.1) (And.intro (cK hb3 hS.2.2.1) (And.intro (cK hb3 hS.2.2.2.1) (And.intro (cK hb3 hS.2.2.2.2.1) (And.intro (cK hb3 hS.2.2.2.2.2.1) (And.intro (cK hb3 hS.2.2.2.2.2.2.1) (cK hb3 hS.2.2.2.2.2.2.2)))))))
   refine hK _ _ (fun _ => hS3) ?_
   clear hK K hb3
   try simp only [jX]
   by_cases hf : fm = 0
   ·
    have HC : Hid _ := HN.out hf
    rw [show (fm != 0) = false by simp [hf]]
    have hB4 := bS hB1 hB3
    clear HN HG hf
    refine tM 8 rfl hS3 ?_; try simp only [jX]
    refine dN (NoPanic.normal ?_)
    go_wp2; go_ret; exact ⟨by rw [HC.out]; rfl, hB4⟩
   ·
    have HQ : Hid _ := HG.out hf
    rw [show (fm != 0) = true by simp [hf]]
    clear HN HG hf
    refine tM 8 rfl hS3 ?_; try simp only [jX]
    refine dN (NoPanic.normal ?_)
    go_wp2
    exact ⟨⟨j + 1, by omega, by go_num, HQ, hB3⟩, by simp [intOf]; omega⟩
  ·
   obtain rfl : j = m := by omega
   have hti : ¬ (j : Int) < (j : Int) := by omega
   have HC : Hid (R = true) := HT2.out HS.out
   go_wp2; go_ret; exact ⟨by rw [HC.out]; rfl, hblw⟩
theorem implSettled_any (x : Value) (c : Clu) (id : Int) (w : World) (hx : cluR.V w x c) (hneed : ∀ k, k < c.ldrs.length → ∀ i, i < (c.ldrs.getD k default).tries.length → ((c.ldrs.getD k default).tries.getD i default).frm.length ≤ 1048576) :
  Calls Tryz.prog 7 #[x, .int .i64 id] w fun e w' => e = .returned (.bool (settD c id)) ∧ Below w.heap.size w w' := by
 have HF : Hid (∀ W, Below w.heap.size w W → Calls Tryz.prog 21 #[x] W fun e w' => e = .returned (.int .i64 (cluF c)) ∧ Below W.heap.size W w') := fun W hW => implCluF_any x c W (cluR.below hx hW) hneed
 have HSu : Hid (∀ W, Below w.heap.size w W → Calls Tryz.prog 22 #[x, .int .i64 id] W (SubE c.cons id W)) := fun W hW => submitted_v x c id W (cluR.below hx hW)
 have HSe : Hid (cluF c = 0 → firstC c.cons id < c.cons.length → ∀ W p q, Below w.heap.size w W → legsR.V W (.slice p (c.cons.getD (firstC c.cons id) default).legs.length q) (c.cons.getD (firstC c.cons id) default).legs → Calls Tryz.prog 23 #[x, .agg #[.int .i64 (c.cons.getD (firstC c.cons id) default).id, .slice p (c.cons.getD (firstC c.cons id) default).legs.length q]] W fun e w' => e = .returned (.bool (settB c (c.cons.getD (firstC c.cons id) default))) ∧ Below W.heap.size W w') := fun h0 hk W p q hW hl => isSettled_any x _ c _ W (cluR.below hx hW) ⟨_, rfl, hl⟩ (clu_con h0 hk).1 (clu_con h0 hk).2 (fun k hk' => clu_shd h0 hk')
 obtain ⟨a0, a1, a2, a3, a4, c0, c1, c2, c3, c4, n0, n1, n2, n3, n4, rfl, e0, e1, e2, e3, e4, L0, L1, L2, L3, L4⟩ := clu_formN hx; clear hx hneed e0 e1 e2 e3 e4 L0 L1 L2 L3 L4
 have H0 : Hid (¬ cluF c = 0 → settD c id = false) := fun h => by unfold settD; rw [decide_eq_false h]; rfl
 have H1 : Hid (cluF c = 0 → ¬ firstC c.cons id < c.cons.length → settD c id = false) := fun h h' => by unfold settD; rw [decide_eq_true h, decide_eq_false h']; rfl
 have H2 : Hid (cluF c = 0 → firstC c.cons id < c.cons.length → settD c id = settB c (c.cons.getD (firstC c.cons id) default)) := fun h h' => by unfold settD; rw [decide_eq_true h, decide_eq_true h']; rfl
 generalize settD c id = R at *; generalize cluF c = cf at *
 go_enter Tryz.func7, Tryz.ntmps7
 go_wp2_with fail
 refine (HF.out _ (qBq)).mono ?_
 rintro e w1 ⟨rfl, hb1⟩
 have hB1 : Below w.heap.size w w1 := qBq
 have Y1 : w1.cell? ⟨w.heap.size, 0, none⟩ = some (.slice a0 n0 c0) ∧ w1.cell? ⟨w.heap.size, 1, none⟩ = some (.slice a1 n1 c1) ∧ w1.cell? ⟨w.heap.size, 2, none⟩ = some (.slice a2 n2 c2) ∧ w1.cell? ⟨w.heap.size, 3, none⟩ = some (.slice a3 n3 c3) ∧ w1.cell? ⟨w.heap.size, 4, none⟩ = some (.slice a4 n4 c4) := ⟨cK hb1 (by simp [go_sem]), cK hb1 (by simp [go_sem]), cK hb1 (by simp [go_sem]), cK hb1 (by simp [go_sem]), cK hb1 (by simp [go_sem])⟩
 clear hb1 HF
 by_cases hcf : cf = 0
 rotate_left
 ·
  have HC : Hid _ := H0.out hcf
  have hcf' : (cf != 0) = true := by simp [hcf]
  clear H0 H1 H2 HSe HSu; go_wp2; go_ret
  exact ⟨by rw [HC.out]; rfl, hB1⟩
 have H1' : Hid _ := H1.out hcf
 have H2' : Hid _ := H2.out hcf
 have HSe' : Hid _ := HSe.out hcf
 clear H0 H1 H2 HSe; subst hcf; obtain ⟨y0, y1, y2, y3, y4⟩ := Y1
 have zw : w.heap.size < w1.heap.size := wL w1 _ y0
 go_wp2_with fail
 refine (HSu.out _ (qBq)).mono ?_
 rintro e w2 ⟨hb2, hr⟩
 have hB2 : Below w.heap.size w w2 := bS (qBq) hb2
 replace y0 := cK hb2 (by first | exact y0 | exact cK (qBq) y0)
 replace y1 := cK hb2 (by first | exact y1 | exact cK (qBq) y1)
 replace y2 := cK hb2 (by first | exact y2 | exact cK (qBq) y2)
 replace y3 := cK hb2 (by first | exact y3 | exact cK (qBq) y3)
 replace y4 := cK hb2 (by first | exact y4 | exact cK (qBq) y4)
 replace zw : w.heap.size < w2.heap.size := wL w2 _ y0
 clear hb2 HSu
 rcases hr with ⟨hlt, p, q, rfl, hlv⟩ | ⟨hlt, rfl⟩
 ·
  have HC : Hid _ := H2'.out hlt
  have HS2 : Hid _ := HSe'.out hlt
  have HLv : Hid (∀ W, Below w2.heap.size w2 W → legsR.V W (.slice p (c.cons.getD (firstC c.cons id) default).legs.length q) (c.cons.getD (firstC c.cons id) default).legs) := fun W hW => legsR.below hlv hW
  clear H1' H2' HSe' hlt hlv; generalize settB c (c.cons.getD (firstC c.cons id) default) = sb at *; generalize c.cons.getD (firstC c.cons id) default = l at *
  go_wp2_with fail
  refine (HS2.out _ p q (qBq) (HLv.out _ (qBq))).mono ?_
  rintro e w3 ⟨rfl, hb3⟩
  have hB3 : Below w.heap.size w w3 := bS (qBq) hb3
  clear hb3 HS2 HLv
  cases sb
  all_goals
   go_wp2; go_ret; exact ⟨by rw [HC.out]; rfl, hB3⟩
 ·
  have HC : Hid _ := H1'.out hlt
  clear H1' H2' HSe' hlt; go_wp2; go_ret
  exact ⟨by rw [HC.out]; rfl, qBq⟩
theorem l12Settled_any (B : Nat) (c : Clu) (id : Int) (w : World) (h : CluB w B c) (h0 : cluF c = 0) (hlen : ∀ k, k < c.cons.length → (c.cons.getD k default).legs.length ≤ 1048576) :
  Calls Tryz.prog 15 #[.pointer (some ⟨B, 0, none⟩), .int .i64 id] w fun e w' => e = .returned (.bool (decide (firstC c.cons id < c.cons.length) && settB c (c.cons.getD (firstC c.cons id) default))) ∧ Below w.heap.size w w' := by
 have HFi : Hid (∀ W, Below w.heap.size w W → Calls Tryz.prog 38 #[.pointer (some ⟨B, 0, none⟩), .int .i64 id] W fun e w' => e = .returned (.int .i64 (findI c.cons id)) ∧ Below W.heap.size W w') := fun W hW => l11Find_any B c id W ((h.below hW).p)
 obtain ⟨a0, a1, a2, a3, a4, c0, c1, c2, c3, c4, n0, n1, n2, n3, n4, ⟨y0, y1, y2, y3, y4⟩, hx⟩ := h
 obtain ⟨e0, e1, e2, e3, e4, L0, L1, L2, L3, L4⟩ := clu_lens hx; obtain ⟨u1, u2, u3, u4, u5, eq, h1, h2, h3, h4, h5⟩ := hx
 simp only [Value.agg.injEq, Array.mk.injEq, List.cons.injEq, and_true] at eq
 obtain ⟨rfl, rfl, rfl, rfl, rfl⟩ := eq
 have zB : B < w.heap.size := wL w _ y0
 by_cases hff : firstC c.cons id < c.cons.length
 rotate_left
 ·
  have HR : Hid ((decide (firstC c.cons id < c.cons.length) && settB c (c.cons.getD (firstC c.cons id) default)) = false) := by show _ = _; rw [decide_eq_false hff]; rfl
  have hfi : findI c.cons id = -1 := by unfold findI; rw [if_neg hff]
  rw [hfi] at HFi
  rw [HR.out]
  clear h1 h2 h3 h4 h5 e0 e1 e2 e3 e4 h0 hlen hff hfi HR
  go_enter Tryz.func15, Tryz.ntmps15
  go_wp2_with fail
  refine (HFi.out _ (qBq)).mono ?_
  rintro e w1 ⟨rfl, hb1⟩
  have hB1 : Below w.heap.size w w1 := qBq
  go_wp2; go_ret; exact ⟨rfl, hB1⟩
 have hfi : findI c.cons id = (firstC c.cons id : Int) := by unfold findI; rw [if_pos hff]
 rw [hfi] at HFi
 rw [decide_eq_true hff, Bool.true_and]
 obtain ⟨hcf, hsh⟩ := clu_con h0 hff
 have hls : ∀ k, k < c.shards.length → LsOk (c.shards.getD k default) := fun k hk => clu_shd h0 hk
 have hid := firstC_id hff
 have hl1 := hlen _ hff
 obtain ⟨hnc0, hmc0, HA0⟩ := conts_atM (by rw [e0]; exact h1)
 rw [e0] at hff
 obtain ⟨b0, o0, p, q, ha0, g0, g1, hlv⟩ := HA0 _ (by rw [e0]; exact hff)
 obtain ⟨f, hf0⟩ : ∃ f, f = firstC c.cons id := ⟨_, rfl⟩
 obtain ⟨l, hl0⟩ : ∃ l, l = c.cons.getD (firstC c.cons id) default := ⟨_, rfl⟩
 rw [← hl0] at hcf hsh hid hl1 g0 g1 hlv ⊢
 rw [← hf0] at HFi g0 g1 hff
 clear hfi hf0 hl0 HA0; subst hid
 have HSo : Hid (∀ W, Below w.heap.size w W → Calls Tryz.prog 39 #[.agg #[.int .i64 l.id, .slice p l.legs.length q]] W fun e w' => ∃ v, e = .returned v ∧ w'.ownsRow W.heap.size 2 1 v (shardsL l.legs).length (intsC (shardsL l.legs)) ∧ Below W.heap.size W w') := fun W hW => l1Shards_any _ _ _ W (legsR.below hlv hW) hl1 (cf_shs hcf).2
 obtain ⟨_, hnc, hmc, HA⟩ := shds_at h2
 unfold maxLen at hmc hmc0
 have HX : Hid _ := HA
 rw [e1] at hsh
 have HSh : Hid _ := hsh
 have HT1 : Hid (∀ j, j < (shardsL l.legs).length → findM l.id (c.shards.getD ((shardsL l.legs).getD j 0).toNat default).done = 0 → settB c l = false) := fun j hj h => settB_hit hj h
 have HT2 : Hid ((∀ j, j < (shardsL l.legs).length → ¬ findM l.id (c.shards.getD ((shardsL l.legs).getD j 0).toNat default).done = 0) → settB c l = true) := fun h => settB_all h
 subst ha0; clear HA h1 h2 h3 h4 h5 hcf hsh hls hlen h0 hlv hl1 e0 e1 e2 e3 e4 L2 L3 L4 y2 y3 y4; generalize settB c l = R at *
 obtain ⟨SL, hSL⟩ : ∃ SL, SL = shardsL l.legs := ⟨_, rfl⟩
 rw [← hSL] at HSo HSh HT1 HT2
 clear hSL; generalize hml : l.legs.length = ml at *; clear hml
 have hf1 : (f : Int) < (n0 : Int) := by omega
 have hf2 : (0 : Int) ≤ (f : Int) := by omega
 have hf3 : ¬ (f : Int) < 0 := by omega
 go_enter Tryz.func15, Tryz.ntmps15
 go_wp2_with fail
 refine (HFi.out _ (qBq)).mono ?_
 rintro e w1 ⟨rfl, hb1⟩
 have hB1 : Below w.heap.size w w1 := qBq
 have y0' := cK hB1 y0
 replace g0 := cK hB1 g0; replace g1 := cK hB1 g1; clear hb1 HFi
 go_wp2_with fail
 refine (HSo.out _ (qBq)).mono ?_
 rintro e w2 ⟨v, rfl, ho, hb2⟩
 have hB2 : Below w.heap.size w w2 := bS (qBq) hb2
 have y1' := cK hB2 y1
 obtain ⟨a5, c5, rfl, hc5, hm5, hIV⟩ := IntsV_of_owns ho
 unfold maxLen at hm5
 have HI : Hid _ := hIV
 clear ho hb2 hIV HSo g0 g1 y0' hB1; generalize hmm : SL.length = m at *; go_wp2
 go_loopw [7] (fun i w' => ∃ j : Nat, j ≤ m ∧ i = .int .i64 j ∧ Hid (∀ j', j' < j → ¬ findM l.id (c.shards.getD (SL.getD j' 0).toNat default).done = 0) ∧ Below w2.heap.size w2 w') (fun i _ => m - (intOf i).toNat)
 case atStart => exact ⟨0, Nat.zero_le _, rfl, fun j hj => absurd hj (Nat.not_lt_zero _), Below.refl _ _⟩
 case round =>
  obtain ⟨j, hj, rfl, HS, hbl⟩ := hrel
  have hblw := bS hB2 hbl
  replace y1' := cK hbl y1'
  by_cases hlt : j < m
  ·
   obtain ⟨b5, o5, rfl, g5⟩ := HI.out j hlt
   have hs := HSh.out (SL.getD j 0) (by simp only [List.getD, List.getElem?_eq_getElem (show j < SL.length by rw [hmm]; exact hlt), Option.getD_some]; exact List.getElem_mem _)
   obtain ⟨sN, hsN⟩ : ∃ sN : Nat, SL.getD j 0 = (sN : Int) := ⟨(SL.getD j 0).toNat, by omega⟩
   have HN : Hid (findM l.id (c.shards.getD sN default).done = 0 → R = false) := fun h => HT1.out j hlt (by rw [hsN]; exact h)
   have HG : Hid (¬ findM l.id (c.shards.getD sN default).done = 0 → ∀ j', j' < j + 1 → ¬ findM l.id (c.shards.getD (SL.getD j' 0).toNat default).done = 0) := fun h j' hj' => by
    by_cases e : j' = j
    ·
     rw [e, hsN]; exact h
    ·
     exact HS.out j' (by omega)
   rw [hsN] at g5 hs
   clear hsN
   have hsn : sN < n1 := by omega
   have HA := HX.out sN hsn
   obtain ⟨s, hs0⟩ : ∃ s, s = c.shards.getD sN default := ⟨_, rfl⟩
   rw [← hs0] at HA HN HG
   clear hs0; obtain ⟨b, o, v1, v2, v3, v4, v5, rfl, _, _, _, _, g4, _, hv⟩ := HA; obtain ⟨_, _, _, _, _, eq, _, _, _, k4, _⟩ := hv
   simp only [Value.agg.injEq, Array.mk.injEq, List.cons.injEq, and_true, true_and] at eq
   obtain ⟨rfl, rfl, rfl, rfl, rfl⟩ := eq
   have HDn : Hid (∀ W, Below w.heap.size w W → Calls Tryz.prog 40 #[v4, .int .i64 l.id] W fun e w' => e = .returned (.int .i64 (findM l.id s.done)) ∧ Below W.heap.size W w') := fun W hW => l10Find_any v4 s.done l.id W (mrksR.below k4 hW)
   clear k4; replace g5 := cK hbl g5; replace g4 := cK hblw g4
   have hti : (j : Int) < (m : Int) := by omega
   have hj0 : (0 : Int) ≤ (j : Int) := by omega
   have hs1 : (sN : Int) < (n1 : Int) := by omega
   have hs2 : (0 : Int) ≤ (sN : Int) := by omega
   generalize findM l.id s.done = fm at *; go_wp2
   refine wp_region_noPanic ?_
   refine region_upto (fun W => W.cell? ⟨B, 1, none⟩ = some (.slice (some ⟨b, o, none⟩) n1 c1) ∧ W.cell? ⟨b5, o5 + j, none⟩ = some (.int .i64 (sN : Int)) ∧ W.cell? ⟨b, o + sN * 6 + 4, none⟩ = some v4) 14 (by kernel_rfl) ⟨cK (qBq) y1', cK (qBq) g5, cK (qBq) g4⟩ (fun hS => ?_)
   refine tM 0 rfl hS ?_; try simp only [jX]
   refine tM 1 rfl hS ?_; try simp only [jX]
   refine tM 2 rfl hS ?_; try simp only [jX]
   refine tM 3 rfl hS ?_; try simp only [jX]
   refine tM 4 rfl hS ?_; try simp only [jX]
   refine tM 5 rfl hS ?_; try simp only [jX]
   refine tM 6 rfl hS ?_; try simp only [jX]
   refine tM 7 rfl hS ?_; try simp only [jX]
   refine tM 8 rfl hS ?_; try simp only [jX]
   refine tM 9 rfl hS ?_; try simp only [jX]
   refine tM 10 rfl hS ?_; try simp only [jX]
   refine tM 11 rfl hS ?_; try simp only [jX]
   refine uS 12 rfl (fun K hK => ?_)
   go_simp
   refine (HDn.out _ (qBq)).mono ?_
   rintro e w3 ⟨rfl, hb3⟩
   have hB3 : Below w2.heap.size w2 w3 := bS (qBq) hb3
   have hS3 := And.intro (cK hb3 hS.1) (And.intro (cK hb3 hS.2.1) (cK hb3 hS.2.2))
   refine hK _ _ (fun _ => hS3) ?_
   clear hK K hb3
   try simp only [jX]
   by_cases hf : fm = 0
   ·
    have HC : Hid _ := HN.out hf
    have hB4 := bS hB2 hB3
    subst hf; clear HN HG
    refine tM 13 (v := (.bool true)) rfl hS3 ?_; try simp only [jX]
    refine dN (NoPanic.normal ?_)
    go_wp2; go_ret; exact ⟨by rw [HC.out]; rfl, hB4⟩
   ·
    have HQ : Hid _ := HG.out hf
    have hf' : (fm == 0) = false := by simp [hf]
    clear HN HG
    refine tM 13 (v := (.bool false)) rfl hS3 ?_; try simp only [jX]
    refine dN (NoPanic.normal ?_)
    go_wp2
    exact ⟨⟨j + 1, by omega, by go_num, HQ, hB3⟩, by simp [intOf]; omega⟩
  ·
   obtain rfl : j = m := by omega
   have hti : ¬ (j : Int) < (j : Int) := by omega
   have HC : Hid (R = true) := HT2.out HS.out
   go_wp2; go_ret; exact ⟨by rw [HC.out]; rfl, hblw⟩
theorem specSettled_any (x : Value) (c : Clu) (id : Int) (w : World) (hx : cluR.V w x c) (hlen : ∀ k, k < c.cons.length → (c.cons.getD k default).legs.length ≤ 1048576) (hsz : ∀ k, k < c.shards.length → (c.shards.getD k default).votes.length ≤ 1048576 ∧ (c.shards.getD k default).done.length ≤ 1048576) (hneed : ∀ k, k < c.ldrs.length → ∀ i, i < (c.ldrs.getD k default).tries.length → ((c.ldrs.getD k default).tries.getD i default).frm.length ≤ 1048576) :
  Calls Tryz.prog 5 #[x, .int .i64 id] w fun e w' => e = .returned (.bool (settD c id)) ∧ Below w.heap.size w w' := by
 have HF : Hid (∀ W, Below w.heap.size w W → Calls Tryz.prog 14 #[x] W fun e w' => e = .returned (.int .i64 (cluS c)) ∧ Below W.heap.size W w') := fun W hW => specCluF_any x c W (cluR.below hx hW) hlen hsz hneed
 obtain ⟨a0, a1, a2, a3, a4, c0, c1, c2, c3, c4, n0, n1, n2, n3, n4, rfl, e0, e1, e2, e3, e4, L0, L1, L2, L3, L4⟩ := clu_formN hx
 have HSe : Hid (cluS c = 0 → ∀ W, Below w.heap.size w W → (W.cell? ⟨w.heap.size, 0, none⟩ = some (.slice a0 n0 c0) ∧ W.cell? ⟨w.heap.size, 1, none⟩ = some (.slice a1 n1 c1) ∧ W.cell? ⟨w.heap.size, 2, none⟩ = some (.slice a2 n2 c2) ∧ W.cell? ⟨w.heap.size, 3, none⟩ = some (.slice a3 n3 c3) ∧ W.cell? ⟨w.heap.size, 4, none⟩ = some (.slice a4 n4 c4)) → Calls Tryz.prog 15 #[.pointer (some ⟨w.heap.size, 0, none⟩), .int .i64 id] W fun e w' => e = .returned (.bool (decide (firstC c.cons id < c.cons.length) && settB c (c.cons.getD (firstC c.cons id) default))) ∧ Below W.heap.size W w') := fun h0 W hW hY => l12Settled_any _ c id W ⟨a0, a1, a2, a3, a4, c0, c1, c2, c3, c4, n0, n1, n2, n3, n4, hY, cluR.below hx hW⟩ (cluS_zero.1 h0) hlen
 clear hx hlen hsz hneed e0 e1 e2 e3 e4 L0 L1 L2 L3 L4
 have H0 : Hid (¬ cluS c = 0 → settD c id = false) := fun h => by unfold settD; rw [decide_eq_false (fun e => h (cluS_zero.2 e))]; rfl
 have H1 : Hid (cluS c = 0 → settD c id = (decide (firstC c.cons id < c.cons.length) && settB c (c.cons.getD (firstC c.cons id) default))) := fun h => by unfold settD; rw [decide_eq_true (cluS_zero.1 h)]; rfl
 generalize settD c id = R at *; generalize cluS c = cf at *; generalize (decide (firstC c.cons id < c.cons.length) && settB c (c.cons.getD (firstC c.cons id) default)) = sb at *
 go_enter Tryz.func5, Tryz.ntmps5
 go_wp2_with fail
 refine (HF.out _ (qBq)).mono ?_
 rintro e w1 ⟨rfl, hb1⟩
 have hB1 : Below w.heap.size w w1 := qBq
 have Y1 : w1.cell? ⟨w.heap.size, 0, none⟩ = some (.slice a0 n0 c0) ∧ w1.cell? ⟨w.heap.size, 1, none⟩ = some (.slice a1 n1 c1) ∧ w1.cell? ⟨w.heap.size, 2, none⟩ = some (.slice a2 n2 c2) ∧ w1.cell? ⟨w.heap.size, 3, none⟩ = some (.slice a3 n3 c3) ∧ w1.cell? ⟨w.heap.size, 4, none⟩ = some (.slice a4 n4 c4) := ⟨cK hb1 (by simp [go_sem]), cK hb1 (by simp [go_sem]), cK hb1 (by simp [go_sem]), cK hb1 (by simp [go_sem]), cK hb1 (by simp [go_sem])⟩
 clear hb1 HF
 by_cases hcf : cf = 0
 rotate_left
 ·
  have HC : Hid _ := H0.out hcf
  have hcf' : (cf == 0) = false := by simp [hcf]
  clear H0 H1 HSe; go_wp2; go_ret
  exact ⟨by rw [HC.out]; rfl, hB1⟩
 have HC : Hid _ := H1.out hcf
 have HSe' : Hid _ := HSe.out hcf
 clear H0 H1 HSe; subst hcf
 go_wp2_with fail
 refine (HSe'.out _ (qBq) (by first | exact Y1 | exact ykeep (qBq) Y1)).mono ?_
 rintro e w2 ⟨rfl, hb2⟩
 have hB2 : Below w.heap.size w w2 := bS (qBq) hb2
 clear hb2 HSe'
 cases sb
 all_goals
  go_wp2; go_ret; exact ⟨by rw [HC.out]; rfl, hB2⟩
end Go.Proofs.YtackhljepbhpgaaGreat

namespace Go.Proofs.YtackhljepbhpgaaGreat
open Go.ChangeShapes Go.WideShapes Go.ChangeAt Go.RowKit Go.Joins

theorem spot_none {W : World} {base k : Nat} {a : Addr} {cs : List Value} (hk : 0 < k) (hc : W.cells? base a k = some cs) : a.spot = none := by
 obtain ⟨hb, hl, hcell⟩ := World.cells?_some hc
 have q0 := hcell 0 hk
 obtain ⟨b, o, s⟩ := a
 cases s with
 | none => rfl
 | some s =>
  have : 0 < cs.length := by omega
  simp [Addr.add, World.cell?, this] at q0
  split at q0 <;> simp at q0
theorem add_plain (b o i : Nat) : (Addr.mk b o none).add i = ⟨b, o + i, none⟩ := by
 by_cases h : i = 0
 ·
  subst h; simp [Addr.add]
 ·
  simp [Addr.add, h]
theorem openRow {H : Type} {enc : TypeId × Value → H} {W : World} {sp : Nat → Bool} {held : Bool} {n : Nat} {v : Value} {y : DataW H × List MemPlace} {t e size : Nat} {α : Type} [Inhabited α] {q : List Value → α → Prop}
  (ht : Tryz.prog.underlying t = some (.slice e)) (hz : Tryz.prog.cellsOf e = size) (hs : 0 < size)
  (hq : ∀ n cs y, DataW.trod enc Tryz.prog W 0 sp held n e cs = some y → cs.length = size → ∃ x, q cs x) (h : DataW.trod enc Tryz.prog W 0 sp held n t [v] = some y) :
  ∃ (a : Option Addr) (cap : Nat) (xs : List α) (cs : Nat → List Value), v = .slice a xs.length cap ∧ xs.length ≤ cap ∧ cap ≤ maxLen ∧ ∀ i, i < xs.length → q (cs i) (xs.getD i default) ∧ (cs i).length = size ∧ ∃ b o, a = some ⟨b, o, none⟩ ∧ ∀ j, j < size → W.cell? ⟨b, o + i * size + j, none⟩ = (cs i)[j]? := by
 rcases Go.Deep.open_slice ht h with ⟨hcs, _⟩ | ⟨a, len, cap, m, n', D, Pl, hcs, hb, hl, hm, hmm, _, hc⟩
 ·
  simp at hcs
  subst hcs
  exact ⟨none, 0, [], fun _ => [], rfl, by simp, by unfold maxLen; omega, fun i hi => by simp at hi⟩
 ·
  simp at hcs
  subst hcs
  have hlm : len ≤ m := by rw [hmm]; split <;> omega
  rw [hz] at hc
  have h1 : ∀ i, i < len → ∃ z : List Value × α, q z.1 z.2 ∧ z.1.length = size ∧ ∃ b o, a = ⟨b, o, none⟩ ∧ ∀ j, j < size → W.cell? ⟨b, o + i * size + j, none⟩ = z.1[j]? := by
   intro i hi
   obtain ⟨cs', h1, h2⟩ := hc i (by omega)
   obtain ⟨_, hl', hcell⟩ := World.cells?_some h1
   obtain ⟨x, hx⟩ := hq _ _ _ h2 hl'
   obtain ⟨cs0, k1, _⟩ := hc 0 (by omega)
   have hsp := spot_none hs k1
   obtain ⟨b, o, s⟩ := a
   have hs0 : s = none := by simpa [Addr.add] using hsp
   subst hs0
   refine ⟨(cs', x), hx, hl', b, o, rfl, fun j hj => ?_⟩
   have := hcell j hj
   rw [add_plain, add_plain] at this
   exact this
  obtain ⟨f, hf⟩ := Go.Deep.choose_lt h1
  refine ⟨some a, cap, (List.range len).map (fun i => (f i).2), fun i => (f i).1, by simp, by simpa using hl, hm, fun i hi => ?_⟩
  simp at hi
  obtain ⟨g1, g2, b, o, rfl, g3⟩ := hf i hi
  have e : (List.map (fun i => (f i).2) (List.range len)).getD i default = (f i).2 := by simp [List.getD, hi]
  rw [e]
  exact ⟨g1, g2, b, o, rfl, g3⟩
theorem openN {H : Type} {enc : TypeId × Value → H} {W : World} {sp : Nat → Bool} {held : Bool} {n : Nat} {v : Value} {y : DataW H × List MemPlace} {t e size : Nat} {α : Type} [Inhabited α] {R : Rep α} {te : Nat} {lv : Value → List Value}
  (ht : Tryz.prog.underlying t = some (.slice e)) (hz : Tryz.prog.cellsOf e = size) (hs : 0 < size)
  (hq : ∀ n cs y, DataW.trod enc Tryz.prog W 0 sp held n e cs = some y → cs.length = size → ∃ x u, lv u = cs ∧ R.V W u x) (h : DataW.trod enc Tryz.prog W 0 sp held n t [v] = some y) :
  ∃ xs : List α, (nRep R te size lv).V W v xs := by
 obtain ⟨a, cap, xs, cs, rfl, h1, h2, h3⟩ := openRow (q := fun cs x => ∃ u, lv u = cs ∧ R.V W u x) ht hz hs hq h
 refine ⟨xs, a, cap, rfl, h1, h2, fun i hi => ?_⟩
 obtain ⟨⟨u, g1, g2⟩, g3, b, o, g4, g5⟩ := h3 i hi
 exact ⟨b, o, u, g4, by rw [g1]; exact g3, fun j hj => by rw [g1]; exact g5 j hj, g2⟩
variable [DecidableEq Leg] [Inhabited Leg] [DecidableEq Cont] [Inhabited Cont]
theorem cellsInt' : Tryz.prog.cellsOf 2 = 1 := by kernel_rfl
theorem cellsLeg' : Tryz.prog.cellsOf 197 = 4 := by kernel_rfl
theorem openLeg' {H : Type} {enc : TypeId × Value → H} {W : World} {sp : Nat → Bool} {held : Bool} {n : Nat} {cs : List Value} {y : DataW H × List MemPlace}
  (ht : DataW.trod enc Tryz.prog W 0 sp held n 197 cs = some y) (hl : cs.length = 4) : ∃ x : Leg, cs = legC x := by
 obtain ⟨y0, y1, y2, y3, m, hy, hlen, h0, h1, h2, h3⟩ := trod_struct4 Tryz.underlying197 ht
 simp only [cellsInt'] at h0 h1 h2 h3
 match cs, hl with
 | [c0, c1, c2, c3], _ =>
  obtain ⟨x0, e0, _⟩ := DataW.trod_int Tryz.underlying2 h0
  obtain ⟨x1, e1, _⟩ := DataW.trod_int Tryz.underlying2 h1
  obtain ⟨x2, e2, _⟩ := DataW.trod_int Tryz.underlying2 h2
  obtain ⟨x3, e3, _⟩ := DataW.trod_int Tryz.underlying2 h3
  simp at e0 e1 e2 e3
  subst e0 e1 e2 e3
  exact ⟨⟨x0, x1, x2, x3⟩, rfl⟩
theorem openLegs' {H : Type} {enc : TypeId × Value → H} {W : World} {sp : Nat → Bool} {held : Bool} {n : Nat} {v : Value} {y : DataW H × List MemPlace}
  (ht : DataW.trod enc Tryz.prog W 0 sp held n 66 [v] = some y) : ∃ xs : List Leg, legsR.V W v xs := by
 obtain ⟨a, cap, xs, cs, rfl, h1, h2, h3⟩ := openRow (q := fun cs x => cs = legC x) Tryz.underlying66 cellsLeg' (by omega) (fun n cs y h hl => openLeg' h hl) ht
 refine ⟨xs, a, cap, rfl, h1, h2, fun i hi => ?_⟩
 obtain ⟨g1, g3, b, o, g4, g5⟩ := h3 i hi
 rw [g1] at g5
 exact ⟨b, o, g4, g5 0 (by omega), g5 1 (by omega), g5 2 (by omega), g5 3 (by omega)⟩
variable [DecidableEq Bal] [Inhabited Bal] [DecidableEq Ledg] [Inhabited Ledg]
theorem cellsBal : Tryz.prog.cellsOf 201 = 3 := by kernel_rfl
theorem openBal {H : Type} {enc : TypeId × Value → H} {W : World} {sp : Nat → Bool} {held : Bool} {n : Nat} {cs : List Value} {y : DataW H × List MemPlace}
  (ht : DataW.trod enc Tryz.prog W 0 sp held n 201 cs = some y) (hl : cs.length = 3) : ∃ x : Bal, cs = balC x := by
 obtain ⟨y0, y1, y2, m, hy, hlen, h0, h1, h2⟩ := Go.Deep.trod_struct3 Tryz.underlying201 ht
 simp only [cellsInt'] at h0 h1 h2
 match cs, hl with
 | [c0, c1, c2], _ =>
  obtain ⟨x0, e0, _⟩ := DataW.trod_int Tryz.underlying2 h0
  obtain ⟨x1, e1, _⟩ := DataW.trod_int Tryz.underlying2 h1
  obtain ⟨x2, e2, _⟩ := DataW.trod_int Tryz.underlying2 h2
  simp at e0 e1 e2
  subst e0 e1 e2
  exact ⟨⟨x0, x1, x2⟩, rfl⟩
theorem openBals {H : Type} {enc : TypeId × Value → H} {W : World} {sp : Nat → Bool} {held : Bool} {n : Nat} {v : Value} {y : DataW H × List MemPlace}
  (ht : DataW.trod enc Tryz.prog W 0 sp held n 70 [v] = some y) : ∃ xs : List Bal, balsR.V W v xs := by
 obtain ⟨a, cap, xs, cs, rfl, h1, h2, h3⟩ := openRow (q := fun cs x => cs = balC x) Tryz.underlying70 cellsBal (by omega) (fun n cs y h hl => openBal h hl) ht
 refine ⟨xs, a, cap, rfl, h1, h2, fun i hi => ?_⟩
 obtain ⟨g1, g3, b, o, g4, g5⟩ := h3 i hi
 rw [g1] at g5
 exact ⟨b, o, g4, g5 0 (by omega), g5 1 (by omega), g5 2 (by omega)⟩
end Go.Proofs.YtackhljepbhpgaaGreat

