import Derived.Test.YtncmdeijimgchaaPrnAcceptAtLaw6
import Derived.Test.YtncmdeijimgchaaPrnAcceptAtLaw2
import Derived.Test.YtncmdeijimgchaaPrnAcceptAtLaw7
import Derived.Deep.AppendLies
import Derived.Test.YtncmdeijimgchaaPrnAcceptAtLaw5
import Derived.Test.YtncmdeijimgchaaPrnAcceptAtLaw1
import Derived.Deep.RegionHeld3
import Derived.Deep.DrawnRows

/-
  A vote put where it belongs: mathematics, and appending with what is written into told.
-/
set_option linter.unusedVariables false
set_option linter.unusedSimpArgs false
namespace Go.Proofs.Ytncmdeijimgchaa
open Go.RowKit
set_option linter.unusedSectionVars false
variable [DecidableEq Vot] [Inhabited Vot] [DecidableEq Slt] [Inhabited Slt] [DecidableEq SltR] [Inhabited SltR] [DecidableEq Bal] [Inhabited Bal] [DecidableEq Ledg] [Inhabited Ledg] [DecidableEq Leg] [Inhabited Leg]

theorem votsAny_own {w : World} {base e size : Nat} {v : Value} {n : Nat} {cs : List Value} (h : w.ownsRow base e size v n cs) : AppAny w v n cs := by
  rcases h.2 with ⟨rfl, rfl⟩ | ⟨g, cap, cur, rfl, _, hh, _, _, _, ht⟩
  · refine .inl ⟨0, rfl, rfl, ?_⟩
    have := h.1
    simp at this
    exact this
  · refine .inr ⟨_, _, rfl, fun j x hj => ?_⟩
    have hlt : j < cs.length := by
      rcases Nat.lt_or_ge j cs.length with h | h
      · exact h
      · rw [List.getElem?_eq_none h] at hj; cases hj
    have hc := h.cellAt j (by rw [← h.1]; exact hlt)
    have e : (⟨g, 0, none⟩ : Addr).add j = ⟨g, j, none⟩ := by
      by_cases hj0 : j = 0
      · subst hj0; simp [Addr.add]
      · simp [Addr.add, hj0]
    rw [e]
    simpa [hj] using hc
end Go.Proofs.Ytncmdeijimgchaa

/-
  PromiseSlot, AcceptSlot in plain mathematics.
-/
namespace Go.Proofs.Ytncmdeijimgchaa
open Go.RowKit
set_option linter.unusedSectionVars false
variable [DecidableEq Vot] [Inhabited Vot] [DecidableEq Slt] [Inhabited Slt] [DecidableEq SltR] [Inhabited SltR] [DecidableEq Bal] [Inhabited Bal] [DecidableEq Ledg] [Inhabited Ledg] [DecidableEq Leg] [Inhabited Leg]

def errS (c : Int) : SltR := ⟨c, 0, 0, ⟨0, 0, 0, 0, 0, []⟩⟩
def accC (d : Slt) (v : Vot) : Int := if v.bal < d.pr then 8 else if v.bal = d.lb ∧ ¬ v.val = d.lv then 7 else if v.bal = d.lb ∧ v.val = d.lv then 0 else if 60 ≤ d.cast.length then 2 else 0
def accS (d : Slt) (v : Vot) : Slt := if v.bal = d.lb ∧ v.val = d.lv then ⟨d.con, d.sh, v.bal, v.bal, v.val, d.cast⟩ else ⟨d.con, d.sh, v.bal, v.bal, v.val, d.cast ++ [v]⟩
def accD (d : Slt) (b v : Int) : SltR := if sltFault d = 0 then (if inB b 0 1000 && inB v 1 2 then (if accC d ⟨b, v⟩ = 0 then ⟨0, d.lb, d.lv, accS d ⟨b, v⟩⟩ else errS (accC d ⟨b, v⟩)) else errS 3) else errS (sltFault d)
theorem accD_fault {d : Slt} {b v : Int} (h : ¬ sltFault d = 0) : accD d b v = errS (sltFault d) := by unfold accD; rw [if_neg h]
theorem accD_range {d : Slt} {b v : Int} (h : sltFault d = 0) (h1 : (inB b 0 1000 && inB v 1 2) = false) : accD d b v = errS 3 := by unfold accD; rw [if_pos h, h1]; rfl
theorem accD_code {d : Slt} {b v : Int} (h : sltFault d = 0) (h1 : (inB b 0 1000 && inB v 1 2) = true) (h2 : ¬ accC d ⟨b, v⟩ = 0) : accD d b v = errS (accC d ⟨b, v⟩) := by unfold accD; rw [if_pos h, h1, if_pos rfl, if_neg h2]
theorem accD_ok {d : Slt} {b v : Int} (h : sltFault d = 0) (h1 : (inB b 0 1000 && inB v 1 2) = true) (h2 : accC d ⟨b, v⟩ = 0) : accD d b v = ⟨0, d.lb, d.lv, accS d ⟨b, v⟩⟩ := by unfold accD; rw [if_pos h, h1, if_pos rfl, if_pos h2]
theorem accC_busy {d : Slt} {v : Vot} (h : v.bal < d.pr) : accC d v = 8 := by unfold accC; rw [if_pos h]
theorem accC_taken {d : Slt} {v : Vot} (h : ¬ v.bal < d.pr) (h1 : v.bal = d.lb) (h2 : ¬ v.val = d.lv) : accC d v = 7 := by unfold accC; rw [if_neg h, if_pos ⟨h1, h2⟩]
theorem accC_same {d : Slt} {v : Vot} (h : ¬ v.bal < d.pr) (h1 : v.bal = d.lb) (h2 : v.val = d.lv) : accC d v = 0 := by unfold accC; rw [if_neg h, if_neg (fun q => q.2 h2), if_pos ⟨h1, h2⟩]
theorem accC_many {d : Slt} {v : Vot} (h : ¬ v.bal < d.pr) (h1 : ¬ v.bal = d.lb) (h2 : 60 ≤ d.cast.length) : accC d v = 2 := by unfold accC; rw [if_neg h, if_neg (fun q => h1 q.1), if_neg (fun q => h1 q.1), if_pos h2]
theorem accC_new {d : Slt} {v : Vot} (h : ¬ v.bal < d.pr) (h1 : ¬ v.bal = d.lb) (h2 : ¬ 60 ≤ d.cast.length) : accC d v = 0 := by unfold accC; rw [if_neg h, if_neg (fun q => h1 q.1), if_neg (fun q => h1 q.1), if_neg h2]
theorem accS_same {d : Slt} {v : Vot} (h1 : v.bal = d.lb) (h2 : v.val = d.lv) : accS d v = ⟨d.con, d.sh, v.bal, v.bal, v.val, d.cast⟩ := by unfold accS; rw [if_pos ⟨h1, h2⟩]
theorem accS_new {d : Slt} {v : Vot} (h1 : ¬ v.bal = d.lb) : accS d v = ⟨d.con, d.sh, v.bal, v.bal, v.val, d.cast ++ [v]⟩ := by unfold accS; rw [if_neg (fun q => h1 q.1)]
theorem accD_le (d : Slt) (b v : Int) : wtSltR (accD d b v) ≤ 61 := by
  unfold accD errS
  split
  · rename_i h
    have hl := (sltOk_of h).len
    split
    · split
      · unfold accS
        split <;> simp [wtSltR, wtSlt, wtVots] <;> omega
      · simp [wtSltR, wtSlt, wtVots]
    · simp [wtSltR, wtSlt, wtVots]
  · simp [wtSltR, wtSlt, wtVots]
end Go.Proofs.Ytncmdeijimgchaa

/-
  AcceptorResult. (Written by program: nest.py.)
-/
namespace Go.Proofs.Ytncmdeijimgchaa
open Go.RowKit
set_option linter.unusedSectionVars false
variable [DecidableEq Vot] [Inhabited Vot] [DecidableEq Slt] [Inhabited Slt] [DecidableEq Acc] [Inhabited Acc]
attribute [local go_sem ↓] Go.wp_at_zero Go.wp_at_succ

set_option linter.unusedSimpArgs false

structure AccR where
  code : Int
  ob : Int
  ov : Int
  acc : Acc
variable [DecidableEq AccR] [Inhabited AccR]

def accRR : Rep AccR where
  V := fun w v x => ∃ u1_1, v = .agg #[.int .i64 x.code, .int .i64 x.ob, .int .i64 x.ov, u1_1] ∧ accR.V w (.agg #[u1_1]) x.acc
  O := fun w base F v x => ∃ u1_1 F1, v = .agg #[.int .i64 x.code, .int .i64 x.ob, .int .i64 x.ov, u1_1] ∧ accR.O w base F1 (.agg #[u1_1]) x.acc ∧ (∀ b, F b ↔ (F1 b))
  below := fun h hb => by
    obtain ⟨u1_1, rfl, h1⟩ := h
    exact ⟨u1_1, rfl, accR.below h1 hb⟩
  ofO := fun h => by
    obtain ⟨u1_1, F1, rfl, h1, _⟩ := h
    exact ⟨u1_1, rfl, accR.ofO h1⟩
  mod := fun h hm hd => by
    obtain ⟨u1_1, F1, rfl, h1, hF⟩ := h
    exact ⟨u1_1, F1, rfl, accR.mod h1 hm (fun b hb => hd b ((hF b).2 hb)), hF⟩
  rng := fun h b hb => by
    obtain ⟨u1_1, F1, rfl, h1, hF⟩ := h
    rcases (hF b).1 hb with hb
    · exact accR.rng h1 b hb
  base := fun h hb => by
    obtain ⟨u1_1, F1, rfl, h1, hF⟩ := h
    exact ⟨u1_1, F1, rfl, accR.base h1 hb, hF⟩
def wtAccR (x : AccR) : Nat := wtAcc x.acc
def cntAccR (x : AccR) : Nat := cntAcc x.acc
def mkAccR (k : Int) (x : AccR) : AccR := { x with acc := mkAcc k x.acc }
theorem accR_form {w : World} {v : Value} {x : AccR} (h : accRR.V w v x) : ∃ a1_1 c1_1, v = .agg #[.int .i64 x.code, .int .i64 x.ob, .int .i64 x.ov, .slice a1_1 x.acc.slots.length c1_1] := by
  obtain ⟨u1_1, rfl, h1⟩ := h
  obtain ⟨a1_1, c1_1, e1⟩ := acc_form h1
  simp only [Value.agg.injEq, Array.mk.injEq, List.cons.injEq, and_true] at e1
  obtain rfl := e1
  exact ⟨_, _, rfl⟩
theorem accR_cnt (d : AccR) : cntAccR d ≤ 7 * wtAccR d := by
  unfold cntAccR wtAccR
  have q1 := acc_cnt d.acc
  omega
set_option maxHeartbeats 1000000 in
theorem eqAcceptorResult_u (x y : Value) (d d' : AccR) (w : World) (hx : accRR.V w x d) (hy : accRR.V w y d') :
    Calls Try.prog 25 #[x, y] w fun e w' => e = .returned (.bool (decide (d = d'))) ∧ Below w.heap.size w w' := by
  obtain ⟨u1_1, rfl, h1⟩ := hx
  obtain ⟨v1_1, rfl, k1⟩ := hy
  obtain ⟨code, ob, ov, acc⟩ := d
  obtain ⟨code', ob', ov', acc'⟩ := d'
  dsimp only at h1 k1
  go_enter Try.func25, Try.ntmps25
  go_wp2_with fail
  all_goals try (go_ret; exact ⟨by first | (simp_all; done) | (simp_all; intros; exfalso; omega), by (repeat (first | exact Below.refl _ _ | assumption | refine Below.drew ?_ | refine balloc ?_ _ | refine bset ?_ (by simp; omega) _ | refine bset ?_ (by simp) _ | refine bstep ?_ (by assumption)))⟩)
  refine (eqVote_any ⟨ob, ov⟩ ⟨ob', ov'⟩ _).mono ?_
  rintro e w0 ⟨rfl, b0⟩
  have x0 : w0.cell? ⟨w.heap.size, 0, none⟩ = some (.int .i64 code) := cell_keep b0 (by simp [go_sem])
  have x1 : w0.cell? ⟨w.heap.size, 1, none⟩ = some (.int .i64 ob) := cell_keep b0 (by simp [go_sem])
  have x2 : w0.cell? ⟨w.heap.size, 2, none⟩ = some (.int .i64 ov) := cell_keep b0 (by simp [go_sem])
  have x3 : w0.cell? ⟨w.heap.size, 3, none⟩ = some (u1_1) := cell_keep b0 (by simp [go_sem])
  have y0 : w0.cell? ⟨w.heap.size + 1, 0, none⟩ = some (.int .i64 code') := cell_keep b0 (by simp [go_sem])
  have y1 : w0.cell? ⟨w.heap.size + 1, 1, none⟩ = some (.int .i64 ob') := cell_keep b0 (by simp [go_sem])
  have y2 : w0.cell? ⟨w.heap.size + 1, 2, none⟩ = some (.int .i64 ov') := cell_keep b0 (by simp [go_sem])
  have y3 : w0.cell? ⟨w.heap.size + 1, 3, none⟩ = some (v1_1) := cell_keep b0 (by simp [go_sem])
  go_wp2_with fail
  all_goals try (go_ret; exact ⟨by first | (simp_all; done) | (simp_all; intros; exfalso; omega), by (repeat (first | exact Below.refl _ _ | assumption | refine Below.drew ?_ | refine balloc ?_ _ | refine bset ?_ (by simp; omega) _ | refine bset ?_ (by simp) _ | refine bstep ?_ (by assumption)))⟩)
  refine (eqAcceptor_u _ _ acc acc' _ (accR.below h1 (by (repeat (first | exact Below.refl _ _ | assumption | refine Below.drew ?_ | refine balloc ?_ _ | refine bset ?_ (by simp; omega) _ | refine bset ?_ (by simp) _ | refine bstep ?_ (by assumption))))) (accR.below k1 (by (repeat (first | exact Below.refl _ _ | assumption | refine Below.drew ?_ | refine balloc ?_ _ | refine bset ?_ (by simp; omega) _ | refine bset ?_ (by simp) _ | refine bstep ?_ (by assumption)))))).mono ?_
  rintro e w1 ⟨rfl, b1⟩
  go_wp2
  all_goals
    go_ret
    exact ⟨by first | (simp_all; done) | (simp_all; intros; exfalso; omega), by (repeat (first | exact Below.refl _ _ | assumption | refine Below.drew ?_ | refine balloc ?_ _ | refine bset ?_ (by simp; omega) _ | refine bset ?_ (by simp) _ | refine bstep ?_ (by assumption)))⟩
set_option maxHeartbeats 1000000 in
theorem markAcceptorResult_u (v : Value) (d : AccR) (base : Nat) (F : Nat → Prop) (k : Int) (w : World) (ho : accRR.O w base F v d) (hw : wtAccR d ≤ 1048576) (hn : k + cntAccR d ≤ 1073741824) (hk0 : 0 ≤ k) :
    Calls Try.prog 28 #[v, .int .i64 k] w fun r w' => r = .returned (.int .i64 (k + cntAccR d)) ∧ accRR.O w' base F v (mkAccR k d) ∧ Mod F w w' := by
  obtain ⟨u1_1, F1, rfl, h1, hF⟩ := ho
  unfold wtAccR at hw
  unfold cntAccR at hn ⊢
  have HF : Hid (∀ b, F b ↔ (F1 b)) := hF
  clear hF
  go_enter Try.func28, Try.ntmps28
  go_wp2_with fail
  refine (markAcceptor_u _ d.acc base F1 k _ (accR.alloc h1 _) (by omega) (by omega) (by omega)).mono ?_
  rintro e w1 ⟨rfl, r1, m1⟩
  go_wp2
  go_ret
  refine ⟨?_, ⟨_, F1, rfl, r1, HF.out⟩, ((Mod.refl F w).alloc _).trans (m1.mono (fun b hb => (HF.out b).2 hb))⟩
  simp
  try omega
set_option maxHeartbeats 1000000 in
theorem heldAcceptorResult_u (v : Value) (d : AccR) (k : Int) (w : World) (hv : accRR.V w v (mkAccR k d)) (hw : wtAccR d ≤ 1048576) (hn : k + cntAccR d ≤ 1073741824) (hk0 : 0 ≤ k) :
    Calls Try.prog 29 #[v, .int .i64 k] w fun r w' => r = .returned (.int .i64 (k + cntAccR d)) ∧ Below w.heap.size w w' := by
  obtain ⟨u1_1, rfl, h1⟩ := hv
  unfold wtAccR at hw
  unfold cntAccR at hn ⊢
  go_enter Try.func29, Try.ntmps29
  go_wp2_with fail
  refine (heldAcceptor_u _ d.acc k _ (accR.below h1 (by (repeat (first | exact Below.refl _ _ | assumption | refine Below.drew ?_ | refine balloc ?_ _ | refine bset ?_ (by simp; omega) _ | refine bset ?_ (by simp) _ | refine bstep ?_ (by assumption))))) (by omega) (by omega) (by omega)).mono ?_
  rintro e w1 ⟨rfl, b1⟩
  go_wp2
  go_ret
  refine ⟨?_, by (repeat (first | exact Below.refl _ _ | assumption | refine Below.drew ?_ | refine balloc ?_ _ | refine bset ?_ (by simp; omega) _ | refine bset ?_ (by simp) _ | refine bstep ?_ (by assumption)))⟩
  simp
  try omega
end Go.Proofs.Ytncmdeijimgchaa

/-
  AcceptorsResult. (Written by program: nest.py.)
-/
namespace Go.Proofs.Ytncmdeijimgchaa
open Go.RowKit
set_option linter.unusedSectionVars false
variable [DecidableEq Vot] [Inhabited Vot] [DecidableEq Slt] [Inhabited Slt] [DecidableEq Acc] [Inhabited Acc]
attribute [local go_sem ↓] Go.wp_at_zero Go.wp_at_succ

structure AccsR where
  code : Int
  value : Int
  accs : List Acc
variable [DecidableEq AccsR] [Inhabited AccsR]

end Go.Proofs.Ytncmdeijimgchaa

