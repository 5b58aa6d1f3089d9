import Derived.Test.YtecfelacdapdgaaGreatPrnUnpackEventLaw2

/-
  Contract. (Written by program: nest.py.)
-/
namespace Go.Proofs.YtecfelacdapdgaaGreat
open Go.RowKit
set_option linter.unusedSectionVars false
variable [DecidableEq Leg] [Inhabited Leg]
attribute [local go_sem ↓] Go.wp_at_zero Go.wp_at_succ

structure Cont where
  id : Int
  legs : List Leg
variable [DecidableEq Cont] [Inhabited Cont]

def contR : Rep Cont where
  V := fun w v x => ∃ u1, v = .agg #[.int .i64 x.id, u1] ∧ legsR.V w u1 x.legs
  O := fun w base F v x => ∃ u1 F1, v = .agg #[.int .i64 x.id, u1] ∧ legsR.O w base F1 u1 x.legs ∧ (∀ b, F b ↔ (F1 b))
  below := fun h hb => by
    obtain ⟨u1, rfl, h1⟩ := h
    exact ⟨u1, rfl, legsR.below h1 hb⟩
  ofO := fun h => by
    obtain ⟨u1, F1, rfl, h1, _⟩ := h
    exact ⟨u1, rfl, legsR.ofO h1⟩
  mod := fun h hm hd => by
    obtain ⟨u1, F1, rfl, h1, hF⟩ := h
    exact ⟨u1, F1, rfl, legsR.mod h1 hm (fun b hb => hd b ((hF b).2 hb)), hF⟩
  rng := fun h b hb => by
    obtain ⟨u1, F1, rfl, h1, hF⟩ := h
    rcases (hF b).1 hb with hb
    · exact legsR.rng h1 b hb
  base := fun h hb => by
    obtain ⟨u1, F1, rfl, h1, hF⟩ := h
    exact ⟨u1, F1, rfl, legsR.base h1 hb, hF⟩
def wtCont (x : Cont) : Nat := wtLegs x.legs
def cntCont (x : Cont) : Nat := cntLegs x.legs
def mkCont (k : Int) (x : Cont) : Cont := { x with legs := mkLegs k x.legs }
theorem cont_form {w : World} {v : Value} {x : Cont} (h : contR.V w v x) : ∃ a1 c1, v = .agg #[.int .i64 x.id, .slice a1 x.legs.length c1] := by
  obtain ⟨u1, rfl, h1⟩ := h
  obtain ⟨a1, c1, rfl⟩ := legs_form h1
  exact ⟨_, _, rfl⟩
theorem cont_cnt (d : Cont) : cntCont d ≤ 4 * wtCont d := by
  unfold cntCont wtCont
  have q1 := legs_cnt d.legs
  omega
set_option maxHeartbeats 1000000 in
theorem eqContract_u (x y : Value) (d d' : Cont) (w : World) (hx : contR.V w x d) (hy : contR.V w y d') :
    Calls Tryz.prog 41 #[x, y] w fun e w' => e = .returned (.bool (decide (d = d'))) ∧ Below w.heap.size w w' := by
  obtain ⟨u1, rfl, h1⟩ := hx
  obtain ⟨v1, rfl, k1⟩ := hy
  obtain ⟨id, legs⟩ := d
  obtain ⟨id', legs'⟩ := d'
  dsimp only at h1 k1
  go_enter Tryz.func41, Tryz.ntmps41
  go_wp2_with fail
  all_goals try (go_ret; exact ⟨by simp_all, by (repeat (first | exact Below.refl _ _ | assumption | refine Below.drew ?_ | refine balloc ?_ _ | refine bset ?_ (by simp; omega) _ | refine bset ?_ (by simp) _ | refine bstep ?_ (by assumption)))⟩)
  refine (eqLegS_u _ _ legs legs' _ (legsR.below h1 (by (repeat (first | exact Below.refl _ _ | assumption | refine Below.drew ?_ | refine balloc ?_ _ | refine bset ?_ (by simp; omega) _ | refine bset ?_ (by simp) _ | refine bstep ?_ (by assumption))))) (legsR.below k1 (by (repeat (first | exact Below.refl _ _ | assumption | refine Below.drew ?_ | refine balloc ?_ _ | refine bset ?_ (by simp; omega) _ | refine bset ?_ (by simp) _ | refine bstep ?_ (by assumption)))))).mono ?_
  rintro e w1 ⟨rfl, b1⟩
  go_wp2
  all_goals
    go_ret
    exact ⟨by simp_all, by (repeat (first | exact Below.refl _ _ | assumption | refine Below.drew ?_ | refine balloc ?_ _ | refine bset ?_ (by simp; omega) _ | refine bset ?_ (by simp) _ | refine bstep ?_ (by assumption)))⟩
set_option maxHeartbeats 1000000 in
theorem markContract_u (v : Value) (d : Cont) (base : Nat) (F : Nat → Prop) (k : Int) (w : World) (ho : contR.O w base F v d) (hw : wtCont d ≤ 1048576) (hn : k + cntCont d ≤ 1073741824) (hk0 : 0 ≤ k) :
    Calls Tryz.prog 44 #[v, .int .i64 k] w fun r w' => r = .returned (.int .i64 (k + cntCont d)) ∧ contR.O w' base F v (mkCont k d) ∧ Mod F w w' := by
  obtain ⟨u1, F1, rfl, h1, hF⟩ := ho
  unfold wtCont at hw
  unfold cntCont at hn ⊢
  have HF : Hid (∀ b, F b ↔ (F1 b)) := hF
  clear hF
  go_enter Tryz.func44, Tryz.ntmps44
  go_wp2_with fail
  refine (markLegS_u _ d.legs base F1 k _ (legsR.alloc h1 _) (by omega) (by omega) (by omega)).mono ?_
  rintro e w1 ⟨rfl, r1, m1⟩
  go_wp2
  go_ret
  refine ⟨?_, ⟨_, F1, rfl, r1, HF.out⟩, ((Mod.refl F w).alloc _).trans (m1.mono (fun b hb => (HF.out b).2 hb))⟩
  simp
  try omega
set_option maxHeartbeats 1000000 in
theorem heldContract_u (v : Value) (d : Cont) (k : Int) (w : World) (hv : contR.V w v (mkCont k d)) (hw : wtCont d ≤ 1048576) (hn : k + cntCont d ≤ 1073741824) (hk0 : 0 ≤ k) :
    Calls Tryz.prog 80 #[v, .int .i64 k] w fun r w' => r = .returned (.int .i64 (k + cntCont d)) ∧ Below w.heap.size w w' := by
  obtain ⟨u1, rfl, h1⟩ := hv
  unfold wtCont at hw
  unfold cntCont at hn ⊢
  go_enter Tryz.func80, Tryz.ntmps80
  go_wp2_with fail
  refine (heldLegS_u _ d.legs k _ (legsR.below h1 (by (repeat (first | exact Below.refl _ _ | assumption | refine Below.drew ?_ | refine balloc ?_ _ | refine bset ?_ (by simp; omega) _ | refine bset ?_ (by simp) _ | refine bstep ?_ (by assumption))))) (by omega) (by omega) (by omega)).mono ?_
  rintro e w1 ⟨rfl, b1⟩
  go_wp2
  go_ret
  refine ⟨?_, by (repeat (first | exact Below.refl _ _ | assumption | refine Below.drew ?_ | refine balloc ?_ _ | refine bset ?_ (by simp; omega) _ | refine bset ?_ (by simp) _ | refine bstep ?_ (by assumption)))⟩
  simp
  try omega
end Go.Proofs.YtecfelacdapdgaaGreat

/-
  Event. (Written by program: nest.py.)
-/
namespace Go.Proofs.YtecfelacdapdgaaGreat
open Go.RowKit
set_option linter.unusedSectionVars false
variable [DecidableEq Leg] [Inhabited Leg] [DecidableEq Cont] [Inhabited Cont]
attribute [local go_sem ↓] Go.wp_at_zero Go.wp_at_succ

set_option linter.unusedSimpArgs false

structure Evt where
  vote : Bool
  con : Cont
  out : Int
variable [DecidableEq Evt] [Inhabited Evt]

def evtR : Rep Evt where
  V := fun w v x => ∃ u1_1, v = .agg #[.bool x.vote, .int .i64 x.con.id, u1_1, .int .i64 x.out] ∧ contR.V w (.agg #[.int .i64 x.con.id, u1_1]) x.con
  O := fun w base F v x => ∃ u1_1 F1, v = .agg #[.bool x.vote, .int .i64 x.con.id, u1_1, .int .i64 x.out] ∧ contR.O w base F1 (.agg #[.int .i64 x.con.id, u1_1]) x.con ∧ (∀ b, F b ↔ (F1 b))
  below := fun h hb => by
    obtain ⟨u1_1, rfl, h1⟩ := h
    exact ⟨u1_1, rfl, contR.below h1 hb⟩
  ofO := fun h => by
    obtain ⟨u1_1, F1, rfl, h1, _⟩ := h
    exact ⟨u1_1, rfl, contR.ofO h1⟩
  mod := fun h hm hd => by
    obtain ⟨u1_1, F1, rfl, h1, hF⟩ := h
    exact ⟨u1_1, F1, rfl, contR.mod h1 hm (fun b hb => hd b ((hF b).2 hb)), hF⟩
  rng := fun h b hb => by
    obtain ⟨u1_1, F1, rfl, h1, hF⟩ := h
    rcases (hF b).1 hb with hb
    · exact contR.rng h1 b hb
  base := fun h hb => by
    obtain ⟨u1_1, F1, rfl, h1, hF⟩ := h
    exact ⟨u1_1, F1, rfl, contR.base h1 hb, hF⟩
def wtEvt (x : Evt) : Nat := wtCont x.con
def cntEvt (x : Evt) : Nat := cntCont x.con
def mkEvt (k : Int) (x : Evt) : Evt := { x with con := mkCont k x.con }
theorem evt_form {w : World} {v : Value} {x : Evt} (h : evtR.V w v x) : ∃ a1_1 c1_1, v = .agg #[.bool x.vote, .int .i64 x.con.id, .slice a1_1 x.con.legs.length c1_1, .int .i64 x.out] := by
  obtain ⟨u1_1, rfl, h1⟩ := h
  obtain ⟨a1_1, c1_1, e1⟩ := cont_form h1
  simp only [Value.agg.injEq, Array.mk.injEq, List.cons.injEq, and_true, true_and] at e1
  obtain rfl := e1
  exact ⟨_, _, rfl⟩
theorem evt_cnt (d : Evt) : cntEvt d ≤ 4 * wtEvt d := by
  unfold cntEvt wtEvt
  have q1 := cont_cnt d.con
  omega
set_option maxHeartbeats 1000000 in
theorem eqEvent_u (x y : Value) (d d' : Evt) (w : World) (hx : evtR.V w x d) (hy : evtR.V w y d') :
    Calls Tryz.prog 11 #[x, y] w fun e w' => e = .returned (.bool (decide (d = d'))) ∧ Below w.heap.size w w' := by
  obtain ⟨u1_1, rfl, h1⟩ := hx
  obtain ⟨v1_1, rfl, k1⟩ := hy
  obtain ⟨vote, con, out⟩ := d
  obtain ⟨vote', con', out'⟩ := d'
  dsimp only at h1 k1
  go_enter Tryz.func11, Tryz.ntmps11
  go_wp2_with fail
  all_goals try (go_ret; exact ⟨by simp_all, by (repeat (first | exact Below.refl _ _ | assumption | refine Below.drew ?_ | refine balloc ?_ _ | refine bset ?_ (by simp; omega) _ | refine bset ?_ (by simp) _ | refine bstep ?_ (by assumption)))⟩)
  refine (eqContract_u _ _ con con' _ (contR.below h1 (by (repeat (first | exact Below.refl _ _ | assumption | refine Below.drew ?_ | refine balloc ?_ _ | refine bset ?_ (by simp; omega) _ | refine bset ?_ (by simp) _ | refine bstep ?_ (by assumption))))) (contR.below k1 (by (repeat (first | exact Below.refl _ _ | assumption | refine Below.drew ?_ | refine balloc ?_ _ | refine bset ?_ (by simp; omega) _ | refine bset ?_ (by simp) _ | refine bstep ?_ (by assumption)))))).mono ?_
  rintro e w1 ⟨rfl, b1⟩
  have x0 : w1.cell? ⟨w.heap.size, 0, none⟩ = some (.bool vote) := cell_keep b1 (by simp [go_sem])
  have x1 : w1.cell? ⟨w.heap.size, 1, none⟩ = some (.int .i64 con.id) := cell_keep b1 (by simp [go_sem])
  have x2 : w1.cell? ⟨w.heap.size, 2, none⟩ = some (u1_1) := cell_keep b1 (by simp [go_sem])
  have x3 : w1.cell? ⟨w.heap.size, 3, none⟩ = some (.int .i64 out) := cell_keep b1 (by simp [go_sem])
  have y0 : w1.cell? ⟨w.heap.size + 1, 0, none⟩ = some (.bool vote') := cell_keep b1 (by simp [go_sem])
  have y1 : w1.cell? ⟨w.heap.size + 1, 1, none⟩ = some (.int .i64 con'.id) := cell_keep b1 (by simp [go_sem])
  have y2 : w1.cell? ⟨w.heap.size + 1, 2, none⟩ = some (v1_1) := cell_keep b1 (by simp [go_sem])
  have y3 : w1.cell? ⟨w.heap.size + 1, 3, none⟩ = some (.int .i64 out') := cell_keep b1 (by simp [go_sem])
  go_wp2
  all_goals
    go_ret
    exact ⟨by simp_all, by (repeat (first | exact Below.refl _ _ | assumption | refine Below.drew ?_ | refine balloc ?_ _ | refine bset ?_ (by simp; omega) _ | refine bset ?_ (by simp) _ | refine bstep ?_ (by assumption)))⟩
set_option maxHeartbeats 1000000 in
theorem markEvent_u (v : Value) (d : Evt) (base : Nat) (F : Nat → Prop) (k : Int) (w : World) (ho : evtR.O w base F v d) (hw : wtEvt d ≤ 1048576) (hn : k + cntEvt d ≤ 1073741824) (hk0 : 0 ≤ k) :
    Calls Tryz.prog 15 #[v, .int .i64 k] w fun r w' => r = .returned (.int .i64 (k + cntEvt d)) ∧ evtR.O w' base F v (mkEvt k d) ∧ Mod F w w' := by
  obtain ⟨u1_1, F1, rfl, h1, hF⟩ := ho
  unfold wtEvt at hw
  unfold cntEvt at hn ⊢
  have HF : Hid (∀ b, F b ↔ (F1 b)) := hF
  clear hF
  go_enter Tryz.func15, Tryz.ntmps15
  go_wp2_with fail
  refine (markContract_u _ d.con base F1 k _ (contR.alloc h1 _) (by omega) (by omega) (by omega)).mono ?_
  rintro e w1 ⟨rfl, r1, m1⟩
  go_wp2
  go_ret
  refine ⟨?_, ⟨_, F1, rfl, r1, HF.out⟩, ((Mod.refl F w).alloc _).trans (m1.mono (fun b hb => (HF.out b).2 hb))⟩
  simp
  try omega
set_option maxHeartbeats 1000000 in
theorem heldEvent_u (v : Value) (d : Evt) (k : Int) (w : World) (hv : evtR.V w v (mkEvt k d)) (hw : wtEvt d ≤ 1048576) (hn : k + cntEvt d ≤ 1073741824) (hk0 : 0 ≤ k) :
    Calls Tryz.prog 48 #[v, .int .i64 k] w fun r w' => r = .returned (.int .i64 (k + cntEvt d)) ∧ Below w.heap.size w w' := by
  obtain ⟨u1_1, rfl, h1⟩ := hv
  unfold wtEvt at hw
  unfold cntEvt at hn ⊢
  go_enter Tryz.func48, Tryz.ntmps48
  go_wp2_with fail
  refine (heldContract_u _ d.con k _ (contR.below h1 (by (repeat (first | exact Below.refl _ _ | assumption | refine Below.drew ?_ | refine balloc ?_ _ | refine bset ?_ (by simp; omega) _ | refine bset ?_ (by simp) _ | refine bstep ?_ (by assumption))))) (by omega) (by omega) (by omega)).mono ?_
  rintro e w1 ⟨rfl, b1⟩
  go_wp2
  go_ret
  refine ⟨?_, by (repeat (first | exact Below.refl _ _ | assumption | refine Below.drew ?_ | refine balloc ?_ _ | refine bset ?_ (by simp; omega) _ | refine bset ?_ (by simp) _ | refine bstep ?_ (by assumption)))⟩
  simp
  try omega
end Go.Proofs.YtecfelacdapdgaaGreat

/-
  EventResult. (Written by program: nest.py.)
-/
namespace Go.Proofs.YtecfelacdapdgaaGreat
open Go.RowKit
set_option linter.unusedSectionVars false
variable [DecidableEq Leg] [Inhabited Leg] [DecidableEq Cont] [Inhabited Cont] [DecidableEq Evt] [Inhabited Evt]
attribute [local go_sem ↓] Go.wp_at_zero Go.wp_at_succ

set_option linter.unusedSimpArgs false

structure EvtR where
  code : Int
  evt : Evt
variable [DecidableEq EvtR] [Inhabited EvtR]

def evtRR : Rep EvtR where
  V := fun w v x => ∃ u1_1_1, v = .agg #[.int .i64 x.code, .bool x.evt.vote, .int .i64 x.evt.con.id, u1_1_1, .int .i64 x.evt.out] ∧ evtR.V w (.agg #[.bool x.evt.vote, .int .i64 x.evt.con.id, u1_1_1, .int .i64 x.evt.out]) x.evt
  O := fun w base F v x => ∃ u1_1_1 F1, v = .agg #[.int .i64 x.code, .bool x.evt.vote, .int .i64 x.evt.con.id, u1_1_1, .int .i64 x.evt.out] ∧ evtR.O w base F1 (.agg #[.bool x.evt.vote, .int .i64 x.evt.con.id, u1_1_1, .int .i64 x.evt.out]) x.evt ∧ (∀ b, F b ↔ (F1 b))
  below := fun h hb => by
    obtain ⟨u1_1_1, rfl, h1⟩ := h
    exact ⟨u1_1_1, rfl, evtR.below h1 hb⟩
  ofO := fun h => by
    obtain ⟨u1_1_1, F1, rfl, h1, _⟩ := h
    exact ⟨u1_1_1, rfl, evtR.ofO h1⟩
  mod := fun h hm hd => by
    obtain ⟨u1_1_1, F1, rfl, h1, hF⟩ := h
    exact ⟨u1_1_1, F1, rfl, evtR.mod h1 hm (fun b hb => hd b ((hF b).2 hb)), hF⟩
  rng := fun h b hb => by
    obtain ⟨u1_1_1, F1, rfl, h1, hF⟩ := h
    rcases (hF b).1 hb with hb
    · exact evtR.rng h1 b hb
  base := fun h hb => by
    obtain ⟨u1_1_1, F1, rfl, h1, hF⟩ := h
    exact ⟨u1_1_1, F1, rfl, evtR.base h1 hb, hF⟩
def wtEvtR (x : EvtR) : Nat := wtEvt x.evt
def cntEvtR (x : EvtR) : Nat := cntEvt x.evt
def mkEvtR (k : Int) (x : EvtR) : EvtR := { x with evt := mkEvt k x.evt }
theorem evtR_form {w : World} {v : Value} {x : EvtR} (h : evtRR.V w v x) : ∃ a1_1_1 c1_1_1, v = .agg #[.int .i64 x.code, .bool x.evt.vote, .int .i64 x.evt.con.id, .slice a1_1_1 x.evt.con.legs.length c1_1_1, .int .i64 x.evt.out] := by
  obtain ⟨u1_1_1, rfl, h1⟩ := h
  obtain ⟨a1_1_1, c1_1_1, e1⟩ := evt_form h1
  simp only [Value.agg.injEq, Array.mk.injEq, List.cons.injEq, and_true, true_and] at e1
  obtain rfl := e1
  exact ⟨_, _, rfl⟩
theorem evtR_cnt (d : EvtR) : cntEvtR d ≤ 4 * wtEvtR d := by
  unfold cntEvtR wtEvtR
  have q1 := evt_cnt d.evt
  omega
set_option maxHeartbeats 1000000 in
theorem eqEventResult_u (x y : Value) (d d' : EvtR) (w : World) (hx : evtRR.V w x d) (hy : evtRR.V w y d') :
    Calls Tryz.prog 21 #[x, y] w fun e w' => e = .returned (.bool (decide (d = d'))) ∧ Below w.heap.size w w' := by
  obtain ⟨u1_1_1, rfl, h1⟩ := hx
  obtain ⟨v1_1_1, rfl, k1⟩ := hy
  obtain ⟨code, evt⟩ := d
  obtain ⟨code', evt'⟩ := d'
  dsimp only at h1 k1
  go_enter Tryz.func21, Tryz.ntmps21
  go_wp2_with fail
  all_goals try (go_ret; exact ⟨by simp_all, by (repeat (first | exact Below.refl _ _ | assumption | refine Below.drew ?_ | refine balloc ?_ _ | refine bset ?_ (by simp; omega) _ | refine bset ?_ (by simp) _ | refine bstep ?_ (by assumption)))⟩)
  refine (eqEvent_u _ _ evt evt' _ (evtR.below h1 (by (repeat (first | exact Below.refl _ _ | assumption | refine Below.drew ?_ | refine balloc ?_ _ | refine bset ?_ (by simp; omega) _ | refine bset ?_ (by simp) _ | refine bstep ?_ (by assumption))))) (evtR.below k1 (by (repeat (first | exact Below.refl _ _ | assumption | refine Below.drew ?_ | refine balloc ?_ _ | refine bset ?_ (by simp; omega) _ | refine bset ?_ (by simp) _ | refine bstep ?_ (by assumption)))))).mono ?_
  rintro e w1 ⟨rfl, b1⟩
  go_wp2
  all_goals
    go_ret
    exact ⟨by simp_all, by (repeat (first | exact Below.refl _ _ | assumption | refine Below.drew ?_ | refine balloc ?_ _ | refine bset ?_ (by simp; omega) _ | refine bset ?_ (by simp) _ | refine bstep ?_ (by assumption)))⟩
set_option maxHeartbeats 1000000 in
theorem markEventResult_u (v : Value) (d : EvtR) (base : Nat) (F : Nat → Prop) (k : Int) (w : World) (ho : evtRR.O w base F v d) (hw : wtEvtR d ≤ 1048576) (hn : k + cntEvtR d ≤ 1073741824) (hk0 : 0 ≤ k) :
    Calls Tryz.prog 24 #[v, .int .i64 k] w fun r w' => r = .returned (.int .i64 (k + cntEvtR d)) ∧ evtRR.O w' base F v (mkEvtR k d) ∧ Mod F w w' := by
  obtain ⟨u1_1_1, F1, rfl, h1, hF⟩ := ho
  unfold wtEvtR at hw
  unfold cntEvtR at hn ⊢
  have HF : Hid (∀ b, F b ↔ (F1 b)) := hF
  clear hF
  go_enter Tryz.func24, Tryz.ntmps24
  go_wp2_with fail
  refine (markEvent_u _ d.evt base F1 k _ (evtR.alloc h1 _) (by omega) (by omega) (by omega)).mono ?_
  rintro e w1 ⟨rfl, r1, m1⟩
  go_wp2
  go_ret
  refine ⟨?_, ⟨_, F1, rfl, r1, HF.out⟩, ((Mod.refl F w).alloc _).trans (m1.mono (fun b hb => (HF.out b).2 hb))⟩
  simp
  try omega
set_option maxHeartbeats 1000000 in
theorem heldEventResult_u (v : Value) (d : EvtR) (k : Int) (w : World) (hv : evtRR.V w v (mkEvtR k d)) (hw : wtEvtR d ≤ 1048576) (hn : k + cntEvtR d ≤ 1073741824) (hk0 : 0 ≤ k) :
    Calls Tryz.prog 25 #[v, .int .i64 k] w fun r w' => r = .returned (.int .i64 (k + cntEvtR d)) ∧ Below w.heap.size w w' := by
  obtain ⟨u1_1_1, rfl, h1⟩ := hv
  unfold wtEvtR at hw
  unfold cntEvtR at hn ⊢
  go_enter Tryz.func25, Tryz.ntmps25
  go_wp2_with fail
  refine (heldEvent_u _ d.evt k _ (evtR.below h1 (by (repeat (first | exact Below.refl _ _ | assumption | refine Below.drew ?_ | refine balloc ?_ _ | refine bset ?_ (by simp; omega) _ | refine bset ?_ (by simp) _ | refine bstep ?_ (by assumption))))) (by omega) (by omega) (by omega)).mono ?_
  rintro e w1 ⟨rfl, b1⟩
  go_wp2
  go_ret
  refine ⟨?_, by (repeat (first | exact Below.refl _ _ | assumption | refine Below.drew ?_ | refine balloc ?_ _ | refine bset ?_ (by simp; omega) _ | refine bset ?_ (by simp) _ | refine bstep ?_ (by assumption)))⟩
  simp
  try omega
end Go.Proofs.YtecfelacdapdgaaGreat

/-
  Event, field by field. (Written by program: nest.py.)
-/
namespace Go.Proofs.YtecfelacdapdgaaGreat
open Go.RowKit
set_option linter.unusedSectionVars false
variable [DecidableEq Leg] [Inhabited Leg] [DecidableEq Cont] [Inhabited Cont] [DecidableEq Evt] [Inhabited Evt]
attribute [local go_sem ↓] Go.wp_at_zero Go.wp_at_succ

def evtfR : Rep Evt where
  V := fun w v x => ∃ u1, v = .agg #[.bool x.vote, .int .i64 x.con.id, u1, .int .i64 x.out] ∧ legsR.V w u1 x.con.legs
  O := fun w base F v x => ∃ u1 F1, v = .agg #[.bool x.vote, .int .i64 x.con.id, u1, .int .i64 x.out] ∧ legsR.O w base F1 u1 x.con.legs ∧ (∀ b, F b ↔ (F1 b))
  below := fun h hb => by
    obtain ⟨u1, rfl, h1⟩ := h
    exact ⟨u1, rfl, legsR.below h1 hb⟩
  ofO := fun h => by
    obtain ⟨u1, F1, rfl, h1, _⟩ := h
    exact ⟨u1, rfl, legsR.ofO h1⟩
  mod := fun h hm hd => by
    obtain ⟨u1, F1, rfl, h1, hF⟩ := h
    exact ⟨u1, F1, rfl, legsR.mod h1 hm (fun b hb => hd b ((hF b).2 hb)), hF⟩
  rng := fun h b hb => by
    obtain ⟨u1, F1, rfl, h1, hF⟩ := h
    exact legsR.rng h1 b ((hF b).1 hb)
  base := fun h hb => by
    obtain ⟨u1, F1, rfl, h1, hF⟩ := h
    exact ⟨u1, F1, rfl, legsR.base h1 hb, hF⟩
theorem evtf_V {w : World} {v : Value} {x : Evt} : evtfR.V w v x ↔ evtR.V w v x := by
  constructor
  · rintro ⟨u1, rfl, h1⟩
    exact ⟨u1, rfl, ⟨u1, rfl, h1⟩⟩
  · rintro ⟨u1, rfl, ⟨u2, he, h1⟩⟩
    simp only [Value.agg.injEq, Array.mk.injEq, List.cons.injEq, and_true, true_and] at he
    subst he
    exact ⟨_, rfl, h1⟩
theorem evtf_O {w : World} {base : Nat} {F : Nat → Prop} {v : Value} {x : Evt} : evtfR.O w base F v x ↔ evtR.O w base F v x := by
  constructor
  · rintro ⟨u1, F1, rfl, h1, hF⟩
    exact ⟨u1, F, rfl, ⟨u1, F1, rfl, h1, hF⟩, fun _ => Iff.rfl⟩
  · rintro ⟨u1, F1, rfl, ⟨u2, F2, he, h1, h2⟩, hF⟩
    simp only [Value.agg.injEq, Array.mk.injEq, List.cons.injEq, and_true, true_and] at he
    subst he
    exact ⟨_, F2, rfl, h1, fun b => (hF b).trans (h2 b)⟩
end Go.Proofs.YtecfelacdapdgaaGreat

