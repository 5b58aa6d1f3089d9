import Derived.Test.YtecfelacdapdgaaGreatPrnEventsOfLaw2
import Derived.Deep.RegionHeld3
import Derived.Deep.DrawnRows

/-
  Contract. (Written by program: nest.py.)
-/
namespace Go.Proofs.YtecfelacdapdgaaGreat
open Go.RowKit
set_option linter.unusedSectionVars false
variable [DecidableEq Leg] [Inhabited Leg]
attribute [local go_sem ↓] Go.wp_at_zero Go.wp_at_succ

structure Cont where
  id : Int
  legs : List Leg
variable [DecidableEq Cont] [Inhabited Cont]

def contR : Rep Cont where
  V := fun w v x => ∃ u1, v = .agg #[.int .i64 x.id, u1] ∧ legsR.V w u1 x.legs
  O := fun w base F v x => ∃ u1 F1, v = .agg #[.int .i64 x.id, u1] ∧ legsR.O w base F1 u1 x.legs ∧ (∀ b, F b ↔ (F1 b))
  below := fun h hb => by
    obtain ⟨u1, rfl, h1⟩ := h
    exact ⟨u1, rfl, legsR.below h1 hb⟩
  ofO := fun h => by
    obtain ⟨u1, F1, rfl, h1, _⟩ := h
    exact ⟨u1, rfl, legsR.ofO h1⟩
  mod := fun h hm hd => by
    obtain ⟨u1, F1, rfl, h1, hF⟩ := h
    exact ⟨u1, F1, rfl, legsR.mod h1 hm (fun b hb => hd b ((hF b).2 hb)), hF⟩
  rng := fun h b hb => by
    obtain ⟨u1, F1, rfl, h1, hF⟩ := h
    rcases (hF b).1 hb with hb
    · exact legsR.rng h1 b hb
  base := fun h hb => by
    obtain ⟨u1, F1, rfl, h1, hF⟩ := h
    exact ⟨u1, F1, rfl, legsR.base h1 hb, hF⟩
def wtCont (x : Cont) : Nat := wtLegs x.legs
set_option maxHeartbeats 1000000 in
theorem eqContract_u (x y : Value) (d d' : Cont) (w : World) (hx : contR.V w x d) (hy : contR.V w y d') :
    Calls Tryz.prog 41 #[x, y] w fun e w' => e = .returned (.bool (decide (d = d'))) ∧ Below w.heap.size w w' := by
  obtain ⟨u1, rfl, h1⟩ := hx
  obtain ⟨v1, rfl, k1⟩ := hy
  obtain ⟨id, legs⟩ := d
  obtain ⟨id', legs'⟩ := d'
  dsimp only at h1 k1
  go_enter Tryz.func41, Tryz.ntmps41
  go_wp2_with fail
  all_goals try (go_ret; exact ⟨by simp_all, by (repeat (first | exact Below.refl _ _ | assumption | refine Below.drew ?_ | refine balloc ?_ _ | refine bset ?_ (by simp; omega) _ | refine bset ?_ (by simp) _ | refine bstep ?_ (by assumption)))⟩)
  refine (eqLegS_u _ _ legs legs' _ (legsR.below h1 (by (repeat (first | exact Below.refl _ _ | assumption | refine Below.drew ?_ | refine balloc ?_ _ | refine bset ?_ (by simp; omega) _ | refine bset ?_ (by simp) _ | refine bstep ?_ (by assumption))))) (legsR.below k1 (by (repeat (first | exact Below.refl _ _ | assumption | refine Below.drew ?_ | refine balloc ?_ _ | refine bset ?_ (by simp; omega) _ | refine bset ?_ (by simp) _ | refine bstep ?_ (by assumption)))))).mono ?_
  rintro e w1 ⟨rfl, b1⟩
  go_wp2
  all_goals
    go_ret
    exact ⟨by simp_all, by (repeat (first | exact Below.refl _ _ | assumption | refine Below.drew ?_ | refine balloc ?_ _ | refine bset ?_ (by simp; omega) _ | refine bset ?_ (by simp) _ | refine bstep ?_ (by assumption)))⟩
end Go.Proofs.YtecfelacdapdgaaGreat

/-
  Event. (Written by program: nest.py.)
-/
namespace Go.Proofs.YtecfelacdapdgaaGreat
open Go.RowKit
set_option linter.unusedSectionVars false
variable [DecidableEq Leg] [Inhabited Leg] [DecidableEq Cont] [Inhabited Cont]
attribute [local go_sem ↓] Go.wp_at_zero Go.wp_at_succ

set_option linter.unusedSimpArgs false

structure Evt where
  vote : Bool
  con : Cont
  out : Int
variable [DecidableEq Evt] [Inhabited Evt]

def evtR : Rep Evt where
  V := fun w v x => ∃ u1_1, v = .agg #[.bool x.vote, .int .i64 x.con.id, u1_1, .int .i64 x.out] ∧ contR.V w (.agg #[.int .i64 x.con.id, u1_1]) x.con
  O := fun w base F v x => ∃ u1_1 F1, v = .agg #[.bool x.vote, .int .i64 x.con.id, u1_1, .int .i64 x.out] ∧ contR.O w base F1 (.agg #[.int .i64 x.con.id, u1_1]) x.con ∧ (∀ b, F b ↔ (F1 b))
  below := fun h hb => by
    obtain ⟨u1_1, rfl, h1⟩ := h
    exact ⟨u1_1, rfl, contR.below h1 hb⟩
  ofO := fun h => by
    obtain ⟨u1_1, F1, rfl, h1, _⟩ := h
    exact ⟨u1_1, rfl, contR.ofO h1⟩
  mod := fun h hm hd => by
    obtain ⟨u1_1, F1, rfl, h1, hF⟩ := h
    exact ⟨u1_1, F1, rfl, contR.mod h1 hm (fun b hb => hd b ((hF b).2 hb)), hF⟩
  rng := fun h b hb => by
    obtain ⟨u1_1, F1, rfl, h1, hF⟩ := h
    rcases (hF b).1 hb with hb
    · exact contR.rng h1 b hb
  base := fun h hb => by
    obtain ⟨u1_1, F1, rfl, h1, hF⟩ := h
    exact ⟨u1_1, F1, rfl, contR.base h1 hb, hF⟩
def wtEvt (x : Evt) : Nat := wtCont x.con
def lvEvt (v : Value) : List Value := match v with | .agg a => one (a.getD 0 (.int .i64 0)) ++ one (a.getD 1 (.int .i64 0)) ++ one (a.getD 2 (.int .i64 0)) ++ one (a.getD 3 (.int .i64 0)) | _ => []
set_option maxHeartbeats 1000000 in
theorem eqEvent_u (x y : Value) (d d' : Evt) (w : World) (hx : evtR.V w x d) (hy : evtR.V w y d') :
    Calls Tryz.prog 11 #[x, y] w fun e w' => e = .returned (.bool (decide (d = d'))) ∧ Below w.heap.size w w' := by
  obtain ⟨u1_1, rfl, h1⟩ := hx
  obtain ⟨v1_1, rfl, k1⟩ := hy
  obtain ⟨vote, con, out⟩ := d
  obtain ⟨vote', con', out'⟩ := d'
  dsimp only at h1 k1
  go_enter Tryz.func11, Tryz.ntmps11
  go_wp2_with fail
  all_goals try (go_ret; exact ⟨by simp_all, by (repeat (first | exact Below.refl _ _ | assumption | refine Below.drew ?_ | refine balloc ?_ _ | refine bset ?_ (by simp; omega) _ | refine bset ?_ (by simp) _ | refine bstep ?_ (by assumption)))⟩)
  refine (eqContract_u _ _ con con' _ (contR.below h1 (by (repeat (first | exact Below.refl _ _ | assumption | refine Below.drew ?_ | refine balloc ?_ _ | refine bset ?_ (by simp; omega) _ | refine bset ?_ (by simp) _ | refine bstep ?_ (by assumption))))) (contR.below k1 (by (repeat (first | exact Below.refl _ _ | assumption | refine Below.drew ?_ | refine balloc ?_ _ | refine bset ?_ (by simp; omega) _ | refine bset ?_ (by simp) _ | refine bstep ?_ (by assumption)))))).mono ?_
  rintro e w1 ⟨rfl, b1⟩
  have x0 : w1.cell? ⟨w.heap.size, 0, none⟩ = some (.bool vote) := cell_keep b1 (by simp [go_sem])
  have x1 : w1.cell? ⟨w.heap.size, 1, none⟩ = some (.int .i64 con.id) := cell_keep b1 (by simp [go_sem])
  have x2 : w1.cell? ⟨w.heap.size, 2, none⟩ = some (u1_1) := cell_keep b1 (by simp [go_sem])
  have x3 : w1.cell? ⟨w.heap.size, 3, none⟩ = some (.int .i64 out) := cell_keep b1 (by simp [go_sem])
  have y0 : w1.cell? ⟨w.heap.size + 1, 0, none⟩ = some (.bool vote') := cell_keep b1 (by simp [go_sem])
  have y1 : w1.cell? ⟨w.heap.size + 1, 1, none⟩ = some (.int .i64 con'.id) := cell_keep b1 (by simp [go_sem])
  have y2 : w1.cell? ⟨w.heap.size + 1, 2, none⟩ = some (v1_1) := cell_keep b1 (by simp [go_sem])
  have y3 : w1.cell? ⟨w.heap.size + 1, 3, none⟩ = some (.int .i64 out') := cell_keep b1 (by simp [go_sem])
  go_wp2
  all_goals
    go_ret
    exact ⟨by simp_all, by (repeat (first | exact Below.refl _ _ | assumption | refine Below.drew ?_ | refine balloc ?_ _ | refine bset ?_ (by simp; omega) _ | refine bset ?_ (by simp) _ | refine bstep ?_ (by assumption)))⟩
end Go.Proofs.YtecfelacdapdgaaGreat

/-
  Event, field by field. (Written by program: nest.py.)
-/
namespace Go.Proofs.YtecfelacdapdgaaGreat
open Go.RowKit
set_option linter.unusedSectionVars false
variable [DecidableEq Leg] [Inhabited Leg] [DecidableEq Cont] [Inhabited Cont] [DecidableEq Evt] [Inhabited Evt]
attribute [local go_sem ↓] Go.wp_at_zero Go.wp_at_succ

def evtfR : Rep Evt where
  V := fun w v x => ∃ u1, v = .agg #[.bool x.vote, .int .i64 x.con.id, u1, .int .i64 x.out] ∧ legsR.V w u1 x.con.legs
  O := fun w base F v x => ∃ u1 F1, v = .agg #[.bool x.vote, .int .i64 x.con.id, u1, .int .i64 x.out] ∧ legsR.O w base F1 u1 x.con.legs ∧ (∀ b, F b ↔ (F1 b))
  below := fun h hb => by
    obtain ⟨u1, rfl, h1⟩ := h
    exact ⟨u1, rfl, legsR.below h1 hb⟩
  ofO := fun h => by
    obtain ⟨u1, F1, rfl, h1, _⟩ := h
    exact ⟨u1, rfl, legsR.ofO h1⟩
  mod := fun h hm hd => by
    obtain ⟨u1, F1, rfl, h1, hF⟩ := h
    exact ⟨u1, F1, rfl, legsR.mod h1 hm (fun b hb => hd b ((hF b).2 hb)), hF⟩
  rng := fun h b hb => by
    obtain ⟨u1, F1, rfl, h1, hF⟩ := h
    exact legsR.rng h1 b ((hF b).1 hb)
  base := fun h hb => by
    obtain ⟨u1, F1, rfl, h1, hF⟩ := h
    exact ⟨u1, F1, rfl, legsR.base h1 hb, hF⟩
theorem evtf_V {w : World} {v : Value} {x : Evt} : evtfR.V w v x ↔ evtR.V w v x := by
  constructor
  · rintro ⟨u1, rfl, h1⟩
    exact ⟨u1, rfl, ⟨u1, rfl, h1⟩⟩
  · rintro ⟨u1, rfl, ⟨u2, he, h1⟩⟩
    simp only [Value.agg.injEq, Array.mk.injEq, List.cons.injEq, and_true, true_and] at he
    subst he
    exact ⟨_, rfl, h1⟩
theorem evtf_O {w : World} {base : Nat} {F : Nat → Prop} {v : Value} {x : Evt} : evtfR.O w base F v x ↔ evtR.O w base F v x := by
  constructor
  · rintro ⟨u1, F1, rfl, h1, hF⟩
    exact ⟨u1, F, rfl, ⟨u1, F1, rfl, h1, hF⟩, fun _ => Iff.rfl⟩
  · rintro ⟨u1, F1, rfl, ⟨u2, F2, he, h1, h2⟩, hF⟩
    simp only [Value.agg.injEq, Array.mk.injEq, List.cons.injEq, and_true, true_and] at he
    subst he
    exact ⟨_, F2, rfl, h1, fun b => (hF b).trans (h2 b)⟩
def cntElEvtF (x : Evt) : Nat := 1 + 1 + cntLegs x.con.legs + 1
def mkElEvtF (k : Int) (x : Evt) : Evt := { vote := (k) % 3 == 0, con := { id := k + 1, legs := mkLegs (k + 1 + 1) x.con.legs }, out := k + 1 + 1 + cntLegs x.con.legs }
theorem evtf_cntEl (d : Evt) : cntElEvtF d ≤ 7 * (1 + wtEvt d) := by
  unfold cntElEvtF
  have q := legs_cnt d.con.legs
  show _ ≤ 7 * (1 + wtLegs d.con.legs)
  omega
theorem eqEventF_u (x y : Value) (d d' : Evt) (w : World) (hx : evtfR.V w x d) (hy : evtfR.V w y d') :
    Calls Tryz.prog 11 #[x, y] w fun e w' => e = .returned (.bool (decide (d = d'))) ∧ Below w.heap.size w w' := eqEvent_u x y d d' w (evtf_V.1 hx) (evtf_V.1 hy)
end Go.Proofs.YtecfelacdapdgaaGreat

/-
  Rows of EventF. (Written by program: nest.py.)
-/
namespace Go.Proofs.YtecfelacdapdgaaGreat
open Go.RowKit
set_option linter.unusedSectionVars false
variable [DecidableEq Leg] [Inhabited Leg] [DecidableEq Cont] [Inhabited Cont] [DecidableEq Evt] [Inhabited Evt]
attribute [local go_sem ↓] Go.wp_at_zero Go.wp_at_succ

def evtsR : Rep (List Evt) := nRep evtfR 33 4 lvEvt
def wtEvts (xs : List Evt) : Nat := wtL wtEvt xs
def cntEvts (xs : List Evt) : Nat := cntL cntElEvtF xs
def mkEvts (k : Int) (xs : List Evt) : List Evt := mkL mkElEvtF cntElEvtF k xs
theorem evts_form {w : World} {v : Value} {xs : List Evt} (h : evtsR.V w v xs) : ∃ a c, v = .slice a xs.length c := by
  obtain ⟨a, c, rfl, _⟩ := h
  exact ⟨_, _, rfl⟩
theorem evts_cnt (d : List Evt) : cntEvts d ≤ 7 * wtEvts d := cntL_le (fun x => evtf_cntEl x) d
theorem infoEvts : (Tryz.prog.info? 33).map (fun i => (i.zero, i.size, i.bytes)) = some (some (.agg #[.bool false, .int .i64 0, .slice none 0 0, .int .i64 0]), 4, 48) := by kernel_rfl
theorem keepEvts {w w' : World} {a0 a1 a2 a3 a4 a5 a6 a7 : Addr} {x0 x1 x2 x3 x4 x5 x6 x7 : Value} (hb : Below w.heap.size w w') (g0 : w.cell? a0 = some x0) (g1 : w.cell? a1 = some x1) (g2 : w.cell? a2 = some x2) (g3 : w.cell? a3 = some x3) (g4 : w.cell? a4 = some x4) (g5 : w.cell? a5 = some x5) (g6 : w.cell? a6 = some x6) (g7 : w.cell? a7 = some x7) : Below w.heap.size w w' ∧ w'.cell? a0 = some x0 ∧ w'.cell? a1 = some x1 ∧ w'.cell? a2 = some x2 ∧ w'.cell? a3 = some x3 ∧ w'.cell? a4 = some x4 ∧ w'.cell? a5 = some x5 ∧ w'.cell? a6 = some x6 ∧ w'.cell? a7 = some x7 :=
  ⟨hb, cell_keep hb g0, cell_keep hb g1, cell_keep hb g2, cell_keep hb g3, cell_keep hb g4, cell_keep hb g5, cell_keep hb g6, cell_keep hb g7⟩
set_option maxHeartbeats 1000000 in
theorem eqEventS_u (x y : Value) (xs ys : List Evt) (w : World) (hx : evtsR.V w x xs) (hy : evtsR.V w y ys) :
    Calls Tryz.prog 56 #[x, y] w fun e w' => e = .returned (.bool (decide (xs = ys))) ∧ Below w.heap.size w w' := by
  obtain ⟨ax, cx, rfl, hcx, hmx, hx⟩ := hx
  obtain ⟨ay, cy, rfl, hcy, hmy, hy⟩ := hy
  unfold maxLen at hmx hmy
  by_cases hl : ys.length = xs.length
  · rw [hl] at hcy hy ⊢
    have HL : Hid (ys.length = xs.length) := hl
    clear hl
    generalize hn : xs.length = n at *
    have HN : Hid (xs.length = n) := hn
    clear hn
    go_enter Tryz.func56, Tryz.ntmps56
    go_wp2
    go_loopw [5] (fun i w' => ∃ k : Nat, k ≤ n ∧ i = .int .i64 k ∧ (∀ j, j < k → xs.getD j default = ys.getD j default) ∧ Below w.heap.size w w') (fun i _ => n - (intOf i).toNat)
    case atStart => exact ⟨0, Nat.zero_le _, rfl, fun j h => absurd h (Nat.not_lt_zero _), Below.refl _ _⟩
    case round =>
      obtain ⟨k, hk, rfl, hpre, hbl⟩ := hrel
      have HP : Hid (∀ j, j < k → xs.getD j default = ys.getD j default) := hpre
      clear hpre
      by_cases hlt : k < n
      · obtain ⟨bx, ox, ux, rfl, _, p1, hvx⟩ := hx k hlt
        obtain ⟨b2, oy, uy, rfl, _, p2, hvy⟩ := hy k hlt
        obtain ⟨l1, hl1⟩ : ∃ l, l = xs.getD k default := ⟨_, rfl⟩
        obtain ⟨l2, hl2⟩ : ∃ l, l = ys.getD k default := ⟨_, rfl⟩
        rw [← hl1] at hvx
        rw [← hl2] at hvy
        have H1 : Hid (l1 = xs.getD k default) := hl1
        have H2 : Hid (l2 = ys.getD k default) := hl2
        have hvx' := hvx
        obtain ⟨ux1, rfl, _⟩ := hvx'
        have hvy' := hvy
        obtain ⟨uy1, rfl, _⟩ := hvy'
        have g0 : w.cell? ⟨bx, ox + k * 4, none⟩ = some (.bool l1.vote) := p1 0 (by omega)
        have g1 : w.cell? ⟨bx, ox + k * 4 + 1, none⟩ = some (.int .i64 l1.con.id) := p1 1 (by omega)
        have g2 : w.cell? ⟨bx, ox + k * 4 + 2, none⟩ = some (ux1) := p1 2 (by omega)
        have g3 : w.cell? ⟨bx, ox + k * 4 + 3, none⟩ = some (.int .i64 l1.out) := p1 3 (by omega)
        have g4 : w.cell? ⟨b2, oy + k * 4, none⟩ = some (.bool l2.vote) := p2 0 (by omega)
        have g5 : w.cell? ⟨b2, oy + k * 4 + 1, none⟩ = some (.int .i64 l2.con.id) := p2 1 (by omega)
        have g6 : w.cell? ⟨b2, oy + k * 4 + 2, none⟩ = some (uy1) := p2 2 (by omega)
        have g7 : w.cell? ⟨b2, oy + k * 4 + 3, none⟩ = some (.int .i64 l2.out) := p2 3 (by omega)
        clear hl1 hl2 hx hy p1 p2
        go_wp2
        go_region_held3 (fun w' => Below w.heap.size w w' ∧ w'.cell? ⟨bx, ox + k * 4, none⟩ = some (.bool l1.vote) ∧ w'.cell? ⟨bx, ox + k * 4 + 1, none⟩ = some (.int .i64 l1.con.id) ∧ w'.cell? ⟨bx, ox + k * 4 + 2, none⟩ = some (ux1) ∧ w'.cell? ⟨bx, ox + k * 4 + 3, none⟩ = some (.int .i64 l1.out) ∧ w'.cell? ⟨b2, oy + k * 4, none⟩ = some (.bool l2.vote) ∧ w'.cell? ⟨b2, oy + k * 4 + 1, none⟩ = some (.int .i64 l2.con.id) ∧ w'.cell? ⟨b2, oy + k * 4 + 2, none⟩ = some (uy1) ∧ w'.cell? ⟨b2, oy + k * 4 + 3, none⟩ = some (.int .i64 l2.out)) ((refine keepEvts ?_ g0 g1 g2 g3 g4 g5 g6 g7; (repeat (first | exact Below.refl _ _ | assumption | refine Below.drew ?_ | refine balloc ?_ _ | refine bstep ?_ (by assumption))))) (first | (go_at_call 11; refine (eqEventF_u (.agg #[.bool l1.vote, .int .i64 l1.con.id, ux1, .int .i64 l1.out]) (.agg #[.bool l2.vote, .int .i64 l2.con.id, uy1, .int .i64 l2.out]) l1 l2 _ (evtfR.below hvx (by (repeat (first | exact Below.refl _ _ | assumption | refine Below.drew ?_ | refine balloc ?_ _ | refine bstep ?_ (by assumption))))) (evtfR.below hvy (by (repeat (first | exact Below.refl _ _ | assumption | refine Below.drew ?_ | refine balloc ?_ _ | refine bstep ?_ (by assumption)))))).mono ?_; rintro e w' ⟨rfl, hb1⟩))
        rename_i hH
        have hB := hH.1
        clear hH
        go_wp2
        · rename_i hle
          go_ret
          refine ⟨?_, hB⟩
          have : ¬ xs = ys := fun h => by
            have : l1 = l2 := by rw [H1.out, H2.out, h]
            simp [this] at hle
          simp [this]
        · rename_i hle
          refine ⟨⟨k + 1, by omega, by go_num, fun j hj => ?_, hB⟩, by simp [intOf]; omega⟩
          by_cases hjk : j < k
          · exact HP.out j hjk
          · have : j = k := by omega
            subst this
            rw [← H1.out, ← H2.out]
            simpa using hle
      · go_wp2
        go_ret
        have : k = n := by omega
        subst this
        refine ⟨?_, hbl⟩
        have : xs = ys := rows_eq_of (by rw [HL.out, HN.out]) (by rw [HN.out]; exact HP.out)
        simp [this]
  · go_enter Tryz.func56, Tryz.ntmps56
    have hl' : ((xs.length : Int) == (ys.length : Int)) = false := by simp; omega
    go_wp2
    go_ret
    have : ¬ xs = ys := fun h => hl (by rw [h])
    exact ⟨by simp [this], Below.refl _ _⟩
set_option maxHeartbeats 1000000 in
theorem heldEventS_u (v : Value) (xs : List Evt) (k : Int) (w : World) (hv : evtsR.V w v (mkEvts k xs)) (hw : wtEvts xs ≤ 1048576) (hn : k + cntEvts xs ≤ 1073741824) (hk0 : 0 ≤ k) :
    Calls Tryz.prog 62 #[v, .int .i64 k] w fun r w' => r = .returned (.int .i64 (k + cntEvts xs)) ∧ Below w.heap.size w w' := by
  obtain ⟨a, cap, rfl, hnc, hcm, hc⟩ := hv
  unfold mkEvts at hnc hc ⊢
  rw [length_mkL] at hnc hc ⊢
  unfold maxLen at hcm
  have hW : ∀ k, k < xs.length → wtEvt (xs.getD k default) ≤ 1048576 := fun k hk => (wt_at hw hk).1
  unfold cntEvts cntL at hn ⊢
  have HT : Hid (∀ j, j < xs.length → (mkL mkElEvtF cntElEvtF k xs).getD j default = mkElEvtF (k + cntTo cntElEvtF j xs) (xs.getD j default) ∧ cntTo cntElEvtF (j + 1) xs = cntTo cntElEvtF j xs + cntElEvtF (xs.getD j default) ∧ cntTo cntElEvtF (j + 1) xs ≤ cntTo cntElEvtF xs.length xs) :=
    fun j hj => ⟨getD_mkL _ _ _ _ _ hj, cntTo_succ _ j xs hj, cntTo_le _ _ _ _ hj⟩
  clear hw
  generalize xs.length = n at *
  go_enter Tryz.func62, Tryz.ntmps62
  go_wp2
  go_loopw [1, 5] (fun q i w' => ∃ j : Nat, j ≤ n ∧ i = .int .i64 j ∧ q = .int .i64 (k + cntTo cntElEvtF j xs) ∧ Below w.heap.size w w') (fun _ i _ => n - (intOf i).toNat)
  case atStart => exact ⟨0, Nat.zero_le _, rfl, by simp [cntTo], Below.refl _ _⟩
  case round =>
    obtain ⟨j, hj, rfl, rfl, hbl⟩ := hrel
    by_cases hlt : j < n
    · obtain ⟨bx, ox, ux, rfl, _, p1, hvx⟩ := hc j hlt
      obtain ⟨t1, t2, t3⟩ := HT.out j hlt
      have hw1 := hW j hlt
      rw [t1] at hvx
      generalize xs.getD j default = l at *
      have tC : cntElEvtF l = 1 + 1 + cntLegs l.con.legs + 1 := rfl
      rw [tC] at t2
      have tW : wtEvt l = wtLegs l.con.legs := rfl
      rw [tW] at hw1
      clear tC tW
      obtain ⟨q, hq⟩ : ∃ q, q = k + cntTo cntElEvtF j xs := ⟨_, rfl⟩
      have hq0 : 0 ≤ q := by omega
      rw [← hq] at hvx ⊢
      have T2 : Hid (k + cntTo cntElEvtF (j + 1) xs = q + 1 + 1 + cntLegs l.con.legs + 1) := by show _ = _; omega
      have hq1 : q + 1 + 1 + cntLegs l.con.legs + 1 ≤ 1073741824 := by omega
      obtain ⟨ux1, rfl, hv1⟩ := hvx
      dsimp only [mkElEvtF] at hv1
      have g0 : w.cell? ⟨bx, ox + j * 4, none⟩ = some (.bool ((q) % 3 == 0)) := p1 0 (by omega)
      replace g0 := cell_keep hbl g0
      have g1 : w.cell? ⟨bx, ox + j * 4 + 1, none⟩ = some (.int .i64 (q + 1)) := p1 1 (by omega)
      replace g1 := cell_keep hbl g1
      have g2 : w.cell? ⟨bx, ox + j * 4 + 2, none⟩ = some (ux1) := p1 2 (by omega)
      replace g2 := cell_keep hbl g2
      have g3 : w.cell? ⟨bx, ox + j * 4 + 3, none⟩ = some (.int .i64 (q + 1 + 1 + cntLegs l.con.legs)) := p1 3 (by omega)
      replace g3 := cell_keep hbl g3
      clear hc p1 t1 t2 t3 hW hq
      go_wp2_with fail
      refine (heldLegS_u ux1 l.con.legs (q + 1 + 1) _ (legsR.below hv1 (by (repeat (first | exact Below.refl _ _ | assumption | refine Below.drew ?_ | refine balloc ?_ _ | refine bstep ?_ (by assumption))))) (by omega) (by omega) (by omega)).mono ?_
      rintro e wb1 ⟨rfl, b1⟩
      replace g3 := cell_keep b1 g3
      go_wp2
      refine ⟨⟨j + 1, by omega, by go_num, ?_, by (repeat (first | exact Below.refl _ _ | assumption | refine Below.drew ?_ | refine balloc ?_ _ | refine bstep ?_ (by assumption)))⟩, by simp [intOf]; omega⟩
      rw [T2.out]
    · go_wp2
      go_ret
      have hjn : j = n := by omega
      subst hjn
      exact ⟨rfl, hbl⟩
set_option maxHeartbeats 1000000 in
theorem markEventS_u (v : Value) (xs : List Evt) (base : Nat) (F : Nat → Prop) (k : Int) (w : World) (ho : evtsR.O w base F v xs) (hw : wtEvts xs ≤ 1048576) (hn : k + cntEvts xs ≤ 1073741824) (hk0 : 0 ≤ k) :
    Calls Tryz.prog 61 #[v, .int .i64 k] w fun r w' => r = .returned (.int .i64 (k + cntEvts xs)) ∧ evtsR.O w' base F v (mkEvts k xs) ∧ Mod F w w' := by
  obtain ⟨cs, us, fs, hp, hF⟩ := ho
  have hW : ∀ k, k < xs.length → wtEvt (xs.getD k default) ≤ 1048576 := fun k hk => (wt_at hw hk).1
  unfold cntEvts cntL at hn ⊢
  have HT : Hid (∀ j, j < xs.length → (mkL mkElEvtF cntElEvtF k xs).getD j default = mkElEvtF (k + cntTo cntElEvtF j xs) (xs.getD j default) ∧ cntTo cntElEvtF (j + 1) xs = cntTo cntElEvtF j xs + cntElEvtF (xs.getD j default) ∧ cntTo cntElEvtF (j + 1) xs ≤ cntTo cntElEvtF xs.length xs) :=
    fun j hj => ⟨getD_mkL _ _ _ _ _ hj, cntTo_succ _ j xs hj, cntTo_le _ _ _ _ hj⟩
  clear hw
  have hcap := hp.len
  obtain ⟨av, cv, hav⟩ := owns_form hp.row
  subst hav
  have HF : Hid (∀ b, F b ↔ ((Value.slice av xs.length cv).ownBlock = some b ∨ ∃ i, i < xs.length ∧ fs i b)) := hF
  have HM : Hid ((mkL mkElEvtF cntElEvtF k xs).length = xs.length) := length_mkL _ _ _ _
  clear hF
  generalize hxl : xs.length = n at *
  clear hxl
  go_enter Tryz.func61, Tryz.ntmps61
  go_wp2
  go_loopw [1, 5] (fun q i w' => ∃ (j : Nat) (cs : List Value) (us : Nat → Value), j ≤ n ∧ i = .int .i64 j ∧ q = .int .i64 (k + cntTo cntElEvtF j xs) ∧ PO evtfR 33 4 lvEvt w' base (.slice av n cv) n n (fun i => if i < j then (mkL mkElEvtF cntElEvtF k xs).getD i default else xs.getD i default) cs us fs ∧ Mod F w w') (fun _ i _ => n - (intOf i).toNat)
  case atStart => exact ⟨0, cs, us, Nat.zero_le _, rfl, by simp [cntTo], hp.cast (fun i hi => by simp), Mod.refl _ _⟩
  case round =>
    clear hp
    obtain ⟨j, cs, us, hj, rfl, rfl, hp1, hm⟩ := hrel
    by_cases hlt : j < n
    · have he := hp1.el j hlt
      simp only [Nat.lt_irrefl, if_false] at he
      obtain ⟨g, rfl, hcl⟩ := hp1.at hlt hlt
      obtain ⟨t1, t2, t3⟩ := HT.out j hlt
      have hw1 := hW j hlt
      obtain ⟨l, hl⟩ : ∃ l, l = xs.getD j default := ⟨_, rfl⟩
      rw [← hl] at t1 t2 hw1 he
      have tC : cntElEvtF l = 1 + 1 + cntLegs l.con.legs + 1 := rfl
      rw [tC] at t2
      have tW : wtEvt l = wtLegs l.con.legs := rfl
      rw [tW] at hw1
      clear tC tW
      obtain ⟨q, hq⟩ : ∃ q, q = k + cntTo cntElEvtF j xs := ⟨_, rfl⟩
      have hq0 : 0 ≤ q := by omega
      rw [← hq] at t1 ⊢
      have T1 : Hid ((mkL mkElEvtF cntElEvtF k xs).getD j default = mkElEvtF q l) := t1
      have T2 : Hid (k + cntTo cntElEvtF (j + 1) xs = q + 1 + 1 + cntLegs l.con.legs + 1) := by show _ = _; omega
      have hq1 : q + 1 + 1 + cntLegs l.con.legs + 1 ≤ 1073741824 := by omega
      obtain ⟨ux1, F1, hu, h1, hF⟩ := he
      rw [hu] at hcl
      have g0 : wr.cell? ⟨g, j * 4, none⟩ = some (.bool l.vote) := hcl 0 (by omega)
      have g1 : wr.cell? ⟨g, j * 4 + 1, none⟩ = some (.int .i64 l.con.id) := hcl 1 (by omega)
      have g2 : wr.cell? ⟨g, j * 4 + 2, none⟩ = some (ux1) := hcl 2 (by omega)
      have g3 : wr.cell? ⟨g, j * 4 + 3, none⟩ = some (.int .i64 l.out) := hcl 3 (by omega)
      have hrow := hp1.row
      have hclen := hrow.1
      have hf := fun j => hrow.frozenAt j
      clear hl t1 t2 t3 hW hq hcl
      go_wp2_with fail
      have st1 := hrow.stored (j * 4) (.bool ((q) % 3 == 0))
      replace h1 := legsR.mod h1 (Mod.of_grown st1.2) (fun b hb he => hp1.out j hlt b ((hF b).2 hb) he)
      have M1 := (Mod.of_grown st1.2).mono (G := fun b => (Value.slice (some ⟨g, 0, none⟩) n cv).ownBlock = some b ∨ fs j b) (fun b hb => .inl hb)
      have st2 := st1.1.stored (j * 4 + 1) (.int .i64 (q + 1))
      replace h1 := legsR.mod h1 (Mod.of_grown st2.2) (fun b hb he => hp1.out j hlt b ((hF b).2 hb) he)
      have M2 := (Mod.of_grown st2.2).mono (G := fun b => (Value.slice (some ⟨g, 0, none⟩) n cv).ownBlock = some b ∨ fs j b) (fun b hb => .inl hb)
      refine (markLegS_u ux1 l.con.legs base F1 (q + 1 + 1) _ h1 (by omega) (by omega) (by omega)).mono ?_
      rintro e wb1 ⟨rfl, r1, m1⟩
      have rw1 := m1.owns st2.1 (fun b he hb => hp1.out j hlt b ((hF b).2 hb) he)
      have M3 := m1.mono (G := fun b => (Value.slice (some ⟨g, 0, none⟩) n cv).ownBlock = some b ∨ fs j b) (fun b hb => .inr ((hF b).2 hb))
      replace g3 : wb1.cell? ⟨g, j * 4 + 3, none⟩ = some (.int .i64 l.out) := m1.cell (by first | exact g3 | simp [go_sem, g3]) (fun hb => hp1.out j hlt g ((hF g).2 hb) rfl)
      replace hf := fun j => rw1.frozenAt j
      go_wp2
      have st3 := rw1.stored (j * 4 + 3) (.int .i64 (q + 1 + 1 + cntLegs l.con.legs))
      replace r1 := legsR.mod r1 (Mod.of_grown st3.2) (fun b hb he => hp1.out j hlt b ((hF b).2 hb) he)
      have M4 := (Mod.of_grown st3.2).mono (G := fun b => (Value.slice (some ⟨g, 0, none⟩) n cv).ownBlock = some b ∨ fs j b) (fun b hb => .inl hb)
      have hq := hp1.turn (u := (.agg #[.bool ((q) % 3 == 0), .int .i64 (q + 1), ux1, .int .i64 (q + 1 + 1 + cntLegs l.con.legs)])) (x := mkElEvtF q l) hlt (((M1.trans M2).trans M3).trans M4) ⟨ux1, F1, rfl, r1, hF⟩ rfl st3.1 ?_ ?_
      · refine ⟨⟨j + 1, _, _, by omega, by go_num, by rw [T2.out], hq.cast fun i hi => ?_, hm.trans ((((M1.trans M2).trans M3).trans M4).mono fun b hb => (HF.out b).2 ?_)⟩, by simp [intOf]; omega⟩
        · by_cases hij : i = j
          · subst hij
            rw [upd_at, if_pos (by omega)]
            exact T1.out
          · rw [upd_ne _ _ hij]
            by_cases h : i < j
            · rw [if_pos h, if_pos (by omega)]
            · rw [if_neg h, if_neg (by omega)]
        · rcases hb with hb | hb
          · exact .inl hb
          · exact .inr ⟨j, hlt, hb⟩
      · intro i hi hij o ho
        simp only [List.getElem?_set]
        rw [if_neg (by omega)]; rw [if_neg (by omega)]; rw [if_neg (by omega)]
      · intro o ho
        have ho' : o = 0 ∨ o = 1 ∨ o = 2 ∨ o = 3 := by omega
        rcases ho' with rfl | rfl | rfl | rfl
        · rw [show j * 4 + 0 = j * 4 from rfl, List.getElem?_set_ne (by omega), List.getElem?_set_ne (by omega), List.getElem?_set_self (by (try simp only [List.length_set]); omega)]
          rfl
        · rw [List.getElem?_set_ne (by omega), List.getElem?_set_self (by (try simp only [List.length_set]); omega)]
          rfl
        · rw [List.getElem?_set_ne (by omega), List.getElem?_set_ne (by omega), List.getElem?_set_ne (by omega), hp1.cell j hlt 2 (by omega), hu]
          rfl
        · rw [List.getElem?_set_self (by (try simp only [List.length_set]); omega)]
          rfl
    · go_wp2
      go_ret
      have hjn : j = n := by omega
      subst hjn
      refine ⟨rfl, ⟨cs, us, fs, ?_, ?_⟩, hm⟩
      · unfold mkEvts
        rw [HM.out]
        exact hp1.cast (fun i hi => by rw [if_pos hi])
      · unfold mkEvts
        rw [HM.out]
        exact HF.out
end Go.Proofs.YtecfelacdapdgaaGreat

