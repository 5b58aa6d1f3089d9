/-
  Contract. (Written by program: nest.py.)
-/
import Derived.Test.YteebglgbeijolaaULegs
import Derived.Test.YteebglgbeijolaaSep
namespace Go.Proofs.Yteebglgbeijolaa
open Go.RowKit
set_option linter.unusedSectionVars false
variable [DecidableEq Leg] [Inhabited Leg]
attribute [local go_sem ↓] Go.wp_at_zero Go.wp_at_succ

structure Cont where
  id : Int
  legs : List Leg

variable [DecidableEq Cont] [Inhabited Cont]

def contR : Rep Cont where
  V := fun w v x => ∃ u1, v = .agg #[.int .i64 x.id, u1] ∧ legsR.V w u1 x.legs
  O := fun w base F v x => ∃ u1 F1, v = .agg #[.int .i64 x.id, u1] ∧ legsR.O w base F1 u1 x.legs ∧ (∀ b, F b ↔ (F1 b))
  below := fun h hb => by
    obtain ⟨u1, rfl, h1⟩ := h
    exact ⟨u1, rfl, legsR.below h1 hb⟩
  ofO := fun h => by
    obtain ⟨u1, F1, rfl, h1, _⟩ := h
    exact ⟨u1, rfl, legsR.ofO h1⟩
  mod := fun h hm hd => by
    obtain ⟨u1, F1, rfl, h1, hF⟩ := h
    exact ⟨u1, F1, rfl, legsR.mod h1 hm (fun b hb => hd b ((hF b).2 hb)), hF⟩
  rng := fun h b hb => by
    obtain ⟨u1, F1, rfl, h1, hF⟩ := h
    rcases (hF b).1 hb with hb
    · exact legsR.rng h1 b hb
  base := fun h hb => by
    obtain ⟨u1, F1, rfl, h1, hF⟩ := h
    exact ⟨u1, F1, rfl, legsR.base h1 hb, hF⟩

def wtCont (x : Cont) : Nat := wtLegs x.legs
def cntCont (x : Cont) : Nat := cntLegs x.legs
def mkCont (k : Int) (x : Cont) : Cont := { x with legs := mkLegs k x.legs }
def lvCont (v : Value) : List Value := match v with | .agg a => one (a.getD 0 (.int .i64 0)) ++ one (a.getD 1 (.int .i64 0)) | _ => []
def cntElCont (x : Cont) : Nat := 1 + cntLegs x.legs
def mkElCont (k : Int) (x : Cont) : Cont := { id := k, legs := mkLegs (k + 1) x.legs }

theorem cont_form {w : World} {v : Value} {x : Cont} (h : contR.V w v x) : ∃ a1 c1, v = .agg #[.int .i64 x.id, .slice a1 x.legs.length c1] := by
  obtain ⟨u1, rfl, h1⟩ := h
  obtain ⟨a1, c1, rfl⟩ := legs_form h1
  exact ⟨_, _, rfl⟩
theorem cont_cnt (d : Cont) : cntCont d ≤ 4 * wtCont d := by
  unfold cntCont wtCont
  have q1 := legs_cnt d.legs
  omega
theorem cont_cntEl (d : Cont) : cntElCont d ≤ 5 * (1 + wtCont d) := by
  unfold cntElCont wtCont
  have q1 := legs_cnt d.legs
  omega

set_option maxHeartbeats 1000000 in
theorem toContract_u (x : Value) (d : Cont) (w : World) (hx : contR.V w x d) (hn : wtCont d ≤ 1048576) :
    Calls Try.prog 38 #[x] w fun e w' => ∃ v F, e = .returned v ∧ contR.O w' w.heap.size F v d ∧ Below w.heap.size w w' := by
  obtain ⟨u1, rfl, h1⟩ := hx
  unfold wtCont at hn
  go_enter Try.func38, Try.ntmps38
  go_wp2_with fail
  refine (toLegS_u _ d.legs _ (legsR.below h1 (by (repeat (first | exact Below.refl _ _ | assumption | refine Below.drew ?_ | refine balloc ?_ _ | refine bset ?_ (by simp; omega) _ | refine bset ?_ (by simp) _ | refine bstep ?_ (by assumption))))) (by omega)).mono ?_
  rintro e w1 ⟨v1, F1, rfl, o1, b1⟩
  obtain ⟨a1, n1, rfl⟩ := legs_form (legsR.ofO o1)
  obtain ⟨c1, f1⟩ := bcell b1
  have z1 := b1.size
  simp at z1
  replace o1 := legsR.base (base' := w.heap.size + 3) o1 (by simp; try omega)
  go_wp2
  refine bodyPost_ret (v := .agg #[.int .i64 d.id, .slice a1 d.legs.length n1]) ?_ rfl ⟨_, fun b => F1 b, rfl, ⟨_, F1, rfl, legsR.base (base := w.heap.size + 3) (by (repeat (first | assumption | refine Rep.set _ ?_ _ (by simp; omega) | refine Rep.set _ ?_ _ (by simp) | refine Rep.alloc _ ?_ _ | refine Rep.keep _ ?_ (by assumption)))) (by omega), fun b => Iff.rfl⟩, by (repeat (first | exact Below.refl _ _ | assumption | refine Below.drew ?_ | refine balloc ?_ _ | refine bset ?_ (by simp; omega) _ | refine bset ?_ (by simp) _ | refine bstep ?_ (by assumption)))⟩
  simp [results, Try.results38, go_sem, c1]

set_option maxHeartbeats 1000000 in
theorem szContract_u (x : Value) (d : Cont) (left : Int) (w : World) (hx : contR.V w x d) (h0 : 0 ≤ left) (h1 : left ≤ 1048576) :
    Calls Try.prog 35 #[x, .int .i64 left] w fun e w' => e = .returned (.int .i64 (szLen left (wtCont d))) ∧ Below w.heap.size w w' := by
  obtain ⟨u1, rfl, k1⟩ := hx
  go_enter Try.func35, Try.ntmps35
  go_wp2_with fail
  refine (szLegS_u _ d.legs left _ (legsR.below k1 (by (repeat (first | exact Below.refl _ _ | assumption | refine Below.drew ?_ | refine balloc ?_ _ | refine bset ?_ (by simp; omega) _ | refine bset ?_ (by simp) _ | refine bstep ?_ (by assumption))))) h0 h1).mono ?_
  rintro e w1 ⟨rfl, b1⟩
  go_wp2
  · rename_i h
    go_ret
    refine ⟨?_, by (repeat (first | exact Below.refl _ _ | assumption | refine Below.drew ?_ | refine balloc ?_ _ | refine bset ?_ (by simp; omega) _ | refine bset ?_ (by simp) _ | refine bstep ?_ (by assumption)))⟩
    rw [szLen_neg (n := wtLegs d.legs) (by omega) (wtCont d) (by unfold wtCont; omega)]
    rfl
  rename_i h
  go_ret
  exact ⟨rfl, by (repeat (first | exact Below.refl _ _ | assumption | refine Below.drew ?_ | refine balloc ?_ _ | refine bset ?_ (by simp; omega) _ | refine bset ?_ (by simp) _ | refine bstep ?_ (by assumption)))⟩

set_option maxHeartbeats 1000000 in
theorem eqContract_u (x y : Value) (d d' : Cont) (w : World) (hx : contR.V w x d) (hy : contR.V w y d') :
    Calls Try.prog 42 #[x, y] w fun e w' => e = .returned (.bool (decide (d = d'))) ∧ Below w.heap.size w w' := by
  obtain ⟨u1, rfl, h1⟩ := hx
  obtain ⟨v1, rfl, k1⟩ := hy
  obtain ⟨id, legs⟩ := d
  obtain ⟨id', legs'⟩ := d'
  dsimp only at h1 k1
  go_enter Try.func42, Try.ntmps42
  go_wp2_with fail
  all_goals try (go_ret; exact ⟨by simp_all, by (repeat (first | exact Below.refl _ _ | assumption | refine Below.drew ?_ | refine balloc ?_ _ | refine bset ?_ (by simp; omega) _ | refine bset ?_ (by simp) _ | refine bstep ?_ (by assumption)))⟩)
  refine (eqLegS_u _ _ legs legs' _ (legsR.below h1 (by (repeat (first | exact Below.refl _ _ | assumption | refine Below.drew ?_ | refine balloc ?_ _ | refine bset ?_ (by simp; omega) _ | refine bset ?_ (by simp) _ | refine bstep ?_ (by assumption))))) (legsR.below k1 (by (repeat (first | exact Below.refl _ _ | assumption | refine Below.drew ?_ | refine balloc ?_ _ | refine bset ?_ (by simp; omega) _ | refine bset ?_ (by simp) _ | refine bstep ?_ (by assumption)))))).mono ?_
  rintro e w1 ⟨rfl, b1⟩
  go_wp2
  all_goals
    go_ret
    exact ⟨by simp_all, by (repeat (first | exact Below.refl _ _ | assumption | refine Below.drew ?_ | refine balloc ?_ _ | refine bset ?_ (by simp; omega) _ | refine bset ?_ (by simp) _ | refine bstep ?_ (by assumption)))⟩

set_option maxHeartbeats 1000000 in
theorem markContract_u (v : Value) (d : Cont) (base : Nat) (F : Nat → Prop) (k : Int) (w : World) (ho : contR.O w base F v d) (hw : wtCont d ≤ 1048576) (hn : k + cntCont d ≤ 1073741824) (hk0 : 0 ≤ k) :
    Calls Try.prog 44 #[v, .int .i64 k] w fun r w' => r = .returned (.int .i64 (k + cntCont d)) ∧ contR.O w' base F v (mkCont k d) ∧ Mod F w w' := by
  obtain ⟨u1, F1, rfl, h1, hF⟩ := ho
  unfold wtCont at hw
  unfold cntCont at hn ⊢
  have HF : Hid (∀ b, F b ↔ (F1 b)) := hF
  clear hF
  go_enter Try.func44, Try.ntmps44
  go_wp2_with fail
  refine (markLegS_u _ d.legs base F1 k _ (legsR.alloc h1 _) (by omega) (by omega) (by omega)).mono ?_
  rintro e w1 ⟨rfl, r1, m1⟩
  go_wp2
  go_ret
  refine ⟨?_, ⟨_, F1, rfl, r1, HF.out⟩, ((Mod.refl F w).alloc _).trans (m1.mono (fun b hb => (HF.out b).2 hb))⟩
  simp
  try omega

end Go.Proofs.Yteebglgbeijolaa
