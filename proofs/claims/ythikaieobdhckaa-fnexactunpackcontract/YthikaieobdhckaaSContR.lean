/-
  ContractResult. (Written by program: nest.py.)
-/
import Derived.Test.YthikaieobdhckaaSCont
import Derived.Test.YthikaieobdhckaaSep
namespace Go.Proofs.Ythikaieobdhckaa
open Go.RowKit
set_option linter.unusedSectionVars false
variable [DecidableEq Leg] [Inhabited Leg] [DecidableEq Cont] [Inhabited Cont]
attribute [local go_sem ↓] Go.wp_at_zero Go.wp_at_succ

structure ContR where
  code : Int
  contract : Cont

variable [DecidableEq ContR] [Inhabited ContR]

def contRR : Rep ContR where
  V := fun w v x => ∃ u1_1, v = .agg #[.int .i64 x.code, .int .i64 x.contract.id, u1_1] ∧ contR.V w (.agg #[.int .i64 x.contract.id, u1_1]) x.contract
  O := fun w base F v x => ∃ u1_1 F1, v = .agg #[.int .i64 x.code, .int .i64 x.contract.id, u1_1] ∧ contR.O w base F1 (.agg #[.int .i64 x.contract.id, u1_1]) x.contract ∧ (∀ b, F b ↔ (F1 b))
  below := fun h hb => by
    obtain ⟨u1_1, rfl, h1⟩ := h
    exact ⟨u1_1, rfl, contR.below h1 hb⟩
  ofO := fun h => by
    obtain ⟨u1_1, F1, rfl, h1, _⟩ := h
    exact ⟨u1_1, rfl, contR.ofO h1⟩
  mod := fun h hm hd => by
    obtain ⟨u1_1, F1, rfl, h1, hF⟩ := h
    exact ⟨u1_1, F1, rfl, contR.mod h1 hm (fun b hb => hd b ((hF b).2 hb)), hF⟩
  rng := fun h b hb => by
    obtain ⟨u1_1, F1, rfl, h1, hF⟩ := h
    rcases (hF b).1 hb with hb
    · exact contR.rng h1 b hb
  base := fun h hb => by
    obtain ⟨u1_1, F1, rfl, h1, hF⟩ := h
    exact ⟨u1_1, F1, rfl, contR.base h1 hb, hF⟩

def wtContR (x : ContR) : Nat := wtCont x.contract
def cntContR (x : ContR) : Nat := cntCont x.contract
def mkContR (k : Int) (x : ContR) : ContR := { x with contract := mkCont k x.contract }
def lvContR (v : Value) : List Value := match v with | .agg a => one (a.getD 0 (.int .i64 0)) ++ one (a.getD 1 (.int .i64 0)) ++ one (a.getD 2 (.int .i64 0)) | _ => []
def cntElContR (x : ContR) : Nat := 1 + cntElCont x.contract
def mkElContR (k : Int) (x : ContR) : ContR := { code := k, contract := mkElCont (k + 1) x.contract }

theorem contR_form {w : World} {v : Value} {x : ContR} (h : contRR.V w v x) : ∃ a1_1 c1_1, v = .agg #[.int .i64 x.code, .int .i64 x.contract.id, .slice a1_1 x.contract.legs.length c1_1] := by
  obtain ⟨u1_1, rfl, h1⟩ := h
  obtain ⟨a1_1, c1_1, e1⟩ := cont_form h1
  simp only [Value.agg.injEq, Array.mk.injEq, List.cons.injEq, and_true, true_and] at e1
  obtain rfl := e1
  exact ⟨_, _, rfl⟩
theorem contR_cnt (d : ContR) : cntContR d ≤ 4 * wtContR d := by
  unfold cntContR wtContR
  have q1 := cont_cnt d.contract
  omega
theorem contR_cntEl (d : ContR) : cntElContR d ≤ 6 * (1 + wtContR d) := by
  unfold cntElContR wtContR
  have q1 := cont_cntEl d.contract
  omega

set_option maxHeartbeats 1000000 in
theorem eqContractResult_u (x y : Value) (d d' : ContR) (w : World) (hx : contRR.V w x d) (hy : contRR.V w y d') :
    Calls Try.prog 31 #[x, y] w fun e w' => e = .returned (.bool (decide (d = d'))) ∧ Below w.heap.size w w' := by
  obtain ⟨u1_1, rfl, h1⟩ := hx
  obtain ⟨v1_1, rfl, k1⟩ := hy
  obtain ⟨code, contract⟩ := d
  obtain ⟨code', contract'⟩ := d'
  dsimp only at h1 k1
  go_enter Try.func31, Try.ntmps31
  go_wp2_with fail
  all_goals try (go_ret; exact ⟨by simp_all, by (repeat (first | exact Below.refl _ _ | assumption | refine Below.drew ?_ | refine balloc ?_ _ | refine bset ?_ (by simp; omega) _ | refine bset ?_ (by simp) _ | refine bstep ?_ (by assumption)))⟩)
  refine (eqContract_u _ _ contract contract' _ (contR.below h1 (by (repeat (first | exact Below.refl _ _ | assumption | refine Below.drew ?_ | refine balloc ?_ _ | refine bset ?_ (by simp; omega) _ | refine bset ?_ (by simp) _ | refine bstep ?_ (by assumption))))) (contR.below k1 (by (repeat (first | exact Below.refl _ _ | assumption | refine Below.drew ?_ | refine balloc ?_ _ | refine bset ?_ (by simp; omega) _ | refine bset ?_ (by simp) _ | refine bstep ?_ (by assumption)))))).mono ?_
  rintro e w1 ⟨rfl, b1⟩
  go_wp2
  all_goals
    go_ret
    exact ⟨by simp_all, by (repeat (first | exact Below.refl _ _ | assumption | refine Below.drew ?_ | refine balloc ?_ _ | refine bset ?_ (by simp; omega) _ | refine bset ?_ (by simp) _ | refine bstep ?_ (by assumption)))⟩

set_option maxHeartbeats 1000000 in
theorem markContractResult_u (v : Value) (d : ContR) (base : Nat) (F : Nat → Prop) (k : Int) (w : World) (ho : contRR.O w base F v d) (hw : wtContR d ≤ 1048576) (hn : k + cntContR d ≤ 1073741824) (hk0 : 0 ≤ k) :
    Calls Try.prog 32 #[v, .int .i64 k] w fun r w' => r = .returned (.int .i64 (k + cntContR d)) ∧ contRR.O w' base F v (mkContR k d) ∧ Mod F w w' := by
  obtain ⟨u1_1, F1, rfl, h1, hF⟩ := ho
  unfold wtContR at hw
  unfold cntContR at hn ⊢
  have HF : Hid (∀ b, F b ↔ (F1 b)) := hF
  clear hF
  go_enter Try.func32, Try.ntmps32
  go_wp2_with fail
  refine (markContract_u _ d.contract base F1 k _ (contR.alloc h1 _) (by omega) (by omega) (by omega)).mono ?_
  rintro e w1 ⟨rfl, r1, m1⟩
  go_wp2
  go_ret
  refine ⟨?_, ⟨_, F1, rfl, r1, HF.out⟩, ((Mod.refl F w).alloc _).trans (m1.mono (fun b hb => (HF.out b).2 hb))⟩
  simp
  try omega

set_option maxHeartbeats 1000000 in
theorem heldContractResult_u (v : Value) (d : ContR) (k : Int) (w : World) (hv : contRR.V w v (mkContR k d)) (hw : wtContR d ≤ 1048576) (hn : k + cntContR d ≤ 1073741824) (hk0 : 0 ≤ k) :
    Calls Try.prog 33 #[v, .int .i64 k] w fun r w' => r = .returned (.int .i64 (k + cntContR d)) ∧ Below w.heap.size w w' := by
  obtain ⟨u1_1, rfl, h1⟩ := hv
  unfold wtContR at hw
  unfold cntContR at hn ⊢
  go_enter Try.func33, Try.ntmps33
  go_wp2_with fail
  refine (heldContract_u _ d.contract k _ (contR.below h1 (by (repeat (first | exact Below.refl _ _ | assumption | refine Below.drew ?_ | refine balloc ?_ _ | refine bset ?_ (by simp; omega) _ | refine bset ?_ (by simp) _ | refine bstep ?_ (by assumption))))) (by omega) (by omega) (by omega)).mono ?_
  rintro e w1 ⟨rfl, b1⟩
  go_wp2
  go_ret
  refine ⟨?_, by (repeat (first | exact Below.refl _ _ | assumption | refine Below.drew ?_ | refine balloc ?_ _ | refine bset ?_ (by simp; omega) _ | refine bset ?_ (by simp) _ | refine bstep ?_ (by assumption)))⟩
  simp
  try omega

end Go.Proofs.Ythikaieobdhckaa
