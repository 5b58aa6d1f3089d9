/-
  LogResult. (Written by program: nest.py.)
-/
import Derived.Test.YtlhikbjohlcdmaaSLogg
import Derived.Test.YtlhikbjohlcdmaaSep
namespace Go.Proofs.Ytlhikbjohlcdmaa
open Go.RowKit
set_option linter.unusedSectionVars false
variable [DecidableEq Logg] [Inhabited Logg]
attribute [local go_sem ↓] Go.wp_at_zero Go.wp_at_succ

structure LoggR where
  code : Int
  log : Logg

variable [DecidableEq LoggR] [Inhabited LoggR]

def loggRR : Rep LoggR where
  V := fun w v x => ∃ u1_1 u1_2, v = .agg #[.int .i64 x.code, u1_1, u1_2] ∧ loggR.V w (.agg #[u1_1, u1_2]) x.log
  O := fun w base F v x => ∃ u1_1 u1_2 F1, v = .agg #[.int .i64 x.code, u1_1, u1_2] ∧ loggR.O w base F1 (.agg #[u1_1, u1_2]) x.log ∧ (∀ b, F b ↔ (F1 b))
  below := fun h hb => by
    obtain ⟨u1_1, u1_2, rfl, h1⟩ := h
    exact ⟨u1_1, u1_2, rfl, loggR.below h1 hb⟩
  ofO := fun h => by
    obtain ⟨u1_1, u1_2, F1, rfl, h1, _⟩ := h
    exact ⟨u1_1, u1_2, rfl, loggR.ofO h1⟩
  mod := fun h hm hd => by
    obtain ⟨u1_1, u1_2, F1, rfl, h1, hF⟩ := h
    exact ⟨u1_1, u1_2, F1, rfl, loggR.mod h1 hm (fun b hb => hd b ((hF b).2 hb)), hF⟩
  rng := fun h b hb => by
    obtain ⟨u1_1, u1_2, F1, rfl, h1, hF⟩ := h
    rcases (hF b).1 hb with hb
    · exact loggR.rng h1 b hb
  base := fun h hb => by
    obtain ⟨u1_1, u1_2, F1, rfl, h1, hF⟩ := h
    exact ⟨u1_1, u1_2, F1, rfl, loggR.base h1 hb, hF⟩

def wtLoggR (x : LoggR) : Nat := wtLogg x.log
def cntLoggR (x : LoggR) : Nat := cntLogg x.log
def mkLoggR (k : Int) (x : LoggR) : LoggR := { x with log := mkLogg k x.log }
def lvLoggR (v : Value) : List Value := match v with | .agg a => one (a.getD 0 (.int .i64 0)) ++ one (a.getD 1 (.int .i64 0)) ++ one (a.getD 2 (.int .i64 0)) | _ => []
def cntElLoggR (x : LoggR) : Nat := 1 + cntElLogg x.log
def mkElLoggR (k : Int) (x : LoggR) : LoggR := { code := k, log := mkElLogg (k + 1) x.log }

theorem loggR_form {w : World} {v : Value} {x : LoggR} (h : loggRR.V w v x) : ∃ a1_1 a1_2 c1_1 c1_2, v = .agg #[.int .i64 x.code, .slice a1_1 x.log.synced.length c1_1, .slice a1_2 x.log.loose.length c1_2] := by
  obtain ⟨u1_1, u1_2, rfl, h1⟩ := h
  obtain ⟨a1_1, a1_2, c1_1, c1_2, e1⟩ := logg_form h1
  simp only [Value.agg.injEq, Array.mk.injEq, List.cons.injEq, and_true] at e1
  obtain ⟨rfl, rfl⟩ := e1
  exact ⟨_, _, _, _, rfl⟩
theorem loggR_cnt (d : LoggR) : cntLoggR d ≤ 1 * wtLoggR d := by
  unfold cntLoggR wtLoggR
  have q1 := logg_cnt d.log
  omega
theorem loggR_cntEl (d : LoggR) : cntElLoggR d ≤ 2 * (1 + wtLoggR d) := by
  unfold cntElLoggR wtLoggR
  have q1 := logg_cntEl d.log
  omega

set_option maxHeartbeats 1000000 in
theorem eqLogResult_u (x y : Value) (d d' : LoggR) (w : World) (hx : loggRR.V w x d) (hy : loggRR.V w y d') :
    Calls Try.prog 17 #[x, y] w fun e w' => e = .returned (.bool (decide (d = d'))) ∧ Below w.heap.size w w' := by
  obtain ⟨u1_1, u1_2, rfl, h1⟩ := hx
  obtain ⟨v1_1, v1_2, rfl, k1⟩ := hy
  obtain ⟨code, log⟩ := d
  obtain ⟨code', log'⟩ := d'
  dsimp only at h1 k1
  go_enter Try.func17, Try.ntmps17
  go_wp2_with fail
  all_goals try (go_ret; exact ⟨by simp_all, by (repeat (first | exact Below.refl _ _ | assumption | refine Below.drew ?_ | refine balloc ?_ _ | refine bset ?_ (by simp; omega) _ | refine bset ?_ (by simp) _ | refine bstep ?_ (by assumption)))⟩)
  refine (eqLog_u _ _ log log' _ (loggR.below h1 (by (repeat (first | exact Below.refl _ _ | assumption | refine Below.drew ?_ | refine balloc ?_ _ | refine bset ?_ (by simp; omega) _ | refine bset ?_ (by simp) _ | refine bstep ?_ (by assumption))))) (loggR.below k1 (by (repeat (first | exact Below.refl _ _ | assumption | refine Below.drew ?_ | refine balloc ?_ _ | refine bset ?_ (by simp; omega) _ | refine bset ?_ (by simp) _ | refine bstep ?_ (by assumption)))))).mono ?_
  rintro e w1 ⟨rfl, b1⟩
  go_wp2
  all_goals
    go_ret
    exact ⟨by simp_all, by (repeat (first | exact Below.refl _ _ | assumption | refine Below.drew ?_ | refine balloc ?_ _ | refine bset ?_ (by simp; omega) _ | refine bset ?_ (by simp) _ | refine bstep ?_ (by assumption)))⟩

set_option maxHeartbeats 1000000 in
theorem markLogResult_u (v : Value) (d : LoggR) (base : Nat) (F : Nat → Prop) (k : Int) (w : World) (ho : loggRR.O w base F v d) (hw : wtLoggR d ≤ 1048576) (hn : k + cntLoggR d ≤ 1073741824) (hk0 : 0 ≤ k) :
    Calls Try.prog 21 #[v, .int .i64 k] w fun r w' => r = .returned (.int .i64 (k + cntLoggR d)) ∧ loggRR.O w' base F v (mkLoggR k d) ∧ Mod F w w' := by
  obtain ⟨u1_1, u1_2, F1, rfl, h1, hF⟩ := ho
  unfold wtLoggR at hw
  unfold cntLoggR at hn ⊢
  have HF : Hid (∀ b, F b ↔ (F1 b)) := hF
  clear hF
  go_enter Try.func21, Try.ntmps21
  go_wp2_with fail
  refine (markLog_u _ d.log base F1 k _ (loggR.alloc h1 _) (by omega) (by omega) (by omega)).mono ?_
  rintro e w1 ⟨rfl, r1, m1⟩
  go_wp2
  go_ret
  refine ⟨?_, ⟨_, _, F1, rfl, r1, HF.out⟩, ((Mod.refl F w).alloc _).trans (m1.mono (fun b hb => (HF.out b).2 hb))⟩
  simp
  try omega

set_option maxHeartbeats 1000000 in
theorem heldLogResult_u (v : Value) (d : LoggR) (k : Int) (w : World) (hv : loggRR.V w v (mkLoggR k d)) (hw : wtLoggR d ≤ 1048576) (hn : k + cntLoggR d ≤ 1073741824) (hk0 : 0 ≤ k) :
    Calls Try.prog 22 #[v, .int .i64 k] w fun r w' => r = .returned (.int .i64 (k + cntLoggR d)) ∧ Below w.heap.size w w' := by
  obtain ⟨u1_1, u1_2, rfl, h1⟩ := hv
  unfold wtLoggR at hw
  unfold cntLoggR at hn ⊢
  go_enter Try.func22, Try.ntmps22
  go_wp2_with fail
  refine (heldLog_u _ d.log k _ (loggR.below h1 (by (repeat (first | exact Below.refl _ _ | assumption | refine Below.drew ?_ | refine balloc ?_ _ | refine bset ?_ (by simp; omega) _ | refine bset ?_ (by simp) _ | refine bstep ?_ (by assumption))))) (by omega) (by omega) (by omega)).mono ?_
  rintro e w1 ⟨rfl, b1⟩
  go_wp2
  go_ret
  refine ⟨?_, by (repeat (first | exact Below.refl _ _ | assumption | refine Below.drew ?_ | refine balloc ?_ _ | refine bset ?_ (by simp; omega) _ | refine bset ?_ (by simp) _ | refine bstep ?_ (by assumption)))⟩
  simp
  try omega

end Go.Proofs.Ytlhikbjohlcdmaa
