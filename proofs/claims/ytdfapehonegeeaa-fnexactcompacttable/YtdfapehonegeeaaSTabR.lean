/-
  RowsResult. (Written by program: nest.py.)
-/
import Derived.Test.YtdfapehonegeeaaTabN
import Derived.Test.YtdfapehonegeeaaSep
namespace Go.Proofs.Ytdfapehonegeeaa
open Go.RowKit
set_option linter.unusedSectionVars false
variable [DecidableEq Rw] [Inhabited Rw]
attribute [local go_sem ↓] Go.wp_at_zero Go.wp_at_succ

structure TabR where
  code : Int
  rows : List Rw

variable [DecidableEq TabR] [Inhabited TabR]

def tabRR : Rep TabR where
  V := fun w v x => ∃ u1, v = .agg #[.int .i64 x.code, u1] ∧ rowsR.V w u1 x.rows
  O := fun w base F v x => ∃ u1 F1, v = .agg #[.int .i64 x.code, u1] ∧ rowsR.O w base F1 u1 x.rows ∧ (∀ b, F b ↔ (F1 b))
  below := fun h hb => by
    obtain ⟨u1, rfl, h1⟩ := h
    exact ⟨u1, rfl, rowsR.below h1 hb⟩
  ofO := fun h => by
    obtain ⟨u1, F1, rfl, h1, _⟩ := h
    exact ⟨u1, rfl, rowsR.ofO h1⟩
  mod := fun h hm hd => by
    obtain ⟨u1, F1, rfl, h1, hF⟩ := h
    exact ⟨u1, F1, rfl, rowsR.mod h1 hm (fun b hb => hd b ((hF b).2 hb)), hF⟩
  rng := fun h b hb => by
    obtain ⟨u1, F1, rfl, h1, hF⟩ := h
    rcases (hF b).1 hb with hb
    · exact rowsR.rng h1 b hb
  base := fun h hb => by
    obtain ⟨u1, F1, rfl, h1, hF⟩ := h
    exact ⟨u1, F1, rfl, rowsR.base h1 hb, hF⟩

def wtTabR (x : TabR) : Nat := wtRows x.rows
def cntTabR (x : TabR) : Nat := cntRows x.rows
def mkTabR (k : Int) (x : TabR) : TabR := { x with rows := mkRows k x.rows }
def lvTabR (v : Value) : List Value := match v with | .agg a => one (a.getD 0 (.int .i64 0)) ++ one (a.getD 1 (.int .i64 0)) | _ => []
def cntElTabR (x : TabR) : Nat := 1 + cntRows x.rows
def mkElTabR (k : Int) (x : TabR) : TabR := { code := k, rows := mkRows (k + 1) x.rows }

theorem tabR_form {w : World} {v : Value} {x : TabR} (h : tabRR.V w v x) : ∃ a1 c1, v = .agg #[.int .i64 x.code, .slice a1 x.rows.length c1] := by
  obtain ⟨u1, rfl, h1⟩ := h
  obtain ⟨a1, c1, rfl⟩ := rows_form h1
  exact ⟨_, _, rfl⟩
theorem tabR_cnt (d : TabR) : cntTabR d ≤ 4 * wtTabR d := by
  unfold cntTabR wtTabR
  have q1 := rows_cnt d.rows
  omega
theorem tabR_cntEl (d : TabR) : cntElTabR d ≤ 5 * (1 + wtTabR d) := by
  unfold cntElTabR wtTabR
  have q1 := rows_cnt d.rows
  omega

set_option maxHeartbeats 1000000 in
theorem eqRowsResult_u (x y : Value) (d d' : TabR) (w : World) (hx : tabRR.V w x d) (hy : tabRR.V w y d') :
    Calls Try.prog 22 #[x, y] w fun e w' => e = .returned (.bool (decide (d = d'))) ∧ Below w.heap.size w w' := by
  obtain ⟨u1, rfl, h1⟩ := hx
  obtain ⟨v1, rfl, k1⟩ := hy
  obtain ⟨code, rows⟩ := d
  obtain ⟨code', rows'⟩ := d'
  dsimp only at h1 k1
  go_enter Try.func22, Try.ntmps22
  go_wp2_with fail
  all_goals try (go_ret; exact ⟨by simp_all, by (repeat (first | exact Below.refl _ _ | assumption | refine Below.drew ?_ | refine balloc ?_ _ | refine bset ?_ (by simp; omega) _ | refine bset ?_ (by simp) _ | refine bstep ?_ (by assumption)))⟩)
  refine (eqRowS_u _ _ rows rows' _ (rowsR.below h1 (by (repeat (first | exact Below.refl _ _ | assumption | refine Below.drew ?_ | refine balloc ?_ _ | refine bset ?_ (by simp; omega) _ | refine bset ?_ (by simp) _ | refine bstep ?_ (by assumption))))) (rowsR.below k1 (by (repeat (first | exact Below.refl _ _ | assumption | refine Below.drew ?_ | refine balloc ?_ _ | refine bset ?_ (by simp; omega) _ | refine bset ?_ (by simp) _ | refine bstep ?_ (by assumption)))))).mono ?_
  rintro e w1 ⟨rfl, b1⟩
  go_wp2
  all_goals
    go_ret
    exact ⟨by simp_all, by (repeat (first | exact Below.refl _ _ | assumption | refine Below.drew ?_ | refine balloc ?_ _ | refine bset ?_ (by simp; omega) _ | refine bset ?_ (by simp) _ | refine bstep ?_ (by assumption)))⟩

set_option maxHeartbeats 1000000 in
theorem markRowsResult_u (v : Value) (d : TabR) (base : Nat) (F : Nat → Prop) (k : Int) (w : World) (ho : tabRR.O w base F v d) (hw : wtTabR d ≤ 1048576) (hn : k + cntTabR d ≤ 1073741824) (hk0 : 0 ≤ k) :
    Calls Try.prog 25 #[v, .int .i64 k] w fun r w' => r = .returned (.int .i64 (k + cntTabR d)) ∧ tabRR.O w' base F v (mkTabR k d) ∧ Mod F w w' := by
  obtain ⟨u1, F1, rfl, h1, hF⟩ := ho
  unfold wtTabR at hw
  unfold cntTabR at hn ⊢
  have HF : Hid (∀ b, F b ↔ (F1 b)) := hF
  clear hF
  go_enter Try.func25, Try.ntmps25
  go_wp2_with fail
  refine (markRowS_u _ d.rows base F1 k _ (rowsR.alloc h1 _) (by omega) (by omega) (by omega)).mono ?_
  rintro e w1 ⟨rfl, r1, m1⟩
  go_wp2
  go_ret
  refine ⟨?_, ⟨_, F1, rfl, r1, HF.out⟩, ((Mod.refl F w).alloc _).trans (m1.mono (fun b hb => (HF.out b).2 hb))⟩
  simp
  try omega

set_option maxHeartbeats 1000000 in
theorem heldRowsResult_u (v : Value) (d : TabR) (k : Int) (w : World) (hv : tabRR.V w v (mkTabR k d)) (hw : wtTabR d ≤ 1048576) (hn : k + cntTabR d ≤ 1073741824) (hk0 : 0 ≤ k) :
    Calls Try.prog 26 #[v, .int .i64 k] w fun r w' => r = .returned (.int .i64 (k + cntTabR d)) ∧ Below w.heap.size w w' := by
  obtain ⟨u1, rfl, h1⟩ := hv
  unfold wtTabR at hw
  unfold cntTabR at hn ⊢
  go_enter Try.func26, Try.ntmps26
  go_wp2_with fail
  refine (heldRowS_u _ d.rows k _ (rowsR.below h1 (by (repeat (first | exact Below.refl _ _ | assumption | refine Below.drew ?_ | refine balloc ?_ _ | refine bset ?_ (by simp; omega) _ | refine bset ?_ (by simp) _ | refine bstep ?_ (by assumption))))) (by omega) (by omega) (by omega)).mono ?_
  rintro e w1 ⟨rfl, b1⟩
  go_wp2
  go_ret
  refine ⟨?_, by (repeat (first | exact Below.refl _ _ | assumption | refine Below.drew ?_ | refine balloc ?_ _ | refine bset ?_ (by simp; omega) _ | refine bset ?_ (by simp) _ | refine bstep ?_ (by assumption)))⟩
  simp
  try omega

end Go.Proofs.Ytdfapehonegeeaa
