/-
  RecordsResult. (Written by program: nest.py.)
-/
import Derived.Test.YtlhikbjohlcdmaaNBytess
import Derived.Test.YtlhikbjohlcdmaaSep
namespace Go.Proofs.Ytlhikbjohlcdmaa
open Go.RowKit
set_option linter.unusedSectionVars false
attribute [local go_sem ↓] Go.wp_at_zero Go.wp_at_succ

structure RecsR where
  code : Int
  used : Int
  records : List (List Byte)

variable [DecidableEq RecsR] [Inhabited RecsR]

def recsRR : Rep RecsR where
  V := fun w v x => ∃ u1, v = .agg #[.int .i64 x.code, .int .i64 x.used, u1] ∧ bytessR.V w u1 x.records
  O := fun w base F v x => ∃ u1 F1, v = .agg #[.int .i64 x.code, .int .i64 x.used, u1] ∧ bytessR.O w base F1 u1 x.records ∧ (∀ b, F b ↔ (F1 b))
  below := fun h hb => by
    obtain ⟨u1, rfl, h1⟩ := h
    exact ⟨u1, rfl, bytessR.below h1 hb⟩
  ofO := fun h => by
    obtain ⟨u1, F1, rfl, h1, _⟩ := h
    exact ⟨u1, rfl, bytessR.ofO h1⟩
  mod := fun h hm hd => by
    obtain ⟨u1, F1, rfl, h1, hF⟩ := h
    exact ⟨u1, F1, rfl, bytessR.mod h1 hm (fun b hb => hd b ((hF b).2 hb)), hF⟩
  rng := fun h b hb => by
    obtain ⟨u1, F1, rfl, h1, hF⟩ := h
    rcases (hF b).1 hb with hb
    · exact bytessR.rng h1 b hb
  base := fun h hb => by
    obtain ⟨u1, F1, rfl, h1, hF⟩ := h
    exact ⟨u1, F1, rfl, bytessR.base h1 hb, hF⟩

def wtRecsR (x : RecsR) : Nat := wtBytess x.records
def cntRecsR (x : RecsR) : Nat := cntBytess x.records
def mkRecsR (k : Int) (x : RecsR) : RecsR := { x with records := mkBytess k x.records }
def lvRecsR (v : Value) : List Value := match v with | .agg a => one (a.getD 0 (.int .i64 0)) ++ one (a.getD 1 (.int .i64 0)) ++ one (a.getD 2 (.int .i64 0)) | _ => []
def cntElRecsR (x : RecsR) : Nat := 1 + 1 + cntBytess x.records
def mkElRecsR (k : Int) (x : RecsR) : RecsR := { code := k, used := k + 1, records := mkBytess (k + 1 + 1) x.records }

theorem recsR_form {w : World} {v : Value} {x : RecsR} (h : recsRR.V w v x) : ∃ a1 c1, v = .agg #[.int .i64 x.code, .int .i64 x.used, .slice a1 x.records.length c1] := by
  obtain ⟨u1, rfl, h1⟩ := h
  obtain ⟨a1, c1, rfl⟩ := bytess_form h1
  exact ⟨_, _, rfl⟩
theorem recsR_cnt (d : RecsR) : cntRecsR d ≤ 1 * wtRecsR d := by
  unfold cntRecsR wtRecsR
  have q1 := bytess_cnt d.records
  omega
theorem recsR_cntEl (d : RecsR) : cntElRecsR d ≤ 3 * (1 + wtRecsR d) := by
  unfold cntElRecsR wtRecsR
  have q1 := bytess_cnt d.records
  omega

set_option maxHeartbeats 1000000 in
theorem eqRecordsResult_u (x y : Value) (d d' : RecsR) (w : World) (hx : recsRR.V w x d) (hy : recsRR.V w y d') :
    Calls Try.prog 29 #[x, y] w fun e w' => e = .returned (.bool (decide (d = d'))) ∧ Below w.heap.size w w' := by
  obtain ⟨u1, rfl, h1⟩ := hx
  obtain ⟨v1, rfl, k1⟩ := hy
  obtain ⟨code, used, records⟩ := d
  obtain ⟨code', used', records'⟩ := d'
  dsimp only at h1 k1
  go_enter Try.func29, Try.ntmps29
  go_wp2_with fail
  all_goals try (go_ret; exact ⟨by simp_all, by (repeat (first | exact Below.refl _ _ | assumption | refine Below.drew ?_ | refine balloc ?_ _ | refine bset ?_ (by simp; omega) _ | refine bset ?_ (by simp) _ | refine bstep ?_ (by assumption)))⟩)
  refine (eqByteSS_u _ _ records records' _ (bytessR.below h1 (by (repeat (first | exact Below.refl _ _ | assumption | refine Below.drew ?_ | refine balloc ?_ _ | refine bset ?_ (by simp; omega) _ | refine bset ?_ (by simp) _ | refine bstep ?_ (by assumption))))) (bytessR.below k1 (by (repeat (first | exact Below.refl _ _ | assumption | refine Below.drew ?_ | refine balloc ?_ _ | refine bset ?_ (by simp; omega) _ | refine bset ?_ (by simp) _ | refine bstep ?_ (by assumption)))))).mono ?_
  rintro e w1 ⟨rfl, b1⟩
  go_wp2
  all_goals
    go_ret
    exact ⟨by simp_all, by (repeat (first | exact Below.refl _ _ | assumption | refine Below.drew ?_ | refine balloc ?_ _ | refine bset ?_ (by simp; omega) _ | refine bset ?_ (by simp) _ | refine bstep ?_ (by assumption)))⟩

set_option maxHeartbeats 1000000 in
theorem markRecordsResult_u (v : Value) (d : RecsR) (base : Nat) (F : Nat → Prop) (k : Int) (w : World) (ho : recsRR.O w base F v d) (hw : wtRecsR d ≤ 1048576) (hn : k + cntRecsR d ≤ 1073741824) (hk0 : 0 ≤ k) :
    Calls Try.prog 30 #[v, .int .i64 k] w fun r w' => r = .returned (.int .i64 (k + cntRecsR d)) ∧ recsRR.O w' base F v (mkRecsR k d) ∧ Mod F w w' := by
  obtain ⟨u1, F1, rfl, h1, hF⟩ := ho
  unfold wtRecsR at hw
  unfold cntRecsR at hn ⊢
  have HF : Hid (∀ b, F b ↔ (F1 b)) := hF
  clear hF
  go_enter Try.func30, Try.ntmps30
  go_wp2_with fail
  refine (markByteSS_u _ d.records base F1 k _ (bytessR.alloc h1 _) (by omega) (by omega) (by omega)).mono ?_
  rintro e w1 ⟨rfl, r1, m1⟩
  go_wp2
  go_ret
  refine ⟨?_, ⟨_, F1, rfl, r1, HF.out⟩, ((Mod.refl F w).alloc _).trans (m1.mono (fun b hb => (HF.out b).2 hb))⟩
  simp
  try omega

set_option maxHeartbeats 1000000 in
theorem heldRecordsResult_u (v : Value) (d : RecsR) (k : Int) (w : World) (hv : recsRR.V w v (mkRecsR k d)) (hw : wtRecsR d ≤ 1048576) (hn : k + cntRecsR d ≤ 1073741824) (hk0 : 0 ≤ k) :
    Calls Try.prog 31 #[v, .int .i64 k] w fun r w' => r = .returned (.int .i64 (k + cntRecsR d)) ∧ Below w.heap.size w w' := by
  obtain ⟨u1, rfl, h1⟩ := hv
  unfold wtRecsR at hw
  unfold cntRecsR at hn ⊢
  go_enter Try.func31, Try.ntmps31
  go_wp2_with fail
  refine (heldByteSS_u _ d.records k _ (bytessR.below h1 (by (repeat (first | exact Below.refl _ _ | assumption | refine Below.drew ?_ | refine balloc ?_ _ | refine bset ?_ (by simp; omega) _ | refine bset ?_ (by simp) _ | refine bstep ?_ (by assumption))))) (by omega) (by omega) (by omega)).mono ?_
  rintro e w1 ⟨rfl, b1⟩
  go_wp2
  go_ret
  refine ⟨?_, by (repeat (first | exact Below.refl _ _ | assumption | refine Below.drew ?_ | refine balloc ?_ _ | refine bset ?_ (by simp; omega) _ | refine bset ?_ (by simp) _ | refine bstep ?_ (by assumption)))⟩
  simp
  try omega

end Go.Proofs.Ytlhikbjohlcdmaa
