/-
  Ledger. (Written by program: nest.py.)
-/
import Derived.Test.YteebglgbeijolaaNBalss
import Derived.Test.YteebglgbeijolaaSep
namespace Go.Proofs.Yteebglgbeijolaa
open Go.RowKit
set_option linter.unusedSectionVars false
variable [DecidableEq Bal] [Inhabited Bal]
attribute [local go_sem ↓] Go.wp_at_zero Go.wp_at_succ

structure Ledg where
  shards : List (List Bal)

variable [DecidableEq Ledg] [Inhabited Ledg]

def ledgR : Rep Ledg where
  V := fun w v x => ∃ u1, v = .agg #[u1] ∧ balssR.V w u1 x.shards
  O := fun w base F v x => ∃ u1 F1, v = .agg #[u1] ∧ balssR.O w base F1 u1 x.shards ∧ (∀ b, F b ↔ (F1 b))
  below := fun h hb => by
    obtain ⟨u1, rfl, h1⟩ := h
    exact ⟨u1, rfl, balssR.below h1 hb⟩
  ofO := fun h => by
    obtain ⟨u1, F1, rfl, h1, _⟩ := h
    exact ⟨u1, rfl, balssR.ofO h1⟩
  mod := fun h hm hd => by
    obtain ⟨u1, F1, rfl, h1, hF⟩ := h
    exact ⟨u1, F1, rfl, balssR.mod h1 hm (fun b hb => hd b ((hF b).2 hb)), hF⟩
  rng := fun h b hb => by
    obtain ⟨u1, F1, rfl, h1, hF⟩ := h
    rcases (hF b).1 hb with hb
    · exact balssR.rng h1 b hb
  base := fun h hb => by
    obtain ⟨u1, F1, rfl, h1, hF⟩ := h
    exact ⟨u1, F1, rfl, balssR.base h1 hb, hF⟩

def wtLedg (x : Ledg) : Nat := wtBalss x.shards
def cntLedg (x : Ledg) : Nat := cntBalss x.shards
def mkLedg (k : Int) (x : Ledg) : Ledg := { x with shards := mkBalss k x.shards }
def lvLedg (v : Value) : List Value := match v with | .agg a => one (a.getD 0 (.int .i64 0)) | _ => []
def cntElLedg (x : Ledg) : Nat := cntBalss x.shards
def mkElLedg (k : Int) (x : Ledg) : Ledg := { shards := mkBalss (k) x.shards }

theorem ledg_form {w : World} {v : Value} {x : Ledg} (h : ledgR.V w v x) : ∃ a1 c1, v = .agg #[.slice a1 x.shards.length c1] := by
  obtain ⟨u1, rfl, h1⟩ := h
  obtain ⟨a1, c1, rfl⟩ := balss_form h1
  exact ⟨_, _, rfl⟩
theorem ledg_cnt (d : Ledg) : cntLedg d ≤ 3 * wtLedg d := by
  unfold cntLedg wtLedg
  have q1 := balss_cnt d.shards
  omega
theorem ledg_cntEl (d : Ledg) : cntElLedg d ≤ 3 * (1 + wtLedg d) := by
  unfold cntElLedg wtLedg
  have q1 := balss_cnt d.shards
  omega

set_option maxHeartbeats 1000000 in
theorem toLedger_u (x : Value) (d : Ledg) (w : World) (hx : ledgR.V w x d) (hn : wtLedg d ≤ 1048576) :
    Calls Try.prog 37 #[x] w fun e w' => ∃ v F, e = .returned v ∧ ledgR.O w' w.heap.size F v d ∧ Below w.heap.size w w' := by
  obtain ⟨u1, rfl, h1⟩ := hx
  unfold wtLedg at hn
  go_enter Try.func37, Try.ntmps37
  go_wp2_with fail
  refine (toBalanceSS_u _ d.shards _ (balssR.below h1 (by (repeat (first | exact Below.refl _ _ | assumption | refine Below.drew ?_ | refine balloc ?_ _ | refine bset ?_ (by simp; omega) _ | refine bset ?_ (by simp) _ | refine bstep ?_ (by assumption))))) (by omega)).mono ?_
  rintro e w1 ⟨v1, F1, rfl, o1, b1⟩
  obtain ⟨a1, n1, rfl⟩ := balss_form (balssR.ofO o1)
  obtain ⟨c1, f1⟩ := bcell b1
  have z1 := b1.size
  simp at z1
  replace o1 := balssR.base (base' := w.heap.size + 3) o1 (by simp; try omega)
  go_wp2
  refine bodyPost_ret (v := .agg #[.slice a1 d.shards.length n1]) ?_ rfl ⟨_, fun b => F1 b, rfl, ⟨_, F1, rfl, balssR.base (base := w.heap.size + 3) (by (repeat (first | assumption | refine Rep.set _ ?_ _ (by simp; omega) | refine Rep.set _ ?_ _ (by simp) | refine Rep.alloc _ ?_ _ | refine Rep.keep _ ?_ (by assumption)))) (by omega), fun b => Iff.rfl⟩, by (repeat (first | exact Below.refl _ _ | assumption | refine Below.drew ?_ | refine balloc ?_ _ | refine bset ?_ (by simp; omega) _ | refine bset ?_ (by simp) _ | refine bstep ?_ (by assumption)))⟩
  simp [results, Try.results37, go_sem, c1]

set_option maxHeartbeats 1000000 in
theorem szLedger_u (x : Value) (d : Ledg) (left : Int) (w : World) (hx : ledgR.V w x d) (h0 : 0 ≤ left) (h1 : left ≤ 1048576) :
    Calls Try.prog 34 #[x, .int .i64 left] w fun e w' => e = .returned (.int .i64 (szLen left (wtLedg d))) ∧ Below w.heap.size w w' := by
  obtain ⟨u1, rfl, k1⟩ := hx
  go_enter Try.func34, Try.ntmps34
  go_wp2_with fail
  refine (szBalanceSS_u _ d.shards left _ (balssR.below k1 (by (repeat (first | exact Below.refl _ _ | assumption | refine Below.drew ?_ | refine balloc ?_ _ | refine bset ?_ (by simp; omega) _ | refine bset ?_ (by simp) _ | refine bstep ?_ (by assumption))))) h0 h1).mono ?_
  rintro e w1 ⟨rfl, b1⟩
  go_wp2
  · rename_i h
    go_ret
    refine ⟨?_, by (repeat (first | exact Below.refl _ _ | assumption | refine Below.drew ?_ | refine balloc ?_ _ | refine bset ?_ (by simp; omega) _ | refine bset ?_ (by simp) _ | refine bstep ?_ (by assumption)))⟩
    rw [szLen_neg (n := wtBalss d.shards) (by omega) (wtLedg d) (by unfold wtLedg; omega)]
    rfl
  rename_i h
  go_ret
  exact ⟨rfl, by (repeat (first | exact Below.refl _ _ | assumption | refine Below.drew ?_ | refine balloc ?_ _ | refine bset ?_ (by simp; omega) _ | refine bset ?_ (by simp) _ | refine bstep ?_ (by assumption)))⟩

set_option maxHeartbeats 1000000 in
theorem eqLedger_u (x y : Value) (d d' : Ledg) (w : World) (hx : ledgR.V w x d) (hy : ledgR.V w y d') :
    Calls Try.prog 41 #[x, y] w fun e w' => e = .returned (.bool (decide (d = d'))) ∧ Below w.heap.size w w' := by
  obtain ⟨u1, rfl, h1⟩ := hx
  obtain ⟨v1, rfl, k1⟩ := hy
  obtain ⟨shards⟩ := d
  obtain ⟨shards'⟩ := d'
  dsimp only at h1 k1
  go_enter Try.func41, Try.ntmps41
  go_wp2_with fail
  all_goals try (go_ret; exact ⟨by simp_all, by (repeat (first | exact Below.refl _ _ | assumption | refine Below.drew ?_ | refine balloc ?_ _ | refine bset ?_ (by simp; omega) _ | refine bset ?_ (by simp) _ | refine bstep ?_ (by assumption)))⟩)
  refine (eqBalanceSS_u _ _ shards shards' _ (balssR.below h1 (by (repeat (first | exact Below.refl _ _ | assumption | refine Below.drew ?_ | refine balloc ?_ _ | refine bset ?_ (by simp; omega) _ | refine bset ?_ (by simp) _ | refine bstep ?_ (by assumption))))) (balssR.below k1 (by (repeat (first | exact Below.refl _ _ | assumption | refine Below.drew ?_ | refine balloc ?_ _ | refine bset ?_ (by simp; omega) _ | refine bset ?_ (by simp) _ | refine bstep ?_ (by assumption)))))).mono ?_
  rintro e w1 ⟨rfl, b1⟩
  go_wp2
  all_goals
    go_ret
    exact ⟨by simp_all, by (repeat (first | exact Below.refl _ _ | assumption | refine Below.drew ?_ | refine balloc ?_ _ | refine bset ?_ (by simp; omega) _ | refine bset ?_ (by simp) _ | refine bstep ?_ (by assumption)))⟩

set_option maxHeartbeats 1000000 in
theorem markLedger_u (v : Value) (d : Ledg) (base : Nat) (F : Nat → Prop) (k : Int) (w : World) (ho : ledgR.O w base F v d) (hw : wtLedg d ≤ 1048576) (hn : k + cntLedg d ≤ 1073741824) (hk0 : 0 ≤ k) :
    Calls Try.prog 43 #[v, .int .i64 k] w fun r w' => r = .returned (.int .i64 (k + cntLedg d)) ∧ ledgR.O w' base F v (mkLedg k d) ∧ Mod F w w' := by
  obtain ⟨u1, F1, rfl, h1, hF⟩ := ho
  unfold wtLedg at hw
  unfold cntLedg at hn ⊢
  have HF : Hid (∀ b, F b ↔ (F1 b)) := hF
  clear hF
  go_enter Try.func43, Try.ntmps43
  go_wp2_with fail
  refine (markBalanceSS_u _ d.shards base F1 k _ (balssR.alloc h1 _) (by omega) (by omega) (by omega)).mono ?_
  rintro e w1 ⟨rfl, r1, m1⟩
  go_wp2
  go_ret
  refine ⟨?_, ⟨_, F1, rfl, r1, HF.out⟩, ((Mod.refl F w).alloc _).trans (m1.mono (fun b hb => (HF.out b).2 hb))⟩
  simp
  try omega

set_option maxHeartbeats 1000000 in
theorem heldLedger_u (v : Value) (d : Ledg) (k : Int) (w : World) (hv : ledgR.V w v (mkLedg k d)) (hw : wtLedg d ≤ 1048576) (hn : k + cntLedg d ≤ 1073741824) (hk0 : 0 ≤ k) :
    Calls Try.prog 100 #[v, .int .i64 k] w fun r w' => r = .returned (.int .i64 (k + cntLedg d)) ∧ Below w.heap.size w w' := by
  obtain ⟨u1, rfl, h1⟩ := hv
  unfold wtLedg at hw
  unfold cntLedg at hn ⊢
  go_enter Try.func100, Try.ntmps100
  go_wp2_with fail
  refine (heldBalanceSS_u _ d.shards k _ (balssR.below h1 (by (repeat (first | exact Below.refl _ _ | assumption | refine Below.drew ?_ | refine balloc ?_ _ | refine bset ?_ (by simp; omega) _ | refine bset ?_ (by simp) _ | refine bstep ?_ (by assumption))))) (by omega) (by omega) (by omega)).mono ?_
  rintro e w1 ⟨rfl, b1⟩
  go_wp2
  go_ret
  refine ⟨?_, by (repeat (first | exact Below.refl _ _ | assumption | refine Below.drew ?_ | refine balloc ?_ _ | refine bset ?_ (by simp; omega) _ | refine bset ?_ (by simp) _ | refine bstep ?_ (by assumption)))⟩
  simp
  try omega

end Go.Proofs.Yteebglgbeijolaa
