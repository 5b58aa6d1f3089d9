/-
  LedgerResult. (Written by program: nest.py.)
-/
import Derived.Test.YteebglgbeijolaaSLedg
import Derived.Test.YteebglgbeijolaaSep
namespace Go.Proofs.Yteebglgbeijolaa
open Go.RowKit
set_option linter.unusedSectionVars false
variable [DecidableEq Bal] [Inhabited Bal] [DecidableEq Ledg] [Inhabited Ledg]
attribute [local go_sem ↓] Go.wp_at_zero Go.wp_at_succ

set_option linter.unusedSimpArgs false

structure LedgR where
  code : Int
  ledger : Ledg

variable [DecidableEq LedgR] [Inhabited LedgR]

def ledgRR : Rep LedgR where
  V := fun w v x => ∃ u1_1, v = .agg #[.int .i64 x.code, u1_1] ∧ ledgR.V w (.agg #[u1_1]) x.ledger
  O := fun w base F v x => ∃ u1_1 F1, v = .agg #[.int .i64 x.code, u1_1] ∧ ledgR.O w base F1 (.agg #[u1_1]) x.ledger ∧ (∀ b, F b ↔ (F1 b))
  below := fun h hb => by
    obtain ⟨u1_1, rfl, h1⟩ := h
    exact ⟨u1_1, rfl, ledgR.below h1 hb⟩
  ofO := fun h => by
    obtain ⟨u1_1, F1, rfl, h1, _⟩ := h
    exact ⟨u1_1, rfl, ledgR.ofO h1⟩
  mod := fun h hm hd => by
    obtain ⟨u1_1, F1, rfl, h1, hF⟩ := h
    exact ⟨u1_1, F1, rfl, ledgR.mod h1 hm (fun b hb => hd b ((hF b).2 hb)), hF⟩
  rng := fun h b hb => by
    obtain ⟨u1_1, F1, rfl, h1, hF⟩ := h
    rcases (hF b).1 hb with hb
    · exact ledgR.rng h1 b hb
  base := fun h hb => by
    obtain ⟨u1_1, F1, rfl, h1, hF⟩ := h
    exact ⟨u1_1, F1, rfl, ledgR.base h1 hb, hF⟩

def wtLedgR (x : LedgR) : Nat := wtLedg x.ledger
def cntLedgR (x : LedgR) : Nat := cntLedg x.ledger
def mkLedgR (k : Int) (x : LedgR) : LedgR := { x with ledger := mkLedg k x.ledger }
def lvLedgR (v : Value) : List Value := match v with | .agg a => one (a.getD 0 (.int .i64 0)) ++ one (a.getD 1 (.int .i64 0)) | _ => []
def cntElLedgR (x : LedgR) : Nat := 1 + cntElLedg x.ledger
def mkElLedgR (k : Int) (x : LedgR) : LedgR := { code := k, ledger := mkElLedg (k + 1) x.ledger }

theorem ledgR_form {w : World} {v : Value} {x : LedgR} (h : ledgRR.V w v x) : ∃ a1_1 c1_1, v = .agg #[.int .i64 x.code, .slice a1_1 x.ledger.shards.length c1_1] := by
  obtain ⟨u1_1, rfl, h1⟩ := h
  obtain ⟨a1_1, c1_1, e1⟩ := ledg_form h1
  simp only [Value.agg.injEq, Array.mk.injEq, List.cons.injEq, and_true] at e1
  obtain rfl := e1
  exact ⟨_, _, rfl⟩
theorem ledgR_cnt (d : LedgR) : cntLedgR d ≤ 3 * wtLedgR d := by
  unfold cntLedgR wtLedgR
  have q1 := ledg_cnt d.ledger
  omega
theorem ledgR_cntEl (d : LedgR) : cntElLedgR d ≤ 4 * (1 + wtLedgR d) := by
  unfold cntElLedgR wtLedgR
  have q1 := ledg_cntEl d.ledger
  omega

set_option maxHeartbeats 1000000 in
theorem eqLedgerResult_u (x y : Value) (d d' : LedgR) (w : World) (hx : ledgRR.V w x d) (hy : ledgRR.V w y d') :
    Calls Try.prog 40 #[x, y] w fun e w' => e = .returned (.bool (decide (d = d'))) ∧ Below w.heap.size w w' := by
  obtain ⟨u1_1, rfl, h1⟩ := hx
  obtain ⟨v1_1, rfl, k1⟩ := hy
  obtain ⟨code, ledger⟩ := d
  obtain ⟨code', ledger'⟩ := d'
  dsimp only at h1 k1
  go_enter Try.func40, Try.ntmps40
  go_wp2_with fail
  all_goals try (go_ret; exact ⟨by simp_all, by (repeat (first | exact Below.refl _ _ | assumption | refine Below.drew ?_ | refine balloc ?_ _ | refine bset ?_ (by simp; omega) _ | refine bset ?_ (by simp) _ | refine bstep ?_ (by assumption)))⟩)
  refine (eqLedger_u _ _ ledger ledger' _ (ledgR.below h1 (by (repeat (first | exact Below.refl _ _ | assumption | refine Below.drew ?_ | refine balloc ?_ _ | refine bset ?_ (by simp; omega) _ | refine bset ?_ (by simp) _ | refine bstep ?_ (by assumption))))) (ledgR.below k1 (by (repeat (first | exact Below.refl _ _ | assumption | refine Below.drew ?_ | refine balloc ?_ _ | refine bset ?_ (by simp; omega) _ | refine bset ?_ (by simp) _ | refine bstep ?_ (by assumption)))))).mono ?_
  rintro e w1 ⟨rfl, b1⟩
  go_wp2
  all_goals
    go_ret
    exact ⟨by simp_all, by (repeat (first | exact Below.refl _ _ | assumption | refine Below.drew ?_ | refine balloc ?_ _ | refine bset ?_ (by simp; omega) _ | refine bset ?_ (by simp) _ | refine bstep ?_ (by assumption)))⟩

set_option maxHeartbeats 1000000 in
theorem markLedgerResult_u (v : Value) (d : LedgR) (base : Nat) (F : Nat → Prop) (k : Int) (w : World) (ho : ledgRR.O w base F v d) (hw : wtLedgR d ≤ 1048576) (hn : k + cntLedgR d ≤ 1073741824) (hk0 : 0 ≤ k) :
    Calls Try.prog 45 #[v, .int .i64 k] w fun r w' => r = .returned (.int .i64 (k + cntLedgR d)) ∧ ledgRR.O w' base F v (mkLedgR k d) ∧ Mod F w w' := by
  obtain ⟨u1_1, F1, rfl, h1, hF⟩ := ho
  unfold wtLedgR at hw
  unfold cntLedgR at hn ⊢
  have HF : Hid (∀ b, F b ↔ (F1 b)) := hF
  clear hF
  go_enter Try.func45, Try.ntmps45
  go_wp2_with fail
  refine (markLedger_u _ d.ledger base F1 k _ (ledgR.alloc h1 _) (by omega) (by omega) (by omega)).mono ?_
  rintro e w1 ⟨rfl, r1, m1⟩
  go_wp2
  go_ret
  refine ⟨?_, ⟨_, F1, rfl, r1, HF.out⟩, ((Mod.refl F w).alloc _).trans (m1.mono (fun b hb => (HF.out b).2 hb))⟩
  simp
  try omega

set_option maxHeartbeats 1000000 in
theorem heldLedgerResult_u (v : Value) (d : LedgR) (k : Int) (w : World) (hv : ledgRR.V w v (mkLedgR k d)) (hw : wtLedgR d ≤ 1048576) (hn : k + cntLedgR d ≤ 1073741824) (hk0 : 0 ≤ k) :
    Calls Try.prog 46 #[v, .int .i64 k] w fun r w' => r = .returned (.int .i64 (k + cntLedgR d)) ∧ Below w.heap.size w w' := by
  obtain ⟨u1_1, rfl, h1⟩ := hv
  unfold wtLedgR at hw
  unfold cntLedgR at hn ⊢
  go_enter Try.func46, Try.ntmps46
  go_wp2_with fail
  refine (heldLedger_u _ d.ledger k _ (ledgR.below h1 (by (repeat (first | exact Below.refl _ _ | assumption | refine Below.drew ?_ | refine balloc ?_ _ | refine bset ?_ (by simp; omega) _ | refine bset ?_ (by simp) _ | refine bstep ?_ (by assumption))))) (by omega) (by omega) (by omega)).mono ?_
  rintro e w1 ⟨rfl, b1⟩
  go_wp2
  go_ret
  refine ⟨?_, by (repeat (first | exact Below.refl _ _ | assumption | refine Below.drew ?_ | refine balloc ?_ _ | refine bset ?_ (by simp; omega) _ | refine bset ?_ (by simp) _ | refine bstep ?_ (by assumption)))⟩
  simp
  try omega

end Go.Proofs.Yteebglgbeijolaa
