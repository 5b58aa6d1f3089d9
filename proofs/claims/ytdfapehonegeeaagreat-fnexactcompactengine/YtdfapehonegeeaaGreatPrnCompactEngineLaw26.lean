import Derived.Test.YtdfapehonegeeaaGreatPrnCompactEngineLaw25
import Derived.Test.YtdfapehonegeeaaGreatPrnCompactEngineLaw8
import Derived.Test.YtdfapehonegeeaaGreatPrnCompactEngineLaw4
import Derived.Test.YtdfapehonegeeaaGreatPrnCompactEngineLaw12
import Derived.Test.YtdfapehonegeeaaGreatPrnCompactEngineLaw1
import Derived.Test.YtdfapehonegeeaaGreatPrnCompactEngineLaw19
import Derived.Test.YtdfapehonegeeaaGreatPrnCompactEngineLaw22

/-
  AllRows, ReadKey: both sides.
-/
namespace Go.Proofs.YtdfapehonegeeaaGreat
open Go.RowKit
set_option linter.unusedSectionVars false
variable [DecidableEq Wri] [Inhabited Wri] [DecidableEq BytesR] [Inhabited BytesR] [DecidableEq Rw] [Inhabited Rw] [DecidableEq TabR] [Inhabited TabR] [DecidableEq Logg] [Inhabited Logg] [DecidableEq Engn] [Inhabited Engn] [DecidableEq LoggR] [Inhabited LoggR] [DecidableEq RecsR] [Inhabited RecsR] [DecidableEq Leg] [Inhabited Leg]
set_option linter.unusedVariables false
set_option linter.unusedSimpArgs false
attribute [local go_sem ↓] Go.wp_at_zero Go.wp_at_succ

theorem engF_inv {e : Engn} (h : engF e = 0) : partsF e = 0 ∧ rangeE e = true ∧ replayL e.log e.next = some e.mem ∧ aboveE e = true := by
  by_cases h1 : partsF e = 0
  · cases h2 : rangeE e
    · rw [engF_range h1 h2] at h; cases h
    · by_cases h3 : replayL e.log e.next = some e.mem
      · cases h4 : aboveE e
        · rw [engF_above h1 h2 h3 h4] at h; cases h
        · exact ⟨h1, rfl, h3, rfl⟩
      · rw [engF_log h1 h2 h3] at h; cases h
  · rw [engF_parts h1] at h
    exact absurd h h1
end Go.Proofs.YtdfapehonegeeaaGreat

/-
  EngineResult. (Written by program: nest.py.)
-/
namespace Go.Proofs.YtdfapehonegeeaaGreat
open Go.RowKit
set_option linter.unusedSectionVars false
variable [DecidableEq Logg] [Inhabited Logg] [DecidableEq Rw] [Inhabited Rw] [DecidableEq Engn] [Inhabited Engn]
attribute [local go_sem ↓] Go.wp_at_zero Go.wp_at_succ

set_option linter.unusedSimpArgs false

structure EngR where
  code : Int
  version : Int
  engine : Engn
variable [DecidableEq EngR] [Inhabited EngR]

def engRR : Rep EngR where
  V := fun w v x => ∃ u1_1_1 u1_1_2 u1_2 u1_3, v = .agg #[.int .i64 x.code, .int .i64 x.version, u1_1_1, u1_1_2, u1_2, u1_3, .int .i64 x.engine.next] ∧ engnR.V w (.agg #[u1_1_1, u1_1_2, u1_2, u1_3, .int .i64 x.engine.next]) x.engine
  O := fun w base F v x => ∃ u1_1_1 u1_1_2 u1_2 u1_3 F1, v = .agg #[.int .i64 x.code, .int .i64 x.version, u1_1_1, u1_1_2, u1_2, u1_3, .int .i64 x.engine.next] ∧ engnR.O w base F1 (.agg #[u1_1_1, u1_1_2, u1_2, u1_3, .int .i64 x.engine.next]) x.engine ∧ (∀ b, F b ↔ (F1 b))
  below := fun h hb => by
    obtain ⟨u1_1_1, u1_1_2, u1_2, u1_3, rfl, h1⟩ := h
    exact ⟨u1_1_1, u1_1_2, u1_2, u1_3, rfl, engnR.below h1 hb⟩
  ofO := fun h => by
    obtain ⟨u1_1_1, u1_1_2, u1_2, u1_3, F1, rfl, h1, _⟩ := h
    exact ⟨u1_1_1, u1_1_2, u1_2, u1_3, rfl, engnR.ofO h1⟩
  mod := fun h hm hd => by
    obtain ⟨u1_1_1, u1_1_2, u1_2, u1_3, F1, rfl, h1, hF⟩ := h
    exact ⟨u1_1_1, u1_1_2, u1_2, u1_3, F1, rfl, engnR.mod h1 hm (fun b hb => hd b ((hF b).2 hb)), hF⟩
  rng := fun h b hb => by
    obtain ⟨u1_1_1, u1_1_2, u1_2, u1_3, F1, rfl, h1, hF⟩ := h
    rcases (hF b).1 hb with hb
    · exact engnR.rng h1 b hb
  base := fun h hb => by
    obtain ⟨u1_1_1, u1_1_2, u1_2, u1_3, F1, rfl, h1, hF⟩ := h
    exact ⟨u1_1_1, u1_1_2, u1_2, u1_3, F1, rfl, engnR.base h1 hb, hF⟩
def wtEngR (x : EngR) : Nat := wtEngn x.engine
def cntEngR (x : EngR) : Nat := cntEngn x.engine
def mkEngR (k : Int) (x : EngR) : EngR := { x with engine := mkEngn k x.engine }
theorem engR_form {w : World} {v : Value} {x : EngR} (h : engRR.V w v x) : ∃ a1_1_1 a1_1_2 a1_2 a1_3 c1_1_1 c1_1_2 c1_2 c1_3, v = .agg #[.int .i64 x.code, .int .i64 x.version, .slice a1_1_1 x.engine.log.synced.length c1_1_1, .slice a1_1_2 x.engine.log.loose.length c1_1_2, .slice a1_2 x.engine.mem.length c1_2, .slice a1_3 x.engine.tables.length c1_3, .int .i64 x.engine.next] := by
  obtain ⟨u1_1_1, u1_1_2, u1_2, u1_3, rfl, h1⟩ := h
  obtain ⟨a1_1_1, a1_1_2, a1_2, a1_3, c1_1_1, c1_1_2, c1_2, c1_3, e1⟩ := engn_form h1
  simp only [Value.agg.injEq, Array.mk.injEq, List.cons.injEq, and_true, true_and] at e1
  obtain ⟨rfl, rfl, rfl, rfl⟩ := e1
  exact ⟨_, _, _, _, _, _, _, _, rfl⟩
theorem engR_cnt (d : EngR) : cntEngR d ≤ 4 * wtEngR d := by
  unfold cntEngR wtEngR
  have q1 := engn_cnt d.engine
  omega
set_option maxHeartbeats 1000000 in
theorem eqEngineResult_u (x y : Value) (d d' : EngR) (w : World) (hx : engRR.V w x d) (hy : engRR.V w y d') :
    Calls Tryz.prog 19 #[x, y] w fun e w' => e = .returned (.bool (decide (d = d'))) ∧ Below w.heap.size w w' := by
  obtain ⟨u1_1_1, u1_1_2, u1_2, u1_3, rfl, h1⟩ := hx
  obtain ⟨v1_1_1, v1_1_2, v1_2, v1_3, rfl, k1⟩ := hy
  obtain ⟨code, version, engine⟩ := d
  obtain ⟨code', version', engine'⟩ := d'
  dsimp only at h1 k1
  go_enter Tryz.func19, Tryz.ntmps19
  go_wp2_with fail
  all_goals try (go_ret; exact ⟨by simp_all, by (repeat (first | exact Below.refl _ _ | assumption | refine Below.drew ?_ | refine balloc ?_ _ | refine bset ?_ (by simp; omega) _ | refine bset ?_ (by simp) _ | refine bstep ?_ (by assumption)))⟩)
  refine (eqEngine_u _ _ engine engine' _ (engnR.below h1 (by (repeat (first | exact Below.refl _ _ | assumption | refine Below.drew ?_ | refine balloc ?_ _ | refine bset ?_ (by simp; omega) _ | refine bset ?_ (by simp) _ | refine bstep ?_ (by assumption))))) (engnR.below k1 (by (repeat (first | exact Below.refl _ _ | assumption | refine Below.drew ?_ | refine balloc ?_ _ | refine bset ?_ (by simp; omega) _ | refine bset ?_ (by simp) _ | refine bstep ?_ (by assumption)))))).mono ?_
  rintro e w1 ⟨rfl, b1⟩
  go_wp2
  all_goals
    go_ret
    exact ⟨by simp_all, by (repeat (first | exact Below.refl _ _ | assumption | refine Below.drew ?_ | refine balloc ?_ _ | refine bset ?_ (by simp; omega) _ | refine bset ?_ (by simp) _ | refine bstep ?_ (by assumption)))⟩
set_option maxHeartbeats 1000000 in
theorem markEngineResult_u (v : Value) (d : EngR) (base : Nat) (F : Nat → Prop) (k : Int) (w : World) (ho : engRR.O w base F v d) (hw : wtEngR d ≤ 1048576) (hn : k + cntEngR d ≤ 1073741824) (hk0 : 0 ≤ k) :
    Calls Tryz.prog 23 #[v, .int .i64 k] w fun r w' => r = .returned (.int .i64 (k + cntEngR d)) ∧ engRR.O w' base F v (mkEngR k d) ∧ Mod F w w' := by
  obtain ⟨u1_1_1, u1_1_2, u1_2, u1_3, F1, rfl, h1, hF⟩ := ho
  unfold wtEngR at hw
  unfold cntEngR at hn ⊢
  have HF : Hid (∀ b, F b ↔ (F1 b)) := hF
  clear hF
  go_enter Tryz.func23, Tryz.ntmps23
  go_wp2_with fail
  refine (markEngine_u _ d.engine base F1 k _ (engnR.alloc h1 _) (by omega) (by omega) (by omega)).mono ?_
  rintro e w1 ⟨rfl, r1, m1⟩
  go_wp2
  go_ret
  refine ⟨?_, ⟨_, _, _, _, F1, rfl, r1, HF.out⟩, ((Mod.refl F w).alloc _).trans (m1.mono (fun b hb => (HF.out b).2 hb))⟩
  simp
  try omega
set_option maxHeartbeats 1000000 in
theorem heldEngineResult_u (v : Value) (d : EngR) (k : Int) (w : World) (hv : engRR.V w v (mkEngR k d)) (hw : wtEngR d ≤ 1048576) (hn : k + cntEngR d ≤ 1073741824) (hk0 : 0 ≤ k) :
    Calls Tryz.prog 24 #[v, .int .i64 k] w fun r w' => r = .returned (.int .i64 (k + cntEngR d)) ∧ Below w.heap.size w w' := by
  obtain ⟨u1_1_1, u1_1_2, u1_2, u1_3, rfl, h1⟩ := hv
  unfold wtEngR at hw
  unfold cntEngR at hn ⊢
  go_enter Tryz.func24, Tryz.ntmps24
  go_wp2_with fail
  refine (heldEngine_u _ d.engine k _ (engnR.below h1 (by (repeat (first | exact Below.refl _ _ | assumption | refine Below.drew ?_ | refine balloc ?_ _ | refine bset ?_ (by simp; omega) _ | refine bset ?_ (by simp) _ | refine bstep ?_ (by assumption))))) (by omega) (by omega) (by omega)).mono ?_
  rintro e w1 ⟨rfl, b1⟩
  go_wp2
  go_ret
  refine ⟨?_, by (repeat (first | exact Below.refl _ _ | assumption | refine Below.drew ?_ | refine balloc ?_ _ | refine bset ?_ (by simp; omega) _ | refine bset ?_ (by simp) _ | refine bstep ?_ (by assumption)))⟩
  simp
  try omega
end Go.Proofs.YtdfapehonegeeaaGreat

/-
  NewEngine, on both sides.
-/
namespace Go.Proofs.YtdfapehonegeeaaGreat
open Go.RowKit
set_option linter.unusedSectionVars false
variable [DecidableEq Logg] [Inhabited Logg] [DecidableEq Rw] [Inhabited Rw] [DecidableEq Engn] [Inhabited Engn] [DecidableEq EngR] [Inhabited EngR]
set_option linter.unusedVariables false
set_option linter.unusedSimpArgs false
attribute [local go_sem ↓] Go.wp_at_zero Go.wp_at_succ

theorem nil_own {b : Nat} (h : (Value.slice none 0 0).ownBlock = some b) : False := by simp [Value.ownBlock] at h
theorem logg_nil (w : World) (base : Nat) : loggR.O w base (fun _ => False) (.agg #[.slice none 0 0, .slice none 0 0]) ⟨[], []⟩ :=
  ⟨_, _, fun b => (Value.slice none 0 0).ownBlock = some b, fun b => (Value.slice none 0 0).ownBlock = some b, rfl, ⟨World.ownsRow_nil _ _ _ _, rfl⟩, ⟨World.ownsRow_nil _ _ _ _, rfl⟩, fun _ h => (nil_own h).elim, fun b => ⟨fun h => h.elim, fun h => h.elim nil_own nil_own⟩⟩
theorem rowss_nil (w : World) (base : Nat) : rowssR.O w base (fun _ => False) (.slice none 0 0) [] :=
  ⟨[], fun _ => .nilFunc, fun _ _ => False, ⟨World.ownsRow_nil _ _ _ _, fun i hi => absurd hi (Nat.not_lt_zero _), fun i hi => absurd hi (Nat.not_lt_zero _), fun i hi => absurd hi (Nat.not_lt_zero _), fun i hi => absurd hi (Nat.not_lt_zero _), fun i j hi => absurd hi (Nat.not_lt_zero _)⟩,
    fun b => ⟨fun h => h.elim, fun h => h.elim nil_own (fun ⟨i, hi, _⟩ => absurd hi (Nat.not_lt_zero _))⟩⟩
theorem rows_nilO (w : World) (base : Nat) : rowsR.O w base (fun _ => False) (.slice none 0 0) [] :=
  ⟨⟨World.ownsRow_nil _ _ _ _, by funext b; exact propext ⟨fun h => h.elim, nil_own⟩⟩, fun i hi => absurd hi (Nat.not_lt_zero _)⟩
theorem engn_nil (w : World) (base : Nat) (n : Int) : engnR.O w base (fun _ => False) (.agg #[.slice none 0 0, .slice none 0 0, .slice none 0 0, .slice none 0 0, .int .i64 n]) ⟨⟨[], []⟩, [], [], n⟩ :=
  ⟨_, _, _, _, _, _, _, rfl, logg_nil w base, rows_nilO w base, rowss_nil w base, fun _ h => h.elim, fun _ h => h.elim, fun _ h => h.elim, fun b => ⟨fun h => h.elim, fun h => h.elim id (fun h => h.elim id id)⟩⟩
theorem engR_nil (w : World) (base : Nat) (c v n : Int) : engRR.O w base (fun _ => False) (.agg #[.int .i64 c, .int .i64 v, .slice none 0 0, .slice none 0 0, .slice none 0 0, .slice none 0 0, .int .i64 n]) ⟨c, v, ⟨⟨[], []⟩, [], [], n⟩⟩ :=
  ⟨_, _, _, _, _, rfl, engn_nil w base n, fun _ => Iff.rfl⟩
end Go.Proofs.YtdfapehonegeeaaGreat

/-
  The layers of an engine that owns its memory.
-/
namespace Go.Proofs.YtdfapehonegeeaaGreat
open Go.RowKit
set_option linter.unusedSectionVars false
variable [DecidableEq Wri] [Inhabited Wri] [DecidableEq BytesR] [Inhabited BytesR] [DecidableEq Rw] [Inhabited Rw] [DecidableEq TabR] [Inhabited TabR] [DecidableEq Logg] [Inhabited Logg] [DecidableEq Engn] [Inhabited Engn] [DecidableEq LoggR] [Inhabited LoggR] [DecidableEq RecsR] [Inhabited RecsR] [DecidableEq Leg] [Inhabited Leg] [DecidableEq EngR] [Inhabited EngR]
set_option linter.unusedVariables false
set_option linter.unusedSimpArgs false

def codeE (c : Int) : EngR := ⟨c, 0, ⟨⟨[], []⟩, [], [], 0⟩⟩
end Go.Proofs.YtdfapehonegeeaaGreat

