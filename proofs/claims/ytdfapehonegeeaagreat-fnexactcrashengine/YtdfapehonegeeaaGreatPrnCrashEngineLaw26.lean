import Derived.Test.YtdfapehonegeeaaGreatPrnCrashEngineLaw11
import Derived.Test.YtdfapehonegeeaaGreatPrnCrashEngineLaw1
import Derived.Test.YtdfapehonegeeaaGreatPrnCrashEngineLaw19
import Derived.Test.YtdfapehonegeeaaGreatPrnCrashEngineLaw22
import Derived.Test.YtdfapehonegeeaaGreatPrnCrashEngineLaw25

/-
  EngineResult. (Written by program: nest.py.)
-/
namespace Go.Proofs.YtdfapehonegeeaaGreat
open Go.RowKit
set_option linter.unusedSectionVars false
variable [DecidableEq Logg] [Inhabited Logg] [DecidableEq Rw] [Inhabited Rw] [DecidableEq Engn] [Inhabited Engn]
attribute [local go_sem ↓] Go.wp_at_zero Go.wp_at_succ

set_option linter.unusedSimpArgs false

structure EngR where
  code : Int
  version : Int
  engine : Engn
variable [DecidableEq EngR] [Inhabited EngR]

def engRR : Rep EngR where
  V := fun w v x => ∃ u1_1_1 u1_1_2 u1_2 u1_3, v = .agg #[.int .i64 x.code, .int .i64 x.version, u1_1_1, u1_1_2, u1_2, u1_3, .int .i64 x.engine.next] ∧ engnR.V w (.agg #[u1_1_1, u1_1_2, u1_2, u1_3, .int .i64 x.engine.next]) x.engine
  O := fun w base F v x => ∃ u1_1_1 u1_1_2 u1_2 u1_3 F1, v = .agg #[.int .i64 x.code, .int .i64 x.version, u1_1_1, u1_1_2, u1_2, u1_3, .int .i64 x.engine.next] ∧ engnR.O w base F1 (.agg #[u1_1_1, u1_1_2, u1_2, u1_3, .int .i64 x.engine.next]) x.engine ∧ (∀ b, F b ↔ (F1 b))
  below := fun h hb => by
    obtain ⟨u1_1_1, u1_1_2, u1_2, u1_3, rfl, h1⟩ := h
    exact ⟨u1_1_1, u1_1_2, u1_2, u1_3, rfl, engnR.below h1 hb⟩
  ofO := fun h => by
    obtain ⟨u1_1_1, u1_1_2, u1_2, u1_3, F1, rfl, h1, _⟩ := h
    exact ⟨u1_1_1, u1_1_2, u1_2, u1_3, rfl, engnR.ofO h1⟩
  mod := fun h hm hd => by
    obtain ⟨u1_1_1, u1_1_2, u1_2, u1_3, F1, rfl, h1, hF⟩ := h
    exact ⟨u1_1_1, u1_1_2, u1_2, u1_3, F1, rfl, engnR.mod h1 hm (fun b hb => hd b ((hF b).2 hb)), hF⟩
  rng := fun h b hb => by
    obtain ⟨u1_1_1, u1_1_2, u1_2, u1_3, F1, rfl, h1, hF⟩ := h
    rcases (hF b).1 hb with hb
    · exact engnR.rng h1 b hb
  base := fun h hb => by
    obtain ⟨u1_1_1, u1_1_2, u1_2, u1_3, F1, rfl, h1, hF⟩ := h
    exact ⟨u1_1_1, u1_1_2, u1_2, u1_3, F1, rfl, engnR.base h1 hb, hF⟩
def wtEngR (x : EngR) : Nat := wtEngn x.engine
def cntEngR (x : EngR) : Nat := cntEngn x.engine
def mkEngR (k : Int) (x : EngR) : EngR := { x with engine := mkEngn k x.engine }
theorem engR_form {w : World} {v : Value} {x : EngR} (h : engRR.V w v x) : ∃ a1_1_1 a1_1_2 a1_2 a1_3 c1_1_1 c1_1_2 c1_2 c1_3, v = .agg #[.int .i64 x.code, .int .i64 x.version, .slice a1_1_1 x.engine.log.synced.length c1_1_1, .slice a1_1_2 x.engine.log.loose.length c1_1_2, .slice a1_2 x.engine.mem.length c1_2, .slice a1_3 x.engine.tables.length c1_3, .int .i64 x.engine.next] := by
  obtain ⟨u1_1_1, u1_1_2, u1_2, u1_3, rfl, h1⟩ := h
  obtain ⟨a1_1_1, a1_1_2, a1_2, a1_3, c1_1_1, c1_1_2, c1_2, c1_3, e1⟩ := engn_form h1
  simp only [Value.agg.injEq, Array.mk.injEq, List.cons.injEq, and_true, true_and] at e1
  obtain ⟨rfl, rfl, rfl, rfl⟩ := e1
  exact ⟨_, _, _, _, _, _, _, _, rfl⟩
theorem engR_cnt (d : EngR) : cntEngR d ≤ 4 * wtEngR d := by
  unfold cntEngR wtEngR
  have q1 := engn_cnt d.engine
  omega
set_option maxHeartbeats 1000000 in
theorem eqEngineResult_u (x y : Value) (d d' : EngR) (w : World) (hx : engRR.V w x d) (hy : engRR.V w y d') :
    Calls Tryz.prog 19 #[x, y] w fun e w' => e = .returned (.bool (decide (d = d'))) ∧ Below w.heap.size w w' := by
  obtain ⟨u1_1_1, u1_1_2, u1_2, u1_3, rfl, h1⟩ := hx
  obtain ⟨v1_1_1, v1_1_2, v1_2, v1_3, rfl, k1⟩ := hy
  obtain ⟨code, version, engine⟩ := d
  obtain ⟨code', version', engine'⟩ := d'
  dsimp only at h1 k1
  go_enter Tryz.func19, Tryz.ntmps19
  go_wp2_with fail
  all_goals try (go_ret; exact ⟨by simp_all, by (repeat (first | exact Below.refl _ _ | assumption | refine Below.drew ?_ | refine balloc ?_ _ | refine bset ?_ (by simp; omega) _ | refine bset ?_ (by simp) _ | refine bstep ?_ (by assumption)))⟩)
  refine (eqEngine_u _ _ engine engine' _ (engnR.below h1 (by (repeat (first | exact Below.refl _ _ | assumption | refine Below.drew ?_ | refine balloc ?_ _ | refine bset ?_ (by simp; omega) _ | refine bset ?_ (by simp) _ | refine bstep ?_ (by assumption))))) (engnR.below k1 (by (repeat (first | exact Below.refl _ _ | assumption | refine Below.drew ?_ | refine balloc ?_ _ | refine bset ?_ (by simp; omega) _ | refine bset ?_ (by simp) _ | refine bstep ?_ (by assumption)))))).mono ?_
  rintro e w1 ⟨rfl, b1⟩
  go_wp2
  all_goals
    go_ret
    exact ⟨by simp_all, by (repeat (first | exact Below.refl _ _ | assumption | refine Below.drew ?_ | refine balloc ?_ _ | refine bset ?_ (by simp; omega) _ | refine bset ?_ (by simp) _ | refine bstep ?_ (by assumption)))⟩
set_option maxHeartbeats 1000000 in
theorem markEngineResult_u (v : Value) (d : EngR) (base : Nat) (F : Nat → Prop) (k : Int) (w : World) (ho : engRR.O w base F v d) (hw : wtEngR d ≤ 1048576) (hn : k + cntEngR d ≤ 1073741824) (hk0 : 0 ≤ k) :
    Calls Tryz.prog 23 #[v, .int .i64 k] w fun r w' => r = .returned (.int .i64 (k + cntEngR d)) ∧ engRR.O w' base F v (mkEngR k d) ∧ Mod F w w' := by
  obtain ⟨u1_1_1, u1_1_2, u1_2, u1_3, F1, rfl, h1, hF⟩ := ho
  unfold wtEngR at hw
  unfold cntEngR at hn ⊢
  have HF : Hid (∀ b, F b ↔ (F1 b)) := hF
  clear hF
  go_enter Tryz.func23, Tryz.ntmps23
  go_wp2_with fail
  refine (markEngine_u _ d.engine base F1 k _ (engnR.alloc h1 _) (by omega) (by omega) (by omega)).mono ?_
  rintro e w1 ⟨rfl, r1, m1⟩
  go_wp2
  go_ret
  refine ⟨?_, ⟨_, _, _, _, F1, rfl, r1, HF.out⟩, ((Mod.refl F w).alloc _).trans (m1.mono (fun b hb => (HF.out b).2 hb))⟩
  simp
  try omega
set_option maxHeartbeats 1000000 in
theorem heldEngineResult_u (v : Value) (d : EngR) (k : Int) (w : World) (hv : engRR.V w v (mkEngR k d)) (hw : wtEngR d ≤ 1048576) (hn : k + cntEngR d ≤ 1073741824) (hk0 : 0 ≤ k) :
    Calls Tryz.prog 24 #[v, .int .i64 k] w fun r w' => r = .returned (.int .i64 (k + cntEngR d)) ∧ Below w.heap.size w w' := by
  obtain ⟨u1_1_1, u1_1_2, u1_2, u1_3, rfl, h1⟩ := hv
  unfold wtEngR at hw
  unfold cntEngR at hn ⊢
  go_enter Tryz.func24, Tryz.ntmps24
  go_wp2_with fail
  refine (heldEngine_u _ d.engine k _ (engnR.below h1 (by (repeat (first | exact Below.refl _ _ | assumption | refine Below.drew ?_ | refine balloc ?_ _ | refine bset ?_ (by simp; omega) _ | refine bset ?_ (by simp) _ | refine bstep ?_ (by assumption))))) (by omega) (by omega) (by omega)).mono ?_
  rintro e w1 ⟨rfl, b1⟩
  go_wp2
  go_ret
  refine ⟨?_, by (repeat (first | exact Below.refl _ _ | assumption | refine Below.drew ?_ | refine balloc ?_ _ | refine bset ?_ (by simp; omega) _ | refine bset ?_ (by simp) _ | refine bstep ?_ (by assumption)))⟩
  simp
  try omega
end Go.Proofs.YtdfapehonegeeaaGreat

/-
  NewEngine, on both sides.
-/
namespace Go.Proofs.YtdfapehonegeeaaGreat
open Go.RowKit
set_option linter.unusedSectionVars false
variable [DecidableEq Logg] [Inhabited Logg] [DecidableEq Rw] [Inhabited Rw] [DecidableEq Engn] [Inhabited Engn] [DecidableEq EngR] [Inhabited EngR]
set_option linter.unusedVariables false
set_option linter.unusedSimpArgs false
attribute [local go_sem ↓] Go.wp_at_zero Go.wp_at_succ

theorem nil_own {b : Nat} (h : (Value.slice none 0 0).ownBlock = some b) : False := by simp [Value.ownBlock] at h
theorem logg_nil (w : World) (base : Nat) : loggR.O w base (fun _ => False) (.agg #[.slice none 0 0, .slice none 0 0]) ⟨[], []⟩ :=
  ⟨_, _, fun b => (Value.slice none 0 0).ownBlock = some b, fun b => (Value.slice none 0 0).ownBlock = some b, rfl, ⟨World.ownsRow_nil _ _ _ _, rfl⟩, ⟨World.ownsRow_nil _ _ _ _, rfl⟩, fun _ h => (nil_own h).elim, fun b => ⟨fun h => h.elim, fun h => h.elim nil_own nil_own⟩⟩
theorem rowss_nil (w : World) (base : Nat) : rowssR.O w base (fun _ => False) (.slice none 0 0) [] :=
  ⟨[], fun _ => .nilFunc, fun _ _ => False, ⟨World.ownsRow_nil _ _ _ _, fun i hi => absurd hi (Nat.not_lt_zero _), fun i hi => absurd hi (Nat.not_lt_zero _), fun i hi => absurd hi (Nat.not_lt_zero _), fun i hi => absurd hi (Nat.not_lt_zero _), fun i j hi => absurd hi (Nat.not_lt_zero _)⟩,
    fun b => ⟨fun h => h.elim, fun h => h.elim nil_own (fun ⟨i, hi, _⟩ => absurd hi (Nat.not_lt_zero _))⟩⟩
theorem rows_nilO (w : World) (base : Nat) : rowsR.O w base (fun _ => False) (.slice none 0 0) [] :=
  ⟨⟨World.ownsRow_nil _ _ _ _, by funext b; exact propext ⟨fun h => h.elim, nil_own⟩⟩, fun i hi => absurd hi (Nat.not_lt_zero _)⟩
theorem engn_nil (w : World) (base : Nat) (n : Int) : engnR.O w base (fun _ => False) (.agg #[.slice none 0 0, .slice none 0 0, .slice none 0 0, .slice none 0 0, .int .i64 n]) ⟨⟨[], []⟩, [], [], n⟩ :=
  ⟨_, _, _, _, _, _, _, rfl, logg_nil w base, rows_nilO w base, rowss_nil w base, fun _ h => h.elim, fun _ h => h.elim, fun _ h => h.elim, fun b => ⟨fun h => h.elim, fun h => h.elim id (fun h => h.elim id id)⟩⟩
theorem engR_nil (w : World) (base : Nat) (c v n : Int) : engRR.O w base (fun _ => False) (.agg #[.int .i64 c, .int .i64 v, .slice none 0 0, .slice none 0 0, .slice none 0 0, .slice none 0 0, .int .i64 n]) ⟨c, v, ⟨⟨[], []⟩, [], [], n⟩⟩ :=
  ⟨_, _, _, _, _, rfl, engn_nil w base n, fun _ => Iff.rfl⟩
end Go.Proofs.YtdfapehonegeeaaGreat

/-
  The layers of an engine that owns its memory.
-/
namespace Go.Proofs.YtdfapehonegeeaaGreat
open Go.RowKit
set_option linter.unusedSectionVars false
variable [DecidableEq Wri] [Inhabited Wri] [DecidableEq BytesR] [Inhabited BytesR] [DecidableEq Rw] [Inhabited Rw] [DecidableEq TabR] [Inhabited TabR] [DecidableEq Logg] [Inhabited Logg] [DecidableEq Engn] [Inhabited Engn] [DecidableEq LoggR] [Inhabited LoggR] [DecidableEq RecsR] [Inhabited RecsR] [DecidableEq Leg] [Inhabited Leg] [DecidableEq EngR] [Inhabited EngR]
set_option linter.unusedVariables false
set_option linter.unusedSimpArgs false

theorem layers_O {W W' : World} {base n : Nat} {F2 : Nat → Prop} {u3 v v' : Value} {mem : List Rw} {tabs : List (List Rw)} {cs : List Value} {us : Nat → Value} {fs : Nat → Nat → Prop} (hn : tabs.length = n)
    (h2 : rowsR.O W base F2 u3 mem) (h3 : PO rowsR 32 1 one W base v n n (fun i => tabs.getD i default) cs us fs) (h23 : ∀ b, F2 b → ∀ i, i < n → ¬ fs i b)
    (ho : W'.ownsRow base 32 1 v' (1 + n) (u3 :: cs)) (hb : Below W.heap.size W W') (hv : ∀ b, v'.ownBlock = some b → W.heap.size ≤ b) :
    ∃ F', rowssR.O W' base F' v' (mem :: tabs) ∧ ∀ b, F' b → F2 b ∨ (∃ i, i < n ∧ fs i b) ∨ (W.heap.size ≤ b ∧ b < W'.heap.size) := by
  have hl : (mem :: tabs).length = 1 + n := by rw [List.length_cons]; omega
  have hF2 : ∀ b, F2 b → b < W.heap.size := fun b hb' => (rowsR.rng h2 b hb').2
  have hfs : ∀ i, i < n → ∀ b, fs i b → b < W.heap.size := fun i hi b hb' => (rowsR.rng (h3.el i hi) b hb').2
  have hcl : cs.length = n := by simpa using h3.row.1
  refine ⟨fun b => v'.ownBlock = some b ∨ ∃ i, i < (mem :: tabs).length ∧ (match i with | 0 => F2 | i + 1 => fs i) b, ⟨u3 :: cs, (fun i => match i with | 0 => u3 | i + 1 => us i), (fun i => match i with | 0 => F2 | i + 1 => fs i), ?_, fun b => Iff.rfl⟩, ?_⟩
  · rw [hl]
    refine ⟨ho, ?_, fun _ _ => rfl, ?_, ?_, ?_⟩
    · intro i hi
      cases i with
      | zero => exact rowsR.keep h2 hb
      | succ i => exact rowsR.keep (h3.el i (by omega)) hb
    · intro i hi j hj
      obtain rfl : j = 0 := by omega
      cases i with
      | zero => simp [one]
      | succ i =>
        have h := h3.cell i (by omega) 0 (by omega)
        simpa [one] using h
    · intro i hi b hb' e
      have := hv b e
      cases i with
      | zero => have := hF2 b hb'; omega
      | succ i => have := hfs i (by omega) b hb'; omega
    · intro i j hi hj hij b p q
      cases i with
      | zero =>
        cases j with
        | zero => exact hij rfl
        | succ j => exact h23 b p j (by omega) q
      | succ i =>
        cases j with
        | zero => exact h23 b q i (by omega) p
        | succ j => exact h3.sep i j (by omega) (by omega) (by omega) b p q
  · rintro b (e | ⟨i, hi, h⟩)
    · exact .inr (.inr ⟨hv b e, (ho.lt b e).2⟩)
    · rw [hl] at hi
      cases i with
      | zero => exact .inl h
      | succ i => exact .inr (.inl ⟨i, by omega, h⟩)
theorem tabs_one {W : World} {base n : Nat} {v : Value} {d : Nat → List Rw} {cs : List Value} {us : Nat → Value} {fs : Nat → Nat → Prop} (h : PO rowsR 32 1 one W base v n n d cs us fs) : ∀ u ∈ cs, u.oneCell' = true := by
  intro u hu
  have hcl : cs.length = n := by simpa using h.row.1
  obtain ⟨i, hi, e⟩ := List.mem_iff_getElem.1 hu
  have h1 := h.cell i (by omega) 0 (by omega)
  rw [Nat.mul_one, Nat.add_zero, List.getElem?_eq_getElem hi, e] at h1
  simp only [one, List.getElem?_cons_zero, Option.some.injEq] at h1
  obtain ⟨a, c, e2⟩ := rows_form (rowsR.ofO (h.el i (by omega)))
  rw [h1, e2]
  rfl
def codeE (c : Int) : EngR := ⟨c, 0, ⟨⟨[], []⟩, [], [], 0⟩⟩
end Go.Proofs.YtdfapehonegeeaaGreat

/-
  How great engines can be.
-/
namespace Go.Proofs.YtdfapehonegeeaaGreat
open Go.RowKit
set_option linter.unusedSectionVars false
variable [DecidableEq Wri] [Inhabited Wri] [DecidableEq BytesR] [Inhabited BytesR] [DecidableEq Rw] [Inhabited Rw] [DecidableEq TabR] [Inhabited TabR] [DecidableEq Logg] [Inhabited Logg] [DecidableEq Engn] [Inhabited Engn] [DecidableEq LoggR] [Inhabited LoggR] [DecidableEq RecsR] [Inhabited RecsR] [DecidableEq Leg] [Inhabited Leg] [DecidableEq EngR] [Inhabited EngR]
set_option linter.unusedVariables false
set_option linter.unusedSimpArgs false

theorem cntTo_max {α : Type} [Inhabited α] {f : α → Nat} {M : Nat} : ∀ (k : Nat) (xs : List α), (∀ i, i < xs.length → f (xs.getD i default) ≤ M) → cntTo f k xs ≤ k * M
  | 0, _, _ => by simp [cntTo]
  | k + 1, [], _ => by simp [cntTo]
  | k + 1, x :: xs, h => by
    have h0 := h 0 (by simp)
    have ih := cntTo_max k xs (fun i hi => by have := h (i + 1) (by simpa using hi); simpa [List.getD] using this)
    simp only [List.getD, List.getElem?_cons_zero, Option.getD_some] at h0
    show f x + cntTo f k xs ≤ _
    rw [Nat.succ_mul]
    omega
theorem wt_tab {xs : List Rw} (h : tabF xs = 0) : wtRows xs ≤ 24200 := by
  have h1 := wt_small (tab_small h)
  have h2 := (tabF_all h).1
  omega
theorem wt_tabs {xss : List (List Rw)} {n : Nat} (hn : xss.length ≤ n) (h : ∀ i, i < xss.length → tabF (xss.getD i default) = 0) : wtRowss xss ≤ n * 24201 := by
  have h1 := cntTo_max (f := wtRows) (M := 24200) xss.length xss (fun i hi => wt_tab (h i hi))
  unfold wtRowss wtL
  have h2 : xss.length * 24200 ≤ n * 24200 := Nat.mul_le_mul_right _ hn
  omega
theorem wt_log {d : Logg} (h : logF d = 0) : wtLogg d ≤ 6000 := by
  have := logF_small h
  unfold wtLogg wtBytes
  omega
theorem codeE_le (c : Int) : wtEngR (codeE c) = 0 := rfl
end Go.Proofs.YtdfapehonegeeaaGreat

