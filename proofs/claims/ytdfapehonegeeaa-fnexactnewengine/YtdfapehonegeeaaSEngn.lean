/-
  Engine. (Written by program: nest.py.)
-/
import Derived.Test.YtdfapehonegeeaaSLogg
import Derived.Test.YtdfapehonegeeaaTabN
import Derived.Test.YtdfapehonegeeaaNRowss
import Derived.Test.YtdfapehonegeeaaSep
namespace Go.Proofs.Ytdfapehonegeeaa
open Go.RowKit
set_option linter.unusedSectionVars false
variable [DecidableEq Logg] [Inhabited Logg] [DecidableEq Rw] [Inhabited Rw]
attribute [local go_sem ↓] Go.wp_at_zero Go.wp_at_succ

set_option linter.unusedSimpArgs false

structure Engn where
  log : Logg
  mem : List Rw
  tables : List (List Rw)
  next : Int

variable [DecidableEq Engn] [Inhabited Engn]

def engnR : Rep Engn where
  V := fun w v x => ∃ u1_1 u1_2 u2 u3, v = .agg #[u1_1, u1_2, u2, u3, .int .i64 x.next] ∧ loggR.V w (.agg #[u1_1, u1_2]) x.log ∧ rowsR.V w u2 x.mem ∧ rowssR.V w u3 x.tables
  O := fun w base F v x => ∃ u1_1 u1_2 u2 u3 F1 F2 F3, v = .agg #[u1_1, u1_2, u2, u3, .int .i64 x.next] ∧ loggR.O w base F1 (.agg #[u1_1, u1_2]) x.log ∧ rowsR.O w base F2 u2 x.mem ∧ rowssR.O w base F3 u3 x.tables ∧ (∀ b, F1 b → ¬ F2 b) ∧ (∀ b, F1 b → ¬ F3 b) ∧ (∀ b, F2 b → ¬ F3 b) ∧ (∀ b, F b ↔ (F1 b ∨ F2 b ∨ F3 b))
  below := fun h hb => by
    obtain ⟨u1_1, u1_2, u2, u3, rfl, h1, h2, h3⟩ := h
    exact ⟨u1_1, u1_2, u2, u3, rfl, loggR.below h1 hb, rowsR.below h2 hb, rowssR.below h3 hb⟩
  ofO := fun h => by
    obtain ⟨u1_1, u1_2, u2, u3, F1, F2, F3, rfl, h1, h2, h3, _⟩ := h
    exact ⟨u1_1, u1_2, u2, u3, rfl, loggR.ofO h1, rowsR.ofO h2, rowssR.ofO h3⟩
  mod := fun h hm hd => by
    obtain ⟨u1_1, u1_2, u2, u3, F1, F2, F3, rfl, h1, h2, h3, s12, s13, s23, hF⟩ := h
    exact ⟨u1_1, u1_2, u2, u3, F1, F2, F3, rfl, loggR.mod h1 hm (fun b hb => hd b ((hF b).2 (.inl hb))), rowsR.mod h2 hm (fun b hb => hd b ((hF b).2 (.inr (.inl hb)))), rowssR.mod h3 hm (fun b hb => hd b ((hF b).2 (.inr (.inr hb)))), s12, s13, s23, hF⟩
  rng := fun h b hb => by
    obtain ⟨u1_1, u1_2, u2, u3, F1, F2, F3, rfl, h1, h2, h3, s12, s13, s23, hF⟩ := h
    rcases (hF b).1 hb with hb | hb | hb
    · exact loggR.rng h1 b hb
    · exact rowsR.rng h2 b hb
    · exact rowssR.rng h3 b hb
  base := fun h hb => by
    obtain ⟨u1_1, u1_2, u2, u3, F1, F2, F3, rfl, h1, h2, h3, s12, s13, s23, hF⟩ := h
    exact ⟨u1_1, u1_2, u2, u3, F1, F2, F3, rfl, loggR.base h1 hb, rowsR.base h2 hb, rowssR.base h3 hb, s12, s13, s23, hF⟩

def wtEngn (x : Engn) : Nat := wtLogg x.log + wtRows x.mem + wtRowss x.tables
def cntEngn (x : Engn) : Nat := cntLogg x.log + cntRows x.mem + cntRowss x.tables
def mkEngn (k : Int) (x : Engn) : Engn := { x with log := mkLogg k x.log, mem := mkRows (k + cntLogg x.log) x.mem, tables := mkRowss (k + cntLogg x.log + cntRows x.mem) x.tables }
def lvEngn (v : Value) : List Value := match v with | .agg a => one (a.getD 0 (.int .i64 0)) ++ one (a.getD 1 (.int .i64 0)) ++ one (a.getD 2 (.int .i64 0)) ++ one (a.getD 3 (.int .i64 0)) ++ one (a.getD 4 (.int .i64 0)) | _ => []
def cntElEngn (x : Engn) : Nat := cntElLogg x.log + cntRows x.mem + cntRowss x.tables + 1
def mkElEngn (k : Int) (x : Engn) : Engn := { log := mkElLogg (k) x.log, mem := mkRows (k + cntElLogg x.log) x.mem, tables := mkRowss (k + cntElLogg x.log + cntRows x.mem) x.tables, next := k + cntElLogg x.log + cntRows x.mem + cntRowss x.tables }

theorem engn_form {w : World} {v : Value} {x : Engn} (h : engnR.V w v x) : ∃ a1_1 a1_2 a2 a3 c1_1 c1_2 c2 c3, v = .agg #[.slice a1_1 x.log.synced.length c1_1, .slice a1_2 x.log.loose.length c1_2, .slice a2 x.mem.length c2, .slice a3 x.tables.length c3, .int .i64 x.next] := by
  obtain ⟨u1_1, u1_2, u2, u3, rfl, h1, h2, h3⟩ := h
  obtain ⟨a1_1, a1_2, c1_1, c1_2, e1⟩ := logg_form h1
  simp only [Value.agg.injEq, Array.mk.injEq, List.cons.injEq, and_true] at e1
  obtain ⟨rfl, rfl⟩ := e1
  obtain ⟨a2, c2, rfl⟩ := rows_form h2
  obtain ⟨a3, c3, rfl⟩ := rowss_form h3
  exact ⟨_, _, _, _, _, _, _, _, rfl⟩
theorem engn_cnt (d : Engn) : cntEngn d ≤ 4 * wtEngn d := by
  unfold cntEngn wtEngn
  have q1 := logg_cnt d.log
  have q2 := rows_cnt d.mem
  have q3 := rowss_cnt d.tables
  omega
theorem engn_cntEl (d : Engn) : cntElEngn d ≤ 6 * (1 + wtEngn d) := by
  unfold cntElEngn wtEngn
  have q1 := logg_cntEl d.log
  have q2 := rows_cnt d.mem
  have q3 := rowss_cnt d.tables
  omega

set_option maxHeartbeats 1000000 in
theorem eqEngine_u (x y : Value) (d d' : Engn) (w : World) (hx : engnR.V w x d) (hy : engnR.V w y d') :
    Calls Try.prog 89 #[x, y] w fun e w' => e = .returned (.bool (decide (d = d'))) ∧ Below w.heap.size w w' := by
  obtain ⟨u1_1, u1_2, u2, u3, rfl, h1, h2, h3⟩ := hx
  obtain ⟨v1_1, v1_2, v2, v3, rfl, k1, k2, k3⟩ := hy
  obtain ⟨log, mem, tables, next⟩ := d
  obtain ⟨log', mem', tables', next'⟩ := d'
  dsimp only at h1 k1 h2 k2 h3 k3
  go_enter Try.func89, Try.ntmps89
  go_wp2_with fail
  all_goals try (go_ret; exact ⟨by simp_all, by (repeat (first | exact Below.refl _ _ | assumption | refine Below.drew ?_ | refine balloc ?_ _ | refine bset ?_ (by simp; omega) _ | refine bset ?_ (by simp) _ | refine bstep ?_ (by assumption)))⟩)
  refine (eqLog_u _ _ log log' _ (loggR.below h1 (by (repeat (first | exact Below.refl _ _ | assumption | refine Below.drew ?_ | refine balloc ?_ _ | refine bset ?_ (by simp; omega) _ | refine bset ?_ (by simp) _ | refine bstep ?_ (by assumption))))) (loggR.below k1 (by (repeat (first | exact Below.refl _ _ | assumption | refine Below.drew ?_ | refine balloc ?_ _ | refine bset ?_ (by simp; omega) _ | refine bset ?_ (by simp) _ | refine bstep ?_ (by assumption)))))).mono ?_
  rintro e w1 ⟨rfl, b1⟩
  have x0 : w1.cell? ⟨w.heap.size, 0, none⟩ = some (u1_1) := cell_keep b1 (by simp [go_sem])
  have x1 : w1.cell? ⟨w.heap.size, 1, none⟩ = some (u1_2) := cell_keep b1 (by simp [go_sem])
  have x2 : w1.cell? ⟨w.heap.size, 2, none⟩ = some (u2) := cell_keep b1 (by simp [go_sem])
  have x3 : w1.cell? ⟨w.heap.size, 3, none⟩ = some (u3) := cell_keep b1 (by simp [go_sem])
  have x4 : w1.cell? ⟨w.heap.size, 4, none⟩ = some (.int .i64 next) := cell_keep b1 (by simp [go_sem])
  have y0 : w1.cell? ⟨w.heap.size + 1, 0, none⟩ = some (v1_1) := cell_keep b1 (by simp [go_sem])
  have y1 : w1.cell? ⟨w.heap.size + 1, 1, none⟩ = some (v1_2) := cell_keep b1 (by simp [go_sem])
  have y2 : w1.cell? ⟨w.heap.size + 1, 2, none⟩ = some (v2) := cell_keep b1 (by simp [go_sem])
  have y3 : w1.cell? ⟨w.heap.size + 1, 3, none⟩ = some (v3) := cell_keep b1 (by simp [go_sem])
  have y4 : w1.cell? ⟨w.heap.size + 1, 4, none⟩ = some (.int .i64 next') := cell_keep b1 (by simp [go_sem])
  go_wp2_with fail
  all_goals try (go_ret; exact ⟨by simp_all, by (repeat (first | exact Below.refl _ _ | assumption | refine Below.drew ?_ | refine balloc ?_ _ | refine bset ?_ (by simp; omega) _ | refine bset ?_ (by simp) _ | refine bstep ?_ (by assumption)))⟩)
  refine (eqRowS_u _ _ mem mem' _ (rowsR.below h2 (by (repeat (first | exact Below.refl _ _ | assumption | refine Below.drew ?_ | refine balloc ?_ _ | refine bset ?_ (by simp; omega) _ | refine bset ?_ (by simp) _ | refine bstep ?_ (by assumption))))) (rowsR.below k2 (by (repeat (first | exact Below.refl _ _ | assumption | refine Below.drew ?_ | refine balloc ?_ _ | refine bset ?_ (by simp; omega) _ | refine bset ?_ (by simp) _ | refine bstep ?_ (by assumption)))))).mono ?_
  rintro e w2 ⟨rfl, b2⟩
  replace x0 : w2.cell? ⟨w.heap.size, 0, none⟩ = some (u1_1) := cell_keep b2 x0
  replace x1 : w2.cell? ⟨w.heap.size, 1, none⟩ = some (u1_2) := cell_keep b2 x1
  replace x2 : w2.cell? ⟨w.heap.size, 2, none⟩ = some (u2) := cell_keep b2 x2
  replace x3 : w2.cell? ⟨w.heap.size, 3, none⟩ = some (u3) := cell_keep b2 x3
  replace x4 : w2.cell? ⟨w.heap.size, 4, none⟩ = some (.int .i64 next) := cell_keep b2 x4
  replace y0 : w2.cell? ⟨w.heap.size + 1, 0, none⟩ = some (v1_1) := cell_keep b2 y0
  replace y1 : w2.cell? ⟨w.heap.size + 1, 1, none⟩ = some (v1_2) := cell_keep b2 y1
  replace y2 : w2.cell? ⟨w.heap.size + 1, 2, none⟩ = some (v2) := cell_keep b2 y2
  replace y3 : w2.cell? ⟨w.heap.size + 1, 3, none⟩ = some (v3) := cell_keep b2 y3
  replace y4 : w2.cell? ⟨w.heap.size + 1, 4, none⟩ = some (.int .i64 next') := cell_keep b2 y4
  go_wp2_with fail
  all_goals try (go_ret; exact ⟨by simp_all, by (repeat (first | exact Below.refl _ _ | assumption | refine Below.drew ?_ | refine balloc ?_ _ | refine bset ?_ (by simp; omega) _ | refine bset ?_ (by simp) _ | refine bstep ?_ (by assumption)))⟩)
  refine (eqRowSS_u _ _ tables tables' _ (rowssR.below h3 (by (repeat (first | exact Below.refl _ _ | assumption | refine Below.drew ?_ | refine balloc ?_ _ | refine bset ?_ (by simp; omega) _ | refine bset ?_ (by simp) _ | refine bstep ?_ (by assumption))))) (rowssR.below k3 (by (repeat (first | exact Below.refl _ _ | assumption | refine Below.drew ?_ | refine balloc ?_ _ | refine bset ?_ (by simp; omega) _ | refine bset ?_ (by simp) _ | refine bstep ?_ (by assumption)))))).mono ?_
  rintro e w3 ⟨rfl, b3⟩
  replace x0 : w3.cell? ⟨w.heap.size, 0, none⟩ = some (u1_1) := cell_keep b3 x0
  replace x1 : w3.cell? ⟨w.heap.size, 1, none⟩ = some (u1_2) := cell_keep b3 x1
  replace x2 : w3.cell? ⟨w.heap.size, 2, none⟩ = some (u2) := cell_keep b3 x2
  replace x3 : w3.cell? ⟨w.heap.size, 3, none⟩ = some (u3) := cell_keep b3 x3
  replace x4 : w3.cell? ⟨w.heap.size, 4, none⟩ = some (.int .i64 next) := cell_keep b3 x4
  replace y0 : w3.cell? ⟨w.heap.size + 1, 0, none⟩ = some (v1_1) := cell_keep b3 y0
  replace y1 : w3.cell? ⟨w.heap.size + 1, 1, none⟩ = some (v1_2) := cell_keep b3 y1
  replace y2 : w3.cell? ⟨w.heap.size + 1, 2, none⟩ = some (v2) := cell_keep b3 y2
  replace y3 : w3.cell? ⟨w.heap.size + 1, 3, none⟩ = some (v3) := cell_keep b3 y3
  replace y4 : w3.cell? ⟨w.heap.size + 1, 4, none⟩ = some (.int .i64 next') := cell_keep b3 y4
  go_wp2
  all_goals
    go_ret
    exact ⟨by simp_all, by (repeat (first | exact Below.refl _ _ | assumption | refine Below.drew ?_ | refine balloc ?_ _ | refine bset ?_ (by simp; omega) _ | refine bset ?_ (by simp) _ | refine bstep ?_ (by assumption)))⟩

set_option maxHeartbeats 1000000 in
theorem markEngine_u (v : Value) (d : Engn) (base : Nat) (F : Nat → Prop) (k : Int) (w : World) (ho : engnR.O w base F v d) (hw : wtEngn d ≤ 1048576) (hn : k + cntEngn d ≤ 1073741824) (hk0 : 0 ≤ k) :
    Calls Try.prog 90 #[v, .int .i64 k] w fun r w' => r = .returned (.int .i64 (k + cntEngn d)) ∧ engnR.O w' base F v (mkEngn k d) ∧ Mod F w w' := by
  obtain ⟨u1_1, u1_2, u2, u3, F1, F2, F3, rfl, h1, h2, h3, s12, s13, s23, hF⟩ := ho
  unfold wtEngn at hw
  unfold cntEngn at hn ⊢
  have HF : Hid (∀ b, F b ↔ (F1 b ∨ F2 b ∨ F3 b)) := hF
  clear hF
  go_enter Try.func90, Try.ntmps90
  go_wp2_with fail
  refine (markLog_u _ d.log base F1 k _ (loggR.alloc h1 _) (by omega) (by omega) (by omega)).mono ?_
  rintro e w1 ⟨rfl, r1, m1⟩
  have h2' := rowsR.mod (rowsR.alloc h2 _) m1 (fun b p q => s12 b q p)
  have h3' := rowssR.mod (rowssR.alloc h3 _) m1 (fun b p q => s13 b q p)
  have x0 : w1.cell? ⟨w.heap.size, 0, none⟩ = some (u1_1) := m1.cell (by simp [go_sem]) (fun hf => by have := loggR.rng h1 _ hf; dsimp only at this; omega)
  have x1 : w1.cell? ⟨w.heap.size, 1, none⟩ = some (u1_2) := m1.cell (by simp [go_sem]) (fun hf => by have := loggR.rng h1 _ hf; dsimp only at this; omega)
  have x2 : w1.cell? ⟨w.heap.size, 2, none⟩ = some (u2) := m1.cell (by simp [go_sem]) (fun hf => by have := loggR.rng h1 _ hf; dsimp only at this; omega)
  have x3 : w1.cell? ⟨w.heap.size, 3, none⟩ = some (u3) := m1.cell (by simp [go_sem]) (fun hf => by have := loggR.rng h1 _ hf; dsimp only at this; omega)
  have x4 : w1.cell? ⟨w.heap.size, 4, none⟩ = some (.int .i64 d.next) := m1.cell (by simp [go_sem]) (fun hf => by have := loggR.rng h1 _ hf; dsimp only at this; omega)
  go_wp2_with fail
  refine (markRowS_u _ d.mem base F2 (k + cntLogg d.log) _ h2' (by omega) (by omega) (by omega)).mono ?_
  rintro e w2 ⟨rfl, r2, m2⟩
  have h3'' := rowssR.mod h3' m2 (fun b p q => s23 b q p)
  replace x0 : w2.cell? ⟨w.heap.size, 0, none⟩ = some (u1_1) := m2.cell x0 (fun hf => by have := rowsR.rng h2 _ hf; dsimp only at this; omega)
  replace x1 : w2.cell? ⟨w.heap.size, 1, none⟩ = some (u1_2) := m2.cell x1 (fun hf => by have := rowsR.rng h2 _ hf; dsimp only at this; omega)
  replace x2 : w2.cell? ⟨w.heap.size, 2, none⟩ = some (u2) := m2.cell x2 (fun hf => by have := rowsR.rng h2 _ hf; dsimp only at this; omega)
  replace x3 : w2.cell? ⟨w.heap.size, 3, none⟩ = some (u3) := m2.cell x3 (fun hf => by have := rowsR.rng h2 _ hf; dsimp only at this; omega)
  replace x4 : w2.cell? ⟨w.heap.size, 4, none⟩ = some (.int .i64 d.next) := m2.cell x4 (fun hf => by have := rowsR.rng h2 _ hf; dsimp only at this; omega)
  replace r1 := loggR.mod r1 m2 (fun b p q => s12 b p q)
  go_wp2_with fail
  refine (markRowSS_u _ d.tables base F3 (k + cntLogg d.log + cntRows d.mem) _ h3'' (by omega) (by omega) (by omega)).mono ?_
  rintro e w3 ⟨rfl, r3, m3⟩
  replace r1 := loggR.mod r1 m3 (fun b p q => s13 b p q)
  replace r2 := rowsR.mod r2 m3 (fun b p q => s23 b p q)
  go_wp2
  go_ret
  refine ⟨?_, ⟨_, _, _, _, F1, F2, F3, rfl, r1, r2, r3, s12, s13, s23, HF.out⟩, ((((Mod.refl F w).alloc _).trans (m1.mono (fun b hb => (HF.out b).2 (.inl hb)))).trans (m2.mono (fun b hb => (HF.out b).2 (.inr (.inl hb))))).trans (m3.mono (fun b hb => (HF.out b).2 (.inr (.inr hb))))⟩
  simp
  try omega

set_option maxHeartbeats 1000000 in
theorem heldEngine_u (v : Value) (d : Engn) (k : Int) (w : World) (hv : engnR.V w v (mkEngn k d)) (hw : wtEngn d ≤ 1048576) (hn : k + cntEngn d ≤ 1073741824) (hk0 : 0 ≤ k) :
    Calls Try.prog 91 #[v, .int .i64 k] w fun r w' => r = .returned (.int .i64 (k + cntEngn d)) ∧ Below w.heap.size w w' := by
  obtain ⟨u1_1, u1_2, u2, u3, rfl, h1, h2, h3⟩ := hv
  unfold wtEngn at hw
  unfold cntEngn at hn ⊢
  go_enter Try.func91, Try.ntmps91
  go_wp2_with fail
  refine (heldLog_u _ d.log k _ (loggR.below h1 (by (repeat (first | exact Below.refl _ _ | assumption | refine Below.drew ?_ | refine balloc ?_ _ | refine bset ?_ (by simp; omega) _ | refine bset ?_ (by simp) _ | refine bstep ?_ (by assumption))))) (by omega) (by omega) (by omega)).mono ?_
  rintro e w1 ⟨rfl, b1⟩
  have x0 : w1.cell? ⟨w.heap.size, 0, none⟩ = some (u1_1) := cell_keep b1 (by simp [go_sem, mkEngn])
  have x1 : w1.cell? ⟨w.heap.size, 1, none⟩ = some (u1_2) := cell_keep b1 (by simp [go_sem, mkEngn])
  have x2 : w1.cell? ⟨w.heap.size, 2, none⟩ = some (u2) := cell_keep b1 (by simp [go_sem, mkEngn])
  have x3 : w1.cell? ⟨w.heap.size, 3, none⟩ = some (u3) := cell_keep b1 (by simp [go_sem, mkEngn])
  have x4 : w1.cell? ⟨w.heap.size, 4, none⟩ = some (.int .i64 d.next) := cell_keep b1 (by simp [go_sem, mkEngn])
  go_wp2_with fail
  refine (heldRowS_u _ d.mem (k + cntLogg d.log) _ (rowsR.below h2 (by (repeat (first | exact Below.refl _ _ | assumption | refine Below.drew ?_ | refine balloc ?_ _ | refine bset ?_ (by simp; omega) _ | refine bset ?_ (by simp) _ | refine bstep ?_ (by assumption))))) (by omega) (by omega) (by omega)).mono ?_
  rintro e w2 ⟨rfl, b2⟩
  replace x0 : w2.cell? ⟨w.heap.size, 0, none⟩ = some (u1_1) := cell_keep b2 x0
  replace x1 : w2.cell? ⟨w.heap.size, 1, none⟩ = some (u1_2) := cell_keep b2 x1
  replace x2 : w2.cell? ⟨w.heap.size, 2, none⟩ = some (u2) := cell_keep b2 x2
  replace x3 : w2.cell? ⟨w.heap.size, 3, none⟩ = some (u3) := cell_keep b2 x3
  replace x4 : w2.cell? ⟨w.heap.size, 4, none⟩ = some (.int .i64 d.next) := cell_keep b2 x4
  go_wp2_with fail
  refine (heldRowSS_u _ d.tables (k + cntLogg d.log + cntRows d.mem) _ (rowssR.below h3 (by (repeat (first | exact Below.refl _ _ | assumption | refine Below.drew ?_ | refine balloc ?_ _ | refine bset ?_ (by simp; omega) _ | refine bset ?_ (by simp) _ | refine bstep ?_ (by assumption))))) (by omega) (by omega) (by omega)).mono ?_
  rintro e w3 ⟨rfl, b3⟩
  go_wp2
  go_ret
  refine ⟨?_, by (repeat (first | exact Below.refl _ _ | assumption | refine Below.drew ?_ | refine balloc ?_ _ | refine bset ?_ (by simp; omega) _ | refine bset ?_ (by simp) _ | refine bstep ?_ (by assumption)))⟩
  simp
  try omega

end Go.Proofs.Ytdfapehonegeeaa
