/-
  Log. (Written by program: nest.py.)
-/
import Derived.Test.YtdfapehonegeeaaUBytes
import Derived.Test.YtdfapehonegeeaaSep
namespace Go.Proofs.Ytdfapehonegeeaa
open Go.RowKit
set_option linter.unusedSectionVars false
attribute [local go_sem ↓] Go.wp_at_zero Go.wp_at_succ

set_option linter.unusedSimpArgs false

structure Logg where
  synced : List Byte
  loose : List Byte

variable [DecidableEq Logg] [Inhabited Logg]

def loggR : Rep Logg where
  V := fun w v x => ∃ u1 u2, v = .agg #[u1, u2] ∧ bytesR.V w u1 x.synced ∧ bytesR.V w u2 x.loose
  O := fun w base F v x => ∃ u1 u2 F1 F2, v = .agg #[u1, u2] ∧ bytesR.O w base F1 u1 x.synced ∧ bytesR.O w base F2 u2 x.loose ∧ (∀ b, F1 b → ¬ F2 b) ∧ (∀ b, F b ↔ (F1 b ∨ F2 b))
  below := fun h hb => by
    obtain ⟨u1, u2, rfl, h1, h2⟩ := h
    exact ⟨u1, u2, rfl, bytesR.below h1 hb, bytesR.below h2 hb⟩
  ofO := fun h => by
    obtain ⟨u1, u2, F1, F2, rfl, h1, h2, _⟩ := h
    exact ⟨u1, u2, rfl, bytesR.ofO h1, bytesR.ofO h2⟩
  mod := fun h hm hd => by
    obtain ⟨u1, u2, F1, F2, rfl, h1, h2, s12, hF⟩ := h
    exact ⟨u1, u2, F1, F2, rfl, bytesR.mod h1 hm (fun b hb => hd b ((hF b).2 (.inl hb))), bytesR.mod h2 hm (fun b hb => hd b ((hF b).2 (.inr hb))), s12, hF⟩
  rng := fun h b hb => by
    obtain ⟨u1, u2, F1, F2, rfl, h1, h2, s12, hF⟩ := h
    rcases (hF b).1 hb with hb | hb
    · exact bytesR.rng h1 b hb
    · exact bytesR.rng h2 b hb
  base := fun h hb => by
    obtain ⟨u1, u2, F1, F2, rfl, h1, h2, s12, hF⟩ := h
    exact ⟨u1, u2, F1, F2, rfl, bytesR.base h1 hb, bytesR.base h2 hb, s12, hF⟩

def wtLogg (x : Logg) : Nat := wtBytes x.synced + wtBytes x.loose
def cntLogg (x : Logg) : Nat := cntBytes x.synced + cntBytes x.loose
def mkLogg (k : Int) (x : Logg) : Logg := { x with synced := mkBytes k x.synced, loose := mkBytes (k + cntBytes x.synced) x.loose }
def lvLogg (v : Value) : List Value := match v with | .agg a => one (a.getD 0 (.int .i64 0)) ++ one (a.getD 1 (.int .i64 0)) | _ => []
def cntElLogg (x : Logg) : Nat := cntBytes x.synced + cntBytes x.loose
def mkElLogg (k : Int) (x : Logg) : Logg := { synced := mkBytes (k) x.synced, loose := mkBytes (k + cntBytes x.synced) x.loose }

theorem logg_form {w : World} {v : Value} {x : Logg} (h : loggR.V w v x) : ∃ a1 a2 c1 c2, v = .agg #[.slice a1 x.synced.length c1, .slice a2 x.loose.length c2] := by
  obtain ⟨u1, u2, rfl, h1, h2⟩ := h
  obtain ⟨a1, c1, rfl⟩ := bytes_form h1
  obtain ⟨a2, c2, rfl⟩ := bytes_form h2
  exact ⟨_, _, _, _, rfl⟩
theorem logg_cnt (d : Logg) : cntLogg d ≤ 1 * wtLogg d := by
  unfold cntLogg wtLogg
  have q1 := bytes_cnt d.synced
  have q2 := bytes_cnt d.loose
  omega
theorem logg_cntEl (d : Logg) : cntElLogg d ≤ 1 * (1 + wtLogg d) := by
  unfold cntElLogg wtLogg
  have q1 := bytes_cnt d.synced
  have q2 := bytes_cnt d.loose
  omega

set_option maxHeartbeats 1000000 in
theorem eqLog_u (x y : Value) (d d' : Logg) (w : World) (hx : loggR.V w x d) (hy : loggR.V w y d') :
    Calls Try.prog 119 #[x, y] w fun e w' => e = .returned (.bool (decide (d = d'))) ∧ Below w.heap.size w w' := by
  obtain ⟨u1, u2, rfl, h1, h2⟩ := hx
  obtain ⟨v1, v2, rfl, k1, k2⟩ := hy
  obtain ⟨synced, loose⟩ := d
  obtain ⟨synced', loose'⟩ := d'
  dsimp only at h1 k1 h2 k2
  go_enter Try.func119, Try.ntmps119
  go_wp2_with fail
  all_goals try (go_ret; exact ⟨by simp_all, by (repeat (first | exact Below.refl _ _ | assumption | refine Below.drew ?_ | refine balloc ?_ _ | refine bset ?_ (by simp; omega) _ | refine bset ?_ (by simp) _ | refine bstep ?_ (by assumption)))⟩)
  refine (eqByteS_u _ _ synced synced' _ (bytesR.below h1 (by (repeat (first | exact Below.refl _ _ | assumption | refine Below.drew ?_ | refine balloc ?_ _ | refine bset ?_ (by simp; omega) _ | refine bset ?_ (by simp) _ | refine bstep ?_ (by assumption))))) (bytesR.below k1 (by (repeat (first | exact Below.refl _ _ | assumption | refine Below.drew ?_ | refine balloc ?_ _ | refine bset ?_ (by simp; omega) _ | refine bset ?_ (by simp) _ | refine bstep ?_ (by assumption)))))).mono ?_
  rintro e w1 ⟨rfl, b1⟩
  have x0 : w1.cell? ⟨w.heap.size, 0, none⟩ = some (u1) := cell_keep b1 (by simp [go_sem])
  have x1 : w1.cell? ⟨w.heap.size, 1, none⟩ = some (u2) := cell_keep b1 (by simp [go_sem])
  have y0 : w1.cell? ⟨w.heap.size + 1, 0, none⟩ = some (v1) := cell_keep b1 (by simp [go_sem])
  have y1 : w1.cell? ⟨w.heap.size + 1, 1, none⟩ = some (v2) := cell_keep b1 (by simp [go_sem])
  go_wp2_with fail
  all_goals try (go_ret; exact ⟨by simp_all, by (repeat (first | exact Below.refl _ _ | assumption | refine Below.drew ?_ | refine balloc ?_ _ | refine bset ?_ (by simp; omega) _ | refine bset ?_ (by simp) _ | refine bstep ?_ (by assumption)))⟩)
  refine (eqByteS_u _ _ loose loose' _ (bytesR.below h2 (by (repeat (first | exact Below.refl _ _ | assumption | refine Below.drew ?_ | refine balloc ?_ _ | refine bset ?_ (by simp; omega) _ | refine bset ?_ (by simp) _ | refine bstep ?_ (by assumption))))) (bytesR.below k2 (by (repeat (first | exact Below.refl _ _ | assumption | refine Below.drew ?_ | refine balloc ?_ _ | refine bset ?_ (by simp; omega) _ | refine bset ?_ (by simp) _ | refine bstep ?_ (by assumption)))))).mono ?_
  rintro e w2 ⟨rfl, b2⟩
  go_wp2
  all_goals
    go_ret
    exact ⟨by simp_all, by (repeat (first | exact Below.refl _ _ | assumption | refine Below.drew ?_ | refine balloc ?_ _ | refine bset ?_ (by simp; omega) _ | refine bset ?_ (by simp) _ | refine bstep ?_ (by assumption)))⟩

set_option maxHeartbeats 1000000 in
theorem markLog_u (v : Value) (d : Logg) (base : Nat) (F : Nat → Prop) (k : Int) (w : World) (ho : loggR.O w base F v d) (hw : wtLogg d ≤ 1048576) (hn : k + cntLogg d ≤ 1073741824) (hk0 : 0 ≤ k) :
    Calls Try.prog 120 #[v, .int .i64 k] w fun r w' => r = .returned (.int .i64 (k + cntLogg d)) ∧ loggR.O w' base F v (mkLogg k d) ∧ Mod F w w' := by
  obtain ⟨u1, u2, F1, F2, rfl, h1, h2, s12, hF⟩ := ho
  unfold wtLogg at hw
  unfold cntLogg at hn ⊢
  have HF : Hid (∀ b, F b ↔ (F1 b ∨ F2 b)) := hF
  clear hF
  go_enter Try.func120, Try.ntmps120
  go_wp2_with fail
  refine (markByteS_u _ d.synced base F1 k _ (bytesR.alloc h1 _) (by omega) (by omega) (by omega)).mono ?_
  rintro e w1 ⟨rfl, r1, m1⟩
  have h2' := bytesR.mod (bytesR.alloc h2 _) m1 (fun b p q => s12 b q p)
  have x0 : w1.cell? ⟨w.heap.size, 0, none⟩ = some (u1) := m1.cell (by simp [go_sem]) (fun hf => by have := bytesR.rng h1 _ hf; dsimp only at this; omega)
  have x1 : w1.cell? ⟨w.heap.size, 1, none⟩ = some (u2) := m1.cell (by simp [go_sem]) (fun hf => by have := bytesR.rng h1 _ hf; dsimp only at this; omega)
  go_wp2_with fail
  refine (markByteS_u _ d.loose base F2 (k + cntBytes d.synced) _ h2' (by omega) (by omega) (by omega)).mono ?_
  rintro e w2 ⟨rfl, r2, m2⟩
  replace r1 := bytesR.mod r1 m2 (fun b p q => s12 b p q)
  go_wp2
  go_ret
  refine ⟨?_, ⟨_, _, F1, F2, rfl, r1, r2, s12, HF.out⟩, (((Mod.refl F w).alloc _).trans (m1.mono (fun b hb => (HF.out b).2 (.inl hb)))).trans (m2.mono (fun b hb => (HF.out b).2 (.inr hb)))⟩
  simp
  try omega

set_option maxHeartbeats 1000000 in
theorem heldLog_u (v : Value) (d : Logg) (k : Int) (w : World) (hv : loggR.V w v (mkLogg k d)) (hw : wtLogg d ≤ 1048576) (hn : k + cntLogg d ≤ 1073741824) (hk0 : 0 ≤ k) :
    Calls Try.prog 121 #[v, .int .i64 k] w fun r w' => r = .returned (.int .i64 (k + cntLogg d)) ∧ Below w.heap.size w w' := by
  obtain ⟨u1, u2, rfl, h1, h2⟩ := hv
  unfold wtLogg at hw
  unfold cntLogg at hn ⊢
  go_enter Try.func121, Try.ntmps121
  go_wp2_with fail
  refine (heldByteS_u _ d.synced k _ (bytesR.below h1 (by (repeat (first | exact Below.refl _ _ | assumption | refine Below.drew ?_ | refine balloc ?_ _ | refine bset ?_ (by simp; omega) _ | refine bset ?_ (by simp) _ | refine bstep ?_ (by assumption))))) (by omega) (by omega) (by omega)).mono ?_
  rintro e w1 ⟨rfl, b1⟩
  have x0 : w1.cell? ⟨w.heap.size, 0, none⟩ = some (u1) := cell_keep b1 (by simp [go_sem])
  have x1 : w1.cell? ⟨w.heap.size, 1, none⟩ = some (u2) := cell_keep b1 (by simp [go_sem])
  go_wp2_with fail
  refine (heldByteS_u _ d.loose (k + cntBytes d.synced) _ (bytesR.below h2 (by (repeat (first | exact Below.refl _ _ | assumption | refine Below.drew ?_ | refine balloc ?_ _ | refine bset ?_ (by simp; omega) _ | refine bset ?_ (by simp) _ | refine bstep ?_ (by assumption))))) (by omega) (by omega) (by omega)).mono ?_
  rintro e w2 ⟨rfl, b2⟩
  go_wp2
  go_ret
  refine ⟨?_, by (repeat (first | exact Below.refl _ _ | assumption | refine Below.drew ?_ | refine balloc ?_ _ | refine bset ?_ (by simp; omega) _ | refine bset ?_ (by simp) _ | refine bstep ?_ (by assumption)))⟩
  simp
  try omega

end Go.Proofs.Ytdfapehonegeeaa
