/-
  KeysResult. (Written by program: nest.py.)
-/
import Derived.Test.YtjhfdefgbloapaaTabS
import Derived.Test.YtjhfdefgbloapaaSep
namespace Go.Proofs.Ytjhfdefgbloapaa
open Go.RowKit
set_option linter.unusedSectionVars false
variable [DecidableEq Rw] [Inhabited Rw]
attribute [local go_sem ↓] Go.wp_at_zero Go.wp_at_succ

structure KeysR where
  code : Int
  keys : List ByteArray

variable [DecidableEq KeysR] [Inhabited KeysR]

def keysRR : Rep KeysR where
  V := fun w v x => ∃ u1, v = .agg #[.int .i64 x.code, u1] ∧ strsR.V w u1 x.keys
  O := fun w base F v x => ∃ u1 F1, v = .agg #[.int .i64 x.code, u1] ∧ strsR.O w base F1 u1 x.keys ∧ (∀ b, F b ↔ (F1 b))
  below := fun h hb => by
    obtain ⟨u1, rfl, h1⟩ := h
    exact ⟨u1, rfl, strsR.below h1 hb⟩
  ofO := fun h => by
    obtain ⟨u1, F1, rfl, h1, _⟩ := h
    exact ⟨u1, rfl, strsR.ofO h1⟩
  mod := fun h hm hd => by
    obtain ⟨u1, F1, rfl, h1, hF⟩ := h
    exact ⟨u1, F1, rfl, strsR.mod h1 hm (fun b hb => hd b ((hF b).2 hb)), hF⟩
  rng := fun h b hb => by
    obtain ⟨u1, F1, rfl, h1, hF⟩ := h
    rcases (hF b).1 hb with hb
    · exact strsR.rng h1 b hb
  base := fun h hb => by
    obtain ⟨u1, F1, rfl, h1, hF⟩ := h
    exact ⟨u1, F1, rfl, strsR.base h1 hb, hF⟩

def wtKeysR (x : KeysR) : Nat := wtStrs x.keys
def cntKeysR (x : KeysR) : Nat := cntStrs x.keys
def mkKeysR (k : Int) (x : KeysR) : KeysR := { x with keys := mkStrs k x.keys }
def lvKeysR (v : Value) : List Value := match v with | .agg a => one (a.getD 0 (.int .i64 0)) ++ one (a.getD 1 (.int .i64 0)) | _ => []
def cntElKeysR (x : KeysR) : Nat := 1 + cntStrs x.keys
def mkElKeysR (k : Int) (x : KeysR) : KeysR := { code := k, keys := mkStrs (k + 1) x.keys }

theorem keysR_form {w : World} {v : Value} {x : KeysR} (h : keysRR.V w v x) : ∃ a1 c1, v = .agg #[.int .i64 x.code, .slice a1 x.keys.length c1] := by
  obtain ⟨u1, rfl, h1⟩ := h
  obtain ⟨a1, c1, rfl⟩ := strs_form h1
  exact ⟨_, _, rfl⟩
theorem keysR_cnt (d : KeysR) : cntKeysR d ≤ 1 * wtKeysR d := by
  unfold cntKeysR wtKeysR
  have q1 := strs_cnt d.keys
  omega
theorem keysR_cntEl (d : KeysR) : cntElKeysR d ≤ 2 * (1 + wtKeysR d) := by
  unfold cntElKeysR wtKeysR
  have q1 := strs_cnt d.keys
  omega

set_option maxHeartbeats 1000000 in
theorem eqKeysResult_u (x y : Value) (d d' : KeysR) (w : World) (hx : keysRR.V w x d) (hy : keysRR.V w y d') :
    Calls Try.prog 38 #[x, y] w fun e w' => e = .returned (.bool (decide (d = d'))) ∧ Below w.heap.size w w' := by
  obtain ⟨u1, rfl, h1⟩ := hx
  obtain ⟨v1, rfl, k1⟩ := hy
  obtain ⟨code, keys⟩ := d
  obtain ⟨code', keys'⟩ := d'
  dsimp only at h1 k1
  go_enter Try.func38, Try.ntmps38
  go_wp2_with fail
  all_goals try (go_ret; exact ⟨by simp_all, by (repeat (first | exact Below.refl _ _ | assumption | refine Below.drew ?_ | refine balloc ?_ _ | refine bset ?_ (by simp; omega) _ | refine bset ?_ (by simp) _ | refine bstep ?_ (by assumption)))⟩)
  refine (eqStringS_u _ _ keys keys' _ (strsR.below h1 (by (repeat (first | exact Below.refl _ _ | assumption | refine Below.drew ?_ | refine balloc ?_ _ | refine bset ?_ (by simp; omega) _ | refine bset ?_ (by simp) _ | refine bstep ?_ (by assumption))))) (strsR.below k1 (by (repeat (first | exact Below.refl _ _ | assumption | refine Below.drew ?_ | refine balloc ?_ _ | refine bset ?_ (by simp; omega) _ | refine bset ?_ (by simp) _ | refine bstep ?_ (by assumption)))))).mono ?_
  rintro e w1 ⟨rfl, b1⟩
  go_wp2
  all_goals
    go_ret
    exact ⟨by simp_all, by (repeat (first | exact Below.refl _ _ | assumption | refine Below.drew ?_ | refine balloc ?_ _ | refine bset ?_ (by simp; omega) _ | refine bset ?_ (by simp) _ | refine bstep ?_ (by assumption)))⟩

set_option maxHeartbeats 1000000 in
theorem markKeysResult_u (v : Value) (d : KeysR) (base : Nat) (F : Nat → Prop) (k : Int) (w : World) (ho : keysRR.O w base F v d) (hw : wtKeysR d ≤ 1048576) (hn : k + cntKeysR d ≤ 1073741824) (hk0 : 0 ≤ k) :
    Calls Try.prog 39 #[v, .int .i64 k] w fun r w' => r = .returned (.int .i64 (k + cntKeysR d)) ∧ keysRR.O w' base F v (mkKeysR k d) ∧ Mod F w w' := by
  obtain ⟨u1, F1, rfl, h1, hF⟩ := ho
  unfold wtKeysR at hw
  unfold cntKeysR at hn ⊢
  have HF : Hid (∀ b, F b ↔ (F1 b)) := hF
  clear hF
  go_enter Try.func39, Try.ntmps39
  go_wp2_with fail
  refine (markStringS_u _ d.keys base F1 k _ (strsR.alloc h1 _) (by omega) (by omega) (by omega)).mono ?_
  rintro e w1 ⟨rfl, r1, m1⟩
  go_wp2
  go_ret
  refine ⟨?_, ⟨_, F1, rfl, r1, HF.out⟩, ((Mod.refl F w).alloc _).trans (m1.mono (fun b hb => (HF.out b).2 hb))⟩
  simp
  try omega

set_option maxHeartbeats 1000000 in
theorem heldKeysResult_u (v : Value) (d : KeysR) (k : Int) (w : World) (hv : keysRR.V w v (mkKeysR k d)) (hw : wtKeysR d ≤ 1048576) (hn : k + cntKeysR d ≤ 1073741824) (hk0 : 0 ≤ k) :
    Calls Try.prog 40 #[v, .int .i64 k] w fun r w' => r = .returned (.int .i64 (k + cntKeysR d)) ∧ Below w.heap.size w w' := by
  obtain ⟨u1, rfl, h1⟩ := hv
  unfold wtKeysR at hw
  unfold cntKeysR at hn ⊢
  go_enter Try.func40, Try.ntmps40
  go_wp2_with fail
  refine (heldStringS_u _ d.keys k _ (strsR.below h1 (by (repeat (first | exact Below.refl _ _ | assumption | refine Below.drew ?_ | refine balloc ?_ _ | refine bset ?_ (by simp; omega) _ | refine bset ?_ (by simp) _ | refine bstep ?_ (by assumption))))) (by omega) (by omega) (by omega)).mono ?_
  rintro e w1 ⟨rfl, b1⟩
  go_wp2
  go_ret
  refine ⟨?_, by (repeat (first | exact Below.refl _ _ | assumption | refine Below.drew ?_ | refine balloc ?_ _ | refine bset ?_ (by simp; omega) _ | refine bset ?_ (by simp) _ | refine bstep ?_ (by assumption)))⟩
  simp
  try omega

end Go.Proofs.Ytjhfdefgbloapaa
