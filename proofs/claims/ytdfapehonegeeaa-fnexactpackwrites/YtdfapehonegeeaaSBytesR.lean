/-
  BytesResult. (Written by program: nest.py.)
-/
import Derived.Test.YtdfapehonegeeaaUBytes
import Derived.Test.YtdfapehonegeeaaSep
namespace Go.Proofs.Ytdfapehonegeeaa
open Go.RowKit
set_option linter.unusedSectionVars false
attribute [local go_sem ↓] Go.wp_at_zero Go.wp_at_succ

structure BytesR where
  code : Int
  bytes : List Byte

variable [DecidableEq BytesR] [Inhabited BytesR]

def bytesRR : Rep BytesR where
  V := fun w v x => ∃ u1, v = .agg #[.int .i64 x.code, u1] ∧ bytesR.V w u1 x.bytes
  O := fun w base F v x => ∃ u1 F1, v = .agg #[.int .i64 x.code, u1] ∧ bytesR.O w base F1 u1 x.bytes ∧ (∀ b, F b ↔ (F1 b))
  below := fun h hb => by
    obtain ⟨u1, rfl, h1⟩ := h
    exact ⟨u1, rfl, bytesR.below h1 hb⟩
  ofO := fun h => by
    obtain ⟨u1, F1, rfl, h1, _⟩ := h
    exact ⟨u1, rfl, bytesR.ofO h1⟩
  mod := fun h hm hd => by
    obtain ⟨u1, F1, rfl, h1, hF⟩ := h
    exact ⟨u1, F1, rfl, bytesR.mod h1 hm (fun b hb => hd b ((hF b).2 hb)), hF⟩
  rng := fun h b hb => by
    obtain ⟨u1, F1, rfl, h1, hF⟩ := h
    rcases (hF b).1 hb with hb
    · exact bytesR.rng h1 b hb
  base := fun h hb => by
    obtain ⟨u1, F1, rfl, h1, hF⟩ := h
    exact ⟨u1, F1, rfl, bytesR.base h1 hb, hF⟩

def wtBytesR (x : BytesR) : Nat := wtBytes x.bytes
def cntBytesR (x : BytesR) : Nat := cntBytes x.bytes
def mkBytesR (k : Int) (x : BytesR) : BytesR := { x with bytes := mkBytes k x.bytes }
def lvBytesR (v : Value) : List Value := match v with | .agg a => one (a.getD 0 (.int .i64 0)) ++ one (a.getD 1 (.int .i64 0)) | _ => []
def cntElBytesR (x : BytesR) : Nat := 1 + cntBytes x.bytes
def mkElBytesR (k : Int) (x : BytesR) : BytesR := { code := k, bytes := mkBytes (k + 1) x.bytes }

theorem bytesR_form {w : World} {v : Value} {x : BytesR} (h : bytesRR.V w v x) : ∃ a1 c1, v = .agg #[.int .i64 x.code, .slice a1 x.bytes.length c1] := by
  obtain ⟨u1, rfl, h1⟩ := h
  obtain ⟨a1, c1, rfl⟩ := bytes_form h1
  exact ⟨_, _, rfl⟩
theorem bytesR_cnt (d : BytesR) : cntBytesR d ≤ 1 * wtBytesR d := by
  unfold cntBytesR wtBytesR
  have q1 := bytes_cnt d.bytes
  omega
theorem bytesR_cntEl (d : BytesR) : cntElBytesR d ≤ 2 * (1 + wtBytesR d) := by
  unfold cntElBytesR wtBytesR
  have q1 := bytes_cnt d.bytes
  omega

set_option maxHeartbeats 1000000 in
theorem eqBytesResult_u (x y : Value) (d d' : BytesR) (w : World) (hx : bytesRR.V w x d) (hy : bytesRR.V w y d') :
    Calls Try.prog 38 #[x, y] w fun e w' => e = .returned (.bool (decide (d = d'))) ∧ Below w.heap.size w w' := by
  obtain ⟨u1, rfl, h1⟩ := hx
  obtain ⟨v1, rfl, k1⟩ := hy
  obtain ⟨code, bytes⟩ := d
  obtain ⟨code', bytes'⟩ := d'
  dsimp only at h1 k1
  go_enter Try.func38, Try.ntmps38
  go_wp2_with fail
  all_goals try (go_ret; exact ⟨by simp_all, by (repeat (first | exact Below.refl _ _ | assumption | refine Below.drew ?_ | refine balloc ?_ _ | refine bset ?_ (by simp; omega) _ | refine bset ?_ (by simp) _ | refine bstep ?_ (by assumption)))⟩)
  refine (eqByteS_u _ _ bytes bytes' _ (bytesR.below h1 (by (repeat (first | exact Below.refl _ _ | assumption | refine Below.drew ?_ | refine balloc ?_ _ | refine bset ?_ (by simp; omega) _ | refine bset ?_ (by simp) _ | refine bstep ?_ (by assumption))))) (bytesR.below k1 (by (repeat (first | exact Below.refl _ _ | assumption | refine Below.drew ?_ | refine balloc ?_ _ | refine bset ?_ (by simp; omega) _ | refine bset ?_ (by simp) _ | refine bstep ?_ (by assumption)))))).mono ?_
  rintro e w1 ⟨rfl, b1⟩
  go_wp2
  all_goals
    go_ret
    exact ⟨by simp_all, by (repeat (first | exact Below.refl _ _ | assumption | refine Below.drew ?_ | refine balloc ?_ _ | refine bset ?_ (by simp; omega) _ | refine bset ?_ (by simp) _ | refine bstep ?_ (by assumption)))⟩

set_option maxHeartbeats 1000000 in
theorem markBytesResult_u (v : Value) (d : BytesR) (base : Nat) (F : Nat → Prop) (k : Int) (w : World) (ho : bytesRR.O w base F v d) (hw : wtBytesR d ≤ 1048576) (hn : k + cntBytesR d ≤ 1073741824) (hk0 : 0 ≤ k) :
    Calls Try.prog 40 #[v, .int .i64 k] w fun r w' => r = .returned (.int .i64 (k + cntBytesR d)) ∧ bytesRR.O w' base F v (mkBytesR k d) ∧ Mod F w w' := by
  obtain ⟨u1, F1, rfl, h1, hF⟩ := ho
  unfold wtBytesR at hw
  unfold cntBytesR at hn ⊢
  have HF : Hid (∀ b, F b ↔ (F1 b)) := hF
  clear hF
  go_enter Try.func40, Try.ntmps40
  go_wp2_with fail
  refine (markByteS_u _ d.bytes base F1 k _ (bytesR.alloc h1 _) (by omega) (by omega) (by omega)).mono ?_
  rintro e w1 ⟨rfl, r1, m1⟩
  go_wp2
  go_ret
  refine ⟨?_, ⟨_, F1, rfl, r1, HF.out⟩, ((Mod.refl F w).alloc _).trans (m1.mono (fun b hb => (HF.out b).2 hb))⟩
  simp
  try omega

set_option maxHeartbeats 1000000 in
theorem heldBytesResult_u (v : Value) (d : BytesR) (k : Int) (w : World) (hv : bytesRR.V w v (mkBytesR k d)) (hw : wtBytesR d ≤ 1048576) (hn : k + cntBytesR d ≤ 1073741824) (hk0 : 0 ≤ k) :
    Calls Try.prog 41 #[v, .int .i64 k] w fun r w' => r = .returned (.int .i64 (k + cntBytesR d)) ∧ Below w.heap.size w w' := by
  obtain ⟨u1, rfl, h1⟩ := hv
  unfold wtBytesR at hw
  unfold cntBytesR at hn ⊢
  go_enter Try.func41, Try.ntmps41
  go_wp2_with fail
  refine (heldByteS_u _ d.bytes k _ (bytesR.below h1 (by (repeat (first | exact Below.refl _ _ | assumption | refine Below.drew ?_ | refine balloc ?_ _ | refine bset ?_ (by simp; omega) _ | refine bset ?_ (by simp) _ | refine bstep ?_ (by assumption))))) (by omega) (by omega) (by omega)).mono ?_
  rintro e w1 ⟨rfl, b1⟩
  go_wp2
  go_ret
  refine ⟨?_, by (repeat (first | exact Below.refl _ _ | assumption | refine Below.drew ?_ | refine balloc ?_ _ | refine bset ?_ (by simp; omega) _ | refine bset ?_ (by simp) _ | refine bstep ?_ (by assumption)))⟩
  simp
  try omega

end Go.Proofs.Ytdfapehonegeeaa
