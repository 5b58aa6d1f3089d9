/-
  KeysResult. (Written by program: nest.py.)
-/
import Derived.Test.YtaahmmadcdfcpaaTabS
import Derived.Test.YtaahmmadcdfcpaaSep
namespace Go.Proofs.Ytaahmmadcdfcpaa
open Go.RowKit
set_option linter.unusedSectionVars false
variable [DecidableEq Rw] [Inhabited Rw]
attribute [local go_sem ↓] Go.wp_at_zero Go.wp_at_succ

structure KeysR where
  code : Int
  keys : List ByteArray

variable [DecidableEq KeysR] [Inhabited KeysR]

def keysRR : Rep KeysR where
  V := fun w v x => ∃ u1, v = .agg #[.int .i64 x.code, u1] ∧ strsR.V w u1 x.keys
  O := fun w base F v x => ∃ u1 F1, v = .agg #[.int .i64 x.code, u1] ∧ strsR.O w base F1 u1 x.keys ∧ (∀ b, F b ↔ (F1 b))
  below := fun h hb => by
    obtain ⟨u1, rfl, h1⟩ := h
    exact ⟨u1, rfl, strsR.below h1 hb⟩
  ofO := fun h => by
    obtain ⟨u1, F1, rfl, h1, _⟩ := h
    exact ⟨u1, rfl, strsR.ofO h1⟩
  mod := fun h hm hd => by
    obtain ⟨u1, F1, rfl, h1, hF⟩ := h
    exact ⟨u1, F1, rfl, strsR.mod h1 hm (fun b hb => hd b ((hF b).2 hb)), hF⟩
  rng := fun h b hb => by
    obtain ⟨u1, F1, rfl, h1, hF⟩ := h
    rcases (hF b).1 hb with hb
    · exact strsR.rng h1 b hb
  base := fun h hb => by
    obtain ⟨u1, F1, rfl, h1, hF⟩ := h
    exact ⟨u1, F1, rfl, strsR.base h1 hb, hF⟩

def wtKeysR (x : KeysR) : Nat := wtStrs x.keys
def cntKeysR (x : KeysR) : Nat := cntStrs x.keys
def mkKeysR (k : Int) (x : KeysR) : KeysR := { x with keys := mkStrs k x.keys }
def lvKeysR (v : Value) : List Value := match v with | .agg a => one (a.getD 0 (.int .i64 0)) ++ one (a.getD 1 (.int .i64 0)) | _ => []
def cntElKeysR (x : KeysR) : Nat := 1 + cntStrs x.keys
def mkElKeysR (k : Int) (x : KeysR) : KeysR := { code := k, keys := mkStrs (k + 1) x.keys }

theorem keysR_form {w : World} {v : Value} {x : KeysR} (h : keysRR.V w v x) : ∃ a1 c1, v = .agg #[.int .i64 x.code, .slice a1 x.keys.length c1] := by
  obtain ⟨u1, rfl, h1⟩ := h
  obtain ⟨a1, c1, rfl⟩ := strs_form h1
  exact ⟨_, _, rfl⟩
theorem keysR_cnt (d : KeysR) : cntKeysR d ≤ 1 * wtKeysR d := by
  unfold cntKeysR wtKeysR
  have q1 := strs_cnt d.keys
  omega
theorem keysR_cntEl (d : KeysR) : cntElKeysR d ≤ 2 * (1 + wtKeysR d) := by
  unfold cntElKeysR wtKeysR
  have q1 := strs_cnt d.keys
  omega

end Go.Proofs.Ytaahmmadcdfcpaa
