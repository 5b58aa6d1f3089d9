/-
  RowsResult. (Written by program: nest.py.)
-/
import Derived.Test.YtaahmmadcdfcpaaTabN
import Derived.Test.YtaahmmadcdfcpaaSep
namespace Go.Proofs.Ytaahmmadcdfcpaa
open Go.RowKit
set_option linter.unusedSectionVars false
variable [DecidableEq Rw] [Inhabited Rw]
attribute [local go_sem ↓] Go.wp_at_zero Go.wp_at_succ

structure TabR where
  code : Int
  rows : List Rw

variable [DecidableEq TabR] [Inhabited TabR]

def tabRR : Rep TabR where
  V := fun w v x => ∃ u1, v = .agg #[.int .i64 x.code, u1] ∧ rowsR.V w u1 x.rows
  O := fun w base F v x => ∃ u1 F1, v = .agg #[.int .i64 x.code, u1] ∧ rowsR.O w base F1 u1 x.rows ∧ (∀ b, F b ↔ (F1 b))
  below := fun h hb => by
    obtain ⟨u1, rfl, h1⟩ := h
    exact ⟨u1, rfl, rowsR.below h1 hb⟩
  ofO := fun h => by
    obtain ⟨u1, F1, rfl, h1, _⟩ := h
    exact ⟨u1, rfl, rowsR.ofO h1⟩
  mod := fun h hm hd => by
    obtain ⟨u1, F1, rfl, h1, hF⟩ := h
    exact ⟨u1, F1, rfl, rowsR.mod h1 hm (fun b hb => hd b ((hF b).2 hb)), hF⟩
  rng := fun h b hb => by
    obtain ⟨u1, F1, rfl, h1, hF⟩ := h
    rcases (hF b).1 hb with hb
    · exact rowsR.rng h1 b hb
  base := fun h hb => by
    obtain ⟨u1, F1, rfl, h1, hF⟩ := h
    exact ⟨u1, F1, rfl, rowsR.base h1 hb, hF⟩

def wtTabR (x : TabR) : Nat := wtRows x.rows
def cntTabR (x : TabR) : Nat := cntRows x.rows
def mkTabR (k : Int) (x : TabR) : TabR := { x with rows := mkRows k x.rows }
def lvTabR (v : Value) : List Value := match v with | .agg a => one (a.getD 0 (.int .i64 0)) ++ one (a.getD 1 (.int .i64 0)) | _ => []
def cntElTabR (x : TabR) : Nat := 1 + cntRows x.rows
def mkElTabR (k : Int) (x : TabR) : TabR := { code := k, rows := mkRows (k + 1) x.rows }

theorem tabR_form {w : World} {v : Value} {x : TabR} (h : tabRR.V w v x) : ∃ a1 c1, v = .agg #[.int .i64 x.code, .slice a1 x.rows.length c1] := by
  obtain ⟨u1, rfl, h1⟩ := h
  obtain ⟨a1, c1, rfl⟩ := rows_form h1
  exact ⟨_, _, rfl⟩
theorem tabR_cnt (d : TabR) : cntTabR d ≤ 4 * wtTabR d := by
  unfold cntTabR wtTabR
  have q1 := rows_cnt d.rows
  omega
theorem tabR_cntEl (d : TabR) : cntElTabR d ≤ 5 * (1 + wtTabR d) := by
  unfold cntElTabR wtTabR
  have q1 := rows_cnt d.rows
  omega

end Go.Proofs.Ytaahmmadcdfcpaa
