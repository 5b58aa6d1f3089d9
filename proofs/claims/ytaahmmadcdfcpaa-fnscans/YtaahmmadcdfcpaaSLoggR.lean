/-
  LogResult. (Written by program: nest.py.)
-/
import Derived.Test.YtaahmmadcdfcpaaSLogg
import Derived.Test.YtaahmmadcdfcpaaSep
namespace Go.Proofs.Ytaahmmadcdfcpaa
open Go.RowKit
set_option linter.unusedSectionVars false
variable [DecidableEq Logg] [Inhabited Logg]
attribute [local go_sem ↓] Go.wp_at_zero Go.wp_at_succ

set_option linter.unusedSimpArgs false

structure LoggR where
  code : Int
  log : Logg

variable [DecidableEq LoggR] [Inhabited LoggR]

def loggRR : Rep LoggR where
  V := fun w v x => ∃ u1_1 u1_2, v = .agg #[.int .i64 x.code, u1_1, u1_2] ∧ loggR.V w (.agg #[u1_1, u1_2]) x.log
  O := fun w base F v x => ∃ u1_1 u1_2 F1, v = .agg #[.int .i64 x.code, u1_1, u1_2] ∧ loggR.O w base F1 (.agg #[u1_1, u1_2]) x.log ∧ (∀ b, F b ↔ (F1 b))
  below := fun h hb => by
    obtain ⟨u1_1, u1_2, rfl, h1⟩ := h
    exact ⟨u1_1, u1_2, rfl, loggR.below h1 hb⟩
  ofO := fun h => by
    obtain ⟨u1_1, u1_2, F1, rfl, h1, _⟩ := h
    exact ⟨u1_1, u1_2, rfl, loggR.ofO h1⟩
  mod := fun h hm hd => by
    obtain ⟨u1_1, u1_2, F1, rfl, h1, hF⟩ := h
    exact ⟨u1_1, u1_2, F1, rfl, loggR.mod h1 hm (fun b hb => hd b ((hF b).2 hb)), hF⟩
  rng := fun h b hb => by
    obtain ⟨u1_1, u1_2, F1, rfl, h1, hF⟩ := h
    rcases (hF b).1 hb with hb
    · exact loggR.rng h1 b hb
  base := fun h hb => by
    obtain ⟨u1_1, u1_2, F1, rfl, h1, hF⟩ := h
    exact ⟨u1_1, u1_2, F1, rfl, loggR.base h1 hb, hF⟩

def wtLoggR (x : LoggR) : Nat := wtLogg x.log
def cntLoggR (x : LoggR) : Nat := cntLogg x.log
def mkLoggR (k : Int) (x : LoggR) : LoggR := { x with log := mkLogg k x.log }
def lvLoggR (v : Value) : List Value := match v with | .agg a => one (a.getD 0 (.int .i64 0)) ++ one (a.getD 1 (.int .i64 0)) ++ one (a.getD 2 (.int .i64 0)) | _ => []
def cntElLoggR (x : LoggR) : Nat := 1 + cntElLogg x.log
def mkElLoggR (k : Int) (x : LoggR) : LoggR := { code := k, log := mkElLogg (k + 1) x.log }

theorem loggR_form {w : World} {v : Value} {x : LoggR} (h : loggRR.V w v x) : ∃ a1_1 a1_2 c1_1 c1_2, v = .agg #[.int .i64 x.code, .slice a1_1 x.log.synced.length c1_1, .slice a1_2 x.log.loose.length c1_2] := by
  obtain ⟨u1_1, u1_2, rfl, h1⟩ := h
  obtain ⟨a1_1, a1_2, c1_1, c1_2, e1⟩ := logg_form h1
  simp only [Value.agg.injEq, Array.mk.injEq, List.cons.injEq, and_true] at e1
  obtain ⟨rfl, rfl⟩ := e1
  exact ⟨_, _, _, _, rfl⟩
theorem loggR_cnt (d : LoggR) : cntLoggR d ≤ 1 * wtLoggR d := by
  unfold cntLoggR wtLoggR
  have q1 := logg_cnt d.log
  omega
theorem loggR_cntEl (d : LoggR) : cntElLoggR d ≤ 2 * (1 + wtLoggR d) := by
  unfold cntElLoggR wtLoggR
  have q1 := logg_cntEl d.log
  omega

end Go.Proofs.Ytaahmmadcdfcpaa
