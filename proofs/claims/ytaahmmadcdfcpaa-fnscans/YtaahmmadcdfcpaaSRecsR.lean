/-
  RecordsResult. (Written by program: nest.py.)
-/
import Derived.Test.YtaahmmadcdfcpaaNBytess
import Derived.Test.YtaahmmadcdfcpaaSep
namespace Go.Proofs.Ytaahmmadcdfcpaa
open Go.RowKit
set_option linter.unusedSectionVars false
attribute [local go_sem ↓] Go.wp_at_zero Go.wp_at_succ

structure RecsR where
  code : Int
  used : Int
  records : List (List Byte)

variable [DecidableEq RecsR] [Inhabited RecsR]

def recsRR : Rep RecsR where
  V := fun w v x => ∃ u1, v = .agg #[.int .i64 x.code, .int .i64 x.used, u1] ∧ bytessR.V w u1 x.records
  O := fun w base F v x => ∃ u1 F1, v = .agg #[.int .i64 x.code, .int .i64 x.used, u1] ∧ bytessR.O w base F1 u1 x.records ∧ (∀ b, F b ↔ (F1 b))
  below := fun h hb => by
    obtain ⟨u1, rfl, h1⟩ := h
    exact ⟨u1, rfl, bytessR.below h1 hb⟩
  ofO := fun h => by
    obtain ⟨u1, F1, rfl, h1, _⟩ := h
    exact ⟨u1, rfl, bytessR.ofO h1⟩
  mod := fun h hm hd => by
    obtain ⟨u1, F1, rfl, h1, hF⟩ := h
    exact ⟨u1, F1, rfl, bytessR.mod h1 hm (fun b hb => hd b ((hF b).2 hb)), hF⟩
  rng := fun h b hb => by
    obtain ⟨u1, F1, rfl, h1, hF⟩ := h
    rcases (hF b).1 hb with hb
    · exact bytessR.rng h1 b hb
  base := fun h hb => by
    obtain ⟨u1, F1, rfl, h1, hF⟩ := h
    exact ⟨u1, F1, rfl, bytessR.base h1 hb, hF⟩

def wtRecsR (x : RecsR) : Nat := wtBytess x.records
def cntRecsR (x : RecsR) : Nat := cntBytess x.records
def mkRecsR (k : Int) (x : RecsR) : RecsR := { x with records := mkBytess k x.records }
def lvRecsR (v : Value) : List Value := match v with | .agg a => one (a.getD 0 (.int .i64 0)) ++ one (a.getD 1 (.int .i64 0)) ++ one (a.getD 2 (.int .i64 0)) | _ => []
def cntElRecsR (x : RecsR) : Nat := 1 + 1 + cntBytess x.records
def mkElRecsR (k : Int) (x : RecsR) : RecsR := { code := k, used := k + 1, records := mkBytess (k + 1 + 1) x.records }

theorem recsR_form {w : World} {v : Value} {x : RecsR} (h : recsRR.V w v x) : ∃ a1 c1, v = .agg #[.int .i64 x.code, .int .i64 x.used, .slice a1 x.records.length c1] := by
  obtain ⟨u1, rfl, h1⟩ := h
  obtain ⟨a1, c1, rfl⟩ := bytess_form h1
  exact ⟨_, _, rfl⟩
theorem recsR_cnt (d : RecsR) : cntRecsR d ≤ 1 * wtRecsR d := by
  unfold cntRecsR wtRecsR
  have q1 := bytess_cnt d.records
  omega
theorem recsR_cntEl (d : RecsR) : cntElRecsR d ≤ 3 * (1 + wtRecsR d) := by
  unfold cntElRecsR wtRecsR
  have q1 := bytess_cnt d.records
  omega

end Go.Proofs.Ytaahmmadcdfcpaa
