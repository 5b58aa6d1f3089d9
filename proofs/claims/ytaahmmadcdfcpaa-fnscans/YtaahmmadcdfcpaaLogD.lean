/-
  A log: how much is told.
-/
import Derived.Test.YtaahmmadcdfcpaaLogC
namespace Go.Proofs.Ytaahmmadcdfcpaa
open Go.RowKit
set_option linter.unusedSectionVars false
variable [DecidableEq Logg] [Inhabited Logg] [DecidableEq LoggR] [Inhabited LoggR] [DecidableEq BytesR] [Inhabited BytesR] [DecidableEq RecsR] [Inhabited RecsR] [DecidableEq Leg] [Inhabited Leg]

theorem codeD_le (c : Int) : wtLoggR (codeD c) ≤ 6000 := by simp [wtLoggR, wtLogg, wtBytes, codeD]
theorem syncD_le (d : Logg) : wtLoggR (syncD d) ≤ 6000 := by
  unfold syncD
  rcases logF_cases d with ⟨h0, hl⟩ | h0
  · rw [if_pos h0]
    simp only [wtLoggR, wtLogg, wtBytes, List.length_append, List.length_nil]
    omega
  · rw [if_neg (by omega)]
    exact codeD_le 2
theorem crashD_le (d : Logg) (k : Int) : wtLoggR (crashD d k) ≤ 6000 := by
  unfold crashD
  rcases logF_cases d with ⟨h0, hl⟩ | h0
  · rw [if_pos h0]
    split
    · simp only [wtLoggR, wtLogg, wtBytes, List.length_append, List.length_nil, List.length_take]
      omega
    · exact codeD_le 3
  · rw [if_neg (by omega)]
    exact codeD_le 2
theorem trimD_le (d : Logg) : wtLoggR (trimD d) ≤ 6000 := by
  unfold trimD
  rcases logF_cases d with ⟨h0, hl⟩ | h0
  · rw [if_pos h0]
    simp only [wtLoggR, wtLogg, wtBytes, List.length_take, List.length_nil]
    omega
  · rw [if_neg (by omega)]
    exact codeD_le 2
theorem readD_le (d : Logg) : wtRecsR (readD d) ≤ 6000 := by
  unfold readD
  rcases logF_cases d with ⟨h0, hl⟩ | h0
  · rw [if_pos h0]
    have h := recsD_wt (d.synced ++ d.loose)
    rw [List.length_append] at h
    omega
  · rw [if_neg (by omega)]
    simp [wtRecsR, wtBytess, wtL, cntTo]

end Go.Proofs.Ytaahmmadcdfcpaa
