/-
  A log: what is told of it, on both sides.
-/
import Derived.Test.YtaahmmadcdfcpaaLogB
namespace Go.Proofs.Ytaahmmadcdfcpaa
open Go.RowKit
set_option linter.unusedSectionVars false
variable [DecidableEq Logg] [Inhabited Logg] [DecidableEq LoggR] [Inhabited LoggR] [DecidableEq BytesR] [Inhabited BytesR] [DecidableEq RecsR] [Inhabited RecsR] [DecidableEq Leg] [Inhabited Leg]
set_option linter.unusedSimpArgs false
attribute [local go_sem ↓] Go.wp_at_zero Go.wp_at_succ

def codeD (c : Int) : LoggR := ⟨c, ⟨[], []⟩⟩
def syncD (d : Logg) : LoggR := if logF d = 0 then ⟨0, ⟨d.synced ++ d.loose, []⟩⟩ else codeD 2
def crashD (d : Logg) (k : Int) : LoggR := if logF d = 0 then (if 0 ≤ k ∧ k ≤ d.loose.length then ⟨0, ⟨d.synced ++ d.loose.take k.toNat, []⟩⟩ else codeD 3) else codeD 2
def trimD (d : Logg) : LoggR := if logF d = 0 then ⟨0, ⟨d.synced.take (recU d.synced), []⟩⟩ else codeD 2
def readD (d : Logg) : RecsR := if logF d = 0 then recsD (d.synced ++ d.loose) else ⟨2, 0, []⟩
theorem logF_cases (d : Logg) : (logF d = 0 ∧ d.synced.length + d.loose.length ≤ 6000) ∨ logF d = 2 := by
  unfold logF
  split
  · exact .inr rfl
  · exact .inl ⟨rfl, by omega⟩
theorem syncD_crash (d : Logg) : crashD d d.loose.length = syncD d := by
  unfold crashD syncD
  split
  · rw [if_pos ⟨by omega, by omega⟩, show ((d.loose.length : Int)).toNat = d.loose.length by omega, List.take_length]
  · rfl

end Go.Proofs.Ytaahmmadcdfcpaa
