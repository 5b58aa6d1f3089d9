/-
  One more record in a log: the program's side.
-/
import Derived.Test.YtaahmmadcdfcpaaLogH
namespace Go.Proofs.Ytaahmmadcdfcpaa
open Go.RowKit
set_option linter.unusedSectionVars false
variable [DecidableEq Logg] [Inhabited Logg] [DecidableEq LoggR] [Inhabited LoggR] [DecidableEq BytesR] [Inhabited BytesR] [DecidableEq RecsR] [Inhabited RecsR] [DecidableEq Leg] [Inhabited Leg]
set_option linter.unusedSimpArgs false
attribute [local go_sem ↓] Go.wp_at_zero Go.wp_at_succ

/-- the operations of AppendLog's region, and what each yields -/
def appG (d : Logg) (fs : List Byte) (a1 a2 a3 : Option Addr) (c1 c2 c3 : Nat) : Nat → (Nat → Value) → Nat → Nat → World → Prop
  | 2, y, lo, _, w => y 25 = .slice (some ⟨lo, 0, none⟩) 1 1 ∧ w.cell? ⟨lo, 0, none⟩ = some (.slice a1 d.synced.length c1)
  | 3, y, lo, hi, w => (∃ a c, y 26 = .slice a d.synced.length c) ∧ ∃ F, bytesR.O w lo F (y 26) d.synced ∧ ∀ b, F b → b < hi
  | 8, y, lo, _, w => y 31 = .slice (some ⟨lo, 0, none⟩) 2 2 ∧ w.cell? ⟨lo, 0, none⟩ = some (.slice a2 d.loose.length c2) ∧ w.cell? ⟨lo, 1, none⟩ = some (.slice a3 fs.length c3)
  | 9, y, lo, hi, w => (∃ a c, y 32 = .slice a (d.loose.length + fs.length) c) ∧ ∃ F, bytesR.O w lo F (y 32) (d.loose ++ fs) ∧ ∀ b, F b → b < hi
  | 10, y, _, _, _ => y 33 = .agg #[y 26, y 32]
  | 11, y, lo, hi, w => y 7 = .pointer (some ⟨lo, 0, none⟩) ∧ lo < hi ∧ w.cell? ⟨lo, 0, none⟩ = some (.slice none 0 0) ∧ w.cell? ⟨lo, 1, none⟩ = some (.slice none 0 0) ∧ ∀ o, w.frozen? ⟨lo, o, none⟩ = false
  | _, _, _, _, _ => True

end Go.Proofs.Ytaahmmadcdfcpaa
