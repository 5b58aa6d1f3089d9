/-
  FrameRecord on both sides.
-/
import Derived.Test.YtaahmmadcdfcpaaJoin
import Derived.Test.YtaahmmadcdfcpaaChk
import Derived.Test.YtaahmmadcdfcpaaSBytesR
import Derived.Test.YtaahmmadcdfcpaaKeeps
namespace Go.Proofs.Ytaahmmadcdfcpaa
open Go.RowKit
set_option linter.unusedSectionVars false
variable [DecidableEq BytesR] [Inhabited BytesR]
attribute [local go_sem ↓] Go.wp_at_zero Go.wp_at_succ

theorem hiB_two (n : Int) : hiB n 2 = [toB (n / 256), toB n] := by
  have h : List.range 2 = [0, 1] := rfl
  simp [hiB, h]
theorem wrapU {n : Int} (h0 : 0 ≤ n) (h1 : n ≤ 18446744073709551615) : IntKind.u64.wrap n = n := by rw [IntKind.wrap_u64]; omega

/-- a record's frame -/
def frameB (xs : List Byte) : List Byte := hiB xs.length 2 ++ hiB (chk xs) 2 ++ xs
theorem length_frameB (xs : List Byte) : (frameB xs).length = xs.length + 4 := by
  simp only [frameB, List.length_append, length_hiB]; omega

def frameD (xs : List Byte) : BytesR := if 1 ≤ xs.length ∧ xs.length ≤ 500 then ⟨0, frameB xs⟩ else ⟨2, []⟩
theorem bytesR_nil (w : World) (base : Nat) (c : Int) : bytesRR.O w base none_ (.agg #[.int .i64 c, .slice none 0 0]) ⟨c, []⟩ :=
  ⟨.slice none 0 0, none_, rfl, ⟨by simpa [bytesC] using World.ownsRow_nil w base 5 1, by funext b; simp [none_, Value.ownBlock]⟩, fun b => Iff.rfl⟩

end Go.Proofs.Ytaahmmadcdfcpaa
