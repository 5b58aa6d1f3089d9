/-
  BytesResult. (Written by program: nest.py.)
-/
import Derived.Test.YtaahmmadcdfcpaaUBytes
import Derived.Test.YtaahmmadcdfcpaaSep
namespace Go.Proofs.Ytaahmmadcdfcpaa
open Go.RowKit
set_option linter.unusedSectionVars false
attribute [local go_sem ↓] Go.wp_at_zero Go.wp_at_succ

structure BytesR where
  code : Int
  bytes : List Byte

variable [DecidableEq BytesR] [Inhabited BytesR]

def bytesRR : Rep BytesR where
  V := fun w v x => ∃ u1, v = .agg #[.int .i64 x.code, u1] ∧ bytesR.V w u1 x.bytes
  O := fun w base F v x => ∃ u1 F1, v = .agg #[.int .i64 x.code, u1] ∧ bytesR.O w base F1 u1 x.bytes ∧ (∀ b, F b ↔ (F1 b))
  below := fun h hb => by
    obtain ⟨u1, rfl, h1⟩ := h
    exact ⟨u1, rfl, bytesR.below h1 hb⟩
  ofO := fun h => by
    obtain ⟨u1, F1, rfl, h1, _⟩ := h
    exact ⟨u1, rfl, bytesR.ofO h1⟩
  mod := fun h hm hd => by
    obtain ⟨u1, F1, rfl, h1, hF⟩ := h
    exact ⟨u1, F1, rfl, bytesR.mod h1 hm (fun b hb => hd b ((hF b).2 hb)), hF⟩
  rng := fun h b hb => by
    obtain ⟨u1, F1, rfl, h1, hF⟩ := h
    rcases (hF b).1 hb with hb
    · exact bytesR.rng h1 b hb
  base := fun h hb => by
    obtain ⟨u1, F1, rfl, h1, hF⟩ := h
    exact ⟨u1, F1, rfl, bytesR.base h1 hb, hF⟩

def wtBytesR (x : BytesR) : Nat := wtBytes x.bytes
def cntBytesR (x : BytesR) : Nat := cntBytes x.bytes
def mkBytesR (k : Int) (x : BytesR) : BytesR := { x with bytes := mkBytes k x.bytes }
def lvBytesR (v : Value) : List Value := match v with | .agg a => one (a.getD 0 (.int .i64 0)) ++ one (a.getD 1 (.int .i64 0)) | _ => []
def cntElBytesR (x : BytesR) : Nat := 1 + cntBytes x.bytes
def mkElBytesR (k : Int) (x : BytesR) : BytesR := { code := k, bytes := mkBytes (k + 1) x.bytes }

theorem bytesR_form {w : World} {v : Value} {x : BytesR} (h : bytesRR.V w v x) : ∃ a1 c1, v = .agg #[.int .i64 x.code, .slice a1 x.bytes.length c1] := by
  obtain ⟨u1, rfl, h1⟩ := h
  obtain ⟨a1, c1, rfl⟩ := bytes_form h1
  exact ⟨_, _, rfl⟩
theorem bytesR_cnt (d : BytesR) : cntBytesR d ≤ 1 * wtBytesR d := by
  unfold cntBytesR wtBytesR
  have q1 := bytes_cnt d.bytes
  omega
theorem bytesR_cntEl (d : BytesR) : cntElBytesR d ≤ 2 * (1 + wtBytesR d) := by
  unfold cntElBytesR wtBytesR
  have q1 := bytes_cnt d.bytes
  omega

end Go.Proofs.Ytaahmmadcdfcpaa
