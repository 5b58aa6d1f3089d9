/-
  Log. (Written by program: nest.py.)
-/
import Derived.Test.YtaahmmadcdfcpaaUBytes
import Derived.Test.YtaahmmadcdfcpaaSep
namespace Go.Proofs.Ytaahmmadcdfcpaa
open Go.RowKit
set_option linter.unusedSectionVars false
attribute [local go_sem ↓] Go.wp_at_zero Go.wp_at_succ

set_option linter.unusedSimpArgs false

structure Logg where
  synced : List Byte
  loose : List Byte

variable [DecidableEq Logg] [Inhabited Logg]

def loggR : Rep Logg where
  V := fun w v x => ∃ u1 u2, v = .agg #[u1, u2] ∧ bytesR.V w u1 x.synced ∧ bytesR.V w u2 x.loose
  O := fun w base F v x => ∃ u1 u2 F1 F2, v = .agg #[u1, u2] ∧ bytesR.O w base F1 u1 x.synced ∧ bytesR.O w base F2 u2 x.loose ∧ (∀ b, F1 b → ¬ F2 b) ∧ (∀ b, F b ↔ (F1 b ∨ F2 b))
  below := fun h hb => by
    obtain ⟨u1, u2, rfl, h1, h2⟩ := h
    exact ⟨u1, u2, rfl, bytesR.below h1 hb, bytesR.below h2 hb⟩
  ofO := fun h => by
    obtain ⟨u1, u2, F1, F2, rfl, h1, h2, _⟩ := h
    exact ⟨u1, u2, rfl, bytesR.ofO h1, bytesR.ofO h2⟩
  mod := fun h hm hd => by
    obtain ⟨u1, u2, F1, F2, rfl, h1, h2, s12, hF⟩ := h
    exact ⟨u1, u2, F1, F2, rfl, bytesR.mod h1 hm (fun b hb => hd b ((hF b).2 (.inl hb))), bytesR.mod h2 hm (fun b hb => hd b ((hF b).2 (.inr hb))), s12, hF⟩
  rng := fun h b hb => by
    obtain ⟨u1, u2, F1, F2, rfl, h1, h2, s12, hF⟩ := h
    rcases (hF b).1 hb with hb | hb
    · exact bytesR.rng h1 b hb
    · exact bytesR.rng h2 b hb
  base := fun h hb => by
    obtain ⟨u1, u2, F1, F2, rfl, h1, h2, s12, hF⟩ := h
    exact ⟨u1, u2, F1, F2, rfl, bytesR.base h1 hb, bytesR.base h2 hb, s12, hF⟩

def wtLogg (x : Logg) : Nat := wtBytes x.synced + wtBytes x.loose
def cntLogg (x : Logg) : Nat := cntBytes x.synced + cntBytes x.loose
def mkLogg (k : Int) (x : Logg) : Logg := { x with synced := mkBytes k x.synced, loose := mkBytes (k + cntBytes x.synced) x.loose }
def lvLogg (v : Value) : List Value := match v with | .agg a => one (a.getD 0 (.int .i64 0)) ++ one (a.getD 1 (.int .i64 0)) | _ => []
def cntElLogg (x : Logg) : Nat := cntBytes x.synced + cntBytes x.loose
def mkElLogg (k : Int) (x : Logg) : Logg := { synced := mkBytes (k) x.synced, loose := mkBytes (k + cntBytes x.synced) x.loose }

theorem logg_form {w : World} {v : Value} {x : Logg} (h : loggR.V w v x) : ∃ a1 a2 c1 c2, v = .agg #[.slice a1 x.synced.length c1, .slice a2 x.loose.length c2] := by
  obtain ⟨u1, u2, rfl, h1, h2⟩ := h
  obtain ⟨a1, c1, rfl⟩ := bytes_form h1
  obtain ⟨a2, c2, rfl⟩ := bytes_form h2
  exact ⟨_, _, _, _, rfl⟩
theorem logg_cnt (d : Logg) : cntLogg d ≤ 1 * wtLogg d := by
  unfold cntLogg wtLogg
  have q1 := bytes_cnt d.synced
  have q2 := bytes_cnt d.loose
  omega
theorem logg_cntEl (d : Logg) : cntElLogg d ≤ 1 * (1 + wtLogg d) := by
  unfold cntElLogg wtLogg
  have q1 := bytes_cnt d.synced
  have q2 := bytes_cnt d.loose
  omega

end Go.Proofs.Ytaahmmadcdfcpaa
