import Derived.Test.YtdfapehonegeeaaGreatPrnWriteBatchLaw23
import Derived.Test.YtdfapehonegeeaaGreatPrnWriteBatchLaw26
import Derived.Test.YtdfapehonegeeaaGreatPrnWriteBatchLaw9
import Derived.Test.YtdfapehonegeeaaGreatPrnWriteBatchLaw11
import Derived.Test.YtdfapehonegeeaaGreatPrnWriteBatchLaw10
import Derived.Test.YtdfapehonegeeaaGreatPrnWriteBatchLaw8

/-
  The layers of an engine that owns its memory.
-/
namespace Go.Proofs.YtdfapehonegeeaaGreat
open Go.RowKit
set_option linter.unusedSectionVars false
variable [DecidableEq Wri] [Inhabited Wri] [DecidableEq BytesR] [Inhabited BytesR] [DecidableEq Rw] [Inhabited Rw] [DecidableEq TabR] [Inhabited TabR] [DecidableEq Logg] [Inhabited Logg] [DecidableEq Engn] [Inhabited Engn] [DecidableEq LoggR] [Inhabited LoggR] [DecidableEq RecsR] [Inhabited RecsR] [DecidableEq Leg] [Inhabited Leg] [DecidableEq EngR] [Inhabited EngR]
set_option linter.unusedVariables false
set_option linter.unusedSimpArgs false

def codeE (c : Int) : EngR := ⟨c, 0, ⟨⟨[], []⟩, [], [], 0⟩⟩
end Go.Proofs.YtdfapehonegeeaaGreat

/-
  How great engines can be.
-/
namespace Go.Proofs.YtdfapehonegeeaaGreat
open Go.RowKit
set_option linter.unusedSectionVars false
variable [DecidableEq Wri] [Inhabited Wri] [DecidableEq BytesR] [Inhabited BytesR] [DecidableEq Rw] [Inhabited Rw] [DecidableEq TabR] [Inhabited TabR] [DecidableEq Logg] [Inhabited Logg] [DecidableEq Engn] [Inhabited Engn] [DecidableEq LoggR] [Inhabited LoggR] [DecidableEq RecsR] [Inhabited RecsR] [DecidableEq Leg] [Inhabited Leg] [DecidableEq EngR] [Inhabited EngR]
set_option linter.unusedVariables false
set_option linter.unusedSimpArgs false

theorem cntTo_max {α : Type} [Inhabited α] {f : α → Nat} {M : Nat} : ∀ (k : Nat) (xs : List α), (∀ i, i < xs.length → f (xs.getD i default) ≤ M) → cntTo f k xs ≤ k * M
  | 0, _, _ => by simp [cntTo]
  | k + 1, [], _ => by simp [cntTo]
  | k + 1, x :: xs, h => by
    have h0 := h 0 (by simp)
    have ih := cntTo_max k xs (fun i hi => by have := h (i + 1) (by simpa using hi); simpa [List.getD] using this)
    simp only [List.getD, List.getElem?_cons_zero, Option.getD_some] at h0
    show f x + cntTo f k xs ≤ _
    rw [Nat.succ_mul]
    omega
theorem wt_tab {xs : List Rw} (h : tabF xs = 0) : wtRows xs ≤ 24200 := by
  have h1 := wt_small (tab_small h)
  have h2 := (tabF_all h).1
  omega
theorem wt_tabs {xss : List (List Rw)} {n : Nat} (hn : xss.length ≤ n) (h : ∀ i, i < xss.length → tabF (xss.getD i default) = 0) : wtRowss xss ≤ n * 24201 := by
  have h1 := cntTo_max (f := wtRows) (M := 24200) xss.length xss (fun i hi => wt_tab (h i hi))
  unfold wtRowss wtL
  have h2 : xss.length * 24200 ≤ n * 24200 := Nat.mul_le_mul_right _ hn
  omega
theorem wt_log {d : Logg} (h : logF d = 0) : wtLogg d ≤ 6000 := by
  have := logF_small h
  unfold wtLogg wtBytes
  omega
theorem codeE_le (c : Int) : wtEngR (codeE c) = 0 := rfl
end Go.Proofs.YtdfapehonegeeaaGreat

/-
  FlushEngine: the program's side.
-/
namespace Go.Proofs.YtdfapehonegeeaaGreat
open Go.RowKit
set_option linter.unusedSectionVars false
variable [DecidableEq Wri] [Inhabited Wri] [DecidableEq BytesR] [Inhabited BytesR] [DecidableEq Rw] [Inhabited Rw] [DecidableEq TabR] [Inhabited TabR] [DecidableEq Logg] [Inhabited Logg] [DecidableEq Engn] [Inhabited Engn] [DecidableEq LoggR] [Inhabited LoggR] [DecidableEq RecsR] [Inhabited RecsR] [DecidableEq Leg] [Inhabited Leg] [DecidableEq EngR] [Inhabited EngR]
set_option linter.unusedVariables false
set_option linter.unusedSimpArgs false
attribute [local go_sem ↓] Go.wp_at_zero Go.wp_at_succ

theorem engR_of {w : World} {base : Nat} {F : Nat → Prop} {u1 u2 u3 u4 : Value} {e : Engn} (c v : Int) (h : engnR.O w base F (.agg #[u1, u2, u3, u4, .int .i64 e.next]) e) : engRR.O w base F (.agg #[.int .i64 c, .int .i64 v, u1, u2, u3, u4, .int .i64 e.next]) ⟨c, v, e⟩ :=
  ⟨_, _, _, _, F, rfl, h, fun _ => Iff.rfl⟩
end Go.Proofs.YtdfapehonegeeaaGreat

/-
  CompactEngine: its answer.
-/
namespace Go.Proofs.YtdfapehonegeeaaGreat
open Go.RowKit
set_option linter.unusedSectionVars false
variable [DecidableEq Wri] [Inhabited Wri] [DecidableEq BytesR] [Inhabited BytesR] [DecidableEq Rw] [Inhabited Rw] [DecidableEq TabR] [Inhabited TabR] [DecidableEq Logg] [Inhabited Logg] [DecidableEq Engn] [Inhabited Engn] [DecidableEq LoggR] [Inhabited LoggR] [DecidableEq RecsR] [Inhabited RecsR] [DecidableEq Leg] [Inhabited Leg] [DecidableEq EngR] [Inhabited EngR]
set_option linter.unusedVariables false
set_option linter.unusedSimpArgs false
attribute [local go_sem ↓] Go.wp_at_zero Go.wp_at_succ

theorem bset7 {p : Nat} {w Y : World} (h : Below w.heap.size w Y) (hp : w.heap.size ≤ p) (v0 v1 v2 v3 v4 v5 v6 : Value) : Below w.heap.size w (((((((Y.setCell ⟨p, 0, none⟩ v0).setCell ⟨p, 1, none⟩ v1).setCell ⟨p, 2, none⟩ v2).setCell ⟨p, 3, none⟩ v3).setCell ⟨p, 4, none⟩ v4).setCell ⟨p, 5, none⟩ v5).setCell ⟨p, 6, none⟩ v6) :=
  bset (bset (bset (bset (bset (bset (bset h hp _) hp _) hp _) hp _) hp _) hp _) hp _
theorem mset7 {F : Nat → Prop} {p : Nat} {w Y : World} (h : Mod F w Y) (hp : F p) (v0 v1 v2 v3 v4 v5 v6 : Value) : Mod F w (((((((Y.setCell ⟨p, 0, none⟩ v0).setCell ⟨p, 1, none⟩ v1).setCell ⟨p, 2, none⟩ v2).setCell ⟨p, 3, none⟩ v3).setCell ⟨p, 4, none⟩ v4).setCell ⟨p, 5, none⟩ v5).setCell ⟨p, 6, none⟩ v6) :=
  mset (mset (mset (mset (mset (mset (mset h _ _ hp) _ _ hp) _ _ hp) _ _ hp) _ _ hp) _ _ hp) _ _ hp
end Go.Proofs.YtdfapehonegeeaaGreat

