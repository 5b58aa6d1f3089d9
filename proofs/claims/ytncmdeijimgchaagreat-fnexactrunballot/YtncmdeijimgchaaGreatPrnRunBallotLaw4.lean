import Derived.Test.YtncmdeijimgchaaGreatPrnRunBallotLaw3
import Derived.BigQuiet
import Derived.Deep.QuietTactic
import Derived.Test.YtncmdeijimgchaaGreatPrnRunBallotLaw2
import Derived.Test.YtncmdeijimgchaaGreatPrnRunBallotLaw1
import Derived.Deep.RegionHeld3
import Derived.Deep.DrawnRows
import Derived.Deep.DeepAppendRoom

/-
  The small functions of chapter 8, on both sides.
-/
namespace Go.Proofs.YtncmdeijimgchaaGreat
open Go.RowKit
set_option linter.unusedSectionVars false
variable [DecidableEq Vot] [Inhabited Vot] [DecidableEq Slt] [Inhabited Slt] [DecidableEq Bal] [Inhabited Bal] [DecidableEq Ledg] [Inhabited Ledg] [DecidableEq Leg] [Inhabited Leg]
attribute [local go_sem ↓] Go.wp_at_zero Go.wp_at_succ

theorem eqInVot (a b c d : Int) (w : World) : (Op.equalIn 10000 65 (.agg #[.int .i64 a, .int .i64 b]) (.agg #[.int .i64 c, .int .i64 d])).run Tryz.prog w = .ok (decide (a = c) && decide (b = d)) w := by
  rw [run_equalIn_struct w 9999 65 _ _ (by kernel_rfl) (by kernel_rfl)]
  have hf : (Tryz.prog.fieldsOf 65).toList = [{ name := "Ballot", type := 2, offset := 0, embedded := false, tag := "", pkgPath := "", byteOffset := 0 }, { name := "Value", type := 2, offset := 1, embedded := false, tag := "", pkgPath := "", byteOffset := 8 }] := by kernel_rfl
  rw [hf]
  simp [Op.eqFields, go_sem]
  by_cases e1 : a = c <;> by_cases e2 : b = d <;> simp [e1, e2]
theorem eqlVot (a b c d : Int) (w : World) : (binOp .eql 65 (.agg #[.int .i64 a, .int .i64 b]) (.agg #[.int .i64 c, .int .i64 d])).run Tryz.prog w = .ok (.bool (decide (a = c) && decide (b = d))) w := by
  rw [run_eql_struct, eqInVot]
  rfl
theorem neqVot (a b c d : Int) (w : World) : (binOp .neq 65 (.agg #[.int .i64 a, .int .i64 b]) (.agg #[.int .i64 c, .int .i64 d])).run Tryz.prog w = .ok (.bool (!(decide (a = c) && decide (b = d)))) w := by
  rw [run_neq_struct, eqInVot]
  rfl
set_option maxHeartbeats 400000 in
theorem l8None_any (w : World) : Calls Tryz.prog 65 #[] w fun e w' => e = .returned (.agg #[.int .i64 (-1), .int .i64 0]) ∧ Below w.heap.size w w' := by
  go_enter Tryz.func65, Tryz.ntmps65
  go_wp2
  refine bodyPost_ret (v := .agg #[.int .i64 (-1), .int .i64 0]) ?_ rfl ⟨rfl, by (repeat (first | exact Below.refl _ _ | assumption | refine Below.drew ?_ | refine balloc ?_ _ | refine bset ?_ (by simp; omega) _ | refine bset ?_ (by simp) _ | refine bstep ?_ (by assumption)))⟩
  simp [results, Tryz.results65, go_sem]
set_option maxHeartbeats 400000 in
theorem noVote_any (w : World) : Calls Tryz.prog 93 #[] w fun e w' => e = .returned (.agg #[.int .i64 (-1), .int .i64 0]) ∧ Below w.heap.size w w' := by
  go_enter Tryz.func93, Tryz.ntmps93
  go_wp2
  refine bodyPost_ret (v := .agg #[.int .i64 (-1), .int .i64 0]) ?_ rfl ⟨rfl, by (repeat (first | exact Below.refl _ _ | assumption | refine Below.drew ?_ | refine balloc ?_ _ | refine bset ?_ (by simp; omega) _ | refine bset ?_ (by simp) _ | refine bstep ?_ (by assumption)))⟩
  simp [results, Tryz.results93, go_sem]
theorem l8Ballot_any (n : Int) (w : World) : Calls Tryz.prog 25 #[.int .i64 n] w fun e w' => e = .returned (.bool (inB n 0 1000)) ∧ w' = w := by
  go_enter Tryz.func25, Tryz.ntmps25
  go_wp2_with (go_at_call 27; refine (l1In_any _ _ _ _).mono ?_; rintro e w' ⟨rfl, rfl⟩)
  go_ret
  exact ⟨rfl, rfl⟩
theorem l8Value_any (n : Int) (w : World) : Calls Tryz.prog 26 #[.int .i64 n] w fun e w' => e = .returned (.bool (inB n 1 2)) ∧ w' = w := by
  have e : inB n 1 2 = (decide (n = 1) || decide (n = 2)) := by rw [Bool.eq_iff_iff, inBi]; simp; omega
  rw [e]
  clear e
  by_cases h1 : n = 1
  · subst h1
    go_enter Tryz.func26, Tryz.ntmps26
    go_wp2
    go_ret
    exact ⟨rfl, rfl⟩
  · go_enter Tryz.func26, Tryz.ntmps26
    go_wp2
    all_goals
      go_ret
      exact ⟨by first | (simp_all; done) | (simp_all; rw [Bool.eq_iff_iff]; simp; done) | (simp_all; rw [Bool.eq_iff_iff]; simp; omega), rfl⟩
theorem isBallot_any (n : Int) (w : World) : Calls Tryz.prog 101 #[.int .i64 n] w fun e w' => e = .returned (.bool (inB n 0 1000)) ∧ w' = w := by
  go_enter Tryz.func101, Tryz.ntmps101
  go_wp2_with (go_at_call 69; refine (within_any _ _ _ _).mono ?_; rintro e w' ⟨rfl, rfl⟩)
  go_ret
  exact ⟨rfl, rfl⟩
theorem isValue_any (n : Int) (w : World) : Calls Tryz.prog 74 #[.int .i64 n] w fun e w' => e = .returned (.bool (inB n 1 2)) ∧ w' = w := by
  go_enter Tryz.func74, Tryz.ntmps74
  go_wp2_with (go_at_call 69; refine (within_any _ _ _ _).mono ?_; rintro e w' ⟨rfl, rfl⟩)
  go_ret
  exact ⟨rfl, rfl⟩
theorem isVote_any (x : Vot) (w : World) : Calls Tryz.prog 68 #[.agg #[.int .i64 x.bal, .int .i64 x.val]] w fun e w' => e = .returned (.bool (votB x)) ∧ Below w.heap.size w w' := by
  unfold votB
  cases h1 : inB x.bal 0 1000
  all_goals
    go_enter Tryz.func68, Tryz.ntmps68
    go_wp2_with (first | (go_at_call 101; refine (isBallot_any _ _).mono ?_; rintro e w' ⟨rfl, rfl⟩) | (go_at_call 74; refine (isValue_any _ _).mono ?_; rintro e w' ⟨rfl, rfl⟩))
    go_ret
    exact ⟨by simp, by (repeat (first | exact Below.refl _ _ | assumption | refine Below.drew ?_ | refine balloc ?_ _ | refine bset ?_ (by simp; omega) _ | refine bset ?_ (by simp) _ | refine bstep ?_ (by assumption)))⟩
def otherB (x y : Vot) : Bool := decide (x.bal = y.bal) && !decide (x.val = y.val)
theorem isOtherwise_any (x y : Vot) (w : World) : Calls Tryz.prog 127 #[.agg #[.int .i64 x.bal, .int .i64 x.val], .agg #[.int .i64 y.bal, .int .i64 y.val]] w fun e w' => e = .returned (.bool (otherB x y)) ∧ Below w.heap.size w w' := by
  unfold otherB
  by_cases h1 : x.bal = y.bal
  all_goals
    go_enter Tryz.func127, Tryz.ntmps127
    go_wp2
    all_goals
      go_ret
      exact ⟨by first | (simp_all; done) | (simp_all; rw [Bool.eq_iff_iff]; simp; done) | (simp_all; rw [Bool.eq_iff_iff]; simp; omega), by (repeat (first | exact Below.refl _ _ | assumption | refine Below.drew ?_ | refine balloc ?_ _ | refine bset ?_ (by simp; omega) _ | refine bset ?_ (by simp) _ | refine bstep ?_ (by assumption)))⟩
end Go.Proofs.YtncmdeijimgchaaGreat

/-
  NewSlot, QuorumOf, on both sides.
-/
set_option linter.unusedSimpArgs false
namespace Go.Proofs.YtncmdeijimgchaaGreat
open Go.RowKit
set_option linter.unusedSectionVars false
variable [DecidableEq Vot] [Inhabited Vot] [DecidableEq Slt] [Inhabited Slt] [DecidableEq SltR] [Inhabited SltR] [DecidableEq Bal] [Inhabited Bal] [DecidableEq Ledg] [Inhabited Ledg] [DecidableEq Leg] [Inhabited Leg]
attribute [local go_sem ↓] Go.wp_at_zero Go.wp_at_succ

theorem noOwn {b : Nat} (h : (Value.slice none 0 0).ownBlock = some b) : False := by simp [Value.ownBlock] at h
theorem vots_nil (w : World) (base : Nat) : votsR.O w base (fun _ => False) (.slice none 0 0) [] :=
  ⟨World.ownsRow_nil _ _ _ _, by funext b; exact propext ⟨fun h => h.elim, noOwn⟩⟩
theorem slt_nil (w : World) (base : Nat) (a b c d e : Int) : sltR.O w base (fun _ => False) (.agg #[.int .i64 a, .int .i64 b, .int .i64 c, .int .i64 d, .int .i64 e, .slice none 0 0]) ⟨a, b, c, d, e, []⟩ :=
  ⟨_, _, rfl, vots_nil w base, fun _ => Iff.rfl⟩
theorem sltR_nil (w : World) (base : Nat) (q x y a b c d e : Int) : sltRR.O w base (fun _ => False) (.agg #[.int .i64 q, .int .i64 x, .int .i64 y, .int .i64 a, .int .i64 b, .int .i64 c, .int .i64 d, .int .i64 e, .slice none 0 0]) ⟨q, x, y, ⟨a, b, c, d, e, []⟩⟩ :=
  ⟨_, _, rfl, slt_nil w base a b c d e, fun _ => Iff.rfl⟩
def newSlt (c s : Int) : SltR := if inB c 1 1000000000 && inB s 0 2 then ⟨0, 0, 0, ⟨c, s, -1, -1, 0, []⟩⟩ else ⟨3, 0, 0, ⟨0, 0, 0, 0, 0, []⟩⟩
set_option maxHeartbeats 1000000 in
theorem specNewS_u (c s : Int) (w : World) :
    Calls Tryz.prog 58 #[.int .i64 c, .int .i64 s] w fun e w' => ∃ v F, e = .returned v ∧ sltRR.O w' w.heap.size F v (newSlt c s) ∧ Below w.heap.size w w' := by
  unfold newSlt
  cases h1 : inB c 1 1000000000
  · go_enter Tryz.func58, Tryz.ntmps58
    go_wp2_with (first | (go_at_call 80; refine (l1Id_any _ _).mono ?_; rintro e w' ⟨rfl, rfl⟩; rw [h1]) | (go_at_call 27; refine (l1In_any _ _ _ _).mono ?_; rintro e w' ⟨rfl, rfl⟩))
    refine bodyPost_ret (v := .agg #[.int .i64 3, .int .i64 0, .int .i64 0, .int .i64 0, .int .i64 0, .int .i64 0, .int .i64 0, .int .i64 0, .slice none 0 0]) (by simp [results, Tryz.results58, go_sem]) rfl ?_
    first | exact ⟨_, rfl, ⟨_, sltR_nil _ _ 3 0 0 0 0 0 0 0⟩, by (repeat (first | exact Below.refl _ _ | assumption | refine Below.drew ?_ | refine balloc ?_ _ | refine bset ?_ (by simp; omega) _ | refine bset ?_ (by simp) _ | refine bstep ?_ (by assumption)))⟩ | exact ⟨_, _, rfl, sltR_nil _ _ 3 0 0 0 0 0 0 0, by (repeat (first | exact Below.refl _ _ | assumption | refine Below.drew ?_ | refine balloc ?_ _ | refine bset ?_ (by simp; omega) _ | refine bset ?_ (by simp) _ | refine bstep ?_ (by assumption)))⟩
  cases h2 : inB s 0 2
  · go_enter Tryz.func58, Tryz.ntmps58
    go_wp2_with (first | (go_at_call 80; refine (l1Id_any _ _).mono ?_; rintro e w' ⟨rfl, rfl⟩; rw [h1]) | (go_at_call 27; refine (l1In_any _ _ _ _).mono ?_; rintro e w' ⟨rfl, rfl⟩; rw [h2]))
    refine bodyPost_ret (v := .agg #[.int .i64 3, .int .i64 0, .int .i64 0, .int .i64 0, .int .i64 0, .int .i64 0, .int .i64 0, .int .i64 0, .slice none 0 0]) (by simp [results, Tryz.results58, go_sem]) rfl ?_
    first | exact ⟨_, rfl, ⟨_, sltR_nil _ _ 3 0 0 0 0 0 0 0⟩, by (repeat (first | exact Below.refl _ _ | assumption | refine Below.drew ?_ | refine balloc ?_ _ | refine bset ?_ (by simp; omega) _ | refine bset ?_ (by simp) _ | refine bstep ?_ (by assumption)))⟩ | exact ⟨_, _, rfl, sltR_nil _ _ 3 0 0 0 0 0 0 0, by (repeat (first | exact Below.refl _ _ | assumption | refine Below.drew ?_ | refine balloc ?_ _ | refine bset ?_ (by simp; omega) _ | refine bset ?_ (by simp) _ | refine bstep ?_ (by assumption)))⟩
  · go_enter Tryz.func58, Tryz.ntmps58
    go_wp2_with (first | (go_at_call 80; refine (l1Id_any _ _).mono ?_; rintro e w' ⟨rfl, rfl⟩; rw [h1]) | (go_at_call 27; refine (l1In_any _ _ _ _).mono ?_; rintro e w' ⟨rfl, rfl⟩; rw [h2]) | fail)
    refine (l8None_any _).mono ?_
    rintro e w1 ⟨rfl, hb1⟩
    have hB1 : Below w.heap.size w w1 := bstep (by (repeat (first | exact Below.refl _ _ | assumption | refine Below.drew ?_ | refine balloc ?_ _ | refine bset ?_ (by simp; omega) _ | refine bset ?_ (by simp) _ | refine bstep ?_ (by assumption)))) hb1
    obtain ⟨c1, f1⟩ := bcell hb1
    clear hb1
    go_wp2
    refine bodyPost_ret (v := .agg #[.int .i64 0, .int .i64 0, .int .i64 0, .int .i64 c, .int .i64 s, .int .i64 (-1), .int .i64 (-1), .int .i64 0, .slice none 0 0]) (by simp [results, Tryz.results58, go_sem, c1]) rfl ?_
    first | exact ⟨_, rfl, ⟨_, sltR_nil _ _ 0 0 0 c s (-1) (-1) 0⟩, by (repeat (first | refine bset ?_ (by simp; omega) _ | refine bset ?_ (by simp) _ | refine balloc ?_ _ | assumption))⟩ | exact ⟨_, _, rfl, sltR_nil _ _ 0 0 0 c s (-1) (-1) 0, by (repeat (first | refine bset ?_ (by simp; omega) _ | refine bset ?_ (by simp) _ | refine balloc ?_ _ | assumption))⟩
set_option maxHeartbeats 1000000 in
theorem implNewS_u (c s : Int) (w : World) :
    Calls Tryz.prog 55 #[.int .i64 c, .int .i64 s] w fun e w' => ∃ v F, e = .returned v ∧ sltRR.O w' w.heap.size F v (newSlt c s) ∧ Below w.heap.size w w' := by
  unfold newSlt
  cases h1 : inB c 1 1000000000
  · go_enter Tryz.func55, Tryz.ntmps55
    go_wp2_with (first | (go_at_call 91; refine (isId_any _ _).mono ?_; rintro e w' ⟨rfl, rfl⟩; rw [h1]) | (go_at_call 92; refine (isShard_any _ _).mono ?_; rintro e w' ⟨rfl, rfl⟩))
    refine bodyPost_ret (v := .agg #[.int .i64 3, .int .i64 0, .int .i64 0, .int .i64 0, .int .i64 0, .int .i64 0, .int .i64 0, .int .i64 0, .slice none 0 0]) (by simp [results, Tryz.results55, go_sem]) rfl ?_
    first | exact ⟨_, rfl, ⟨_, sltR_nil _ _ 3 0 0 0 0 0 0 0⟩, by (repeat (first | exact Below.refl _ _ | assumption | refine Below.drew ?_ | refine balloc ?_ _ | refine bset ?_ (by simp; omega) _ | refine bset ?_ (by simp) _ | refine bstep ?_ (by assumption)))⟩ | exact ⟨_, _, rfl, sltR_nil _ _ 3 0 0 0 0 0 0 0, by (repeat (first | exact Below.refl _ _ | assumption | refine Below.drew ?_ | refine balloc ?_ _ | refine bset ?_ (by simp; omega) _ | refine bset ?_ (by simp) _ | refine bstep ?_ (by assumption)))⟩
  cases h2 : inB s 0 2
  · go_enter Tryz.func55, Tryz.ntmps55
    go_wp2_with (first | (go_at_call 91; refine (isId_any _ _).mono ?_; rintro e w' ⟨rfl, rfl⟩; rw [h1]) | (go_at_call 92; refine (isShard_any _ _).mono ?_; rintro e w' ⟨rfl, rfl⟩; rw [h2]))
    refine bodyPost_ret (v := .agg #[.int .i64 3, .int .i64 0, .int .i64 0, .int .i64 0, .int .i64 0, .int .i64 0, .int .i64 0, .int .i64 0, .slice none 0 0]) (by simp [results, Tryz.results55, go_sem]) rfl ?_
    first | exact ⟨_, rfl, ⟨_, sltR_nil _ _ 3 0 0 0 0 0 0 0⟩, by (repeat (first | exact Below.refl _ _ | assumption | refine Below.drew ?_ | refine balloc ?_ _ | refine bset ?_ (by simp; omega) _ | refine bset ?_ (by simp) _ | refine bstep ?_ (by assumption)))⟩ | exact ⟨_, _, rfl, sltR_nil _ _ 3 0 0 0 0 0 0 0, by (repeat (first | exact Below.refl _ _ | assumption | refine Below.drew ?_ | refine balloc ?_ _ | refine bset ?_ (by simp; omega) _ | refine bset ?_ (by simp) _ | refine bstep ?_ (by assumption)))⟩
  · go_enter Tryz.func55, Tryz.ntmps55
    go_wp2_with (first | (go_at_call 91; refine (isId_any _ _).mono ?_; rintro e w' ⟨rfl, rfl⟩; rw [h1]) | (go_at_call 92; refine (isShard_any _ _).mono ?_; rintro e w' ⟨rfl, rfl⟩; rw [h2]) | fail)
    refine (noVote_any _).mono ?_
    rintro e w1 ⟨rfl, hb1⟩
    have hB1 : Below w.heap.size w w1 := bstep (by (repeat (first | exact Below.refl _ _ | assumption | refine Below.drew ?_ | refine balloc ?_ _ | refine bset ?_ (by simp; omega) _ | refine bset ?_ (by simp) _ | refine bstep ?_ (by assumption)))) hb1
    obtain ⟨c1, f1⟩ := bcell hb1
    clear hb1
    go_wp2
    refine bodyPost_ret (v := .agg #[.int .i64 0, .int .i64 0, .int .i64 0, .int .i64 c, .int .i64 s, .int .i64 (-1), .int .i64 (-1), .int .i64 0, .slice none 0 0]) (by simp [results, Tryz.results55, go_sem, c1]) rfl ?_
    first | exact ⟨_, rfl, ⟨_, sltR_nil _ _ 0 0 0 c s (-1) (-1) 0⟩, by (repeat (first | refine bset ?_ (by simp; omega) _ | refine bset ?_ (by simp) _ | refine balloc ?_ _ | assumption))⟩ | exact ⟨_, _, rfl, sltR_nil _ _ 0 0 0 c s (-1) (-1) 0, by (repeat (first | refine bset ?_ (by simp; omega) _ | refine bset ?_ (by simp) _ | refine balloc ?_ _ | assumption))⟩
def quoV (n : Int) : Int := n / 2 + 1
def quoC (n : Int) : Int := if inB n 1 9 then 0 else 3
def quoR (n : Int) : Int := if inB n 1 9 then quoV n else 0
theorem nine {n : Int} (h : inB n 1 9 = true) : n = 1 ∨ n = 2 ∨ n = 3 ∨ n = 4 ∨ n = 5 ∨ n = 6 ∨ n = 7 ∨ n = 8 ∨ n = 9 := by
  rw [inBi] at h
  omega
set_option maxHeartbeats 400000 in
theorem l8Quorum_any (n : Int) (h : inB n 1 9 = true) (w : World) : Calls Tryz.prog 30 #[.int .i64 n] w fun e w' => e = .returned (.int .i64 (quoV n)) ∧ w' = w := by
  rcases nine h with rfl | rfl | rfl | rfl | rfl | rfl | rfl | rfl | rfl
  all_goals
    go_enter Tryz.func30, Tryz.ntmps30
    go_wp2
    go_ret
    exact ⟨by first | rfl | decide, rfl⟩
set_option maxHeartbeats 1000000 in
theorem implQuorum_any (n : Int) (w : World) : Calls Tryz.prog 39 #[.int .i64 n] w fun e w' => e = .returned (.agg #[.int .i64 (quoC n), .int .i64 (quoR n)]) ∧ Below w.heap.size w w' := by
  unfold quoC quoR
  cases h : inB n 1 9
  · go_enter Tryz.func39, Tryz.ntmps39
    go_wp2_with (go_at_call 69; refine (within_any _ _ _ _).mono ?_; rintro e w' ⟨rfl, rfl⟩; rw [h])
    exact bodyPost_ret (v := .agg #[.int .i64 3, .int .i64 0]) (by simp [results, Tryz.results39, go_sem]) rfl ⟨rfl, by (repeat (first | exact Below.refl _ _ | assumption | refine Below.drew ?_ | refine balloc ?_ _ | refine bset ?_ (by simp; omega) _ | refine bset ?_ (by simp) _ | refine bstep ?_ (by assumption)))⟩
  · have hh := h
    rcases nine hh with rfl | rfl | rfl | rfl | rfl | rfl | rfl | rfl | rfl
    all_goals
      clear hh
      go_enter Tryz.func39, Tryz.ntmps39
      go_wp2_with (go_at_call 69; refine (within_any _ _ _ _).mono ?_; rintro e w' ⟨rfl, rfl⟩; rw [h])
      exact bodyPost_ret (v := .agg #[.int .i64 0, .int .i64 (quoV _)]) (by simp [results, Tryz.results39, go_sem]; try decide) rfl ⟨rfl, by (repeat (first | exact Below.refl _ _ | assumption | refine Below.drew ?_ | refine balloc ?_ _ | refine bset ?_ (by simp; omega) _ | refine bset ?_ (by simp) _ | refine bstep ?_ (by assumption)))⟩
end Go.Proofs.YtncmdeijimgchaaGreat

/-
  Rows of Slot. (Written by program: nest.py.)
-/
namespace Go.Proofs.YtncmdeijimgchaaGreat
open Go.RowKit
set_option linter.unusedSectionVars false
variable [DecidableEq Vot] [Inhabited Vot] [DecidableEq Slt] [Inhabited Slt]
attribute [local go_sem ↓] Go.wp_at_zero Go.wp_at_succ

def sltsR : Rep (List Slt) := nRep sltR 76 6 lvSlt
def wtSlts (xs : List Slt) : Nat := wtL wtSlt xs
def cntSlts (xs : List Slt) : Nat := cntL cntElSlt xs
def mkSlts (k : Int) (xs : List Slt) : List Slt := mkL mkElSlt cntElSlt k xs
theorem slts_form {w : World} {v : Value} {xs : List Slt} (h : sltsR.V w v xs) : ∃ a c, v = .slice a xs.length c := by
  obtain ⟨a, c, rfl, _⟩ := h
  exact ⟨_, _, rfl⟩
theorem slts_cnt (d : List Slt) : cntSlts d ≤ 7 * wtSlts d := cntL_le (fun x => slt_cntEl x) d
theorem infoSlts : (Tryz.prog.info? 76).map (fun i => (i.zero, i.size, i.bytes)) = some (some (.agg #[.int .i64 0, .int .i64 0, .int .i64 0, .int .i64 0, .int .i64 0, .slice none 0 0]), 6, 64) := by kernel_rfl
theorem keepSlts {w w' : World} {a0 a1 a2 a3 a4 a5 a6 a7 a8 a9 a10 a11 : Addr} {x0 x1 x2 x3 x4 x5 x6 x7 x8 x9 x10 x11 : Value} (hb : Below w.heap.size w w') (g0 : w.cell? a0 = some x0) (g1 : w.cell? a1 = some x1) (g2 : w.cell? a2 = some x2) (g3 : w.cell? a3 = some x3) (g4 : w.cell? a4 = some x4) (g5 : w.cell? a5 = some x5) (g6 : w.cell? a6 = some x6) (g7 : w.cell? a7 = some x7) (g8 : w.cell? a8 = some x8) (g9 : w.cell? a9 = some x9) (g10 : w.cell? a10 = some x10) (g11 : w.cell? a11 = some x11) : Below w.heap.size w w' ∧ w'.cell? a0 = some x0 ∧ w'.cell? a1 = some x1 ∧ w'.cell? a2 = some x2 ∧ w'.cell? a3 = some x3 ∧ w'.cell? a4 = some x4 ∧ w'.cell? a5 = some x5 ∧ w'.cell? a6 = some x6 ∧ w'.cell? a7 = some x7 ∧ w'.cell? a8 = some x8 ∧ w'.cell? a9 = some x9 ∧ w'.cell? a10 = some x10 ∧ w'.cell? a11 = some x11 :=
  ⟨hb, cell_keep hb g0, cell_keep hb g1, cell_keep hb g2, cell_keep hb g3, cell_keep hb g4, cell_keep hb g5, cell_keep hb g6, cell_keep hb g7, cell_keep hb g8, cell_keep hb g9, cell_keep hb g10, cell_keep hb g11⟩
set_option maxHeartbeats 1000000 in
theorem eqSlotS_u (x y : Value) (xs ys : List Slt) (w : World) (hx : sltsR.V w x xs) (hy : sltsR.V w y ys) :
    Calls Tryz.prog 76 #[x, y] w fun e w' => e = .returned (.bool (decide (xs = ys))) ∧ Below w.heap.size w w' := by
  obtain ⟨ax, cx, rfl, hcx, hmx, hx⟩ := hx
  obtain ⟨ay, cy, rfl, hcy, hmy, hy⟩ := hy
  unfold maxLen at hmx hmy
  by_cases hl : ys.length = xs.length
  · rw [hl] at hcy hy ⊢
    have HL : Hid (ys.length = xs.length) := hl
    clear hl
    generalize hn : xs.length = n at *
    have HN : Hid (xs.length = n) := hn
    clear hn
    go_enter Tryz.func76, Tryz.ntmps76
    go_wp2
    go_loopw [5] (fun i w' => ∃ k : Nat, k ≤ n ∧ i = .int .i64 k ∧ (∀ j, j < k → xs.getD j default = ys.getD j default) ∧ Below w.heap.size w w') (fun i _ => n - (intOf i).toNat)
    case atStart => exact ⟨0, Nat.zero_le _, rfl, fun j h => absurd h (Nat.not_lt_zero _), Below.refl _ _⟩
    case round =>
      obtain ⟨k, hk, rfl, hpre, hbl⟩ := hrel
      have HP : Hid (∀ j, j < k → xs.getD j default = ys.getD j default) := hpre
      clear hpre
      by_cases hlt : k < n
      · obtain ⟨bx, ox, ux, rfl, _, p1, hvx⟩ := hx k hlt
        obtain ⟨b2, oy, uy, rfl, _, p2, hvy⟩ := hy k hlt
        obtain ⟨l1, hl1⟩ : ∃ l, l = xs.getD k default := ⟨_, rfl⟩
        obtain ⟨l2, hl2⟩ : ∃ l, l = ys.getD k default := ⟨_, rfl⟩
        rw [← hl1] at hvx
        rw [← hl2] at hvy
        have H1 : Hid (l1 = xs.getD k default) := hl1
        have H2 : Hid (l2 = ys.getD k default) := hl2
        have hvx' := hvx
        obtain ⟨ux1, rfl, _⟩ := hvx'
        have hvy' := hvy
        obtain ⟨uy1, rfl, _⟩ := hvy'
        have g0 : w.cell? ⟨bx, ox + k * 6, none⟩ = some (.int .i64 l1.con) := p1 0 (by omega)
        have g1 : w.cell? ⟨bx, ox + k * 6 + 1, none⟩ = some (.int .i64 l1.sh) := p1 1 (by omega)
        have g2 : w.cell? ⟨bx, ox + k * 6 + 2, none⟩ = some (.int .i64 l1.pr) := p1 2 (by omega)
        have g3 : w.cell? ⟨bx, ox + k * 6 + 3, none⟩ = some (.int .i64 l1.lb) := p1 3 (by omega)
        have g4 : w.cell? ⟨bx, ox + k * 6 + 4, none⟩ = some (.int .i64 l1.lv) := p1 4 (by omega)
        have g5 : w.cell? ⟨bx, ox + k * 6 + 5, none⟩ = some (ux1) := p1 5 (by omega)
        have g6 : w.cell? ⟨b2, oy + k * 6, none⟩ = some (.int .i64 l2.con) := p2 0 (by omega)
        have g7 : w.cell? ⟨b2, oy + k * 6 + 1, none⟩ = some (.int .i64 l2.sh) := p2 1 (by omega)
        have g8 : w.cell? ⟨b2, oy + k * 6 + 2, none⟩ = some (.int .i64 l2.pr) := p2 2 (by omega)
        have g9 : w.cell? ⟨b2, oy + k * 6 + 3, none⟩ = some (.int .i64 l2.lb) := p2 3 (by omega)
        have g10 : w.cell? ⟨b2, oy + k * 6 + 4, none⟩ = some (.int .i64 l2.lv) := p2 4 (by omega)
        have g11 : w.cell? ⟨b2, oy + k * 6 + 5, none⟩ = some (uy1) := p2 5 (by omega)
        clear hl1 hl2 hx hy p1 p2
        go_wp2
        go_region_held3 (fun w' => Below w.heap.size w w' ∧ w'.cell? ⟨bx, ox + k * 6, none⟩ = some (.int .i64 l1.con) ∧ w'.cell? ⟨bx, ox + k * 6 + 1, none⟩ = some (.int .i64 l1.sh) ∧ w'.cell? ⟨bx, ox + k * 6 + 2, none⟩ = some (.int .i64 l1.pr) ∧ w'.cell? ⟨bx, ox + k * 6 + 3, none⟩ = some (.int .i64 l1.lb) ∧ w'.cell? ⟨bx, ox + k * 6 + 4, none⟩ = some (.int .i64 l1.lv) ∧ w'.cell? ⟨bx, ox + k * 6 + 5, none⟩ = some (ux1) ∧ w'.cell? ⟨b2, oy + k * 6, none⟩ = some (.int .i64 l2.con) ∧ w'.cell? ⟨b2, oy + k * 6 + 1, none⟩ = some (.int .i64 l2.sh) ∧ w'.cell? ⟨b2, oy + k * 6 + 2, none⟩ = some (.int .i64 l2.pr) ∧ w'.cell? ⟨b2, oy + k * 6 + 3, none⟩ = some (.int .i64 l2.lb) ∧ w'.cell? ⟨b2, oy + k * 6 + 4, none⟩ = some (.int .i64 l2.lv) ∧ w'.cell? ⟨b2, oy + k * 6 + 5, none⟩ = some (uy1)) ((refine keepSlts ?_ g0 g1 g2 g3 g4 g5 g6 g7 g8 g9 g10 g11; (repeat (first | exact Below.refl _ _ | assumption | refine Below.drew ?_ | refine balloc ?_ _ | refine bstep ?_ (by assumption))))) (first | (go_at_call 104; refine (eqSlot_u (.agg #[.int .i64 l1.con, .int .i64 l1.sh, .int .i64 l1.pr, .int .i64 l1.lb, .int .i64 l1.lv, ux1]) (.agg #[.int .i64 l2.con, .int .i64 l2.sh, .int .i64 l2.pr, .int .i64 l2.lb, .int .i64 l2.lv, uy1]) l1 l2 _ (sltR.below hvx (by (repeat (first | exact Below.refl _ _ | assumption | refine Below.drew ?_ | refine balloc ?_ _ | refine bstep ?_ (by assumption))))) (sltR.below hvy (by (repeat (first | exact Below.refl _ _ | assumption | refine Below.drew ?_ | refine balloc ?_ _ | refine bstep ?_ (by assumption)))))).mono ?_; rintro e w' ⟨rfl, hb1⟩))
        rename_i hH
        have hB := hH.1
        clear hH
        go_wp2
        · rename_i hle
          go_ret
          refine ⟨?_, hB⟩
          have : ¬ xs = ys := fun h => by
            have : l1 = l2 := by rw [H1.out, H2.out, h]
            simp [this] at hle
          simp [this]
        · rename_i hle
          refine ⟨⟨k + 1, by omega, by go_num, fun j hj => ?_, hB⟩, by simp [intOf]; omega⟩
          by_cases hjk : j < k
          · exact HP.out j hjk
          · have : j = k := by omega
            subst this
            rw [← H1.out, ← H2.out]
            simpa using hle
      · go_wp2
        go_ret
        have : k = n := by omega
        subst this
        refine ⟨?_, hbl⟩
        have : xs = ys := rows_eq_of (by rw [HL.out, HN.out]) (by rw [HN.out]; exact HP.out)
        simp [this]
  · go_enter Tryz.func76, Tryz.ntmps76
    have hl' : ((xs.length : Int) == (ys.length : Int)) = false := by simp; omega
    go_wp2
    go_ret
    have : ¬ xs = ys := fun h => hl (by rw [h])
    exact ⟨by simp [this], Below.refl _ _⟩
set_option maxHeartbeats 1000000 in
theorem toSlotS_u (x : Value) (xs : List Slt) (w : World) (hx : sltsR.V w x xs) (hn : wtSlts xs ≤ 1048576) :
    Calls Tryz.prog 67 #[x] w fun e w' => ∃ v F, e = .returned v ∧ sltsR.O w' w.heap.size F v xs ∧ Below w.heap.size w w' := by
  obtain ⟨ax, cx, rfl, hcx, hmx, hx⟩ := hx
  unfold maxLen at hmx
  unfold wtSlts at hn
  have hlen : xs.length ≤ 1048576 := by unfold wtL at hn; omega
  have hW : ∀ k, k < xs.length → wtSlt (xs.getD k default) ≤ 1048576 := fun k hk => (wt_at hn hk).1
  obtain ⟨i0, hi, hz0, hz1, hz2⟩ := info_parts infoSlts
  obtain ⟨w1, hmk, hown, hgr⟩ := run_make_full (P := Tryz.prog) w w.heap.size 56 76 i0 _ 6 Tryz.underlying56 hi hz0 hz1 .i64 .i64 xs.length (by rw [hz2]; omega) (by unfold maxLen; omega) (Nat.le_refl _)
  have hbl0 : Below w.heap.size w w1 := (Below.refl _ _).grown hgr (Nat.le_refl _) (fun k h => by cases h)
  clear hn
  generalize hn' : xs.length = n at *
  have HN : Hid (xs.length = n) := hn'
  clear hn'
  go_enter Tryz.func67, Tryz.ntmps67
  go_wp2
  go_loopw [4] (fun i w' => ∃ (k : Nat) (cs : List Value) (us : Nat → Value) (fs : Nat → Nat → Prop), k ≤ n ∧ i = .int .i64 k ∧ PO sltR 76 6 lvSlt w' w.heap.size (.slice (some ⟨w.heap.size, 0, none⟩) n n) n k (fun i => xs.getD i default) cs us fs ∧ Below w.heap.size w w') (fun i _ => n - (intOf i).toNat)
  case atStart => exact ⟨0, _, fun _ => .int .i64 0, fun _ _ => False, Nat.zero_le _, rfl, ⟨hown, fun i h => by omega, fun i h => by omega, fun i h => by omega, fun i h => by omega, fun i j h => by omega⟩, hbl0⟩
  case round =>
    obtain ⟨k, cs, us, fs, hk, rfl, hp, hbl⟩ := hrel
    clear hown hmk hgr hbl0
    by_cases hlt : k < n
    · obtain ⟨bx, ox, ux, rfl, _, p1, hvx⟩ := hx k hlt
      have hw := hW k hlt
      obtain ⟨l, hl⟩ : ∃ l, l = xs.getD k default := ⟨_, rfl⟩
      rw [← hl] at hvx hw
      have HL : Hid (l = xs.getD k default) := hl
      have hvx' := hvx
      obtain ⟨ux1, rfl, _⟩ := hvx'
      have g0 : w.cell? ⟨bx, ox + k * 6, none⟩ = some (.int .i64 l.con) := p1 0 (by omega)
      replace g0 := cell_keep hbl g0
      have g1 : w.cell? ⟨bx, ox + k * 6 + 1, none⟩ = some (.int .i64 l.sh) := p1 1 (by omega)
      replace g1 := cell_keep hbl g1
      have g2 : w.cell? ⟨bx, ox + k * 6 + 2, none⟩ = some (.int .i64 l.pr) := p1 2 (by omega)
      replace g2 := cell_keep hbl g2
      have g3 : w.cell? ⟨bx, ox + k * 6 + 3, none⟩ = some (.int .i64 l.lb) := p1 3 (by omega)
      replace g3 := cell_keep hbl g3
      have g4 : w.cell? ⟨bx, ox + k * 6 + 4, none⟩ = some (.int .i64 l.lv) := p1 4 (by omega)
      replace g4 := cell_keep hbl g4
      have g5 : w.cell? ⟨bx, ox + k * 6 + 5, none⟩ = some (ux1) := p1 5 (by omega)
      replace g5 := cell_keep hbl g5
      clear hx p1 hW hl
      go_wp2_with fail
      refine (toSlot_u (.agg #[.int .i64 l.con, .int .i64 l.sh, .int .i64 l.pr, .int .i64 l.lb, .int .i64 l.lv, ux1]) l _ (sltR.below hvx (by (repeat (first | exact Below.refl _ _ | assumption | refine Below.drew ?_ | refine balloc ?_ _ | refine bstep ?_ (by assumption))))) hw).mono ?_
      rintro e wa ⟨v1, F1, rfl, o1, b1⟩
      have ofm1 := sltR.ofO o1
      obtain ⟨x1_1, rfl, y1_1⟩ := ofm1
      obtain ⟨a1_1, n1_1, rfl⟩ := vots_form y1_1
      have ho1 := (hp.keep b1).row
      obtain ⟨y0, q0⟩ := owns_some ho1 (k * 6) (by omega)
      obtain ⟨y1, q1⟩ := owns_some ho1 (k * 6 + 1) (by omega)
      obtain ⟨y2, q2⟩ := owns_some ho1 (k * 6 + 2) (by omega)
      obtain ⟨y3, q3⟩ := owns_some ho1 (k * 6 + 3) (by omega)
      obtain ⟨y4, q4⟩ := owns_some ho1 (k * 6 + 4) (by omega)
      obtain ⟨y5, q5⟩ := owns_some ho1 (k * 6 + 5) (by omega)
      have hf := fun j => ho1.frozenAt j
      go_wp2
      have s0 := ho1.stored (k * 6) (.int .i64 l.con)
      have s1 := s0.1.stored (k * 6 + 1) (.int .i64 l.sh)
      have s2 := s1.1.stored (k * 6 + 2) (.int .i64 l.pr)
      have s3 := s2.1.stored (k * 6 + 3) (.int .i64 l.lb)
      have s4 := s3.1.stored (k * 6 + 4) (.int .i64 l.lv)
      have s5 := s4.1.stored (k * 6 + 5) (.slice a1_1 l.cast.length n1_1)
      have hrow : World.ownsRow _ w.heap.size 76 6 (.slice (some ⟨w.heap.size, 0, none⟩) n n) n (setRow cs (k * 6) [.int .i64 l.con, .int .i64 l.sh, .int .i64 l.pr, .int .i64 l.lb, .int .i64 l.lv, .slice a1_1 l.cast.length n1_1]) := s5.1
      have hcl := hp.row.1
      refine ⟨⟨k + 1, _, _, _, by omega, by go_num, hp.push (u := (.agg #[.int .i64 l.con, .int .i64 l.sh, .int .i64 l.pr, .int .i64 l.lb, .int .i64 l.lv, .slice a1_1 l.cast.length n1_1])) (F := F1) hbl.size b1 (by rw [← HL.out]; exact o1) rfl hrow ((((((Mod.of_grown s0.2).trans (Mod.of_grown s1.2)).trans (Mod.of_grown s2.2)).trans (Mod.of_grown s3.2)).trans (Mod.of_grown s4.2)).trans (Mod.of_grown s5.2)) ?_ ?_, ?_⟩, by simp [intOf]; omega⟩
      · intro i hi j hj
        exact setRow_old _ _ _ _ (.inl (by omega))
      · intro j hj
        exact setRow_new _ _ _ _ (by simp only [List.length_cons, List.length_nil]; omega) hj
      · exact (((((((bstep hbl b1).setCell (Nat.le_refl _) _).setCell (Nat.le_refl _) _).setCell (Nat.le_refl _) _).setCell (Nat.le_refl _) _).setCell (Nat.le_refl _) _).setCell (Nat.le_refl _) _)
    · go_wp2
      go_ret
      have hkn : k = n := by omega
      subst hkn
      have e := HN.out
      subst e
      exact ⟨_, _, rfl, ⟨cs, us, fs, hp, fun b => Iff.rfl⟩, hbl⟩
set_option maxHeartbeats 1000000 in
theorem szSlotS_u (x : Value) (xs : List Slt) (left : Int) (w : World) (hx : sltsR.V w x xs) (h0 : 0 ≤ left) (h1 : left ≤ 1048576) :
    Calls Tryz.prog 57 #[x, .int .i64 left] w fun e w' => e = .returned (.int .i64 (szLen left (wtSlts xs))) ∧ Below w.heap.size w w' := by
  obtain ⟨ax, cx, rfl, hcx, hmx, hx⟩ := hx
  unfold maxLen at hmx
  unfold wtSlts wtL
  have HT : Hid (∀ k, k < xs.length → cntTo wtSlt (k + 1) xs = cntTo wtSlt k xs + wtSlt (xs.getD k default) ∧ cntTo wtSlt (k + 1) xs ≤ cntTo wtSlt xs.length xs) :=
    fun k hk => ⟨cntTo_succ _ k xs hk, cntTo_le _ _ _ _ hk⟩
  generalize xs.length = n at *
  by_cases h : left < n
  · have h' : left - (n : Int) < 0 := by omega
    clear hx
    go_enter Tryz.func57, Tryz.ntmps57
    go_wp2
    go_ret
    exact ⟨by simp only [szLen]; rw [if_pos (by omega)]; rfl, Below.refl _ _⟩
  · have h' : ¬ left - (n : Int) < 0 := by omega
    go_enter Tryz.func57, Tryz.ntmps57
    go_wp2
    go_loopw [1, 5] (fun l i w' => ∃ k : Nat, k ≤ n ∧ i = .int .i64 k ∧ l = .int .i64 (left - n - cntTo wtSlt k xs) ∧ 0 ≤ left - n - cntTo wtSlt k xs ∧ Below w.heap.size w w') (fun _ i _ => n - (intOf i).toNat)
    case atStart => exact ⟨0, Nat.zero_le _, rfl, by simp [cntTo], by simp [cntTo]; omega, Below.refl _ _⟩
    case round =>
      obtain ⟨k, hk, rfl, rfl, hpos, hbl⟩ := hrel
      by_cases hlt : k < n
      · obtain ⟨bx, ox, ux, rfl, _, p1, hvx⟩ := hx k hlt
        obtain ⟨t2, t3⟩ := HT.out k hlt
        generalize xs.getD k default = l at *
        have hvx' := hvx
        obtain ⟨ux1, rfl, _⟩ := hvx'
        have g0 : w.cell? ⟨bx, ox + k * 6, none⟩ = some (.int .i64 l.con) := p1 0 (by omega)
        replace g0 := cell_keep hbl g0
        have g1 : w.cell? ⟨bx, ox + k * 6 + 1, none⟩ = some (.int .i64 l.sh) := p1 1 (by omega)
        replace g1 := cell_keep hbl g1
        have g2 : w.cell? ⟨bx, ox + k * 6 + 2, none⟩ = some (.int .i64 l.pr) := p1 2 (by omega)
        replace g2 := cell_keep hbl g2
        have g3 : w.cell? ⟨bx, ox + k * 6 + 3, none⟩ = some (.int .i64 l.lb) := p1 3 (by omega)
        replace g3 := cell_keep hbl g3
        have g4 : w.cell? ⟨bx, ox + k * 6 + 4, none⟩ = some (.int .i64 l.lv) := p1 4 (by omega)
        replace g4 := cell_keep hbl g4
        have g5 : w.cell? ⟨bx, ox + k * 6 + 5, none⟩ = some (ux1) := p1 5 (by omega)
        replace g5 := cell_keep hbl g5
        generalize hm : wtSlt l = m at *
        have HM : Hid (wtSlt l = m) := hm
        clear hx p1 hm
        generalize cntTo wtSlt k xs = c at *
        go_wp2_with fail
        refine (szSlot_u (.agg #[.int .i64 l.con, .int .i64 l.sh, .int .i64 l.pr, .int .i64 l.lb, .int .i64 l.lv, ux1]) l (left - n - c) _ (sltR.below hvx (by (repeat (first | exact Below.refl _ _ | assumption | refine Below.drew ?_ | refine balloc ?_ _ | refine bstep ?_ (by assumption))))) hpos (by omega)).mono ?_
        rintro e wa ⟨rfl, b1⟩
        rw [HM.out]
        go_wp2
        · rename_i hneg
          go_ret
          refine ⟨?_, by (repeat (first | exact Below.refl _ _ | assumption | refine Below.drew ?_ | refine balloc ?_ _ | refine bstep ?_ (by assumption)))⟩
          have : szLen left ↑(n + cntTo wtSlt n xs) = -1 := by
            unfold szLen at hneg ⊢
            rw [if_pos (by split at hneg <;> omega)]
          rw [this]
          rfl
        · rename_i hneg
          refine ⟨⟨k + 1, by omega, by go_num, ?_, ?_, by (repeat (first | exact Below.refl _ _ | assumption | refine Below.drew ?_ | refine balloc ?_ _ | refine bstep ?_ (by assumption)))⟩, by simp [intOf]; omega⟩
          · congr 1
            unfold szLen at hneg ⊢
            split at hneg <;> omega
          · unfold szLen at hneg
            split at hneg <;> omega
      · go_wp2
        go_ret
        have hkn : k = n := by omega
        subst hkn
        refine ⟨?_, hbl⟩
        have : szLen left ↑(k + cntTo wtSlt k xs) = left - k - cntTo wtSlt k xs := by
          unfold szLen
          rw [if_neg (by omega)]
          omega
        rw [this]
        rfl
set_option maxHeartbeats 1000000 in
theorem heldSlotS_u (v : Value) (xs : List Slt) (k : Int) (w : World) (hv : sltsR.V w v (mkSlts k xs)) (hw : wtSlts xs ≤ 1048576) (hn : k + cntSlts xs ≤ 1073741824) (hk0 : 0 ≤ k) :
    Calls Tryz.prog 78 #[v, .int .i64 k] w fun r w' => r = .returned (.int .i64 (k + cntSlts xs)) ∧ Below w.heap.size w w' := by
  obtain ⟨a, cap, rfl, hnc, hcm, hc⟩ := hv
  unfold mkSlts at hnc hc ⊢
  rw [length_mkL] at hnc hc ⊢
  unfold maxLen at hcm
  have hW : ∀ k, k < xs.length → wtSlt (xs.getD k default) ≤ 1048576 := fun k hk => (wt_at hw hk).1
  unfold cntSlts cntL at hn ⊢
  have HT : Hid (∀ j, j < xs.length → (mkL mkElSlt cntElSlt k xs).getD j default = mkElSlt (k + cntTo cntElSlt j xs) (xs.getD j default) ∧ cntTo cntElSlt (j + 1) xs = cntTo cntElSlt j xs + cntElSlt (xs.getD j default) ∧ cntTo cntElSlt (j + 1) xs ≤ cntTo cntElSlt xs.length xs) :=
    fun j hj => ⟨getD_mkL _ _ _ _ _ hj, cntTo_succ _ j xs hj, cntTo_le _ _ _ _ hj⟩
  clear hw
  generalize xs.length = n at *
  go_enter Tryz.func78, Tryz.ntmps78
  go_wp2
  go_loopw [1, 5] (fun q i w' => ∃ j : Nat, j ≤ n ∧ i = .int .i64 j ∧ q = .int .i64 (k + cntTo cntElSlt j xs) ∧ Below w.heap.size w w') (fun _ i _ => n - (intOf i).toNat)
  case atStart => exact ⟨0, Nat.zero_le _, rfl, by simp [cntTo], Below.refl _ _⟩
  case round =>
    obtain ⟨j, hj, rfl, rfl, hbl⟩ := hrel
    by_cases hlt : j < n
    · obtain ⟨bx, ox, ux, rfl, _, p1, hvx⟩ := hc j hlt
      obtain ⟨t1, t2, t3⟩ := HT.out j hlt
      have hw1 := hW j hlt
      rw [t1] at hvx
      generalize xs.getD j default = l at *
      have tC : cntElSlt l = 1 + 1 + 1 + 1 + 1 + cntVots l.cast := rfl
      rw [tC] at t2
      have tW : wtSlt l = wtVots l.cast := rfl
      rw [tW] at hw1
      clear tC tW
      obtain ⟨q, hq⟩ : ∃ q, q = k + cntTo cntElSlt j xs := ⟨_, rfl⟩
      have hq0 : 0 ≤ q := by omega
      rw [← hq] at hvx ⊢
      have T2 : Hid (k + cntTo cntElSlt (j + 1) xs = q + 1 + 1 + 1 + 1 + 1 + cntVots l.cast) := by show _ = _; omega
      have hq1 : q + 1 + 1 + 1 + 1 + 1 + cntVots l.cast ≤ 1073741824 := by omega
      obtain ⟨ux1, rfl, hv1⟩ := hvx
      dsimp only [mkElSlt] at hv1
      have g0 : w.cell? ⟨bx, ox + j * 6, none⟩ = some (.int .i64 (q)) := p1 0 (by omega)
      replace g0 := cell_keep hbl g0
      have g1 : w.cell? ⟨bx, ox + j * 6 + 1, none⟩ = some (.int .i64 (q + 1)) := p1 1 (by omega)
      replace g1 := cell_keep hbl g1
      have g2 : w.cell? ⟨bx, ox + j * 6 + 2, none⟩ = some (.int .i64 (q + 1 + 1)) := p1 2 (by omega)
      replace g2 := cell_keep hbl g2
      have g3 : w.cell? ⟨bx, ox + j * 6 + 3, none⟩ = some (.int .i64 (q + 1 + 1 + 1)) := p1 3 (by omega)
      replace g3 := cell_keep hbl g3
      have g4 : w.cell? ⟨bx, ox + j * 6 + 4, none⟩ = some (.int .i64 (q + 1 + 1 + 1 + 1)) := p1 4 (by omega)
      replace g4 := cell_keep hbl g4
      have g5 : w.cell? ⟨bx, ox + j * 6 + 5, none⟩ = some (ux1) := p1 5 (by omega)
      replace g5 := cell_keep hbl g5
      clear hc p1 t1 t2 t3 hW hq
      go_wp2_with fail
      refine (heldVoteS_u ux1 l.cast (q + 1 + 1 + 1 + 1 + 1) _ (votsR.below hv1 (by (repeat (first | exact Below.refl _ _ | assumption | refine Below.drew ?_ | refine balloc ?_ _ | refine bstep ?_ (by assumption))))) (by omega) (by omega) (by omega)).mono ?_
      rintro e wb1 ⟨rfl, b1⟩
      go_wp2
      refine ⟨⟨j + 1, by omega, by go_num, ?_, by (repeat (first | exact Below.refl _ _ | assumption | refine Below.drew ?_ | refine balloc ?_ _ | refine bstep ?_ (by assumption)))⟩, by simp [intOf]; omega⟩
      rw [T2.out]
    · go_wp2
      go_ret
      have hjn : j = n := by omega
      subst hjn
      exact ⟨rfl, hbl⟩
set_option maxHeartbeats 1000000 in
theorem markSlotS_u (v : Value) (xs : List Slt) (base : Nat) (F : Nat → Prop) (k : Int) (w : World) (ho : sltsR.O w base F v xs) (hw : wtSlts xs ≤ 1048576) (hn : k + cntSlts xs ≤ 1073741824) (hk0 : 0 ≤ k) :
    Calls Tryz.prog 43 #[v, .int .i64 k] w fun r w' => r = .returned (.int .i64 (k + cntSlts xs)) ∧ sltsR.O w' base F v (mkSlts k xs) ∧ Mod F w w' := by
  obtain ⟨cs, us, fs, hp, hF⟩ := ho
  have hW : ∀ k, k < xs.length → wtSlt (xs.getD k default) ≤ 1048576 := fun k hk => (wt_at hw hk).1
  unfold cntSlts cntL at hn ⊢
  have HT : Hid (∀ j, j < xs.length → (mkL mkElSlt cntElSlt k xs).getD j default = mkElSlt (k + cntTo cntElSlt j xs) (xs.getD j default) ∧ cntTo cntElSlt (j + 1) xs = cntTo cntElSlt j xs + cntElSlt (xs.getD j default) ∧ cntTo cntElSlt (j + 1) xs ≤ cntTo cntElSlt xs.length xs) :=
    fun j hj => ⟨getD_mkL _ _ _ _ _ hj, cntTo_succ _ j xs hj, cntTo_le _ _ _ _ hj⟩
  clear hw
  have hcap := hp.len
  obtain ⟨av, cv, hav⟩ := owns_form hp.row
  subst hav
  have HF : Hid (∀ b, F b ↔ ((Value.slice av xs.length cv).ownBlock = some b ∨ ∃ i, i < xs.length ∧ fs i b)) := hF
  have HM : Hid ((mkL mkElSlt cntElSlt k xs).length = xs.length) := length_mkL _ _ _ _
  clear hF
  generalize hxl : xs.length = n at *
  clear hxl
  go_enter Tryz.func43, Tryz.ntmps43
  go_wp2
  go_loopw [1, 5] (fun q i w' => ∃ (j : Nat) (cs : List Value) (us : Nat → Value), j ≤ n ∧ i = .int .i64 j ∧ q = .int .i64 (k + cntTo cntElSlt j xs) ∧ PO sltR 76 6 lvSlt w' base (.slice av n cv) n n (fun i => if i < j then (mkL mkElSlt cntElSlt k xs).getD i default else xs.getD i default) cs us fs ∧ Mod F w w') (fun _ i _ => n - (intOf i).toNat)
  case atStart => exact ⟨0, cs, us, Nat.zero_le _, rfl, by simp [cntTo], hp.cast (fun i hi => by simp), Mod.refl _ _⟩
  case round =>
    clear hp
    obtain ⟨j, cs, us, hj, rfl, rfl, hp1, hm⟩ := hrel
    by_cases hlt : j < n
    · have he := hp1.el j hlt
      simp only [Nat.lt_irrefl, if_false] at he
      obtain ⟨g, rfl, hcl⟩ := hp1.at hlt hlt
      obtain ⟨t1, t2, t3⟩ := HT.out j hlt
      have hw1 := hW j hlt
      obtain ⟨l, hl⟩ : ∃ l, l = xs.getD j default := ⟨_, rfl⟩
      rw [← hl] at t1 t2 hw1 he
      have tC : cntElSlt l = 1 + 1 + 1 + 1 + 1 + cntVots l.cast := rfl
      rw [tC] at t2
      have tW : wtSlt l = wtVots l.cast := rfl
      rw [tW] at hw1
      clear tC tW
      obtain ⟨q, hq⟩ : ∃ q, q = k + cntTo cntElSlt j xs := ⟨_, rfl⟩
      have hq0 : 0 ≤ q := by omega
      rw [← hq] at t1 ⊢
      have T1 : Hid ((mkL mkElSlt cntElSlt k xs).getD j default = mkElSlt q l) := t1
      have T2 : Hid (k + cntTo cntElSlt (j + 1) xs = q + 1 + 1 + 1 + 1 + 1 + cntVots l.cast) := by show _ = _; omega
      have hq1 : q + 1 + 1 + 1 + 1 + 1 + cntVots l.cast ≤ 1073741824 := by omega
      obtain ⟨ux1, F1, hu, h1, hF⟩ := he
      rw [hu] at hcl
      have g0 : wr.cell? ⟨g, j * 6, none⟩ = some (.int .i64 l.con) := hcl 0 (by omega)
      have g1 : wr.cell? ⟨g, j * 6 + 1, none⟩ = some (.int .i64 l.sh) := hcl 1 (by omega)
      have g2 : wr.cell? ⟨g, j * 6 + 2, none⟩ = some (.int .i64 l.pr) := hcl 2 (by omega)
      have g3 : wr.cell? ⟨g, j * 6 + 3, none⟩ = some (.int .i64 l.lb) := hcl 3 (by omega)
      have g4 : wr.cell? ⟨g, j * 6 + 4, none⟩ = some (.int .i64 l.lv) := hcl 4 (by omega)
      have g5 : wr.cell? ⟨g, j * 6 + 5, none⟩ = some (ux1) := hcl 5 (by omega)
      have hrow := hp1.row
      have hclen := hrow.1
      have hf := fun j => hrow.frozenAt j
      clear hl t1 t2 t3 hW hq hcl
      go_wp2_with fail
      have st1 := hrow.stored (j * 6) (.int .i64 (q))
      replace h1 := votsR.mod h1 (Mod.of_grown st1.2) (fun b hb he => hp1.out j hlt b ((hF b).2 hb) he)
      have M1 := (Mod.of_grown st1.2).mono (G := fun b => (Value.slice (some ⟨g, 0, none⟩) n cv).ownBlock = some b ∨ fs j b) (fun b hb => .inl hb)
      have st2 := st1.1.stored (j * 6 + 1) (.int .i64 (q + 1))
      replace h1 := votsR.mod h1 (Mod.of_grown st2.2) (fun b hb he => hp1.out j hlt b ((hF b).2 hb) he)
      have M2 := (Mod.of_grown st2.2).mono (G := fun b => (Value.slice (some ⟨g, 0, none⟩) n cv).ownBlock = some b ∨ fs j b) (fun b hb => .inl hb)
      have st3 := st2.1.stored (j * 6 + 2) (.int .i64 (q + 1 + 1))
      replace h1 := votsR.mod h1 (Mod.of_grown st3.2) (fun b hb he => hp1.out j hlt b ((hF b).2 hb) he)
      have M3 := (Mod.of_grown st3.2).mono (G := fun b => (Value.slice (some ⟨g, 0, none⟩) n cv).ownBlock = some b ∨ fs j b) (fun b hb => .inl hb)
      have st4 := st3.1.stored (j * 6 + 3) (.int .i64 (q + 1 + 1 + 1))
      replace h1 := votsR.mod h1 (Mod.of_grown st4.2) (fun b hb he => hp1.out j hlt b ((hF b).2 hb) he)
      have M4 := (Mod.of_grown st4.2).mono (G := fun b => (Value.slice (some ⟨g, 0, none⟩) n cv).ownBlock = some b ∨ fs j b) (fun b hb => .inl hb)
      have st5 := st4.1.stored (j * 6 + 4) (.int .i64 (q + 1 + 1 + 1 + 1))
      replace h1 := votsR.mod h1 (Mod.of_grown st5.2) (fun b hb he => hp1.out j hlt b ((hF b).2 hb) he)
      have M5 := (Mod.of_grown st5.2).mono (G := fun b => (Value.slice (some ⟨g, 0, none⟩) n cv).ownBlock = some b ∨ fs j b) (fun b hb => .inl hb)
      refine (markVoteS_u ux1 l.cast base F1 (q + 1 + 1 + 1 + 1 + 1) _ h1 (by omega) (by omega) (by omega)).mono ?_
      rintro e wb1 ⟨rfl, r1, m1⟩
      have rw1 := m1.owns st5.1 (fun b he hb => hp1.out j hlt b ((hF b).2 hb) he)
      have M6 := m1.mono (G := fun b => (Value.slice (some ⟨g, 0, none⟩) n cv).ownBlock = some b ∨ fs j b) (fun b hb => .inr ((hF b).2 hb))
      go_wp2
      have hq := hp1.turn (u := (.agg #[.int .i64 (q), .int .i64 (q + 1), .int .i64 (q + 1 + 1), .int .i64 (q + 1 + 1 + 1), .int .i64 (q + 1 + 1 + 1 + 1), ux1])) (x := mkElSlt q l) hlt (((((M1.trans M2).trans M3).trans M4).trans M5).trans M6) ⟨ux1, F1, rfl, r1, hF⟩ rfl rw1 ?_ ?_
      · refine ⟨⟨j + 1, _, _, by omega, by go_num, by rw [T2.out], hq.cast fun i hi => ?_, hm.trans ((((((M1.trans M2).trans M3).trans M4).trans M5).trans M6).mono fun b hb => (HF.out b).2 ?_)⟩, by simp [intOf]; omega⟩
        · by_cases hij : i = j
          · subst hij
            rw [upd_at, if_pos (by omega)]
            exact T1.out
          · rw [upd_ne _ _ hij]
            by_cases h : i < j
            · rw [if_pos h, if_pos (by omega)]
            · rw [if_neg h, if_neg (by omega)]
        · rcases hb with hb | hb
          · exact .inl hb
          · exact .inr ⟨j, hlt, hb⟩
      · intro i hi hij o ho
        simp only [List.getElem?_set]
        rw [if_neg (by omega)]; rw [if_neg (by omega)]; rw [if_neg (by omega)]; rw [if_neg (by omega)]; rw [if_neg (by omega)]
      · intro o ho
        have ho' : o = 0 ∨ o = 1 ∨ o = 2 ∨ o = 3 ∨ o = 4 ∨ o = 5 := by omega
        rcases ho' with rfl | rfl | rfl | rfl | rfl | rfl
        · rw [show j * 6 + 0 = j * 6 from rfl, List.getElem?_set_ne (by omega), List.getElem?_set_ne (by omega), List.getElem?_set_ne (by omega), List.getElem?_set_ne (by omega), List.getElem?_set_self (by (try simp only [List.length_set]); omega)]
          rfl
        · rw [List.getElem?_set_ne (by omega), List.getElem?_set_ne (by omega), List.getElem?_set_ne (by omega), List.getElem?_set_self (by (try simp only [List.length_set]); omega)]
          rfl
        · rw [List.getElem?_set_ne (by omega), List.getElem?_set_ne (by omega), List.getElem?_set_self (by (try simp only [List.length_set]); omega)]
          rfl
        · rw [List.getElem?_set_ne (by omega), List.getElem?_set_self (by (try simp only [List.length_set]); omega)]
          rfl
        · rw [List.getElem?_set_self (by (try simp only [List.length_set]); omega)]
          rfl
        · rw [List.getElem?_set_ne (by omega), List.getElem?_set_ne (by omega), List.getElem?_set_ne (by omega), List.getElem?_set_ne (by omega), List.getElem?_set_ne (by omega), hp1.cell j hlt 5 (by omega), hu]
          rfl
    · go_wp2
      go_ret
      have hjn : j = n := by omega
      subst hjn
      refine ⟨rfl, ⟨cs, us, fs, ?_, ?_⟩, hm⟩
      · unfold mkSlts
        rw [HM.out]
        exact hp1.cast (fun i hi => by rw [if_pos hi])
      · unfold mkSlts
        rw [HM.out]
        exact HF.out
end Go.Proofs.YtncmdeijimgchaaGreat

/-
  Appending what lies anywhere, or nothing.
-/
namespace Go.Proofs.YtncmdeijimgchaaGreat
open Go.RowKit

def AppAny (w : World) (u : Value) (m : Nat) (news : List Value) : Prop :=
  (∃ c, u = .slice none 0 c ∧ m = 0 ∧ news = []) ∨ ∃ ad c, u = .slice (some ad) m c ∧ ∀ j x, news[j]? = some x → w.cell? (ad.add j) = some x
section
variable {P : Program} (w : World)
theorem run_append_none_any (base : Nat) (t ty e : TypeId) (i : TypeInfo) (size c : Nat) (ht : P.underlying t = some (.slice e)) (hi : P.info? e = some i)
    (v : Value) (n : Nat) (xs : List Value) (hown : w.ownsRow base e size v n xs) :
    (Builtin.append_ #[t, t] ty #[v, .slice none 0 c]).run P w = .ok v w := by
  rcases hown.2 with ⟨rfl, rfl⟩ | ⟨g, cap, cur, rfl, _, _, hnc, _⟩
  · simp [Builtin.append_, run_underlying ht, sizeOf, typeInfo, hi, Builtin.lenOf, Builtin.firstCells]
  · simp [Builtin.append_, run_underlying ht, sizeOf, typeInfo, hi, Builtin.lenOf, Builtin.firstCells, hnc, storeCells]
theorem wp_appAny {o : Oper} {a : Act} {K : Act → World → Prop} {Q : Exit → Act → World → Prop} (s x : Operand) (t : TypeId)
    (ho : o.op = .call { callee := .builtin .append, args := #[s, x], argTypes := #[t, t] })
    (base : Nat) (e : TypeId) (i : TypeInfo) (z : Value) (size bytes : Nat) (ht : P.underlying t = some (.slice e)) (hi : P.info? e = some i) (hz : i.zero = some z)
    (hsize : i.size = size) (hby : i.bytes = bytes) (hzs : z.cells.size = size) (hsz : 0 < size)
    (v : Value) (n : Nat) (xs : List Value) (hs : a.eval s = v) (u : Value) (m : Nat) (news : List Value) (hx : a.eval x = u)
    (hown : w.ownsRow base e size v n xs) (hsrc : AppAny w u m news) (hl : news.length = m * size) (h1 : ∀ u ∈ news, u.oneCell' = true)
    (h63 : n + m ≤ maxLen) (hbytes : (n + m) * bytes ≤ 140737488355328) (hbase : base ≤ w.heap.size)
    (h : ∀ v' w', w'.ownsRow base e size v' (n + m) (xs ++ news) → w.grownBy w' v.ownBlock → (∀ W : World, Below base W w → Below base W w') → K (a.put o.dst v') w') : o.wp P a w K Q := by
  rcases hsrc with ⟨c, rfl, rfl, rfl⟩ | ⟨ad, c, rfl, hnews⟩
  · have hr := run_append_none_any (P := P) w base t o.type e i size c ht hi v n xs hown
    unfold Oper.wp execOp
    simp only [ho, resolve, invoke, builtin, Sem.run_bind, Sem.run_pure, Result.andThen_ok, List.map_toArray, List.map_cons, List.map_nil, hs, hx, hr]
    exact h v w (by simpa using hown) ⟨rfl, rfl, rfl, Nat.le_refl _, fun _ _ _ => rfl⟩ (fun _ hW => hW)
  · exact wp_append_own w s x t ho base e i z size bytes ht hi hz hsize hby hzs hsz v n xs hs hown ad m c news hx hl hnews h1 h63 hbytes hbase (fun v' w' q1 q2 _ => h v' w' q1 q2 (fun W hW => hW.grown q2 hbase (fun k hk => (hown.lt k hk).1)))
theorem step_appAny {ops : Array Oper} {o : Oper} {a : Act} {K : Act → World → Prop} {Q : Exit → Act → World → Prop} {E : Prop} (hgd : o.guard = none) (s x : Operand) (t : TypeId)
    (ho : o.op = .call { callee := .builtin .append, args := #[s, x], argTypes := #[t, t] })
    (base : Nat) (e : TypeId) (i : TypeInfo) (z : Value) (size bytes : Nat) (ht : P.underlying t = some (.slice e)) (hi : P.info? e = some i) (hz : i.zero = some z)
    (hsize : i.size = size) (hby : i.bytes = bytes) (hzs : z.cells.size = size) (hsz : 0 < size)
    (v : Value) (n : Nat) (xs : List Value) (hs : a.eval s = v) (u : Value) (m : Nat) (news : List Value) (hx : a.eval x = u)
    (hown : w.ownsRow base e size v n xs) (hsrc : AppAny w u m news) (hl : news.length = m * size) (h1 : ∀ u ∈ news, u.oneCell' = true)
    (h63 : n + m ≤ maxLen) (hbytes : (n + m) * bytes ≤ 140737488355328) (hbase : base ≤ w.heap.size)
    (h : ∀ v' w', w'.ownsRow base e size v' (n + m) (xs ++ news) → w.grownBy w' v.ownBlock → (∀ W : World, Below base W w → Below base W w') → K (a.put o.dst v') w') :
    if Region.wanted o (yielded ops a.tmps) = true then Oper.wp P o a w K Q else E := by
  have hw : Region.wanted o (yielded ops a.tmps) = true := by simp [Region.wanted, hgd]
  rw [if_pos hw]
  exact wp_appAny w s x t ho base e i z size bytes ht hi hz hsize hby hzs hsz v n xs hs u m news hx hown hsrc hl h1 h63 hbytes hbase h
theorem wpList_appAny {ops : Array Oper} {rest : List Oper} {o : Oper} {a : Act} {Q : Exit → Act → World → Prop} (hgd : o.guard = none) (s x : Operand) (t : TypeId)
    (ho : o.op = .call { callee := .builtin .append, args := #[s, x], argTypes := #[t, t] })
    (base : Nat) (e : TypeId) (i : TypeInfo) (z : Value) (size bytes : Nat) (ht : P.underlying t = some (.slice e)) (hi : P.info? e = some i) (hz : i.zero = some z)
    (hsize : i.size = size) (hby : i.bytes = bytes) (hzs : z.cells.size = size) (hsz : 0 < size)
    (v : Value) (n : Nat) (xs : List Value) (hs : a.eval s = v) (u : Value) (m : Nat) (news : List Value) (hx : a.eval x = u)
    (hown : w.ownsRow base e size v n xs) (hsrc : AppAny w u m news) (hl : news.length = m * size) (h1 : ∀ u ∈ news, u.oneCell' = true)
    (h63 : n + m ≤ maxLen) (hbytes : (n + m) * bytes ≤ 140737488355328) (hbase : base ≤ w.heap.size)
    (h : ∀ v' w', w'.ownsRow base e size v' (n + m) (xs ++ news) → w.grownBy w' v.ownBlock → (∀ W : World, Below base W w → Below base W w') → wpList P ops Q rest (a.put o.dst v') w') :
    wpList P ops Q (o :: rest) a w := by
  refine wpList_plain hgd fun K' hK' => ?_
  exact wp_appAny w s x t ho base e i z size bytes ht hi hz hsize hby hzs hsz v n xs hs u m news hx hown hsrc hl h1 h63 hbytes hbase (fun v' w' q1 q2 q3 => hK' _ _ (h v' w' q1 q2 q3))
end

end Go.Proofs.YtncmdeijimgchaaGreat

