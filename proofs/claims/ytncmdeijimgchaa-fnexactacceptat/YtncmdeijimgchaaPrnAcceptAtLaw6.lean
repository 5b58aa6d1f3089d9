import Derived.Test.YtncmdeijimgchaaPrnAcceptAtLaw2
import Derived.Test.YtncmdeijimgchaaPrnAcceptAtLaw3
import Derived.BigQuiet
import Derived.Deep.QuietTactic
import Derived.Test.YtncmdeijimgchaaPrnAcceptAtLaw5
import Derived.Test.YtncmdeijimgchaaPrnAcceptAtLaw1
import Derived.Deep.DeepAppendRoom

/-
  Votes and slots in plain mathematics: what is asked of a slot.
-/
namespace Go.Proofs.Ytncmdeijimgchaa
open Go.RowKit
set_option linter.unusedSectionVars false
variable [DecidableEq Vot] [Inhabited Vot] [DecidableEq Slt] [Inhabited Slt] [DecidableEq Bal] [Inhabited Bal] [DecidableEq Ledg] [Inhabited Ledg] [DecidableEq Leg] [Inhabited Leg]

def votB (x : Vot) : Bool := inB x.bal 0 1000 && inB x.val 1 2
def noV : Vot := ⟨-1, 0⟩
def other (v p : Vot) : Bool := decide (v.bal < p.bal) || (decide (v.bal = p.bal) && !decide (v.val = p.val))
def lastV (xs : List Vot) (n : Nat) : Vot := if n = 0 then noV else xs.getD (n - 1) default
def votAt (xs : List Vot) (k : Nat) : Int := if votB (xs.getD k default) then (if other (xs.getD k default) (lastV xs k) = true then 1 else 0) else 3
def sltRange (s : Slt) : Bool := inB s.con 1 1000000000 && inB s.sh 0 2 && inB s.pr (-1) 1000
def sltFault (s : Slt) : Int :=
  if sltRange s then (if 60 < s.cast.length then 2 else if scanI (votAt s.cast) s.cast.length = 0 then (if (s.lb = (lastV s.cast s.cast.length).bal ∧ s.lv = (lastV s.cast s.cast.length).val) ∧ s.lb ≤ s.pr then 0 else 1) else scanI (votAt s.cast) s.cast.length) else 3
theorem votB_iff {x : Vot} : votB x = true ↔ (0 ≤ x.bal ∧ x.bal ≤ 1000) ∧ (1 ≤ x.val ∧ x.val ≤ 2) := by simp [votB, inBi]
theorem other_none {x : Vot} (h : votB x = true) : other x noV = false := by
  have h' := votB_iff.1 h
  unfold other noV
  dsimp only
  rw [decide_eq_false (by omega), decide_eq_false (by omega)]
  rfl
theorem lastV_zero (xs : List Vot) : lastV xs 0 = noV := rfl
theorem lastV_succ (xs : List Vot) (k : Nat) : lastV xs (k + 1) = xs.getD k default := by simp [lastV]
theorem votAt_bad {xs : List Vot} {k : Nat} (h : votB (xs.getD k default) = false) : votAt xs k = 3 := by unfold votAt; rw [h]; rfl
theorem votAt_ok {xs : List Vot} {k : Nat} (h : votB (xs.getD k default) = true) (h' : other (xs.getD k default) (lastV xs k) = false) : votAt xs k = 0 := by simp only [votAt, h, h']; simp
theorem votAt_other {xs : List Vot} {k : Nat} (h : votB (xs.getD k default) = true) (h' : other (xs.getD k default) (lastV xs k) = true) : votAt xs k = 1 := by simp only [votAt, h, h']; simp
theorem votAt_inv {xs : List Vot} {k : Nat} (h : votAt xs k = 0) : votB (xs.getD k default) = true ∧ other (xs.getD k default) (lastV xs k) = false := by
  unfold votAt at h
  cases e : votB (xs.getD k default) with
  | false => rw [e] at h; simp at h
  | true =>
    cases e' : other (xs.getD k default) (lastV xs k) with
    | false => exact ⟨rfl, rfl⟩
    | true => rw [e, e'] at h; simp at h
theorem sltF_range {s : Slt} (h : sltRange s = false) : sltFault s = 3 := by unfold sltFault; rw [h]; rfl
theorem sltF_many {s : Slt} (h : sltRange s = true) (h' : 60 < s.cast.length) : sltFault s = 2 := by unfold sltFault; rw [h, if_pos rfl, if_pos h']
theorem sltF_hit {s : Slt} {k : Nat} {c : Int} (h : sltRange s = true) (h' : s.cast.length ≤ 60) (hk : k < s.cast.length) (hs : scanI (votAt s.cast) k = 0) (hc : votAt s.cast k = c) (h0 : c ≠ 0) : sltFault s = c := by
  have e := scanI_hit hs (by rw [hc]; exact h0) _ hk
  unfold sltFault
  rw [h, if_pos rfl, if_neg (by omega), e, hc, if_neg h0]
theorem sltF_end {s : Slt} (h : sltRange s = true) (h' : s.cast.length ≤ 60) (hs : scanI (votAt s.cast) s.cast.length = 0) :
    sltFault s = if (s.lb = (lastV s.cast s.cast.length).bal ∧ s.lv = (lastV s.cast s.cast.length).val) ∧ s.lb ≤ s.pr then 0 else 1 := by
  unfold sltFault
  rw [h, if_pos rfl, if_neg (by omega), if_pos hs]
structure SltOk (s : Slt) : Prop where
  range : sltRange s = true
  len : s.cast.length ≤ 60
  at_ : ∀ k, k < s.cast.length → votB (s.cast.getD k default) = true ∧ other (s.cast.getD k default) (lastV s.cast k) = false
  last : s.lb = (lastV s.cast s.cast.length).bal ∧ s.lv = (lastV s.cast s.cast.length).val
  pr : s.lb ≤ s.pr
theorem sltOk_of {s : Slt} (h : sltFault s = 0) : SltOk s := by
  cases e : sltRange s with
  | false => rw [sltF_range e] at h; omega
  | true =>
    by_cases h6 : 60 < s.cast.length
    · rw [sltF_many e h6] at h; omega
    · by_cases hs : scanI (votAt s.cast) s.cast.length = 0
      · rw [sltF_end e (by omega) hs] at h
        split at h
        · rename_i hh
          exact ⟨e, by omega, fun k hk => votAt_inv (scanI_zero hs k hk), hh.1, hh.2⟩
        · omega
      · unfold sltFault at h
        rw [e, if_pos rfl, if_neg h6, if_neg hs] at h
        exact absurd h hs
theorem SltOk.bal {s : Slt} (h : SltOk s) : -1 ≤ s.lb ∧ s.lb ≤ 1000 := by
  obtain ⟨h1, _⟩ := h.last
  have hl := h.len
  cases e : s.cast.length with
  | zero => rw [e, lastV_zero] at h1; rw [h1]; simp [noV]
  | succ n =>
    rw [e, lastV_succ] at h1
    have := votB_iff.1 (h.at_ n (by omega)).1
    rw [h1]
    omega
end Go.Proofs.Ytncmdeijimgchaa

/-
  The small functions of chapter 8, on both sides.
-/
namespace Go.Proofs.Ytncmdeijimgchaa
open Go.RowKit
set_option linter.unusedSectionVars false
variable [DecidableEq Vot] [Inhabited Vot] [DecidableEq Slt] [Inhabited Slt] [DecidableEq Bal] [Inhabited Bal] [DecidableEq Ledg] [Inhabited Ledg] [DecidableEq Leg] [Inhabited Leg]
attribute [local go_sem ↓] Go.wp_at_zero Go.wp_at_succ

theorem eqInVot (a b c d : Int) (w : World) : (Op.equalIn 10000 54 (.agg #[.int .i64 a, .int .i64 b]) (.agg #[.int .i64 c, .int .i64 d])).run Try.prog w = .ok (decide (a = c) && decide (b = d)) w := by
  rw [run_equalIn_struct w 9999 54 _ _ (by kernel_rfl) (by kernel_rfl)]
  have hf : (Try.prog.fieldsOf 54).toList = [{ name := "Ballot", type := 2, offset := 0, embedded := false, tag := "", pkgPath := "", byteOffset := 0 }, { name := "Value", type := 2, offset := 1, embedded := false, tag := "", pkgPath := "", byteOffset := 8 }] := by kernel_rfl
  rw [hf]
  simp [Op.eqFields, go_sem]
  by_cases e1 : a = c <;> by_cases e2 : b = d <;> simp [e1, e2]
theorem eqlVot (a b c d : Int) (w : World) : (binOp .eql 54 (.agg #[.int .i64 a, .int .i64 b]) (.agg #[.int .i64 c, .int .i64 d])).run Try.prog w = .ok (.bool (decide (a = c) && decide (b = d))) w := by
  rw [run_eql_struct, eqInVot]
  rfl
theorem neqVot (a b c d : Int) (w : World) : (binOp .neq 54 (.agg #[.int .i64 a, .int .i64 b]) (.agg #[.int .i64 c, .int .i64 d])).run Try.prog w = .ok (.bool (!(decide (a = c) && decide (b = d)))) w := by
  rw [run_neq_struct, eqInVot]
  rfl
set_option maxHeartbeats 400000 in
theorem l8None_any (w : World) : Calls Try.prog 56 #[] w fun e w' => e = .returned (.agg #[.int .i64 (-1), .int .i64 0]) ∧ Below w.heap.size w w' := by
  go_enter Try.func56, Try.ntmps56
  go_wp2
  refine bodyPost_ret (v := .agg #[.int .i64 (-1), .int .i64 0]) ?_ rfl ⟨rfl, by (repeat (first | exact Below.refl _ _ | assumption | refine Below.drew ?_ | refine balloc ?_ _ | refine bset ?_ (by simp; omega) _ | refine bset ?_ (by simp) _ | refine bstep ?_ (by assumption)))⟩
  simp [results, Try.results56, go_sem]
set_option maxHeartbeats 400000 in
theorem noVote_any (w : World) : Calls Try.prog 98 #[] w fun e w' => e = .returned (.agg #[.int .i64 (-1), .int .i64 0]) ∧ Below w.heap.size w w' := by
  go_enter Try.func98, Try.ntmps98
  go_wp2
  refine bodyPost_ret (v := .agg #[.int .i64 (-1), .int .i64 0]) ?_ rfl ⟨rfl, by (repeat (first | exact Below.refl _ _ | assumption | refine Below.drew ?_ | refine balloc ?_ _ | refine bset ?_ (by simp; omega) _ | refine bset ?_ (by simp) _ | refine bstep ?_ (by assumption)))⟩
  simp [results, Try.results98, go_sem]
theorem l8Ballot_any (n : Int) (w : World) : Calls Try.prog 57 #[.int .i64 n] w fun e w' => e = .returned (.bool (inB n 0 1000)) ∧ w' = w := by
  go_enter Try.func57, Try.ntmps57
  go_wp2_with (go_at_call 99; refine (l1In_any _ _ _ _).mono ?_; rintro e w' ⟨rfl, rfl⟩)
  go_ret
  exact ⟨rfl, rfl⟩
theorem l8Value_any (n : Int) (w : World) : Calls Try.prog 58 #[.int .i64 n] w fun e w' => e = .returned (.bool (inB n 1 2)) ∧ w' = w := by
  have e : inB n 1 2 = (decide (n = 1) || decide (n = 2)) := by rw [Bool.eq_iff_iff, inBi]; simp; omega
  rw [e]
  clear e
  by_cases h1 : n = 1
  · subst h1
    go_enter Try.func58, Try.ntmps58
    go_wp2
    go_ret
    exact ⟨rfl, rfl⟩
  · go_enter Try.func58, Try.ntmps58
    go_wp2
    all_goals
      go_ret
      exact ⟨by first | (simp_all; done) | (simp_all; rw [Bool.eq_iff_iff]; simp; done) | (simp_all; rw [Bool.eq_iff_iff]; simp; omega), rfl⟩
theorem isBallot_any (n : Int) (w : World) : Calls Try.prog 132 #[.int .i64 n] w fun e w' => e = .returned (.bool (inB n 0 1000)) ∧ w' = w := by
  go_enter Try.func132, Try.ntmps132
  go_wp2_with (go_at_call 90; refine (within_any _ _ _ _).mono ?_; rintro e w' ⟨rfl, rfl⟩)
  go_ret
  exact ⟨rfl, rfl⟩
theorem isValue_any (n : Int) (w : World) : Calls Try.prog 62 #[.int .i64 n] w fun e w' => e = .returned (.bool (inB n 1 2)) ∧ w' = w := by
  go_enter Try.func62, Try.ntmps62
  go_wp2_with (go_at_call 90; refine (within_any _ _ _ _).mono ?_; rintro e w' ⟨rfl, rfl⟩)
  go_ret
  exact ⟨rfl, rfl⟩
theorem isVote_any (x : Vot) (w : World) : Calls Try.prog 89 #[.agg #[.int .i64 x.bal, .int .i64 x.val]] w fun e w' => e = .returned (.bool (votB x)) ∧ Below w.heap.size w w' := by
  unfold votB
  cases h1 : inB x.bal 0 1000
  all_goals
    go_enter Try.func89, Try.ntmps89
    go_wp2_with (first | (go_at_call 132; refine (isBallot_any _ _).mono ?_; rintro e w' ⟨rfl, rfl⟩) | (go_at_call 62; refine (isValue_any _ _).mono ?_; rintro e w' ⟨rfl, rfl⟩))
    go_ret
    exact ⟨by simp, by (repeat (first | exact Below.refl _ _ | assumption | refine Below.drew ?_ | refine balloc ?_ _ | refine bset ?_ (by simp; omega) _ | refine bset ?_ (by simp) _ | refine bstep ?_ (by assumption)))⟩
def otherB (x y : Vot) : Bool := decide (x.bal = y.bal) && !decide (x.val = y.val)
theorem isOtherwise_any (x y : Vot) (w : World) : Calls Try.prog 154 #[.agg #[.int .i64 x.bal, .int .i64 x.val], .agg #[.int .i64 y.bal, .int .i64 y.val]] w fun e w' => e = .returned (.bool (otherB x y)) ∧ Below w.heap.size w w' := by
  unfold otherB
  by_cases h1 : x.bal = y.bal
  all_goals
    go_enter Try.func154, Try.ntmps154
    go_wp2
    all_goals
      go_ret
      exact ⟨by first | (simp_all; done) | (simp_all; rw [Bool.eq_iff_iff]; simp; done) | (simp_all; rw [Bool.eq_iff_iff]; simp; omega), by (repeat (first | exact Below.refl _ _ | assumption | refine Below.drew ?_ | refine balloc ?_ _ | refine bset ?_ (by simp; omega) _ | refine bset ?_ (by simp) _ | refine bstep ?_ (by assumption)))⟩
end Go.Proofs.Ytncmdeijimgchaa

/-
  NewSlot, QuorumOf, on both sides.
-/
set_option linter.unusedSimpArgs false
namespace Go.Proofs.Ytncmdeijimgchaa
open Go.RowKit
set_option linter.unusedSectionVars false
variable [DecidableEq Vot] [Inhabited Vot] [DecidableEq Slt] [Inhabited Slt] [DecidableEq SltR] [Inhabited SltR] [DecidableEq Bal] [Inhabited Bal] [DecidableEq Ledg] [Inhabited Ledg] [DecidableEq Leg] [Inhabited Leg]
attribute [local go_sem ↓] Go.wp_at_zero Go.wp_at_succ

theorem noOwn {b : Nat} (h : (Value.slice none 0 0).ownBlock = some b) : False := by simp [Value.ownBlock] at h
theorem vots_nil (w : World) (base : Nat) : votsR.O w base (fun _ => False) (.slice none 0 0) [] :=
  ⟨World.ownsRow_nil _ _ _ _, by funext b; exact propext ⟨fun h => h.elim, noOwn⟩⟩
theorem slt_nil (w : World) (base : Nat) (a b c d e : Int) : sltR.O w base (fun _ => False) (.agg #[.int .i64 a, .int .i64 b, .int .i64 c, .int .i64 d, .int .i64 e, .slice none 0 0]) ⟨a, b, c, d, e, []⟩ :=
  ⟨_, _, rfl, vots_nil w base, fun _ => Iff.rfl⟩
theorem sltR_nil (w : World) (base : Nat) (q x y a b c d e : Int) : sltRR.O w base (fun _ => False) (.agg #[.int .i64 q, .int .i64 x, .int .i64 y, .int .i64 a, .int .i64 b, .int .i64 c, .int .i64 d, .int .i64 e, .slice none 0 0]) ⟨q, x, y, ⟨a, b, c, d, e, []⟩⟩ :=
  ⟨_, _, rfl, slt_nil w base a b c d e, fun _ => Iff.rfl⟩
def newSlt (c s : Int) : SltR := if inB c 1 1000000000 && inB s 0 2 then ⟨0, 0, 0, ⟨c, s, -1, -1, 0, []⟩⟩ else ⟨3, 0, 0, ⟨0, 0, 0, 0, 0, []⟩⟩
set_option maxHeartbeats 1000000 in
theorem specNewS_u (c s : Int) (w : World) :
    Calls Try.prog 102 #[.int .i64 c, .int .i64 s] w fun e w' => ∃ v F, e = .returned v ∧ sltRR.O w' w.heap.size F v (newSlt c s) ∧ Below w.heap.size w w' := by
  unfold newSlt
  cases h1 : inB c 1 1000000000
  · go_enter Try.func102, Try.ntmps102
    go_wp2_with (first | (go_at_call 127; refine (l1Id_any _ _).mono ?_; rintro e w' ⟨rfl, rfl⟩; rw [h1]) | (go_at_call 99; refine (l1In_any _ _ _ _).mono ?_; rintro e w' ⟨rfl, rfl⟩))
    refine bodyPost_ret (v := .agg #[.int .i64 3, .int .i64 0, .int .i64 0, .int .i64 0, .int .i64 0, .int .i64 0, .int .i64 0, .int .i64 0, .slice none 0 0]) (by simp [results, Try.results102, go_sem]) rfl ?_
    first | exact ⟨_, rfl, ⟨_, sltR_nil _ _ 3 0 0 0 0 0 0 0⟩, by (repeat (first | exact Below.refl _ _ | assumption | refine Below.drew ?_ | refine balloc ?_ _ | refine bset ?_ (by simp; omega) _ | refine bset ?_ (by simp) _ | refine bstep ?_ (by assumption)))⟩ | exact ⟨_, _, rfl, sltR_nil _ _ 3 0 0 0 0 0 0 0, by (repeat (first | exact Below.refl _ _ | assumption | refine Below.drew ?_ | refine balloc ?_ _ | refine bset ?_ (by simp; omega) _ | refine bset ?_ (by simp) _ | refine bstep ?_ (by assumption)))⟩
  cases h2 : inB s 0 2
  · go_enter Try.func102, Try.ntmps102
    go_wp2_with (first | (go_at_call 127; refine (l1Id_any _ _).mono ?_; rintro e w' ⟨rfl, rfl⟩; rw [h1]) | (go_at_call 99; refine (l1In_any _ _ _ _).mono ?_; rintro e w' ⟨rfl, rfl⟩; rw [h2]))
    refine bodyPost_ret (v := .agg #[.int .i64 3, .int .i64 0, .int .i64 0, .int .i64 0, .int .i64 0, .int .i64 0, .int .i64 0, .int .i64 0, .slice none 0 0]) (by simp [results, Try.results102, go_sem]) rfl ?_
    first | exact ⟨_, rfl, ⟨_, sltR_nil _ _ 3 0 0 0 0 0 0 0⟩, by (repeat (first | exact Below.refl _ _ | assumption | refine Below.drew ?_ | refine balloc ?_ _ | refine bset ?_ (by simp; omega) _ | refine bset ?_ (by simp) _ | refine bstep ?_ (by assumption)))⟩ | exact ⟨_, _, rfl, sltR_nil _ _ 3 0 0 0 0 0 0 0, by (repeat (first | exact Below.refl _ _ | assumption | refine Below.drew ?_ | refine balloc ?_ _ | refine bset ?_ (by simp; omega) _ | refine bset ?_ (by simp) _ | refine bstep ?_ (by assumption)))⟩
  · go_enter Try.func102, Try.ntmps102
    go_wp2_with (first | (go_at_call 127; refine (l1Id_any _ _).mono ?_; rintro e w' ⟨rfl, rfl⟩; rw [h1]) | (go_at_call 99; refine (l1In_any _ _ _ _).mono ?_; rintro e w' ⟨rfl, rfl⟩; rw [h2]) | fail)
    refine (l8None_any _).mono ?_
    rintro e w1 ⟨rfl, hb1⟩
    have hB1 : Below w.heap.size w w1 := bstep (by (repeat (first | exact Below.refl _ _ | assumption | refine Below.drew ?_ | refine balloc ?_ _ | refine bset ?_ (by simp; omega) _ | refine bset ?_ (by simp) _ | refine bstep ?_ (by assumption)))) hb1
    obtain ⟨c1, f1⟩ := bcell hb1
    clear hb1
    go_wp2
    refine bodyPost_ret (v := .agg #[.int .i64 0, .int .i64 0, .int .i64 0, .int .i64 c, .int .i64 s, .int .i64 (-1), .int .i64 (-1), .int .i64 0, .slice none 0 0]) (by simp [results, Try.results102, go_sem, c1]) rfl ?_
    first | exact ⟨_, rfl, ⟨_, sltR_nil _ _ 0 0 0 c s (-1) (-1) 0⟩, by (repeat (first | refine bset ?_ (by simp; omega) _ | refine bset ?_ (by simp) _ | refine balloc ?_ _ | assumption))⟩ | exact ⟨_, _, rfl, sltR_nil _ _ 0 0 0 c s (-1) (-1) 0, by (repeat (first | refine bset ?_ (by simp; omega) _ | refine bset ?_ (by simp) _ | refine balloc ?_ _ | assumption))⟩
set_option maxHeartbeats 1000000 in
theorem implNewS_u (c s : Int) (w : World) :
    Calls Try.prog 55 #[.int .i64 c, .int .i64 s] w fun e w' => ∃ v F, e = .returned v ∧ sltRR.O w' w.heap.size F v (newSlt c s) ∧ Below w.heap.size w w' := by
  unfold newSlt
  cases h1 : inB c 1 1000000000
  · go_enter Try.func55, Try.ntmps55
    go_wp2_with (first | (go_at_call 85; refine (isId_any _ _).mono ?_; rintro e w' ⟨rfl, rfl⟩; rw [h1]) | (go_at_call 97; refine (isShard_any _ _).mono ?_; rintro e w' ⟨rfl, rfl⟩))
    refine bodyPost_ret (v := .agg #[.int .i64 3, .int .i64 0, .int .i64 0, .int .i64 0, .int .i64 0, .int .i64 0, .int .i64 0, .int .i64 0, .slice none 0 0]) (by simp [results, Try.results55, go_sem]) rfl ?_
    first | exact ⟨_, rfl, ⟨_, sltR_nil _ _ 3 0 0 0 0 0 0 0⟩, by (repeat (first | exact Below.refl _ _ | assumption | refine Below.drew ?_ | refine balloc ?_ _ | refine bset ?_ (by simp; omega) _ | refine bset ?_ (by simp) _ | refine bstep ?_ (by assumption)))⟩ | exact ⟨_, _, rfl, sltR_nil _ _ 3 0 0 0 0 0 0 0, by (repeat (first | exact Below.refl _ _ | assumption | refine Below.drew ?_ | refine balloc ?_ _ | refine bset ?_ (by simp; omega) _ | refine bset ?_ (by simp) _ | refine bstep ?_ (by assumption)))⟩
  cases h2 : inB s 0 2
  · go_enter Try.func55, Try.ntmps55
    go_wp2_with (first | (go_at_call 85; refine (isId_any _ _).mono ?_; rintro e w' ⟨rfl, rfl⟩; rw [h1]) | (go_at_call 97; refine (isShard_any _ _).mono ?_; rintro e w' ⟨rfl, rfl⟩; rw [h2]))
    refine bodyPost_ret (v := .agg #[.int .i64 3, .int .i64 0, .int .i64 0, .int .i64 0, .int .i64 0, .int .i64 0, .int .i64 0, .int .i64 0, .slice none 0 0]) (by simp [results, Try.results55, go_sem]) rfl ?_
    first | exact ⟨_, rfl, ⟨_, sltR_nil _ _ 3 0 0 0 0 0 0 0⟩, by (repeat (first | exact Below.refl _ _ | assumption | refine Below.drew ?_ | refine balloc ?_ _ | refine bset ?_ (by simp; omega) _ | refine bset ?_ (by simp) _ | refine bstep ?_ (by assumption)))⟩ | exact ⟨_, _, rfl, sltR_nil _ _ 3 0 0 0 0 0 0 0, by (repeat (first | exact Below.refl _ _ | assumption | refine Below.drew ?_ | refine balloc ?_ _ | refine bset ?_ (by simp; omega) _ | refine bset ?_ (by simp) _ | refine bstep ?_ (by assumption)))⟩
  · go_enter Try.func55, Try.ntmps55
    go_wp2_with (first | (go_at_call 85; refine (isId_any _ _).mono ?_; rintro e w' ⟨rfl, rfl⟩; rw [h1]) | (go_at_call 97; refine (isShard_any _ _).mono ?_; rintro e w' ⟨rfl, rfl⟩; rw [h2]) | fail)
    refine (noVote_any _).mono ?_
    rintro e w1 ⟨rfl, hb1⟩
    have hB1 : Below w.heap.size w w1 := bstep (by (repeat (first | exact Below.refl _ _ | assumption | refine Below.drew ?_ | refine balloc ?_ _ | refine bset ?_ (by simp; omega) _ | refine bset ?_ (by simp) _ | refine bstep ?_ (by assumption)))) hb1
    obtain ⟨c1, f1⟩ := bcell hb1
    clear hb1
    go_wp2
    refine bodyPost_ret (v := .agg #[.int .i64 0, .int .i64 0, .int .i64 0, .int .i64 c, .int .i64 s, .int .i64 (-1), .int .i64 (-1), .int .i64 0, .slice none 0 0]) (by simp [results, Try.results55, go_sem, c1]) rfl ?_
    first | exact ⟨_, rfl, ⟨_, sltR_nil _ _ 0 0 0 c s (-1) (-1) 0⟩, by (repeat (first | refine bset ?_ (by simp; omega) _ | refine bset ?_ (by simp) _ | refine balloc ?_ _ | assumption))⟩ | exact ⟨_, _, rfl, sltR_nil _ _ 0 0 0 c s (-1) (-1) 0, by (repeat (first | refine bset ?_ (by simp; omega) _ | refine bset ?_ (by simp) _ | refine balloc ?_ _ | assumption))⟩
end Go.Proofs.Ytncmdeijimgchaa

/-
  Appending what lies anywhere, or nothing.
-/
namespace Go.Proofs.Ytncmdeijimgchaa
open Go.RowKit

def AppAny (w : World) (u : Value) (m : Nat) (news : List Value) : Prop :=
  (∃ c, u = .slice none 0 c ∧ m = 0 ∧ news = []) ∨ ∃ ad c, u = .slice (some ad) m c ∧ ∀ j x, news[j]? = some x → w.cell? (ad.add j) = some x
section
variable {P : Program} (w : World)
theorem run_append_none_any (base : Nat) (t ty e : TypeId) (i : TypeInfo) (size c : Nat) (ht : P.underlying t = some (.slice e)) (hi : P.info? e = some i)
    (v : Value) (n : Nat) (xs : List Value) (hown : w.ownsRow base e size v n xs) :
    (Builtin.append_ #[t, t] ty #[v, .slice none 0 c]).run P w = .ok v w := by
  rcases hown.2 with ⟨rfl, rfl⟩ | ⟨g, cap, cur, rfl, _, _, hnc, _⟩
  · simp [Builtin.append_, run_underlying ht, sizeOf, typeInfo, hi, Builtin.lenOf, Builtin.firstCells]
  · simp [Builtin.append_, run_underlying ht, sizeOf, typeInfo, hi, Builtin.lenOf, Builtin.firstCells, hnc, storeCells]
theorem wp_appAny {o : Oper} {a : Act} {K : Act → World → Prop} {Q : Exit → Act → World → Prop} (s x : Operand) (t : TypeId)
    (ho : o.op = .call { callee := .builtin .append, args := #[s, x], argTypes := #[t, t] })
    (base : Nat) (e : TypeId) (i : TypeInfo) (z : Value) (size bytes : Nat) (ht : P.underlying t = some (.slice e)) (hi : P.info? e = some i) (hz : i.zero = some z)
    (hsize : i.size = size) (hby : i.bytes = bytes) (hzs : z.cells.size = size) (hsz : 0 < size)
    (v : Value) (n : Nat) (xs : List Value) (hs : a.eval s = v) (u : Value) (m : Nat) (news : List Value) (hx : a.eval x = u)
    (hown : w.ownsRow base e size v n xs) (hsrc : AppAny w u m news) (hl : news.length = m * size) (h1 : ∀ u ∈ news, u.oneCell' = true)
    (h63 : n + m ≤ maxLen) (hbytes : (n + m) * bytes ≤ 140737488355328) (hbase : base ≤ w.heap.size)
    (h : ∀ v' w', w'.ownsRow base e size v' (n + m) (xs ++ news) → w.grownBy w' v.ownBlock → (∀ W : World, Below base W w → Below base W w') → K (a.put o.dst v') w') : o.wp P a w K Q := by
  rcases hsrc with ⟨c, rfl, rfl, rfl⟩ | ⟨ad, c, rfl, hnews⟩
  · have hr := run_append_none_any (P := P) w base t o.type e i size c ht hi v n xs hown
    unfold Oper.wp execOp
    simp only [ho, resolve, invoke, builtin, Sem.run_bind, Sem.run_pure, Result.andThen_ok, List.map_toArray, List.map_cons, List.map_nil, hs, hx, hr]
    exact h v w (by simpa using hown) ⟨rfl, rfl, rfl, Nat.le_refl _, fun _ _ _ => rfl⟩ (fun _ hW => hW)
  · exact wp_append_own w s x t ho base e i z size bytes ht hi hz hsize hby hzs hsz v n xs hs hown ad m c news hx hl hnews h1 h63 hbytes hbase (fun v' w' q1 q2 _ => h v' w' q1 q2 (fun W hW => hW.grown q2 hbase (fun k hk => (hown.lt k hk).1)))
theorem step_appAny {ops : Array Oper} {o : Oper} {a : Act} {K : Act → World → Prop} {Q : Exit → Act → World → Prop} {E : Prop} (hgd : o.guard = none) (s x : Operand) (t : TypeId)
    (ho : o.op = .call { callee := .builtin .append, args := #[s, x], argTypes := #[t, t] })
    (base : Nat) (e : TypeId) (i : TypeInfo) (z : Value) (size bytes : Nat) (ht : P.underlying t = some (.slice e)) (hi : P.info? e = some i) (hz : i.zero = some z)
    (hsize : i.size = size) (hby : i.bytes = bytes) (hzs : z.cells.size = size) (hsz : 0 < size)
    (v : Value) (n : Nat) (xs : List Value) (hs : a.eval s = v) (u : Value) (m : Nat) (news : List Value) (hx : a.eval x = u)
    (hown : w.ownsRow base e size v n xs) (hsrc : AppAny w u m news) (hl : news.length = m * size) (h1 : ∀ u ∈ news, u.oneCell' = true)
    (h63 : n + m ≤ maxLen) (hbytes : (n + m) * bytes ≤ 140737488355328) (hbase : base ≤ w.heap.size)
    (h : ∀ v' w', w'.ownsRow base e size v' (n + m) (xs ++ news) → w.grownBy w' v.ownBlock → (∀ W : World, Below base W w → Below base W w') → K (a.put o.dst v') w') :
    if Region.wanted o (yielded ops a.tmps) = true then Oper.wp P o a w K Q else E := by
  have hw : Region.wanted o (yielded ops a.tmps) = true := by simp [Region.wanted, hgd]
  rw [if_pos hw]
  exact wp_appAny w s x t ho base e i z size bytes ht hi hz hsize hby hzs hsz v n xs hs u m news hx hown hsrc hl h1 h63 hbytes hbase h
theorem wpList_appAny {ops : Array Oper} {rest : List Oper} {o : Oper} {a : Act} {Q : Exit → Act → World → Prop} (hgd : o.guard = none) (s x : Operand) (t : TypeId)
    (ho : o.op = .call { callee := .builtin .append, args := #[s, x], argTypes := #[t, t] })
    (base : Nat) (e : TypeId) (i : TypeInfo) (z : Value) (size bytes : Nat) (ht : P.underlying t = some (.slice e)) (hi : P.info? e = some i) (hz : i.zero = some z)
    (hsize : i.size = size) (hby : i.bytes = bytes) (hzs : z.cells.size = size) (hsz : 0 < size)
    (v : Value) (n : Nat) (xs : List Value) (hs : a.eval s = v) (u : Value) (m : Nat) (news : List Value) (hx : a.eval x = u)
    (hown : w.ownsRow base e size v n xs) (hsrc : AppAny w u m news) (hl : news.length = m * size) (h1 : ∀ u ∈ news, u.oneCell' = true)
    (h63 : n + m ≤ maxLen) (hbytes : (n + m) * bytes ≤ 140737488355328) (hbase : base ≤ w.heap.size)
    (h : ∀ v' w', w'.ownsRow base e size v' (n + m) (xs ++ news) → w.grownBy w' v.ownBlock → (∀ W : World, Below base W w → Below base W w') → wpList P ops Q rest (a.put o.dst v') w') :
    wpList P ops Q (o :: rest) a w := by
  refine wpList_plain hgd fun K' hK' => ?_
  exact wp_appAny w s x t ho base e i z size bytes ht hi hz hsize hby hzs hsz v n xs hs u m news hx hown hsrc hl h1 h63 hbytes hbase (fun v' w' q1 q2 q3 => hK' _ _ (h v' w' q1 q2 q3))
end

end Go.Proofs.Ytncmdeijimgchaa

