import Derived.Test.YteppnppknfldbaaPrnAgreesLaw3
import Derived.BigQuiet
import Derived.Deep.QuietTactic
import Derived.Test.YteppnppknfldbaaPrnAgreesLaw2
import Derived.Test.YteppnppknfldbaaPrnAgreesLaw1
import Derived.Deep.RegionHeld3
import Derived.Deep.DrawnRows

/-
  The small functions of chapter 8, on both sides.
-/
namespace Go.Proofs.Yteppnppknfldbaa
open Go.RowKit
set_option linter.unusedSectionVars false
variable [DecidableEq Vot] [Inhabited Vot] [DecidableEq Slt] [Inhabited Slt] [DecidableEq Bal] [Inhabited Bal] [DecidableEq Ledg] [Inhabited Ledg] [DecidableEq Leg] [Inhabited Leg]
attribute [local go_sem ↓] Go.wp_at_zero Go.wp_at_succ

theorem eqInVot (a b c d : Int) (w : World) : (Op.equalIn 10000 40 (.agg #[.int .i64 a, .int .i64 b]) (.agg #[.int .i64 c, .int .i64 d])).run Try.prog w = .ok (decide (a = c) && decide (b = d)) w := by
  rw [run_equalIn_struct w 9999 40 _ _ (by kernel_rfl) (by kernel_rfl)]
  have hf : (Try.prog.fieldsOf 40).toList = [{ name := "Ballot", type := 2, offset := 0, embedded := false, tag := "", pkgPath := "", byteOffset := 0 }, { name := "Value", type := 2, offset := 1, embedded := false, tag := "", pkgPath := "", byteOffset := 8 }] := by kernel_rfl
  rw [hf]
  simp [Op.eqFields, go_sem]
  by_cases e1 : a = c <;> by_cases e2 : b = d <;> simp [e1, e2]
theorem eqlVot (a b c d : Int) (w : World) : (binOp .eql 40 (.agg #[.int .i64 a, .int .i64 b]) (.agg #[.int .i64 c, .int .i64 d])).run Try.prog w = .ok (.bool (decide (a = c) && decide (b = d))) w := by
  rw [run_eql_struct, eqInVot]
  rfl
theorem neqVot (a b c d : Int) (w : World) : (binOp .neq 40 (.agg #[.int .i64 a, .int .i64 b]) (.agg #[.int .i64 c, .int .i64 d])).run Try.prog w = .ok (.bool (!(decide (a = c) && decide (b = d)))) w := by
  rw [run_neq_struct, eqInVot]
  rfl
set_option maxHeartbeats 400000 in
theorem noVote_any (w : World) : Calls Try.prog 43 #[] w fun e w' => e = .returned (.agg #[.int .i64 (-1), .int .i64 0]) ∧ Below w.heap.size w w' := by
  go_enter Try.func43, Try.ntmps43
  go_wp2
  refine bodyPost_ret (v := .agg #[.int .i64 (-1), .int .i64 0]) ?_ rfl ⟨rfl, by (repeat (first | exact Below.refl _ _ | assumption | refine Below.drew ?_ | refine balloc ?_ _ | refine bset ?_ (by simp; omega) _ | refine bset ?_ (by simp) _ | refine bstep ?_ (by assumption)))⟩
  simp [results, Try.results43, go_sem]
theorem isBallot_any (n : Int) (w : World) : Calls Try.prog 44 #[.int .i64 n] w fun e w' => e = .returned (.bool (inB n 0 1000)) ∧ w' = w := by
  go_enter Try.func44, Try.ntmps44
  go_wp2_with (go_at_call 29; refine (within_any _ _ _ _).mono ?_; rintro e w' ⟨rfl, rfl⟩)
  go_ret
  exact ⟨rfl, rfl⟩
theorem isValue_any (n : Int) (w : World) : Calls Try.prog 33 #[.int .i64 n] w fun e w' => e = .returned (.bool (inB n 1 2)) ∧ w' = w := by
  go_enter Try.func33, Try.ntmps33
  go_wp2_with (go_at_call 29; refine (within_any _ _ _ _).mono ?_; rintro e w' ⟨rfl, rfl⟩)
  go_ret
  exact ⟨rfl, rfl⟩
theorem isVote_any (x : Vot) (w : World) : Calls Try.prog 28 #[.agg #[.int .i64 x.bal, .int .i64 x.val]] w fun e w' => e = .returned (.bool (votB x)) ∧ Below w.heap.size w w' := by
  unfold votB
  cases h1 : inB x.bal 0 1000
  all_goals
    go_enter Try.func28, Try.ntmps28
    go_wp2_with (first | (go_at_call 44; refine (isBallot_any _ _).mono ?_; rintro e w' ⟨rfl, rfl⟩) | (go_at_call 33; refine (isValue_any _ _).mono ?_; rintro e w' ⟨rfl, rfl⟩))
    go_ret
    exact ⟨by simp, by (repeat (first | exact Below.refl _ _ | assumption | refine Below.drew ?_ | refine balloc ?_ _ | refine bset ?_ (by simp; omega) _ | refine bset ?_ (by simp) _ | refine bstep ?_ (by assumption)))⟩
def otherB (x y : Vot) : Bool := decide (x.bal = y.bal) && !decide (x.val = y.val)
theorem isOtherwise_any (x y : Vot) (w : World) : Calls Try.prog 51 #[.agg #[.int .i64 x.bal, .int .i64 x.val], .agg #[.int .i64 y.bal, .int .i64 y.val]] w fun e w' => e = .returned (.bool (otherB x y)) ∧ Below w.heap.size w w' := by
  unfold otherB
  by_cases h1 : x.bal = y.bal
  all_goals
    go_enter Try.func51, Try.ntmps51
    go_wp2
    all_goals
      go_ret
      exact ⟨by first | (simp_all; done) | (simp_all; rw [Bool.eq_iff_iff]; simp; done) | (simp_all; rw [Bool.eq_iff_iff]; simp; omega), by (repeat (first | exact Below.refl _ _ | assumption | refine Below.drew ?_ | refine balloc ?_ _ | refine bset ?_ (by simp; omega) _ | refine bset ?_ (by simp) _ | refine bstep ?_ (by assumption)))⟩
end Go.Proofs.Yteppnppknfldbaa

/-
  NewSlot, QuorumOf, on both sides.
-/
set_option linter.unusedSimpArgs false
namespace Go.Proofs.Yteppnppknfldbaa
open Go.RowKit
set_option linter.unusedSectionVars false
variable [DecidableEq Vot] [Inhabited Vot] [DecidableEq Slt] [Inhabited Slt] [DecidableEq SltR] [Inhabited SltR] [DecidableEq Bal] [Inhabited Bal] [DecidableEq Ledg] [Inhabited Ledg] [DecidableEq Leg] [Inhabited Leg]
attribute [local go_sem ↓] Go.wp_at_zero Go.wp_at_succ

theorem noOwn {b : Nat} (h : (Value.slice none 0 0).ownBlock = some b) : False := by simp [Value.ownBlock] at h
theorem vots_nil (w : World) (base : Nat) : votsR.O w base (fun _ => False) (.slice none 0 0) [] :=
  ⟨World.ownsRow_nil _ _ _ _, by funext b; exact propext ⟨fun h => h.elim, noOwn⟩⟩
theorem slt_nil (w : World) (base : Nat) (a b c d e : Int) : sltR.O w base (fun _ => False) (.agg #[.int .i64 a, .int .i64 b, .int .i64 c, .int .i64 d, .int .i64 e, .slice none 0 0]) ⟨a, b, c, d, e, []⟩ :=
  ⟨_, _, rfl, vots_nil w base, fun _ => Iff.rfl⟩
theorem sltR_nil (w : World) (base : Nat) (q x y a b c d e : Int) : sltRR.O w base (fun _ => False) (.agg #[.int .i64 q, .int .i64 x, .int .i64 y, .int .i64 a, .int .i64 b, .int .i64 c, .int .i64 d, .int .i64 e, .slice none 0 0]) ⟨q, x, y, ⟨a, b, c, d, e, []⟩⟩ :=
  ⟨_, _, rfl, slt_nil w base a b c d e, fun _ => Iff.rfl⟩
def newSlt (c s : Int) : SltR := if inB c 1 1000000000 && inB s 0 2 then ⟨0, 0, 0, ⟨c, s, -1, -1, 0, []⟩⟩ else ⟨3, 0, 0, ⟨0, 0, 0, 0, 0, []⟩⟩
set_option maxHeartbeats 1000000 in
theorem implNewS_u (c s : Int) (w : World) :
    Calls Try.prog 27 #[.int .i64 c, .int .i64 s] w fun e w' => ∃ v F, e = .returned v ∧ sltRR.O w' w.heap.size F v (newSlt c s) ∧ Below w.heap.size w w' := by
  unfold newSlt
  cases h1 : inB c 1 1000000000
  · go_enter Try.func27, Try.ntmps27
    go_wp2_with (first | (go_at_call 41; refine (isId_any _ _).mono ?_; rintro e w' ⟨rfl, rfl⟩; rw [h1]) | (go_at_call 42; refine (isShard_any _ _).mono ?_; rintro e w' ⟨rfl, rfl⟩))
    refine bodyPost_ret (v := .agg #[.int .i64 3, .int .i64 0, .int .i64 0, .int .i64 0, .int .i64 0, .int .i64 0, .int .i64 0, .int .i64 0, .slice none 0 0]) (by simp [results, Try.results27, go_sem]) rfl ?_
    first | exact ⟨_, rfl, ⟨_, sltR_nil _ _ 3 0 0 0 0 0 0 0⟩, by (repeat (first | exact Below.refl _ _ | assumption | refine Below.drew ?_ | refine balloc ?_ _ | refine bset ?_ (by simp; omega) _ | refine bset ?_ (by simp) _ | refine bstep ?_ (by assumption)))⟩ | exact ⟨_, _, rfl, sltR_nil _ _ 3 0 0 0 0 0 0 0, by (repeat (first | exact Below.refl _ _ | assumption | refine Below.drew ?_ | refine balloc ?_ _ | refine bset ?_ (by simp; omega) _ | refine bset ?_ (by simp) _ | refine bstep ?_ (by assumption)))⟩
  cases h2 : inB s 0 2
  · go_enter Try.func27, Try.ntmps27
    go_wp2_with (first | (go_at_call 41; refine (isId_any _ _).mono ?_; rintro e w' ⟨rfl, rfl⟩; rw [h1]) | (go_at_call 42; refine (isShard_any _ _).mono ?_; rintro e w' ⟨rfl, rfl⟩; rw [h2]))
    refine bodyPost_ret (v := .agg #[.int .i64 3, .int .i64 0, .int .i64 0, .int .i64 0, .int .i64 0, .int .i64 0, .int .i64 0, .int .i64 0, .slice none 0 0]) (by simp [results, Try.results27, go_sem]) rfl ?_
    first | exact ⟨_, rfl, ⟨_, sltR_nil _ _ 3 0 0 0 0 0 0 0⟩, by (repeat (first | exact Below.refl _ _ | assumption | refine Below.drew ?_ | refine balloc ?_ _ | refine bset ?_ (by simp; omega) _ | refine bset ?_ (by simp) _ | refine bstep ?_ (by assumption)))⟩ | exact ⟨_, _, rfl, sltR_nil _ _ 3 0 0 0 0 0 0 0, by (repeat (first | exact Below.refl _ _ | assumption | refine Below.drew ?_ | refine balloc ?_ _ | refine bset ?_ (by simp; omega) _ | refine bset ?_ (by simp) _ | refine bstep ?_ (by assumption)))⟩
  · go_enter Try.func27, Try.ntmps27
    go_wp2_with (first | (go_at_call 41; refine (isId_any _ _).mono ?_; rintro e w' ⟨rfl, rfl⟩; rw [h1]) | (go_at_call 42; refine (isShard_any _ _).mono ?_; rintro e w' ⟨rfl, rfl⟩; rw [h2]) | fail)
    refine (noVote_any _).mono ?_
    rintro e w1 ⟨rfl, hb1⟩
    have hB1 : Below w.heap.size w w1 := bstep (by (repeat (first | exact Below.refl _ _ | assumption | refine Below.drew ?_ | refine balloc ?_ _ | refine bset ?_ (by simp; omega) _ | refine bset ?_ (by simp) _ | refine bstep ?_ (by assumption)))) hb1
    obtain ⟨c1, f1⟩ := bcell hb1
    clear hb1
    go_wp2
    refine bodyPost_ret (v := .agg #[.int .i64 0, .int .i64 0, .int .i64 0, .int .i64 c, .int .i64 s, .int .i64 (-1), .int .i64 (-1), .int .i64 0, .slice none 0 0]) (by simp [results, Try.results27, go_sem, c1]) rfl ?_
    first | exact ⟨_, rfl, ⟨_, sltR_nil _ _ 0 0 0 c s (-1) (-1) 0⟩, by (repeat (first | refine bset ?_ (by simp; omega) _ | refine bset ?_ (by simp) _ | refine balloc ?_ _ | assumption))⟩ | exact ⟨_, _, rfl, sltR_nil _ _ 0 0 0 c s (-1) (-1) 0, by (repeat (first | refine bset ?_ (by simp; omega) _ | refine bset ?_ (by simp) _ | refine balloc ?_ _ | assumption))⟩
def quoV (n : Int) : Int := n / 2 + 1
def quoC (n : Int) : Int := if inB n 1 9 then 0 else 3
def quoR (n : Int) : Int := if inB n 1 9 then quoV n else 0
theorem nine {n : Int} (h : inB n 1 9 = true) : n = 1 ∨ n = 2 ∨ n = 3 ∨ n = 4 ∨ n = 5 ∨ n = 6 ∨ n = 7 ∨ n = 8 ∨ n = 9 := by
  rw [inBi] at h
  omega
set_option maxHeartbeats 1000000 in
theorem implQuorum_any (n : Int) (w : World) : Calls Try.prog 16 #[.int .i64 n] w fun e w' => e = .returned (.agg #[.int .i64 (quoC n), .int .i64 (quoR n)]) ∧ Below w.heap.size w w' := by
  unfold quoC quoR
  cases h : inB n 1 9
  · go_enter Try.func16, Try.ntmps16
    go_wp2_with (go_at_call 29; refine (within_any _ _ _ _).mono ?_; rintro e w' ⟨rfl, rfl⟩; rw [h])
    exact bodyPost_ret (v := .agg #[.int .i64 3, .int .i64 0]) (by simp [results, Try.results16, go_sem]) rfl ⟨rfl, by (repeat (first | exact Below.refl _ _ | assumption | refine Below.drew ?_ | refine balloc ?_ _ | refine bset ?_ (by simp; omega) _ | refine bset ?_ (by simp) _ | refine bstep ?_ (by assumption)))⟩
  · have hh := h
    rcases nine hh with rfl | rfl | rfl | rfl | rfl | rfl | rfl | rfl | rfl
    all_goals
      clear hh
      go_enter Try.func16, Try.ntmps16
      go_wp2_with (go_at_call 29; refine (within_any _ _ _ _).mono ?_; rintro e w' ⟨rfl, rfl⟩; rw [h])
      exact bodyPost_ret (v := .agg #[.int .i64 0, .int .i64 (quoV _)]) (by simp [results, Try.results16, go_sem]; try decide) rfl ⟨rfl, by (repeat (first | exact Below.refl _ _ | assumption | refine Below.drew ?_ | refine balloc ?_ _ | refine bset ?_ (by simp; omega) _ | refine bset ?_ (by simp) _ | refine bstep ?_ (by assumption)))⟩
end Go.Proofs.Yteppnppknfldbaa

/-
  Rows of Slot. (Written by program: nest.py.)
-/
namespace Go.Proofs.Yteppnppknfldbaa
open Go.RowKit
set_option linter.unusedSectionVars false
variable [DecidableEq Vot] [Inhabited Vot] [DecidableEq Slt] [Inhabited Slt]
attribute [local go_sem ↓] Go.wp_at_zero Go.wp_at_succ

def sltsR : Rep (List Slt) := nRep sltR 43 6 lvSlt
theorem slts_form {w : World} {v : Value} {xs : List Slt} (h : sltsR.V w v xs) : ∃ a c, v = .slice a xs.length c := by
  obtain ⟨a, c, rfl, _⟩ := h
  exact ⟨_, _, rfl⟩
theorem infoSlts : (Try.prog.info? 43).map (fun i => (i.zero, i.size, i.bytes)) = some (some (.agg #[.int .i64 0, .int .i64 0, .int .i64 0, .int .i64 0, .int .i64 0, .slice none 0 0]), 6, 64) := by kernel_rfl
end Go.Proofs.Yteppnppknfldbaa

/-
  What is chosen, in plain mathematics: the votes that most of the slots cast, by rising ballots.
-/
set_option linter.unusedVariables false
namespace Go.Proofs.Yteppnppknfldbaa
open Go.RowKit
set_option linter.unusedSectionVars false
variable [DecidableEq Vot] [Inhabited Vot] [DecidableEq Slt] [Inhabited Slt] [DecidableEq SltR] [Inhabited SltR] [DecidableEq Bal] [Inhabited Bal] [DecidableEq Ledg] [Inhabited Ledg] [DecidableEq Leg] [Inhabited Leg]

def cntP (p : Nat → Bool) : Nat → Nat
  | 0 => 0
  | n + 1 => cntP p n + if p n then 1 else 0
theorem cntP_le (p : Nat → Bool) : ∀ n, cntP p n ≤ n
  | 0 => Nat.le_refl _
  | n + 1 => by
    have := cntP_le p n
    unfold cntP
    split <;> omega
theorem cntP_pos (p : Nat → Bool) : ∀ n, 0 < cntP p n → ∃ k, k < n ∧ p k = true
  | 0, h => by simp [cntP] at h
  | n + 1, h => by
    by_cases e : p n = true
    · exact ⟨n, by omega, e⟩
    · unfold cntP at h
      rw [if_neg e] at h
      obtain ⟨k, hk, hp⟩ := cntP_pos p n (by omega)
      exact ⟨k, by omega, hp⟩
theorem cntP_two (p q : Nat → Bool) : ∀ n, n < cntP p n + cntP q n → ∃ k, k < n ∧ p k = true ∧ q k = true
  | 0, h => by simp [cntP] at h
  | n + 1, h => by
    by_cases e : p n = true ∧ q n = true
    · exact ⟨n, by omega, e⟩
    · unfold cntP at h
      have : (if p n = true then 1 else 0) + (if q n = true then 1 else 0) ≤ 1 := by
        by_cases e1 : p n = true
        · by_cases e2 : q n = true
          · exact absurd ⟨e1, e2⟩ e
          · rw [if_pos e1, if_neg e2]
            omega
        · rw [if_neg e1]
          split <;> omega
      obtain ⟨k, hk, hp⟩ := cntP_two p q n (by omega)
      exact ⟨k, by omega, hp⟩
def hasV (s : Slt) (v : Vot) : Bool := s.cast.any (fun u => decide (u.bal = v.bal) && decide (u.val = v.val))
theorem vot_eq {u v : Vot} : (decide (u.bal = v.bal) && decide (u.val = v.val)) = true ↔ u = v := by
  obtain ⟨a, b⟩ := u
  obtain ⟨c, d⟩ := v
  simp
theorem hasV_iff {s : Slt} {v : Vot} : hasV s v = true ↔ v ∈ s.cast := by
  unfold hasV
  rw [List.any_eq_true]
  constructor
  · rintro ⟨u, hu, e⟩
    rw [vot_eq] at e
    exact e ▸ hu
  · intro h
    exact ⟨v, h, vot_eq.2 rfl⟩
def cntV (D : List Slt) (v : Vot) : Nat := cntP (fun k => hasV (D.getD k default) v) D.length
def isCh (D : List Slt) (v : Vot) : Prop := quoV (D.length : Int) ≤ (cntV D v : Int)
def Rise (ys : List Vot) : Prop := ys.Pairwise (fun a b => a.bal < b.bal)
structure Chs (D : List Slt) (ys : List Vot) : Prop where
  rise : Rise ys
  mem : ∀ v, v ∈ ys ↔ isCh D v
def AllOk (D : List Slt) : Prop := ∀ k, k < D.length → SltOk (D.getD k default)
theorem slt_order {s : Slt} (h : SltOk s) (i : Nat) : ∀ j, i + j < s.cast.length → (s.cast.getD i default).bal ≤ (s.cast.getD (i + j) default).bal ∧ ((s.cast.getD i default).bal = (s.cast.getD (i + j) default).bal → (s.cast.getD i default).val = (s.cast.getD (i + j) default).val)
  | 0, hj => ⟨Int.le_refl _, fun _ => rfl⟩
  | j + 1, hj => by
    obtain ⟨h1, h2⟩ := slt_order h i j (by omega)
    have h3 := (h.at_ (i + j + 1) (by omega)).2
    rw [lastV_succ] at h3
    have e : i + (j + 1) = i + j + 1 := by omega
    rw [e]
    generalize s.cast.getD (i + j + 1) default = c at *
    generalize s.cast.getD (i + j) default = b at *
    generalize s.cast.getD i default = a at *
    unfold other at h3
    simp at h3
    refine ⟨by omega, fun hab => ?_⟩
    have hbc : b.bal = c.bal := by omega
    have := h3.2 hbc.symm
    rw [h2 (by omega), this]
theorem getD_of_mem {xs : List Vot} {v : Vot} (h : v ∈ xs) : ∃ i, i < xs.length ∧ xs.getD i default = v := by
  obtain ⟨i, hi, e⟩ := List.getElem_of_mem h
  exact ⟨i, hi, by simp [List.getD, hi, e]⟩
theorem mem_getD {xs : List Vot} {i : Nat} (h : i < xs.length) : xs.getD i default ∈ xs := by
  simp [List.getD, h]
theorem slt_one {s : Slt} (h : SltOk s) {u v : Vot} (hu : u ∈ s.cast) (hv : v ∈ s.cast) (e : u.bal = v.bal) : u = v := by
  obtain ⟨i, hi, rfl⟩ := getD_of_mem hu
  obtain ⟨j, hj, rfl⟩ := getD_of_mem hv
  have hval : (s.cast.getD i default).val = (s.cast.getD j default).val := by
    by_cases hij : i ≤ j
    · have := slt_order h i (j - i) (by omega)
      rw [show i + (j - i) = j by omega] at this
      exact this.2 e
    · have := slt_order h j (i - j) (by omega)
      rw [show j + (i - j) = i by omega] at this
      exact (this.2 e.symm).symm
  exact vot_eq.1 (by simp only [e, hval]; simp)
theorem quo_two (n : Nat) : (n : Int) < quoV n + quoV n := by unfold quoV; omega
theorem ch_one {D : List Slt} (hok : AllOk D) {u v : Vot} (hu : isCh D u) (hv : isCh D v) (e : u.bal = v.bal) : u = v := by
  have := quo_two D.length
  unfold isCh at hu hv
  obtain ⟨k, hk, h1, h2⟩ := cntP_two _ _ D.length (show D.length < cntV D u + cntV D v by omega)
  exact slt_one (hok k hk) (hasV_iff.1 h1) (hasV_iff.1 h2) e
theorem ch_cast {D : List Slt} {v : Vot} (h : isCh D v) : ∃ k, k < D.length ∧ v ∈ (D.getD k default).cast := by
  unfold isCh quoV at h
  obtain ⟨k, hk, hp⟩ := cntP_pos _ _ (show 0 < cntV D v by omega)
  exact ⟨k, hk, hasV_iff.1 hp⟩
theorem rise_unique : ∀ {xs ys : List Vot}, Rise xs → Rise ys → (∀ v, v ∈ xs ↔ v ∈ ys) → xs = ys
  | [], [], _, _, _ => rfl
  | [], y :: ys, _, _, h => absurd ((h y).2 (by simp)) (by simp)
  | x :: xs, [], _, _, h => absurd ((h x).1 (by simp)) (by simp)
  | x :: xs, y :: ys, hx, hy, h => by
    have hx' := List.pairwise_cons.1 hx
    have hy' := List.pairwise_cons.1 hy
    have e : x = y := by
      have h1 := (h x).1 (by simp)
      have h2 := (h y).2 (by simp)
      rcases List.mem_cons.1 h1 with h1 | h1
      · exact h1
      · rcases List.mem_cons.1 h2 with h2 | h2
        · exact h2.symm
        · have := hx'.1 _ h2
          have := hy'.1 _ h1
          omega
    subst e
    have : xs = ys := rise_unique hx'.2 hy'.2 fun v => by
      constructor
      · intro hv
        rcases List.mem_cons.1 ((h v).1 (by simp [hv])) with e | e
        · subst e
          have := hx'.1 _ hv
          omega
        · exact e
      · intro hv
        rcases List.mem_cons.1 ((h v).2 (by simp [hv])) with e | e
        · subst e
          have := hy'.1 _ hv
          omega
        · exact e
    rw [this]
theorem chs_unique {D : List Slt} {xs ys : List Vot} (hx : Chs D xs) (hy : Chs D ys) : xs = ys :=
  rise_unique hx.rise hy.rise fun v => (hx.mem v).trans (hy.mem v).symm
theorem ins_ex (v : Vot) : ∀ ys : List Vot, Rise ys → (∀ u ∈ ys, ¬ u.bal = v.bal) → ∃ zs, Rise zs ∧ ∀ u, u ∈ zs ↔ u = v ∨ u ∈ ys
  | [], _, _ => ⟨[v], by simp [Rise], fun u => by simp⟩
  | y :: ys, h, hn => by
    have h' := List.pairwise_cons.1 h
    by_cases hlt : v.bal < y.bal
    · refine ⟨v :: y :: ys, List.pairwise_cons.2 ⟨fun u hu => ?_, h⟩, fun u => by simp⟩
      rcases List.mem_cons.1 hu with e | e
      · subst e; exact hlt
      · have := h'.1 _ e
        omega
    · obtain ⟨zs, hz, hm⟩ := ins_ex v ys h'.2 (fun u hu => hn u (by simp [hu]))
      refine ⟨y :: zs, List.pairwise_cons.2 ⟨fun u hu => ?_, hz⟩, fun u => ?_⟩
      · rcases (hm u).1 hu with e | e
        · subst e
          have := hn y (by simp)
          omega
        · exact h'.1 _ e
      · simp only [List.mem_cons, hm]
        constructor
        · rintro (h | h | h)
          · exact .inr (.inl h)
          · exact .inl h
          · exact .inr (.inr h)
        · rintro (h | h | h)
          · exact .inr (.inl h)
          · exact .inl h
          · exact .inr (.inr h)
theorem rise_ex (P : Vot → Prop) (hone : ∀ u v, P u → P v → u.bal = v.bal → u = v) : ∀ L : List Vot, ∃ ys, Rise ys ∧ ∀ v, v ∈ ys ↔ v ∈ L ∧ P v
  | [] => ⟨[], by simp [Rise], fun v => by simp⟩
  | x :: L => by
    obtain ⟨ys, hr, hm⟩ := rise_ex P hone L
    by_cases hp : P x ∧ ¬ x ∈ ys
    · obtain ⟨zs, hz, hmz⟩ := ins_ex x ys hr (fun u hu e => hp.2 ((hone u x ((hm u).1 hu).2 hp.1 e) ▸ hu))
      refine ⟨zs, hz, fun v => ?_⟩
      rw [hmz, hm, List.mem_cons]
      constructor
      · rintro (h | h)
        · subst h; exact ⟨.inl rfl, hp.1⟩
        · exact ⟨.inr h.1, h.2⟩
      · rintro ⟨h | h, h2⟩
        · exact .inl h
        · exact .inr ⟨h, h2⟩
    · refine ⟨ys, hr, fun v => ?_⟩
      rw [List.mem_cons]
      constructor
      · intro h
        have := (hm v).1 h
        exact ⟨.inr this.1, this.2⟩
      · rintro ⟨h | h, h2⟩
        · subst h
          by_cases hy : v ∈ ys
          · exact hy
          · exact absurd ⟨h2, hy⟩ hp
        · exact (hm v).2 ⟨h, h2⟩
theorem chs_ex {D : List Slt} (hok : AllOk D) : ∃ ys, Chs D ys := by
  obtain ⟨ys, hr, hm⟩ := rise_ex (isCh D) (fun u v hu hv e => ch_one hok hu hv e) (D.flatMap (fun s => s.cast))
  refine ⟨ys, hr, fun v => ?_⟩
  rw [hm]
  constructor
  · exact fun h => h.2
  · intro h
    refine ⟨?_, h⟩
    obtain ⟨k, hk, hv⟩ := ch_cast h
    rw [List.mem_flatMap]
    exact ⟨D.getD k default, by simp [List.getD, hk], hv⟩
/-! what is asked of the slots -/
def askAt (D : List Slt) (k : Nat) : Int := sltFault (D.getD k default)
def sameAt (D : List Slt) (k : Nat) : Int := if (D.getD k default).con = (D.getD 0 default).con ∧ (D.getD k default).sh = (D.getD 0 default).sh then 0 else 1
def askF (D : List Slt) : Int := if scanI (askAt D) D.length = 0 then (if inB D.length 1 9 then scanI (sameAt D) D.length else 2) else scanI (askAt D) D.length
theorem askF_hit {D : List Slt} {k : Nat} (hk : k < D.length) (hs : scanI (askAt D) k = 0) (h0 : ¬ sltFault (D.getD k default) = 0) : askF D = sltFault (D.getD k default) := by
  have e := scanI_hit hs (show askAt D k ≠ 0 from h0) _ hk
  unfold askF
  rw [e, if_neg (show ¬ askAt D k = 0 from h0)]
  rfl
theorem askF_many {D : List Slt} (hs : scanI (askAt D) D.length = 0) (h : inB D.length 1 9 = false) : askF D = 2 := by
  unfold askF
  rw [if_pos hs, h]
  rfl
theorem askF_same {D : List Slt} (hs : scanI (askAt D) D.length = 0) (h : inB D.length 1 9 = true) {c : Int} (h1 : scanI (sameAt D) D.length = c) : askF D = c := by
  unfold askF
  rw [if_pos hs, h, if_pos rfl, h1]
theorem askF_ok {D : List Slt} (h : askF D = 0) : AllOk D ∧ inB D.length 1 9 = true := by
  unfold askF at h
  by_cases hs : scanI (askAt D) D.length = 0
  · rw [if_pos hs] at h
    refine ⟨fun k hk => sltOk_of (scanI_zero hs k hk), ?_⟩
    cases e : inB (D.length : Int) 1 9 with
    | true => rfl
    | false => rw [e] at h; simp at h
  · rw [if_neg hs] at h
    exact absurd h hs
def agB (D : List Slt) (ys : List Vot) : Bool := decide (askF D = 0) && ys.all (fun v => decide (v.val = (ys.getD 0 default).val))
end Go.Proofs.Yteppnppknfldbaa

