import Derived.Test.YtjemciikdijokaaPrnIdForLaw5
import Derived.Test.YtjemciikdijokaaPrnIdForLaw1
import Derived.Maps.AppendAt
import Derived.Deep.RegionHeld3
import Derived.BigQuiet
import Derived.Deep.QuietTactic
import Derived.Deep.DrawnRows
import Derived.RegionTactic
import Derived.ChangeAlike
import Derived.BigRegion

/-
  Sessions: what is read of them in a row, the small functions, two clients compared, the Id.
-/
set_option linter.unusedSimpArgs false
set_option linter.unusedVariables false
namespace Go.Proofs.Ytjemciikdijokaa
open Go.RowKit
set_option linter.unusedSectionVars false
variable [DecidableEq Leg] [Inhabited Leg] [DecidableEq Ses] [Inhabited Ses] [DecidableEq Cont] [Inhabited Cont] [DecidableEq Bal] [Inhabited Bal] [DecidableEq Mrk] [Inhabited Mrk] [DecidableEq Shd] [Inhabited Shd] [DecidableEq Vot] [Inhabited Vot] [DecidableEq Slt] [Inhabited Slt] [DecidableEq Acc] [Inhabited Acc] [DecidableEq Trr] [Inhabited Trr] [DecidableEq Hrd] [Inhabited Hrd] [DecidableEq Ldr] [Inhabited Ldr] [DecidableEq Msg] [Inhabited Msg] [DecidableEq Clu] [Inhabited Clu] [DecidableEq SesR] [Inhabited SesR] [DecidableEq Ledg] [Inhabited Ledg]
attribute [local go_sem ↓] Go.wp_at_zero Go.wp_at_succ

theorem isClient_any (n : Int) (w : World) : Calls Try.prog 23 #[.int .i64 n] w fun e w' => e = .returned (.bool (inB n 1 999)) ∧ w' = w := by
  go_enter Try.func23, Try.ntmps23
  go_wp2_with (go_at_call 24; refine (within_any _ _ _ _).mono ?_; rintro e w' ⟨rfl, rfl⟩)
  go_ret
  exact ⟨rfl, rfl⟩
def idC (c n : Int) : Int := if inB c 1 999 = true ∧ inB n 1 999 = true then 0 else 3
def idV (c n : Int) : Int := if inB c 1 999 = true ∧ inB n 1 999 = true then 1000 * c + n else 0
set_option maxHeartbeats 1000000 in
theorem specIdFor_any (c n : Int) (w : World) : Calls Try.prog 17 #[.int .i64 c, .int .i64 n] w fun e w' => e = .returned (.agg #[.int .i64 (idC c n), .int .i64 (idV c n)]) ∧ Below w.heap.size w w' := by
  cases h1 : inB c 1 999
  · have HC : Hid (idC c n = 3) := by show _ = _; unfold idC; simp [h1]
    have HV : Hid (idV c n = 0) := by show _ = _; unfold idV; simp [h1]
    generalize idC c n = C at *
    generalize idV c n = V at *
    go_enter Try.func17, Try.ntmps17
    go_wp2_with (go_at_call 21; refine (l1In_any _ _ _ _).mono ?_; rintro e w' ⟨rfl, rfl⟩)
    refine bodyPost_ret (v := .agg #[.int .i64 3, .int .i64 0]) (by simp [results, Try.results17, go_sem]) rfl ⟨by rw [HC.out, HV.out], by (repeat (first | exact Below.refl _ _ | assumption | refine Below.drew ?_ | refine balloc ?_ _ | refine bset ?_ (by simp; omega) _ | refine bset ?_ (by simp) _ | refine bstep ?_ (by assumption)))⟩
  · cases h2 : inB n 1 999
    · have HC : Hid (idC c n = 3) := by show _ = _; unfold idC; simp [h1, h2]
      have HV : Hid (idV c n = 0) := by show _ = _; unfold idV; simp [h1, h2]
      generalize idC c n = C at *
      generalize idV c n = V at *
      go_enter Try.func17, Try.ntmps17
      go_wp2_with (go_at_call 21; refine (l1In_any _ _ _ _).mono ?_; rintro e w' ⟨rfl, rfl⟩)
      refine bodyPost_ret (v := .agg #[.int .i64 3, .int .i64 0]) (by simp [results, Try.results17, go_sem]) rfl ⟨by rw [HC.out, HV.out], by (repeat (first | exact Below.refl _ _ | assumption | refine Below.drew ?_ | refine balloc ?_ _ | refine bset ?_ (by simp; omega) _ | refine bset ?_ (by simp) _ | refine bstep ?_ (by assumption)))⟩
    · have HC : Hid (idC c n = 0) := by show _ = _; unfold idC; simp [h1, h2]
      have HV : Hid (idV c n = (1000 * c + n)) := by show _ = _; unfold idV; simp [h1, h2]
      generalize idC c n = C at *
      generalize idV c n = V at *
      have hb := h1
      have hc := h2
      unfold inB at hb hc
      simp only [Bool.and_eq_true, decide_eq_true_eq] at hb hc
      have w1' : IntKind.i64.wrap (1000 * c) = 1000 * c := wrapId (by omega) (by omega)
      have w2' : IntKind.i64.wrap (1000 * c + n) = 1000 * c + n := wrapId (by omega) (by omega)
      go_enter Try.func17, Try.ntmps17
      go_wp2_with (go_at_call 21; refine (l1In_any _ _ _ _).mono ?_; rintro e w' ⟨rfl, rfl⟩)
      refine bodyPost_ret (v := .agg #[.int .i64 0, .int .i64 (1000 * c + n)]) (by simp [results, Try.results17, go_sem]) rfl ⟨by rw [HC.out, HV.out], by (repeat (first | exact Below.refl _ _ | assumption | refine Below.drew ?_ | refine balloc ?_ _ | refine bset ?_ (by simp; omega) _ | refine bset ?_ (by simp) _ | refine bstep ?_ (by assumption)))⟩
set_option maxHeartbeats 1000000 in
theorem implIdFor_any (c n : Int) (w : World) : Calls Try.prog 18 #[.int .i64 c, .int .i64 n] w fun e w' => e = .returned (.agg #[.int .i64 (idC c n), .int .i64 (idV c n)]) ∧ Below w.heap.size w w' := by
  cases h1 : inB c 1 999
  · have HC : Hid (idC c n = 3) := by show _ = _; unfold idC; simp [h1]
    have HV : Hid (idV c n = 0) := by show _ = _; unfold idV; simp [h1]
    generalize idC c n = C at *
    generalize idV c n = V at *
    go_enter Try.func18, Try.ntmps18
    go_wp2_with (first | (go_at_call 24; refine (within_any _ _ _ _).mono ?_; rintro e w' ⟨rfl, rfl⟩) | (go_at_call 23; refine (isClient_any _ _).mono ?_; rintro e w' ⟨rfl, rfl⟩))
    refine bodyPost_ret (v := .agg #[.int .i64 3, .int .i64 0]) (by simp [results, Try.results18, go_sem]) rfl ⟨by rw [HC.out, HV.out], by (repeat (first | exact Below.refl _ _ | assumption | refine Below.drew ?_ | refine balloc ?_ _ | refine bset ?_ (by simp; omega) _ | refine bset ?_ (by simp) _ | refine bstep ?_ (by assumption)))⟩
  · cases h2 : inB n 1 999
    · have HC : Hid (idC c n = 3) := by show _ = _; unfold idC; simp [h1, h2]
      have HV : Hid (idV c n = 0) := by show _ = _; unfold idV; simp [h1, h2]
      generalize idC c n = C at *
      generalize idV c n = V at *
      go_enter Try.func18, Try.ntmps18
      go_wp2_with (first | (go_at_call 24; refine (within_any _ _ _ _).mono ?_; rintro e w' ⟨rfl, rfl⟩) | (go_at_call 23; refine (isClient_any _ _).mono ?_; rintro e w' ⟨rfl, rfl⟩))
      refine bodyPost_ret (v := .agg #[.int .i64 3, .int .i64 0]) (by simp [results, Try.results18, go_sem]) rfl ⟨by rw [HC.out, HV.out], by (repeat (first | exact Below.refl _ _ | assumption | refine Below.drew ?_ | refine balloc ?_ _ | refine bset ?_ (by simp; omega) _ | refine bset ?_ (by simp) _ | refine bstep ?_ (by assumption)))⟩
    · have HC : Hid (idC c n = 0) := by show _ = _; unfold idC; simp [h1, h2]
      have HV : Hid (idV c n = (1000 * c + n)) := by show _ = _; unfold idV; simp [h1, h2]
      generalize idC c n = C at *
      generalize idV c n = V at *
      have hb := h1
      have hc := h2
      unfold inB at hb hc
      simp only [Bool.and_eq_true, decide_eq_true_eq] at hb hc
      have w1' : IntKind.i64.wrap (1000 * c) = 1000 * c := wrapId (by omega) (by omega)
      have w2' : IntKind.i64.wrap (1000 * c + n) = 1000 * c + n := wrapId (by omega) (by omega)
      go_enter Try.func18, Try.ntmps18
      go_wp2_with (first | (go_at_call 24; refine (within_any _ _ _ _).mono ?_; rintro e w' ⟨rfl, rfl⟩) | (go_at_call 23; refine (isClient_any _ _).mono ?_; rintro e w' ⟨rfl, rfl⟩))
      refine bodyPost_ret (v := .agg #[.int .i64 0, .int .i64 (1000 * c + n)]) (by simp [results, Try.results18, go_sem]) rfl ⟨by rw [HC.out, HV.out], by (repeat (first | exact Below.refl _ _ | assumption | refine Below.drew ?_ | refine balloc ?_ _ | refine bset ?_ (by simp; omega) _ | refine bset ?_ (by simp) _ | refine bstep ?_ (by assumption)))⟩
end Go.Proofs.Ytjemciikdijokaa

/-
  SumOf on both sides, and how its answers are compared.
-/
namespace Go.Proofs.Ytjemciikdijokaa
open Go.RowKit
set_option linter.unusedSectionVars false
variable [DecidableEq Leg] [Inhabited Leg]
attribute [local go_sem ↓] Go.wp_at_zero Go.wp_at_succ

set_option maxHeartbeats 400000 in
theorem eqIntResult_any (a b c d : Int) (w : World) :
    Calls Try.prog 19 #[.agg #[.int .i64 a, .int .i64 b], .agg #[.int .i64 c, .int .i64 d]] w fun e w' => e = .returned (.bool (decide (a = c ∧ b = d))) ∧ Below w.heap.size w w' := by
  go_enter Try.func19, Try.ntmps19
  go_wp2
  all_goals
    go_ret
    exact ⟨by simp_all, balloc (balloc (Below.refl _ _) _) _⟩
end Go.Proofs.Ytjemciikdijokaa

