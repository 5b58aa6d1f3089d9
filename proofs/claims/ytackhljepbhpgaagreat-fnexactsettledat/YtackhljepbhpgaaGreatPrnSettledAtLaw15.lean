import Derived.Test.YtackhljepbhpgaaGreatPrnSettledAtLaw14
import Derived.BigQuiet
import Derived.Deep.QuietTactic
import Derived.Deep.RegionHeld3
import Derived.WalkKit
import Derived.OwnWalkIn
import Derived.TacticsInMore
import Derived.LoopNIn
import Derived.LoopIn
import Derived.Maps.OwnIn
import Derived.Maps.AppendAt
set_option maxHeartbeats 8000000
set_option maxRecDepth 100000
set_option linter.unusedSimpArgs false
set_option linter.unusedVariables false
set_option linter.unusedSectionVars false

namespace Go.Proofs.YtackhljepbhpgaaGreat
open Go.RowKit
variable [DecidableEq Leg] [Inhabited Leg] [DecidableEq Cont] [Inhabited Cont] [DecidableEq Bal] [Inhabited Bal] [DecidableEq Mrk] [Inhabited Mrk] [DecidableEq Shd] [Inhabited Shd] [DecidableEq Vot] [Inhabited Vot] [DecidableEq Slt] [Inhabited Slt] [DecidableEq Acc] [Inhabited Acc] [DecidableEq Trr] [Inhabited Trr] [DecidableEq Hrd] [Inhabited Hrd] [DecidableEq Ldr] [Inhabited Ldr] [DecidableEq Msg] [Inhabited Msg] [DecidableEq Clu] [Inhabited Clu] [DecidableEq Ledg] [Inhabited Ledg] [DecidableEq SltR] [Inhabited SltR] [DecidableEq AccR] [Inhabited AccR] [DecidableEq AccsR] [Inhabited AccsR] [DecidableEq SltsR] [Inhabited SltsR] [DecidableEq Rw] [Inhabited Rw] [DecidableEq LedgR] [Inhabited LedgR] [DecidableEq OutcR] [Inhabited OutcR] [DecidableEq ShdR] [Inhabited ShdR]
attribute [local go_sem ↓] Go.wp_at_zero Go.wp_at_succ

theorem behindC_any (i j : Int) (u v : Value) (a : Option Addr) (n c : Nat) (w : World) (hn : n ≤ 9223372036854775807) (h : ∀ p, n = p + 1 → ∃ b o, a = some ⟨b, o, none⟩ ∧ w.cell? ⟨b, o + p * 2, none⟩ = some (.int .i64 j) ∧ w.cell? ⟨b, o + p * 2 + 1, none⟩ = some (v)) :
  Calls Tryz.prog 135 #[.agg #[.int .i64 i, u], .slice a n c, .func (.func 136) #[] #[]] w fun e w' => e = .returned (.bool (decide (n = 0) || decide (cmpZ j i < 0))) ∧ Below w.heap.size w w' := by
 have eg := enters_of Tryz.func136 (by kernel_rfl) rfl
 cases n with
 | zero =>
  clear h
  go_enter Tryz.func135, Tryz.ntmps135
  go_wp2
  refine wp_region_noPanic ?_
  refine region_upto (fun W => W.cell? ⟨w.heap.size, 0, none⟩ = some (.int .i64 i) ∧ W.cell? ⟨w.heap.size, 1, none⟩ = some (u)) 16 (by kernel_rfl) ⟨by simp [go_sem], by simp [go_sem]⟩ (fun hS => ?_)
  refine tM 0 rfl hS ?_; try simp only [jX]
  refine tM 1 rfl hS ?_; try simp only [jX]
  refine tM 2 (v := (.bool true)) rfl hS ?_; try simp only [jX]
  refine tM 3 rfl hS ?_; try simp only [jX]
  refine sN 4 rfl hS (fun _ => ?_); try simp only [jX]
  refine sN 5 rfl hS (fun _ => ?_); try simp only [jX]
  refine sN 6 rfl hS (fun _ => ?_); try simp only [jX]
  refine sN 7 rfl hS (fun _ => ?_); try simp only [jX]
  refine sN 8 rfl hS (fun _ => ?_); try simp only [jX]
  refine sN 9 rfl hS (fun _ => ?_); try simp only [jX]
  refine sN 10 rfl hS (fun _ => ?_); try simp only [jX]
  refine sN 11 rfl hS (fun _ => ?_); try simp only [jX]
  refine sN 12 rfl hS (fun _ => ?_); try simp only [jX]
  refine sN 13 rfl hS (fun _ => ?_); try simp only [jX]
  refine tM 14 rfl hS ?_; try simp only [jX]
  refine tM 15 rfl hS ?_; try simp only [jX]
  refine dN (NoPanic.normal ?_)
  go_wp2; go_ret
  exact ⟨rfl, qBq⟩
 | succ p =>
  obtain ⟨b, o, rfl, g0, g1⟩ := h p rfl
  clear h
  have zb : b < w.heap.size := wL w _ g0
  have i1 : (0 : Int) ≤ (p : Int) := by omega
  have i2 : (p : Int) < ((p + 1 : Nat) : Int) := by omega
  have i3 : (((p + 1 : Nat) : Int) == 0) = false := by rw [beq_eq_false_iff_ne]; omega
  have i4 : ((p : Int) + 1 == 0) = false := by rw [beq_eq_false_iff_ne]; omega
  have i5 : IntKind.i64.wrap (((p + 1 : Nat) : Int) - 1) = (p : Int) := by rw [IntKind.wrap_i64]; omega
  have i6 : IntKind.i64.wrap ((p : Int) + 1 - 1) = (p : Int) := by rw [IntKind.wrap_i64]; omega
  have i7 : ¬ ((p : Int) + 1 = 0) := by omega
  have i8 : (p : Int) < (p : Int) + 1 := by omega
  have w1' : IntKind.i64.wrap (p : Int) = p := wrapId (by omega) (by omega)
  rw [show (decide (p + 1 = 0) || decide (cmpZ j i < 0)) = decide (cmpZ j i < 0) by simp]
  go_enter Tryz.func135, Tryz.ntmps135
  go_wp2
  refine wp_region_noPanic ?_
  refine region_upto (fun W => W.cell? ⟨w.heap.size, 0, none⟩ = some (.int .i64 i) ∧ W.cell? ⟨w.heap.size, 1, none⟩ = some (u) ∧ W.cell? ⟨b, o + p * 2, none⟩ = some (.int .i64 j) ∧ W.cell? ⟨b, o + p * 2 + 1, none⟩ = some (v)) 16 (by kernel_rfl) ⟨by simp [go_sem], by simp [go_sem], cK (qBq) g0, cK (qBq) g1⟩ (fun hS => ?_)
  refine tM 0 rfl hS ?_; try simp only [jX]
  refine tM 1 rfl hS ?_; try simp only [jX]
  refine tM 2 (v := (.bool false)) rfl hS ?_; try simp only [jX]
  refine tM 3 rfl hS ?_; try simp only [jX]
  refine tM 4 rfl hS ?_; try simp only [jX]
  refine tM 5 rfl hS ?_; try simp only [jX]
  refine tM 6 rfl hS ?_; try simp only [jX]
  refine tM 7 rfl hS ?_; try simp only [jX]
  refine tM 8 rfl hS ?_; try simp only [jX]
  refine tM 9 rfl hS ?_; try simp only [jX]
  refine tM 10 rfl hS ?_; try simp only [jX]
  refine tM 11 rfl hS ?_; try simp only [jX]
  refine uS 12 rfl (fun K hK => ?_)
  go_simp
  refine (compareIds_any _ _ _ _ _).mono ?_
  rintro e w1 ⟨rfl, hb1⟩
  have hB1 : Below w.heap.size w w1 := bS (qBq) hb1
  have hS1 := And.intro (cK hb1 hS.1) (And.intro (cK hb1 hS.2.1) (And.intro (cK hb1 hS.2.2.1) (cK hb1 hS.2.2.2)))
  refine hK _ _ (fun _ => hS1) ?_
  clear hK K
  try simp only [jX]
  refine tM 13 rfl hS1 ?_; try simp only [jX]
  refine tM 14 rfl hS1 ?_; try simp only [jX]
  refine tM 15 rfl hS1 ?_; try simp only [jX]
  refine dN (NoPanic.normal ?_)
  go_wp2; go_ret
  exact ⟨rfl, hB1⟩
theorem behindT_any (x y : Trr) (u v u' v' : Value) (a : Option Addr) (n c : Nat) (w : World) (hn : n ≤ 9223372036854775807) (h : ∀ p, n = p + 1 → ∃ b o, a = some ⟨b, o, none⟩ ∧ w.cell? ⟨b, o + p * 6, none⟩ = some (.int .i64 y.con) ∧ w.cell? ⟨b, o + p * 6 + 1, none⟩ = some (.int .i64 y.sh) ∧ w.cell? ⟨b, o + p * 6 + 2, none⟩ = some (.int .i64 y.bal) ∧ w.cell? ⟨b, o + p * 6 + 3, none⟩ = some (.int .i64 y.val) ∧ w.cell? ⟨b, o + p * 6 + 4, none⟩ = some (u') ∧ w.cell? ⟨b, o + p * 6 + 5, none⟩ = some (v')) :
  Calls Tryz.prog 152 #[.agg #[.int .i64 x.con, .int .i64 x.sh, .int .i64 x.bal, .int .i64 x.val, u, v], .slice a n c, .func (.func 153) #[] #[]] w fun e w' => e = .returned (.bool (decide (n = 0) || decide (cmpT y x < 0))) ∧ Below w.heap.size w w' := by
 have eg := enters_of Tryz.func153 (by kernel_rfl) rfl
 cases n with
 | zero =>
  clear h
  go_enter Tryz.func152, Tryz.ntmps152
  go_wp2
  refine wp_region_noPanic ?_
  refine region_upto (fun W => W.cell? ⟨w.heap.size, 0, none⟩ = some (.int .i64 x.con) ∧ W.cell? ⟨w.heap.size, 1, none⟩ = some (.int .i64 x.sh) ∧ W.cell? ⟨w.heap.size, 2, none⟩ = some (.int .i64 x.bal) ∧ W.cell? ⟨w.heap.size, 3, none⟩ = some (.int .i64 x.val) ∧ W.cell? ⟨w.heap.size, 4, none⟩ = some (u) ∧ W.cell? ⟨w.heap.size, 5, none⟩ = some (v)) 16 (by kernel_rfl) ⟨by simp [go_sem], by simp [go_sem], by simp [go_sem], by simp [go_sem], by simp [go_sem], by simp [go_sem]⟩ (fun hS => ?_)
  refine tM 0 rfl hS ?_; try simp only [jX]
  refine tM 1 rfl hS ?_; try simp only [jX]
  refine tM 2 (v := (.bool true)) rfl hS ?_; try simp only [jX]
  refine tM 3 rfl hS ?_; try simp only [jX]
  refine sN 4 rfl hS (fun _ => ?_); try simp only [jX]
  refine sN 5 rfl hS (fun _ => ?_); try simp only [jX]
  refine sN 6 rfl hS (fun _ => ?_); try simp only [jX]
  refine sN 7 rfl hS (fun _ => ?_); try simp only [jX]
  refine sN 8 rfl hS (fun _ => ?_); try simp only [jX]
  refine sN 9 rfl hS (fun _ => ?_); try simp only [jX]
  refine sN 10 rfl hS (fun _ => ?_); try simp only [jX]
  refine sN 11 rfl hS (fun _ => ?_); try simp only [jX]
  refine sN 12 rfl hS (fun _ => ?_); try simp only [jX]
  refine sN 13 rfl hS (fun _ => ?_); try simp only [jX]
  refine tM 14 rfl hS ?_; try simp only [jX]
  refine tM 15 rfl hS ?_; try simp only [jX]
  refine dN (NoPanic.normal ?_)
  go_wp2; go_ret
  exact ⟨rfl, qBq⟩
 | succ p =>
  obtain ⟨b, o, rfl, g0, g1, g2, g3, g4, g5⟩ := h p rfl
  clear h
  have zb : b < w.heap.size := wL w _ g0
  have i1 : (0 : Int) ≤ (p : Int) := by omega
  have i2 : (p : Int) < ((p + 1 : Nat) : Int) := by omega
  have i3 : (((p + 1 : Nat) : Int) == 0) = false := by rw [beq_eq_false_iff_ne]; omega
  have i4 : ((p : Int) + 1 == 0) = false := by rw [beq_eq_false_iff_ne]; omega
  have i5 : IntKind.i64.wrap (((p + 1 : Nat) : Int) - 1) = (p : Int) := by rw [IntKind.wrap_i64]; omega
  have i6 : IntKind.i64.wrap ((p : Int) + 1 - 1) = (p : Int) := by rw [IntKind.wrap_i64]; omega
  have i7 : ¬ ((p : Int) + 1 = 0) := by omega
  have i8 : (p : Int) < (p : Int) + 1 := by omega
  have w1' : IntKind.i64.wrap (p : Int) = p := wrapId (by omega) (by omega)
  rw [show (decide (p + 1 = 0) || decide (cmpT y x < 0)) = decide (cmpT y x < 0) by simp]
  go_enter Tryz.func152, Tryz.ntmps152
  go_wp2
  refine wp_region_noPanic ?_
  refine region_upto (fun W => W.cell? ⟨w.heap.size, 0, none⟩ = some (.int .i64 x.con) ∧ W.cell? ⟨w.heap.size, 1, none⟩ = some (.int .i64 x.sh) ∧ W.cell? ⟨w.heap.size, 2, none⟩ = some (.int .i64 x.bal) ∧ W.cell? ⟨w.heap.size, 3, none⟩ = some (.int .i64 x.val) ∧ W.cell? ⟨w.heap.size, 4, none⟩ = some (u) ∧ W.cell? ⟨w.heap.size, 5, none⟩ = some (v) ∧ W.cell? ⟨b, o + p * 6, none⟩ = some (.int .i64 y.con) ∧ W.cell? ⟨b, o + p * 6 + 1, none⟩ = some (.int .i64 y.sh) ∧ W.cell? ⟨b, o + p * 6 + 2, none⟩ = some (.int .i64 y.bal) ∧ W.cell? ⟨b, o + p * 6 + 3, none⟩ = some (.int .i64 y.val) ∧ W.cell? ⟨b, o + p * 6 + 4, none⟩ = some (u') ∧ W.cell? ⟨b, o + p * 6 + 5, none⟩ = some (v')) 16 (by kernel_rfl) ⟨by simp [go_sem], by simp [go_sem], by simp [go_sem], by simp [go_sem], by simp [go_sem], by simp [go_sem], cK (qBq) g0, cK (qBq) g1, cK (qBq) g2, cK (qBq) g3, cK (qBq) g4, cK (qBq) g5⟩ (fun hS => ?_)
  refine tM 0 rfl hS ?_; try simp only [jX]
  refine tM 1 rfl hS ?_; try simp only [jX]
  refine tM 2 (v := (.bool false)) rfl hS ?_; try simp only [jX]
  refine tM 3 rfl hS ?_; try simp only [jX]
  refine tM 4 rfl hS ?_; try simp only [jX]
  refine tM 5 rfl hS ?_; try simp only [jX]
  refine tM 6 rfl hS ?_; try simp only [jX]
  refine tM 7 rfl hS ?_; try simp only [jX]
  refine tM 8 rfl hS ?_; try simp only [jX]
  refine tM 9 rfl hS ?_; try simp only [jX]
  refine tM 10 rfl hS ?_; try simp only [jX]
  refine tM 11 rfl hS ?_; try simp only [jX]
  refine uS 12 rfl (fun K hK => ?_)
  go_simp
  refine (compareTries_any y x _ _ _ _ _).mono ?_
  rintro e w1 ⟨rfl, hb1⟩
  have hB1 : Below w.heap.size w w1 := bS (qBq) hb1
  have hS1 := And.intro (cK hb1 hS.1) (And.intro (cK hb1 hS.2.1) (And.intro (cK hb1 hS.2.2.1) (And.intro (cK hb1 hS.2.2.2.1) (And.intro (cK hb1 hS.2.2.2.2.1) (And.intro (cK hb1 hS.2.2.2.2.2.1) (And.intro (cK hb1 hS.2.2.2.2.2.2.1) (And.intro (cK hb1 hS.2.2.2.2.2.2.2.1) (And.intro (cK hb1 hS.2.2.2.2.2.2.2.2.1) (And.intro (cK hb1 hS.2.2.2.2.2.2.2.2.2.1) (And.intro (cK hb1 hS.2.2.2.2.2.2.2.2.2.2.1) (cK hb1 hS.2.2.2.2.2.2.2.2.2.2.2)))))))))))
  refine hK _ _ (fun _ => hS1) ?_
  clear hK K
  try simp only [jX]
  refine tM 13 rfl hS1 ?_; try simp only [jX]
  refine tM 14 rfl hS1 ?_; try simp only [jX]
  refine tM 15 rfl hS1 ?_; try simp only [jX]
  refine dN (NoPanic.normal ?_)
  go_wp2; go_ret
  exact ⟨rfl, hB1⟩
theorem behindH_any (x y : Hrd) (a : Option Addr) (n c : Nat) (w : World) (hn : n ≤ 9223372036854775807) (h : ∀ p, n = p + 1 → ∃ b o, a = some ⟨b, o, none⟩ ∧ w.cell? ⟨b, o + p * 5, none⟩ = some (.int .i64 y.con) ∧ w.cell? ⟨b, o + p * 5 + 1, none⟩ = some (.int .i64 y.sh) ∧ w.cell? ⟨b, o + p * 5 + 2, none⟩ = some (.int .i64 y.bal) ∧ w.cell? ⟨b, o + p * 5 + 3, none⟩ = some (.int .i64 y.val) ∧ w.cell? ⟨b, o + p * 5 + 4, none⟩ = some (.int .i64 y.frm)) :
  Calls Tryz.prog 160 #[.agg #[.int .i64 x.con, .int .i64 x.sh, .int .i64 x.bal, .int .i64 x.val, .int .i64 x.frm], .slice a n c, .func (.func 161) #[] #[]] w fun e w' => e = .returned (.bool (decide (n = 0) || decide (cmpH y x < 0))) ∧ Below w.heap.size w w' := by
 have eg := enters_of Tryz.func161 (by kernel_rfl) rfl
 cases n with
 | zero =>
  clear h
  go_enter Tryz.func160, Tryz.ntmps160
  go_wp2
  refine wp_region_noPanic ?_
  refine region_upto (fun W => W.cell? ⟨w.heap.size, 0, none⟩ = some (.int .i64 x.con) ∧ W.cell? ⟨w.heap.size, 1, none⟩ = some (.int .i64 x.sh) ∧ W.cell? ⟨w.heap.size, 2, none⟩ = some (.int .i64 x.bal) ∧ W.cell? ⟨w.heap.size, 3, none⟩ = some (.int .i64 x.val) ∧ W.cell? ⟨w.heap.size, 4, none⟩ = some (.int .i64 x.frm)) 16 (by kernel_rfl) ⟨by simp [go_sem], by simp [go_sem], by simp [go_sem], by simp [go_sem], by simp [go_sem]⟩ (fun hS => ?_)
  refine tM 0 rfl hS ?_; try simp only [jX]
  refine tM 1 rfl hS ?_; try simp only [jX]
  refine tM 2 (v := (.bool true)) rfl hS ?_; try simp only [jX]
  refine tM 3 rfl hS ?_; try simp only [jX]
  refine sN 4 rfl hS (fun _ => ?_); try simp only [jX]
  refine sN 5 rfl hS (fun _ => ?_); try simp only [jX]
  refine sN 6 rfl hS (fun _ => ?_); try simp only [jX]
  refine sN 7 rfl hS (fun _ => ?_); try simp only [jX]
  refine sN 8 rfl hS (fun _ => ?_); try simp only [jX]
  refine sN 9 rfl hS (fun _ => ?_); try simp only [jX]
  refine sN 10 rfl hS (fun _ => ?_); try simp only [jX]
  refine sN 11 rfl hS (fun _ => ?_); try simp only [jX]
  refine sN 12 rfl hS (fun _ => ?_); try simp only [jX]
  refine sN 13 rfl hS (fun _ => ?_); try simp only [jX]
  refine tM 14 rfl hS ?_; try simp only [jX]
  refine tM 15 rfl hS ?_; try simp only [jX]
  refine dN (NoPanic.normal ?_)
  go_wp2; go_ret
  exact ⟨rfl, qBq⟩
 | succ p =>
  obtain ⟨b, o, rfl, g0, g1, g2, g3, g4⟩ := h p rfl
  clear h
  have zb : b < w.heap.size := wL w _ g0
  have i1 : (0 : Int) ≤ (p : Int) := by omega
  have i2 : (p : Int) < ((p + 1 : Nat) : Int) := by omega
  have i3 : (((p + 1 : Nat) : Int) == 0) = false := by rw [beq_eq_false_iff_ne]; omega
  have i4 : ((p : Int) + 1 == 0) = false := by rw [beq_eq_false_iff_ne]; omega
  have i5 : IntKind.i64.wrap (((p + 1 : Nat) : Int) - 1) = (p : Int) := by rw [IntKind.wrap_i64]; omega
  have i6 : IntKind.i64.wrap ((p : Int) + 1 - 1) = (p : Int) := by rw [IntKind.wrap_i64]; omega
  have i7 : ¬ ((p : Int) + 1 = 0) := by omega
  have i8 : (p : Int) < (p : Int) + 1 := by omega
  have w1' : IntKind.i64.wrap (p : Int) = p := wrapId (by omega) (by omega)
  rw [show (decide (p + 1 = 0) || decide (cmpH y x < 0)) = decide (cmpH y x < 0) by simp]
  go_enter Tryz.func160, Tryz.ntmps160
  go_wp2
  refine wp_region_noPanic ?_
  refine region_upto (fun W => W.cell? ⟨w.heap.size, 0, none⟩ = some (.int .i64 x.con) ∧ W.cell? ⟨w.heap.size, 1, none⟩ = some (.int .i64 x.sh) ∧ W.cell? ⟨w.heap.size, 2, none⟩ = some (.int .i64 x.bal) ∧ W.cell? ⟨w.heap.size, 3, none⟩ = some (.int .i64 x.val) ∧ W.cell? ⟨w.heap.size, 4, none⟩ = some (.int .i64 x.frm) ∧ W.cell? ⟨b, o + p * 5, none⟩ = some (.int .i64 y.con) ∧ W.cell? ⟨b, o + p * 5 + 1, none⟩ = some (.int .i64 y.sh) ∧ W.cell? ⟨b, o + p * 5 + 2, none⟩ = some (.int .i64 y.bal) ∧ W.cell? ⟨b, o + p * 5 + 3, none⟩ = some (.int .i64 y.val) ∧ W.cell? ⟨b, o + p * 5 + 4, none⟩ = some (.int .i64 y.frm)) 16 (by kernel_rfl) ⟨by simp [go_sem], by simp [go_sem], by simp [go_sem], by simp [go_sem], by simp [go_sem], cK (qBq) g0, cK (qBq) g1, cK (qBq) g2, cK (qBq) g3, cK (qBq) g4⟩ (fun hS => ?_)
  refine tM 0 rfl hS ?_; try simp only [jX]
  refine tM 1 rfl hS ?_; try simp only [jX]
  refine tM 2 (v := (.bool false)) rfl hS ?_; try simp only [jX]
  refine tM 3 rfl hS ?_; try simp only [jX]
  refine tM 4 rfl hS ?_; try simp only [jX]
  refine tM 5 rfl hS ?_; try simp only [jX]
  refine tM 6 rfl hS ?_; try simp only [jX]
  refine tM 7 rfl hS ?_; try simp only [jX]
  refine tM 8 rfl hS ?_; try simp only [jX]
  refine tM 9 rfl hS ?_; try simp only [jX]
  refine tM 10 rfl hS ?_; try simp only [jX]
  refine tM 11 rfl hS ?_; try simp only [jX]
  refine uS 12 rfl (fun K hK => ?_)
  go_simp
  refine (compareHeard_any y x _).mono ?_
  rintro e w1 ⟨rfl, hb1⟩
  have hB1 : Below w.heap.size w w1 := bS (qBq) hb1
  have hS1 := And.intro (cK hb1 hS.1) (And.intro (cK hb1 hS.2.1) (And.intro (cK hb1 hS.2.2.1) (And.intro (cK hb1 hS.2.2.2.1) (And.intro (cK hb1 hS.2.2.2.2.1) (And.intro (cK hb1 hS.2.2.2.2.2.1) (And.intro (cK hb1 hS.2.2.2.2.2.2.1) (And.intro (cK hb1 hS.2.2.2.2.2.2.2.1) (And.intro (cK hb1 hS.2.2.2.2.2.2.2.2.1) (cK hb1 hS.2.2.2.2.2.2.2.2.2)))))))))
  refine hK _ _ (fun _ => hS1) ?_
  clear hK K
  try simp only [jX]
  refine tM 13 rfl hS1 ?_; try simp only [jX]
  refine tM 14 rfl hS1 ?_; try simp only [jX]
  refine tM 15 rfl hS1 ?_; try simp only [jX]
  refine dN (NoPanic.normal ?_)
  go_wp2; go_ret
  exact ⟨rfl, hB1⟩
theorem hrds_atF {w : World} {a : Option Addr} {n c : Nat} {xs : List Hrd} (hx : hrdsR.V w (.slice a n c) xs) : xs.length = n ∧ n ≤ c ∧ c ≤ maxLen ∧ ∀ k, k < n → ∃ b o, a = some ⟨b, o, none⟩ ∧ w.cell? ⟨b, o + k * 5, none⟩ = some (.int .i64 (xs.getD k default).con) ∧ w.cell? ⟨b, o + k * 5 + 1, none⟩ = some (.int .i64 (xs.getD k default).sh) ∧ w.cell? ⟨b, o + k * 5 + 2, none⟩ = some (.int .i64 (xs.getD k default).bal) ∧ w.cell? ⟨b, o + k * 5 + 3, none⟩ = some (.int .i64 (xs.getD k default).val) ∧ w.cell? ⟨b, o + k * 5 + 4, none⟩ = some (.int .i64 (xs.getD k default).frm) := by
 obtain ⟨a', c', e, h1, h2, h3⟩ := hx
 simp only [Value.slice.injEq] at e
 obtain ⟨rfl, rfl, rfl⟩ := e
 exact ⟨rfl, h1, h2, fun k hk => h3 k hk⟩
theorem firstC_any (x : Value) (c : Clu) (gf : Nat) (ff : Nat → Int) (a : Option Addr) (n cc : Nat) (xs : List Cont) (w : World) (hx : cluR.V w x c) (eg : ∀ args w, (callFunc gf args).run Tryz.prog w = .ok (.enter gf args) w) (hx0 : contsR.V w (.slice a n cc) xs) (hlen : xs.length = n)
  (hf : ∀ k, k < n → (∀ W item, Below w.heap.size w W → contR.V W item (xs.getD k default) → Calls Tryz.prog gf #[x, .slice a k cc, item] W fun e w' => e = .returned (.int .i64 (ff k)) ∧ Below W.heap.size W w')) :
  Calls Tryz.prog 93 #[x, .slice a n cc, .func (.func gf) #[] #[]] w fun e w' => e = .returned (.int .i64 (scanI ff n)) ∧ Below w.heap.size w w' := by
 obtain ⟨a0, a1, a2, a3, a4, c0, c1, c2, c3, c4, n0, n1, n2, n3, n4, rfl, e0, e1, e2, e3, e4, L0, L1, L2, L3, L4⟩ := clu_formN hx
 clear e0 e1 e2 e3 e4 L0 L1 L2 L3 L4 hx
 subst hlen
 have HA := conts_atM hx0
 clear hx0
 obtain ⟨hnc, hmc, HA⟩ := HA
 have HX : Hid _ := HA
 clear HA
 unfold maxLen at hmc
 have HF : Hid _ := hf
 clear hf
 have H1 : Hid (∀ k, k < xs.length → scanI ff k = 0 → ¬ ff k = 0 → scanI ff xs.length = ff k) := fun k hk hs h0 => scanI_hit hs h0 _ hk
 have H2 : Hid (scanI ff xs.length = scanI ff xs.length) := rfl
 obtain ⟨R, hR⟩ : ∃ R, R = scanI ff xs.length := ⟨_, rfl⟩
 rw [← hR] at H1 H2 ⊢
 have HR : Hid (scanI ff xs.length = R) := hR.symm
 clear hR H2
 obtain ⟨n, hn⟩ : ∃ n, n = xs.length := ⟨_, rfl⟩
 rw [← hn] at HX HF H1 HR hnc ⊢
 clear hn
 go_enter Tryz.func93, Tryz.ntmps93
 go_wp2
 go_loopw [12] (fun i w' => ∃ k : Nat, k ≤ n ∧ i = .int .i64 k ∧ Hid (scanI ff k = 0) ∧ (w'.cell? ⟨w.heap.size, 0, none⟩ = some (.slice a0 n0 c0) ∧ w'.cell? ⟨w.heap.size, 1, none⟩ = some (.slice a1 n1 c1) ∧ w'.cell? ⟨w.heap.size, 2, none⟩ = some (.slice a2 n2 c2) ∧ w'.cell? ⟨w.heap.size, 3, none⟩ = some (.slice a3 n3 c3) ∧ w'.cell? ⟨w.heap.size, 4, none⟩ = some (.slice a4 n4 c4)) ∧ Below w.heap.size w w') (fun i _ => n - (intOf i).toNat)
 case atStart => exact ⟨0, Nat.zero_le _, rfl, rfl, ⟨by simp [go_sem], by simp [go_sem], by simp [go_sem], by simp [go_sem], by simp [go_sem]⟩, qBq⟩
 case round =>
  obtain ⟨k, hk, rfl, HS, ⟨y0, y1, y2, y3, y4⟩, hbl⟩ := hrel
  have zq : w.heap.size < wr.heap.size := wL wr _ y0
  by_cases hlt : k < n
  ·
   have HA := HX.out k hlt
   have hF := HF.out k hlt
   have HH : Hid (¬ ff k = 0 → R = ff k) := fun h => H1.out k hlt HS.out h
   have HZ : Hid (ff k = 0 → scanI ff (k + 1) = 0) := fun h => scanI_succ HS.out h
   obtain ⟨l, hl0⟩ : ∃ l, l = xs.getD k default := ⟨_, rfl⟩
   rw [← hl0] at HA hF
   clear hl0
   obtain ⟨b, o, p, q, rfl, g0, g1, hl⟩ := HA
   have HC : Hid (∀ W, Below w.heap.size w W → Calls Tryz.prog gf #[.agg #[.slice a0 n0 c0, .slice a1 n1 c1, .slice a2 n2 c2, .slice a3 n3 c3, .slice a4 n4 c4], .slice (some ⟨b, o, none⟩) k cc, .agg #[.int .i64 l.id, .slice p l.legs.length q]] W fun e w' => e = .returned (.int .i64 (ff k)) ∧ Below W.heap.size W w') := fun W hW => hF W _ hW (contR.below ⟨_, rfl, hl⟩ hW)
   clear hF
   replace g0 := cK hbl g0
   replace g1 := cK hbl g1
   have zb : b < wr.heap.size := wL wr _ g0
   have hti : (k : Int) < (n : Int) := by omega
   have hi0 : (0 : Int) ≤ (k : Int) := by omega
   have hi1 : (k : Int) ≤ (cc : Int) := by omega
   have w1' : IntKind.i64.wrap (k : Int) = k := wrapId (by omega) (by omega)
   clear hl
   generalize ff k = z at *
   go_wp2
   refine wp_region_noPanic ?_
   refine region_upto (fun W => W.cell? ⟨w.heap.size, 0, none⟩ = some (.slice a0 n0 c0) ∧ W.cell? ⟨w.heap.size, 1, none⟩ = some (.slice a1 n1 c1) ∧ W.cell? ⟨w.heap.size, 2, none⟩ = some (.slice a2 n2 c2) ∧ W.cell? ⟨w.heap.size, 3, none⟩ = some (.slice a3 n3 c3) ∧ W.cell? ⟨w.heap.size, 4, none⟩ = some (.slice a4 n4 c4) ∧ W.cell? ⟨wr.heap.size, 0, none⟩ = some (.int .i64 l.id) ∧ W.cell? ⟨wr.heap.size, 1, none⟩ = some (.slice p l.legs.length q)) 8 (by kernel_rfl) ⟨cK (qBq) y0, cK (qBq) y1, cK (qBq) y2, cK (qBq) y3, cK (qBq) y4, by simp [go_sem], by simp [go_sem]⟩ (fun hS => ?_)
   refine tM 0 rfl hS ?_; try simp only [jX]
   refine tM 1 rfl hS ?_; try simp only [jX]
   refine tM 2 rfl hS ?_; try simp only [jX]
   refine tM 3 rfl hS ?_; try simp only [jX]
   refine tM 4 rfl hS ?_; try simp only [jX]
   refine tM 5 rfl hS ?_; try simp only [jX]
   refine uS 6 rfl (fun K hK => ?_)
   go_simp
   refine (HC.out _ (qBq)).mono ?_
   rintro e w1 ⟨rfl, hb1⟩
   have hB1 : Below w.heap.size w w1 := bS (qBq) hb1
   have hS1 := And.intro (cK hb1 hS.1) (And.intro (cK hb1 hS.2.1) (And.intro (cK hb1 hS.2.2.1) (And.intro (cK hb1 hS.2.2.2.1) (And.intro (cK hb1 hS.2.2.2.2.1) (And.intro (cK hb1 hS.2.2.2.2.2.1) (cK hb1 hS.2.2.2.2.2.2))))))
   refine hK _ _ (fun _ => hS1) ?_
   clear hK K
   try simp only [jX]
   refine tM 7 rfl hS1 ?_; try simp only [jX]
   refine dN (NoPanic.normal ?_)
   have Y : w1.cell? ⟨w.heap.size, 0, none⟩ = some (.slice a0 n0 c0) ∧ w1.cell? ⟨w.heap.size, 1, none⟩ = some (.slice a1 n1 c1) ∧ w1.cell? ⟨w.heap.size, 2, none⟩ = some (.slice a2 n2 c2) ∧ w1.cell? ⟨w.heap.size, 3, none⟩ = some (.slice a3 n3 c3) ∧ w1.cell? ⟨w.heap.size, 4, none⟩ = some (.slice a4 n4 c4) := ⟨hS1.1, hS1.2.1, hS1.2.2.1, hS1.2.2.2.1, hS1.2.2.2.2.1⟩
   clear hS hS1 hb1
   by_cases hz : z = 0
   ·
    subst hz
    have HQ : Hid _ := HZ.out rfl
    clear HZ HH
    go_wp2
    exact ⟨⟨k + 1, by omega, by go_num, HQ, Y, hB1⟩, by simp [intOf]; omega⟩
   ·
    have HC : Hid _ := HH.out hz
    have hz' : (z != 0) = true := by simp [hz]
    clear HZ HH
    go_wp2; go_ret
    exact ⟨by rw [HC.out]; rfl, hB1⟩
  ·
   obtain rfl : k = n := by omega
   have hti : ¬ (k : Int) < (k : Int) := by omega
   have HC : Hid (R = 0) := by show _ = _; rw [← HR.out]; exact HS.out
   go_wp2; go_ret
   exact ⟨by rw [HC.out]; rfl, hbl⟩
theorem firstT_any (x : Value) (c : Clu) (gf : Nat) (ff : Nat → Int) (a : Option Addr) (n cc : Nat) (xs : List Trr) (w : World) (hx : cluR.V w x c) (eg : ∀ args w, (callFunc gf args).run Tryz.prog w = .ok (.enter gf args) w) (hx0 : trysR.V w (.slice a n cc) xs) (hlen : xs.length = n)
  (hf : ∀ k, k < n → (∀ W item, Below w.heap.size w W → trrR.V W item (xs.getD k default) → Calls Tryz.prog gf #[x, .slice a k cc, item] W fun e w' => e = .returned (.int .i64 (ff k)) ∧ Below W.heap.size W w')) :
  Calls Tryz.prog 102 #[x, .slice a n cc, .func (.func gf) #[] #[]] w fun e w' => e = .returned (.int .i64 (scanI ff n)) ∧ Below w.heap.size w w' := by
 obtain ⟨a0, a1, a2, a3, a4, c0, c1, c2, c3, c4, n0, n1, n2, n3, n4, rfl, e0, e1, e2, e3, e4, L0, L1, L2, L3, L4⟩ := clu_formN hx
 clear e0 e1 e2 e3 e4 L0 L1 L2 L3 L4 hx
 subst hlen
 have HA := trys_at hx0
 clear hx0
 obtain ⟨_, hnc, hmc, HA⟩ := HA
 have HX : Hid _ := HA
 clear HA
 unfold maxLen at hmc
 have HF : Hid _ := hf
 clear hf
 have H1 : Hid (∀ k, k < xs.length → scanI ff k = 0 → ¬ ff k = 0 → scanI ff xs.length = ff k) := fun k hk hs h0 => scanI_hit hs h0 _ hk
 have H2 : Hid (scanI ff xs.length = scanI ff xs.length) := rfl
 obtain ⟨R, hR⟩ : ∃ R, R = scanI ff xs.length := ⟨_, rfl⟩
 rw [← hR] at H1 H2 ⊢
 have HR : Hid (scanI ff xs.length = R) := hR.symm
 clear hR H2
 obtain ⟨n, hn⟩ : ∃ n, n = xs.length := ⟨_, rfl⟩
 rw [← hn] at HX HF H1 HR hnc ⊢
 clear hn
 go_enter Tryz.func102, Tryz.ntmps102
 go_wp2
 go_loopw [12] (fun i w' => ∃ k : Nat, k ≤ n ∧ i = .int .i64 k ∧ Hid (scanI ff k = 0) ∧ (w'.cell? ⟨w.heap.size, 0, none⟩ = some (.slice a0 n0 c0) ∧ w'.cell? ⟨w.heap.size, 1, none⟩ = some (.slice a1 n1 c1) ∧ w'.cell? ⟨w.heap.size, 2, none⟩ = some (.slice a2 n2 c2) ∧ w'.cell? ⟨w.heap.size, 3, none⟩ = some (.slice a3 n3 c3) ∧ w'.cell? ⟨w.heap.size, 4, none⟩ = some (.slice a4 n4 c4)) ∧ Below w.heap.size w w') (fun i _ => n - (intOf i).toNat)
 case atStart => exact ⟨0, Nat.zero_le _, rfl, rfl, ⟨by simp [go_sem], by simp [go_sem], by simp [go_sem], by simp [go_sem], by simp [go_sem]⟩, qBq⟩
 case round =>
  obtain ⟨k, hk, rfl, HS, ⟨y0, y1, y2, y3, y4⟩, hbl⟩ := hrel
  have zq : w.heap.size < wr.heap.size := wL wr _ y0
  by_cases hlt : k < n
  ·
   have HA := HX.out k hlt
   have hF := HF.out k hlt
   have HH : Hid (¬ ff k = 0 → R = ff k) := fun h => H1.out k hlt HS.out h
   have HZ : Hid (ff k = 0 → scanI ff (k + 1) = 0) := fun h => scanI_succ HS.out h
   obtain ⟨l, hl0⟩ : ∃ l, l = xs.getD k default := ⟨_, rfl⟩
   rw [← hl0] at HA hF
   clear hl0
   obtain ⟨b, o, p, q, p', q', rfl, g0, g1, g2, g3, g4, g5, hi, hv⟩ := HA
   have HC : Hid (∀ W, Below w.heap.size w W → Calls Tryz.prog gf #[.agg #[.slice a0 n0 c0, .slice a1 n1 c1, .slice a2 n2 c2, .slice a3 n3 c3, .slice a4 n4 c4], .slice (some ⟨b, o, none⟩) k cc, .agg #[.int .i64 l.con, .int .i64 l.sh, .int .i64 l.bal, .int .i64 l.val, .slice p l.frm.length q, .slice p' l.olds.length q']] W fun e w' => e = .returned (.int .i64 (ff k)) ∧ Below W.heap.size W w') := fun W hW => hF W _ hW (trrR.below ⟨_, _, rfl, hi, hv⟩ hW)
   clear hF
   replace g0 := cK hbl g0
   replace g1 := cK hbl g1
   replace g2 := cK hbl g2
   replace g3 := cK hbl g3
   replace g4 := cK hbl g4
   replace g5 := cK hbl g5
   have zb : b < wr.heap.size := wL wr _ g0
   have hti : (k : Int) < (n : Int) := by omega
   have hi0 : (0 : Int) ≤ (k : Int) := by omega
   have hi1 : (k : Int) ≤ (cc : Int) := by omega
   have w1' : IntKind.i64.wrap (k : Int) = k := wrapId (by omega) (by omega)
   clear hi hv
   generalize ff k = z at *
   go_wp2
   refine wp_region_noPanic ?_
   refine region_upto (fun W => W.cell? ⟨w.heap.size, 0, none⟩ = some (.slice a0 n0 c0) ∧ W.cell? ⟨w.heap.size, 1, none⟩ = some (.slice a1 n1 c1) ∧ W.cell? ⟨w.heap.size, 2, none⟩ = some (.slice a2 n2 c2) ∧ W.cell? ⟨w.heap.size, 3, none⟩ = some (.slice a3 n3 c3) ∧ W.cell? ⟨w.heap.size, 4, none⟩ = some (.slice a4 n4 c4) ∧ W.cell? ⟨wr.heap.size, 0, none⟩ = some (.int .i64 l.con) ∧ W.cell? ⟨wr.heap.size, 1, none⟩ = some (.int .i64 l.sh) ∧ W.cell? ⟨wr.heap.size, 2, none⟩ = some (.int .i64 l.bal) ∧ W.cell? ⟨wr.heap.size, 3, none⟩ = some (.int .i64 l.val) ∧ W.cell? ⟨wr.heap.size, 4, none⟩ = some (.slice p l.frm.length q) ∧ W.cell? ⟨wr.heap.size, 5, none⟩ = some (.slice p' l.olds.length q')) 8 (by kernel_rfl) ⟨cK (qBq) y0, cK (qBq) y1, cK (qBq) y2, cK (qBq) y3, cK (qBq) y4, by simp [go_sem], by simp [go_sem], by simp [go_sem], by simp [go_sem], by simp [go_sem], by simp [go_sem]⟩ (fun hS => ?_)
   refine tM 0 rfl hS ?_; try simp only [jX]
   refine tM 1 rfl hS ?_; try simp only [jX]
   refine tM 2 rfl hS ?_; try simp only [jX]
   refine tM 3 rfl hS ?_; try simp only [jX]
   refine tM 4 rfl hS ?_; try simp only [jX]
   refine tM 5 rfl hS ?_; try simp only [jX]
   refine uS 6 rfl (fun K hK => ?_)
   go_simp
   refine (HC.out _ (qBq)).mono ?_
   rintro e w1 ⟨rfl, hb1⟩
   have hB1 : Below w.heap.size w w1 := bS (qBq) hb1
   have hS1 := And.intro (cK hb1 hS.1) (And.intro (cK hb1 hS.2.1) (And.intro (cK hb1 hS.2.2.1) (And.intro (cK hb1 hS.2.2.2.1) (And.intro (cK hb1 hS.2.2.2.2.1) (And.intro (cK hb1 hS.2.2.2.2.2.1) (And.intro (cK hb1 hS.2.2.2.2.2.2.1) (And.intro (cK hb1 hS.2.2.2.2.2.2.2.1) (And.intro (cK hb1 hS.2.2.2.2.2.2.2.2.1) (And.intro (cK hb1 hS.2.2.2.2.2.2.2.2.2.1) (cK hb1 hS.2.2.2.2.2.2.2.2.2.2))))))))))
   refine hK _ _ (fun _ => hS1) ?_
   clear hK K
   try simp only [jX]
   refine tM 7 rfl hS1 ?_; try simp only [jX]
   refine dN (NoPanic.normal ?_)
   have Y : w1.cell? ⟨w.heap.size, 0, none⟩ = some (.slice a0 n0 c0) ∧ w1.cell? ⟨w.heap.size, 1, none⟩ = some (.slice a1 n1 c1) ∧ w1.cell? ⟨w.heap.size, 2, none⟩ = some (.slice a2 n2 c2) ∧ w1.cell? ⟨w.heap.size, 3, none⟩ = some (.slice a3 n3 c3) ∧ w1.cell? ⟨w.heap.size, 4, none⟩ = some (.slice a4 n4 c4) := ⟨hS1.1, hS1.2.1, hS1.2.2.1, hS1.2.2.2.1, hS1.2.2.2.2.1⟩
   clear hS hS1 hb1
   by_cases hz : z = 0
   ·
    subst hz
    have HQ : Hid _ := HZ.out rfl
    clear HZ HH
    go_wp2
    exact ⟨⟨k + 1, by omega, by go_num, HQ, Y, hB1⟩, by simp [intOf]; omega⟩
   ·
    have HC : Hid _ := HH.out hz
    have hz' : (z != 0) = true := by simp [hz]
    clear HZ HH
    go_wp2; go_ret
    exact ⟨by rw [HC.out]; rfl, hB1⟩
  ·
   obtain rfl : k = n := by omega
   have hti : ¬ (k : Int) < (k : Int) := by omega
   have HC : Hid (R = 0) := by show _ = _; rw [← HR.out]; exact HS.out
   go_wp2; go_ret
   exact ⟨by rw [HC.out]; rfl, hbl⟩
theorem firstH_any (x : Value) (c : Clu) (gf : Nat) (ff : Nat → Int) (a : Option Addr) (n cc : Nat) (xs : List Hrd) (w : World) (hx : cluR.V w x c) (eg : ∀ args w, (callFunc gf args).run Tryz.prog w = .ok (.enter gf args) w) (hx0 : hrdsR.V w (.slice a n cc) xs) (hlen : xs.length = n)
  (hf : ∀ k, k < n → (∀ W item, Below w.heap.size w W → item = hrdV (xs.getD k default) → Calls Tryz.prog gf #[x, .slice a k cc, item] W fun e w' => e = .returned (.int .i64 (ff k)) ∧ Below W.heap.size W w')) :
  Calls Tryz.prog 104 #[x, .slice a n cc, .func (.func gf) #[] #[]] w fun e w' => e = .returned (.int .i64 (scanI ff n)) ∧ Below w.heap.size w w' := by
 obtain ⟨a0, a1, a2, a3, a4, c0, c1, c2, c3, c4, n0, n1, n2, n3, n4, rfl, e0, e1, e2, e3, e4, L0, L1, L2, L3, L4⟩ := clu_formN hx
 clear e0 e1 e2 e3 e4 L0 L1 L2 L3 L4 hx
 subst hlen
 have HA := hrds_atF hx0
 clear hx0
 obtain ⟨_, hnc, hmc, HA⟩ := HA
 have HX : Hid _ := HA
 clear HA
 unfold maxLen at hmc
 have HF : Hid _ := hf
 clear hf
 have H1 : Hid (∀ k, k < xs.length → scanI ff k = 0 → ¬ ff k = 0 → scanI ff xs.length = ff k) := fun k hk hs h0 => scanI_hit hs h0 _ hk
 have H2 : Hid (scanI ff xs.length = scanI ff xs.length) := rfl
 obtain ⟨R, hR⟩ : ∃ R, R = scanI ff xs.length := ⟨_, rfl⟩
 rw [← hR] at H1 H2 ⊢
 have HR : Hid (scanI ff xs.length = R) := hR.symm
 clear hR H2
 obtain ⟨n, hn⟩ : ∃ n, n = xs.length := ⟨_, rfl⟩
 rw [← hn] at HX HF H1 HR hnc ⊢
 clear hn
 go_enter Tryz.func104, Tryz.ntmps104
 go_wp2
 go_loopw [12] (fun i w' => ∃ k : Nat, k ≤ n ∧ i = .int .i64 k ∧ Hid (scanI ff k = 0) ∧ (w'.cell? ⟨w.heap.size, 0, none⟩ = some (.slice a0 n0 c0) ∧ w'.cell? ⟨w.heap.size, 1, none⟩ = some (.slice a1 n1 c1) ∧ w'.cell? ⟨w.heap.size, 2, none⟩ = some (.slice a2 n2 c2) ∧ w'.cell? ⟨w.heap.size, 3, none⟩ = some (.slice a3 n3 c3) ∧ w'.cell? ⟨w.heap.size, 4, none⟩ = some (.slice a4 n4 c4)) ∧ Below w.heap.size w w') (fun i _ => n - (intOf i).toNat)
 case atStart => exact ⟨0, Nat.zero_le _, rfl, rfl, ⟨by simp [go_sem], by simp [go_sem], by simp [go_sem], by simp [go_sem], by simp [go_sem]⟩, qBq⟩
 case round =>
  obtain ⟨k, hk, rfl, HS, ⟨y0, y1, y2, y3, y4⟩, hbl⟩ := hrel
  have zq : w.heap.size < wr.heap.size := wL wr _ y0
  by_cases hlt : k < n
  ·
   have HA := HX.out k hlt
   have hF := HF.out k hlt
   have HH : Hid (¬ ff k = 0 → R = ff k) := fun h => H1.out k hlt HS.out h
   have HZ : Hid (ff k = 0 → scanI ff (k + 1) = 0) := fun h => scanI_succ HS.out h
   obtain ⟨l, hl0⟩ : ∃ l, l = xs.getD k default := ⟨_, rfl⟩
   rw [← hl0] at HA hF
   clear hl0
   obtain ⟨b, o, rfl, g0, g1, g2, g3, g4⟩ := HA
   have HC : Hid (∀ W, Below w.heap.size w W → Calls Tryz.prog gf #[.agg #[.slice a0 n0 c0, .slice a1 n1 c1, .slice a2 n2 c2, .slice a3 n3 c3, .slice a4 n4 c4], .slice (some ⟨b, o, none⟩) k cc, .agg #[.int .i64 l.con, .int .i64 l.sh, .int .i64 l.bal, .int .i64 l.val, .int .i64 l.frm]] W fun e w' => e = .returned (.int .i64 (ff k)) ∧ Below W.heap.size W w') := fun W hW => hF W _ hW rfl
   clear hF
   replace g0 := cK hbl g0
   replace g1 := cK hbl g1
   replace g2 := cK hbl g2
   replace g3 := cK hbl g3
   replace g4 := cK hbl g4
   have zb : b < wr.heap.size := wL wr _ g0
   have hti : (k : Int) < (n : Int) := by omega
   have hi0 : (0 : Int) ≤ (k : Int) := by omega
   have hi1 : (k : Int) ≤ (cc : Int) := by omega
   have w1' : IntKind.i64.wrap (k : Int) = k := wrapId (by omega) (by omega)
   skip
   generalize ff k = z at *
   go_wp2
   refine wp_region_noPanic ?_
   refine region_upto (fun W => W.cell? ⟨w.heap.size, 0, none⟩ = some (.slice a0 n0 c0) ∧ W.cell? ⟨w.heap.size, 1, none⟩ = some (.slice a1 n1 c1) ∧ W.cell? ⟨w.heap.size, 2, none⟩ = some (.slice a2 n2 c2) ∧ W.cell? ⟨w.heap.size, 3, none⟩ = some (.slice a3 n3 c3) ∧ W.cell? ⟨w.heap.size, 4, none⟩ = some (.slice a4 n4 c4) ∧ W.cell? ⟨wr.heap.size, 0, none⟩ = some (.int .i64 l.con) ∧ W.cell? ⟨wr.heap.size, 1, none⟩ = some (.int .i64 l.sh) ∧ W.cell? ⟨wr.heap.size, 2, none⟩ = some (.int .i64 l.bal) ∧ W.cell? ⟨wr.heap.size, 3, none⟩ = some (.int .i64 l.val) ∧ W.cell? ⟨wr.heap.size, 4, none⟩ = some (.int .i64 l.frm)) 8 (by kernel_rfl) ⟨cK (qBq) y0, cK (qBq) y1, cK (qBq) y2, cK (qBq) y3, cK (qBq) y4, by simp [go_sem], by simp [go_sem], by simp [go_sem], by simp [go_sem], by simp [go_sem]⟩ (fun hS => ?_)
   refine tM 0 rfl hS ?_; try simp only [jX]
   refine tM 1 rfl hS ?_; try simp only [jX]
   refine tM 2 rfl hS ?_; try simp only [jX]
   refine tM 3 rfl hS ?_; try simp only [jX]
   refine tM 4 rfl hS ?_; try simp only [jX]
   refine tM 5 rfl hS ?_; try simp only [jX]
   refine uS 6 rfl (fun K hK => ?_)
   go_simp
   refine (HC.out _ (qBq)).mono ?_
   rintro e w1 ⟨rfl, hb1⟩
   have hB1 : Below w.heap.size w w1 := bS (qBq) hb1
   have hS1 := And.intro (cK hb1 hS.1) (And.intro (cK hb1 hS.2.1) (And.intro (cK hb1 hS.2.2.1) (And.intro (cK hb1 hS.2.2.2.1) (And.intro (cK hb1 hS.2.2.2.2.1) (And.intro (cK hb1 hS.2.2.2.2.2.1) (And.intro (cK hb1 hS.2.2.2.2.2.2.1) (And.intro (cK hb1 hS.2.2.2.2.2.2.2.1) (And.intro (cK hb1 hS.2.2.2.2.2.2.2.2.1) (cK hb1 hS.2.2.2.2.2.2.2.2.2)))))))))
   refine hK _ _ (fun _ => hS1) ?_
   clear hK K
   try simp only [jX]
   refine tM 7 rfl hS1 ?_; try simp only [jX]
   refine dN (NoPanic.normal ?_)
   have Y : w1.cell? ⟨w.heap.size, 0, none⟩ = some (.slice a0 n0 c0) ∧ w1.cell? ⟨w.heap.size, 1, none⟩ = some (.slice a1 n1 c1) ∧ w1.cell? ⟨w.heap.size, 2, none⟩ = some (.slice a2 n2 c2) ∧ w1.cell? ⟨w.heap.size, 3, none⟩ = some (.slice a3 n3 c3) ∧ w1.cell? ⟨w.heap.size, 4, none⟩ = some (.slice a4 n4 c4) := ⟨hS1.1, hS1.2.1, hS1.2.2.1, hS1.2.2.2.1, hS1.2.2.2.2.1⟩
   clear hS hS1 hb1
   by_cases hz : z = 0
   ·
    subst hz
    have HQ : Hid _ := HZ.out rfl
    clear HZ HH
    go_wp2
    exact ⟨⟨k + 1, by omega, by go_num, HQ, Y, hB1⟩, by simp [intOf]; omega⟩
   ·
    have HC : Hid _ := HH.out hz
    have hz' : (z != 0) = true := by simp [hz]
    clear HZ HH
    go_wp2; go_ret
    exact ⟨by rw [HC.out]; rfl, hB1⟩
  ·
   obtain rfl : k = n := by omega
   have hti : ¬ (k : Int) < (k : Int) := by omega
   have HC : Hid (R = 0) := by show _ = _; rw [← HR.out]; exact HS.out
   go_wp2; go_ret
   exact ⟨by rw [HC.out]; rfl, hbl⟩
theorem submF_any (x : Value) (c : Clu) (l : Cont) (item : Value) (j : Int) (v : Value) (a : Option Addr) (k cc : Nat) (w : World) (hx : cluR.V w x c) (hi : contR.V w item l) (hk : k ≤ 9223372036854775807) (h : ∀ p, k = p + 1 → ∃ b o, a = some ⟨b, o, none⟩ ∧ w.cell? ⟨b, o + p * 2, none⟩ = some (.int .i64 j) ∧ w.cell? ⟨b, o + p * 2 + 1, none⟩ = some v) :
  Calls Tryz.prog 94 #[x, .slice a k cc, item] w fun e w' => e = .returned (.int .i64 (orF (subF c.shards.length l) (if (decide (k = 0) || decide (cmpZ j l.id < 0)) = true then 0 else 1))) ∧ Below w.heap.size w w' := by
 obtain ⟨u, rfl, hl⟩ := hi
 have HS : Hid (∀ W, Below w.heap.size w W → Calls Tryz.prog 134 #[x, .agg #[.int .i64 l.id, u]] W fun e w' => e = .returned (.int .i64 (subF c.shards.length l)) ∧ Below W.heap.size W w') := fun W hW => submission_any x c l.id u l.legs W (cluR.below hx hW) (legsR.below hl hW)
 have HB : Hid (∀ W, Below w.heap.size w W → Calls Tryz.prog 135 #[.agg #[.int .i64 l.id, u], .slice a k cc, .func (.func 136) #[] #[]] W fun e w' => e = .returned (.bool (decide (k = 0) || decide (cmpZ j l.id < 0))) ∧ Below W.heap.size W w') := fun W hW => behindC_any l.id j u v a k cc W hk (fun p hp => by
  obtain ⟨b, o, h0, h1, h2⟩ := h p hp
  exact ⟨b, o, h0, cK hW h1, cK hW h2⟩)
 obtain ⟨p, q, rfl⟩ := legs_form hl
 clear hl h
 obtain ⟨a0, a1, a2, a3, a4, c0, c1, c2, c3, c4, n0, n1, n2, n3, n4, rfl, e0, e1, e2, e3, e4, L0, L1, L2, L3, L4⟩ := clu_formN hx
 clear hx e0 e1 e2 e3 e4 L0 L1 L2 L3 L4
 generalize subF c.shards.length l = f at *
 generalize (decide (k = 0) || decide (cmpZ j l.id < 0)) = bh at *
 generalize l.legs.length = m at *
 generalize l.id = i at *
 have HC1 : Hid (¬ f = 0 → orF f (if bh = true then 0 else 1) = f) := fun h => orF_n h
 have HC2 : Hid (f = 0 → orF f (if bh = true then 0 else 1) = if bh = true then 0 else 1) := fun h => orF_z h
 generalize orF f (if bh = true then 0 else 1) = R at *
 go_enter Tryz.func94, Tryz.ntmps94
 go_wp2_with fail
 refine (HS.out _ (qBq)).mono ?_
 rintro e w1 ⟨rfl, hb1⟩
 have hB1 : Below w.heap.size w w1 := qBq
 have t0 : w1.cell? ⟨w.heap.size + 1, 0, none⟩ = some (.int .i64 i) := cK hb1 (by simp [go_sem])
 have t1 : w1.cell? ⟨w.heap.size + 1, 1, none⟩ = some (.slice p m q) := cK hb1 (by simp [go_sem])
 clear hb1 HS
 by_cases hf : f = 0
 rotate_left
 ·
  have hf' : (f != 0) = true := by simp [hf]
  have HC : Hid _ := HC1.out hf
  clear HC1 HC2
  go_wp2; go_ret
  exact ⟨by rw [HC.out]; rfl, hB1⟩
 have HC : Hid _ := HC2.out hf
 clear HC1 HC2
 subst hf
 go_wp2_with fail
 refine (HB.out _ (qBq)).mono ?_
 rintro e w2 ⟨rfl, hb2⟩
 have hB2 : Below w.heap.size w w2 := bS (qBq) hb2
 clear hb2 HB
 cases bh
 all_goals
  go_wp2; go_ret
  exact ⟨by rw [HC.out]; rfl, hB2⟩
theorem conAt_eq (n : Nat) (cs : List Cont) (k : Nat) : conAt n cs k = orF (subF n (cs.getD k default)) (if (decide (k = 0) || decide (cmpZ (cs.getD (k - 1) default).id (cs.getD k default).id < 0)) = true then 0 else 1) := by
 unfold conAt riseK
 rw [show decide (cmpZ (cs.getD (k - 1) default).id (cs.getD k default).id < 0) = decide ((cs.getD (k - 1) default).id < (cs.getD k default).id) by rw [decide_eq_decide]; exact cmpZ_lt]
theorem contractsF_any (x : Value) (c : Clu) (w : World) (hx : cluR.V w x c) :
  Calls Tryz.prog 47 #[x] w fun e w' => e = .returned (.int .i64 (consF c)) ∧ Below w.heap.size w w' := by
 have HV : Hid (∀ W, Below w.heap.size w W → cluR.V W x c) := fun W hW => cluR.below hx hW
 have hx' := hx
 obtain ⟨a0, a1, a2, a3, a4, c0, c1, c2, c3, c4, n0, n1, n2, n3, n4, rfl, e0, e1, e2, e3, e4, L0, L1, L2, L3, L4⟩ := clu_formN hx
 obtain ⟨u1, u2, u3, u4, u5, eq, h1, h2, h3, h4, h5⟩ := hx'
 simp only [Value.agg.injEq, Array.mk.injEq, List.cons.injEq, and_true] at eq
 obtain ⟨rfl, rfl, rfl, rfl, rfl⟩ := eq
 have eg := enters_of Tryz.func94 (by kernel_rfl) rfl
 have HA := conts_atM (by rw [e0]; exact h1)
 obtain ⟨hnc, hmc, HA⟩ := HA
 unfold maxLen at hmc
 rw [e0] at HA
 have HX : Hid _ := HA
 clear HA
 have HF : Hid (∀ W, Below w.heap.size w W → Calls Tryz.prog 93 #[.agg #[.slice a0 n0 c0, .slice a1 n1 c1, .slice a2 n2 c2, .slice a3 n3 c3, .slice a4 n4 c4], .slice a0 n0 c0, .func (.func 94) #[] #[]] W fun e w' => e = .returned (.int .i64 (scanI (conAt c.shards.length c.cons) n0)) ∧ Below W.heap.size W w') := fun W hW => firstC_any _ c 94 (conAt c.shards.length c.cons) a0 n0 c0 c.cons W (HV.out W hW) eg (contsR.below h1 hW) e0 (fun k hk W' item hW' hi => by
  rw [conAt_eq]
  by_cases hk0 : k = 0
  ·
   exact submF_any _ c _ item _ (.int .i64 0) a0 k c0 W' (HV.out W' (bS hW hW')) hi (by omega) (fun p hp => by omega)
  ·
   obtain ⟨b, o, p', q', ha, g0, g1, _⟩ := HX.out (k - 1) (by omega)
   exact submF_any _ c _ item _ _ a0 k c0 W' (HV.out W' (bS hW hW')) hi (by omega) (fun p hp => ⟨b, o, ha, cK (bS hW hW') (by rw [show p = k - 1 by omega]; exact g0), cK (bS hW hW') (by rw [show p = k - 1 by omega]; exact g1)⟩))
 have HR : Hid (consF c = scanI (conAt c.shards.length c.cons) n0) := by show _ = _; unfold consF; rw [e0]
 clear h1 h2 h3 h4 h5 e0 e1 e2 e3 e4 L0 L1 L2 L3 L4 eg
 generalize consF c = R at *
 generalize scanI (conAt c.shards.length c.cons) n0 = S at *
 go_enter Tryz.func47, Tryz.ntmps47
 go_wp2_with fail
 refine (HF.out _ (qBq)).mono ?_
 rintro e w1 ⟨rfl, hb1⟩
 have hB1 : Below w.heap.size w w1 := qBq
 clear hb1
 go_wp2; go_ret
 exact ⟨by rw [HR.out]; rfl, hB1⟩
theorem leadersF_any (x : Value) (c : Clu) (w : World) (hx : cluR.V w x c) :
  Calls Tryz.prog 50 #[x] w fun e w' => e = .returned (.int .i64 (ldrsF c)) ∧ Below w.heap.size w w' := by
 have HV : Hid (∀ W, Below w.heap.size w W → cluR.V W x c) := fun W hW => cluR.below hx hW
 have hx' := hx
 obtain ⟨a0, a1, a2, a3, a4, c0, c1, c2, c3, c4, n0, n1, n2, n3, n4, rfl, e0, e1, e2, e3, e4, L0, L1, L2, L3, L4⟩ := clu_formN hx
 obtain ⟨u1, u2, u3, u4, u5, eq, h1, h2, h3, h4, h5⟩ := hx'
 simp only [Value.agg.injEq, Array.mk.injEq, List.cons.injEq, and_true] at eq
 obtain ⟨rfl, rfl, rfl, rfl, rfl⟩ := eq
 obtain ⟨_, hnc, hmc, HA⟩ := ldrs_at h4
 unfold maxLen at hmc
 have HX : Hid _ := HA
 clear HA h1 h2 h3 h4 h5 hx
 have H1 : Hid (∀ k, k < n3 → scanI (fun k => ldrF (c.ldrs.getD k default)) k = 0 → ¬ ldrF (c.ldrs.getD k default) = 0 → ldrsF c = ldrF (c.ldrs.getD k default)) := fun k hk hs h0 => by unfold ldrsF; exact scanI_hit (f := fun k => ldrF (c.ldrs.getD k default)) hs h0 _ (by rw [e3]; exact hk)
 have H2 : Hid (scanI (fun k => ldrF (c.ldrs.getD k default)) n3 = 0 → ldrsF c = 0) := fun h => by unfold ldrsF; rw [e3]; exact h
 clear e0 e1 e2 e3 e4 L0 L1 L2 L4 HV
 generalize ldrsF c = R at *
 go_enter Tryz.func50, Tryz.ntmps50
 go_wp2
 go_loopw [8] (fun i w' => ∃ k : Nat, k ≤ n3 ∧ i = .int .i64 k ∧ Hid (scanI (fun k => ldrF (c.ldrs.getD k default)) k = 0) ∧ Below w.heap.size w w') (fun i _ => n3 - (intOf i).toNat)
 case atStart => exact ⟨0, Nat.zero_le _, rfl, rfl, qBq⟩
 case round =>
  obtain ⟨k, hk, rfl, HS, hbl⟩ := hrel
  by_cases hlt : k < n3
  ·
   have HA := HX.out k hlt
   have HH : Hid (¬ ldrF (c.ldrs.getD k default) = 0 → R = ldrF (c.ldrs.getD k default)) := fun h => H1.out k hlt HS.out h
   have HZ : Hid (ldrF (c.ldrs.getD k default) = 0 → scanI (fun k => ldrF (c.ldrs.getD k default)) (k + 1) = 0) := fun h => scanI_succ (f := fun k => ldrF (c.ldrs.getD k default)) HS.out h
   obtain ⟨l, hl0⟩ : ∃ l, l = c.ldrs.getD k default := ⟨_, rfl⟩
   rw [← hl0] at HA HH HZ
   clear hl0
   obtain ⟨b, o, p, q, p', q', rfl, g0, g1, g2, ht, hh⟩ := HA
   have lt := len_of ht
   obtain ⟨_, _, lh, lh2, lh3, _⟩ := hh
   simp only [Value.slice.injEq] at lh
   unfold maxLen at lh3
   have HD : Hid (ldrF l = if inB l.count 0 400 = true then (if 60 < l.tries.length ∨ 300 < l.known.length then 2 else 0) else 3) := rfl
   clear ht
   replace g0 := cK hbl g0
   replace g1 := cK hbl g1
   replace g2 := cK hbl g2
   have zb : b < wr.heap.size := wL wr _ g0
   have hti : (k : Int) < (n3 : Int) := by omega
   generalize ldrF l = z at *
   generalize l.count = ct at *
   generalize hmt : l.tries.length = mt at *
   generalize hmk : l.known.length = mk at *
   clear hmt hmk
   cases hc : inB ct 0 400
   ·
    have hz : z = 3 := by rw [HD.out, hc]; rfl
    have HC : Hid (R = 3) := by show _ = _; rw [← hz]; exact HH.out (by rw [hz]; omega)
    clear HH HZ HD hz
    go_wp2_with (first | (go_at_call 101; refine (within_any _ _ _ _).mono ?_; rintro e w' ⟨rfl, hw⟩; obtain rfl := hw.symm; rw [hc]))
    go_ret
    exact ⟨by rw [HC.out]; rfl, qBq⟩
   by_cases ht6 : 60 < mt
   ·
    have hz : z = 2 := by rw [HD.out, if_pos hc, if_pos (.inl ht6)]
    have HC : Hid (R = 2) := by show _ = _; rw [← hz]; exact HH.out (by rw [hz]; omega)
    have ht6' : (60 : Int) < (mt : Int) := by omega
    clear HH HZ HD hz
    go_wp2_with (first | (go_at_call 101; refine (within_any _ _ _ _).mono ?_; rintro e w' ⟨rfl, hw⟩; obtain rfl := hw.symm; rw [hc]))
    go_ret
    exact ⟨by rw [HC.out]; rfl, qBq⟩
   have ht6' : ¬ (60 : Int) < (mt : Int) := by omega
   by_cases hk3 : 300 < mk
   ·
    have hz : z = 2 := by rw [HD.out, if_pos hc, if_pos (.inr hk3)]
    have HC : Hid (R = 2) := by show _ = _; rw [← hz]; exact HH.out (by rw [hz]; omega)
    have hk3' : (300 : Int) < (mk : Int) := by omega
    clear HH HZ HD hz
    go_wp2_with (first | (go_at_call 101; refine (within_any _ _ _ _).mono ?_; rintro e w' ⟨rfl, hw⟩; obtain rfl := hw.symm; rw [hc]))
    go_ret
    exact ⟨by rw [HC.out]; rfl, qBq⟩
   ·
    have hz : z = 0 := by rw [HD.out, if_pos hc, if_neg (fun h => h.elim ht6 hk3)]
    have hk3' : ¬ (300 : Int) < (mk : Int) := by omega
    have HQ : Hid _ := HZ.out hz
    clear HH HZ HD hz
    go_wp2_with (first | (go_at_call 101; refine (within_any _ _ _ _).mono ?_; rintro e w' ⟨rfl, hw⟩; obtain rfl := hw.symm; rw [hc]))
    exact ⟨⟨k + 1, by omega, by go_num, HQ, qBq⟩, by simp [intOf]; omega⟩
  ·
   obtain rfl : k = n3 := by omega
   have hti : ¬ (k : Int) < (k : Int) := by omega
   have HC : Hid (R = 0) := H2.out HS.out
   go_wp2; go_ret
   exact ⟨by rw [HC.out]; rfl, hbl⟩
def hrdD (c : Clu) (t : Hrd) (bh : Bool) : Int := if hasL c t.con t.sh = true then (if (inB t.bal 0 1000 = true ∧ inB t.val 1 2 = true) ∧ inB t.frm 0 ((c.accs.length : Int) - 1) = true then (if bh = true then 0 else 1) else 3) else 4
theorem hrdAt_eq (c : Clu) (hs : List Hrd) (k : Nat) : hrdAt c hs k = hrdD c (hs.getD k default) (decide (k = 0) || decide (cmpH (hs.getD (k - 1) default) (hs.getD k default) < 0)) := by
 unfold hrdAt hrdD
 simp only [Bool.or_eq_true, decide_eq_true_eq]
theorem heardF_any (x : Value) (c : Clu) (t y : Hrd) (a : Option Addr) (k cc : Nat) (w : World) (hx : cluR.V w x c) (hk : k ≤ 9223372036854775807) (h : ∀ p, k = p + 1 → ∃ b o, a = some ⟨b, o, none⟩ ∧ w.cell? ⟨b, o + p * 5, none⟩ = some (.int .i64 y.con) ∧ w.cell? ⟨b, o + p * 5 + 1, none⟩ = some (.int .i64 y.sh) ∧ w.cell? ⟨b, o + p * 5 + 2, none⟩ = some (.int .i64 y.bal) ∧ w.cell? ⟨b, o + p * 5 + 3, none⟩ = some (.int .i64 y.val) ∧ w.cell? ⟨b, o + p * 5 + 4, none⟩ = some (.int .i64 y.frm)) :
  Calls Tryz.prog 105 #[x, .slice a k cc, hrdV t] w fun e w' => e = .returned (.int .i64 (hrdD c t (decide (k = 0) || decide (cmpH y t < 0)))) ∧ Below w.heap.size w w' := by
 have HP : Hid (∀ W, Below w.heap.size w W → Calls Tryz.prog 100 #[x, .int .i64 t.con, .int .i64 t.sh] W fun e w' => e = .returned (.bool (hasL c t.con t.sh)) ∧ Below W.heap.size W w') := fun W hW => hasPart_any x c _ _ W (cluR.below hx hW)
 have HB : Hid (∀ W, Below w.heap.size w W → Calls Tryz.prog 160 #[.agg #[.int .i64 t.con, .int .i64 t.sh, .int .i64 t.bal, .int .i64 t.val, .int .i64 t.frm], .slice a k cc, .func (.func 161) #[] #[]] W fun e w' => e = .returned (.bool (decide (k = 0) || decide (cmpH y t < 0))) ∧ Below W.heap.size W w') := fun W hW => behindH_any t y a k cc W hk (fun p hp => by
  obtain ⟨b, o, h0, h1, h2, h3, h4, h5⟩ := h p hp
  exact ⟨b, o, h0, cK hW h1, cK hW h2, cK hW h3, cK hW h4, cK hW h5⟩)
 clear h
 obtain ⟨a0, a1, a2, a3, a4, c0, c1, c2, c3, c4, n0, n1, n2, n3, n4, rfl, e0, e1, e2, e3, e4, L0, L1, L2, L3, L4⟩ := clu_formN hx
 clear hx
 have HD : Hid (hrdD c t (decide (k = 0) || decide (cmpH y t < 0)) = if hasL c t.con t.sh = true then (if (inB t.bal 0 1000 = true ∧ inB t.val 1 2 = true) ∧ inB t.frm 0 ((n2 : Int) - 1) = true then (if (decide (k = 0) || decide (cmpH y t < 0)) = true then 0 else 1) else 3) else 4) := by show _ = _; unfold hrdD; rw [e2]
 clear e0 e1 e2 e3 e4 L0 L1 L3 L4
 generalize hrdD c t (decide (k = 0) || decide (cmpH y t < 0)) = R at *
 generalize (decide (k = 0) || decide (cmpH y t < 0)) = bh at *
 generalize hasL c t.con t.sh = hl at *
 unfold hrdV
 go_enter Tryz.func105, Tryz.ntmps105
 go_wp2_with fail
 refine (HP.out _ (qBq)).mono ?_
 rintro e w1 ⟨rfl, hb1⟩
 have hB1 : Below w.heap.size w w1 := qBq
 have y2 : w1.cell? ⟨w.heap.size, 2, none⟩ = some (.slice a2 n2 c2) := cK hb1 (by simp [go_sem])
 have t0 : w1.cell? ⟨w.heap.size + 1, 0, none⟩ = some (.int .i64 t.con) := cK hb1 (by simp [go_sem])
 have t1 : w1.cell? ⟨w.heap.size + 1, 1, none⟩ = some (.int .i64 t.sh) := cK hb1 (by simp [go_sem])
 have t2 : w1.cell? ⟨w.heap.size + 1, 2, none⟩ = some (.int .i64 t.bal) := cK hb1 (by simp [go_sem])
 have t3 : w1.cell? ⟨w.heap.size + 1, 3, none⟩ = some (.int .i64 t.val) := cK hb1 (by simp [go_sem])
 have t4 : w1.cell? ⟨w.heap.size + 1, 4, none⟩ = some (.int .i64 t.frm) := cK hb1 (by simp [go_sem])
 have zt : w.heap.size + 1 < w1.heap.size := wL w1 _ t0
 clear hb1 HP
 cases hl
 ·
  have HC : Hid (R = 4) := by show _ = _; rw [HD.out]; rfl
  clear HD
  go_wp2; go_ret
  exact ⟨by rw [HC.out]; rfl, hB1⟩
 have HD2 : Hid (R = if (inB t.bal 0 1000 = true ∧ inB t.val 1 2 = true) ∧ inB t.frm 0 ((n2 : Int) - 1) = true then (if bh = true then 0 else 1) else 3) := by show _ = _; rw [HD.out, if_pos rfl]
 clear HD
 by_cases hv : (inB t.bal 0 1000 && inB t.val 1 2) = true
 rotate_left
 ·
  have hv' : (inB t.bal 0 1000 && inB t.val 1 2) = false := by simpa using hv
  have HC : Hid (R = 3) := by show _ = _; rw [HD2.out, if_neg (fun h => hv (by simp [h.1.1, h.1.2]))]
  clear HD2 hv
  go_wp2_with (first | (go_at_call 159; refine (isVote_any ⟨t.bal, t.val⟩ _).mono ?_; rintro e w' ⟨rfl, hb8⟩; rw [show votB ⟨t.bal, t.val⟩ = (inB t.bal 0 1000 && inB t.val 1 2) from rfl, hv']))
  go_ret
  exact ⟨by rw [HC.out]; rfl, qBq⟩
 have HVt : Hid (inB t.bal 0 1000 = true ∧ inB t.val 1 2 = true) := by show _ ∧ _; simpa using hv
 go_wp2_with fail
 refine (isVote_any ⟨t.bal, t.val⟩ _).mono ?_
 rintro e w2 ⟨rfl, hb2⟩
 rw [show votB ⟨t.bal, t.val⟩ = (inB t.bal 0 1000 && inB t.val 1 2) from rfl, hv]
 have hB2 : Below w.heap.size w w2 := bS (qBq) hb2
 replace y2 := cK hb2 (cK (qBq) y2)
 replace t0 := cK hb2 (cK (qBq) t0)
 replace t1 := cK hb2 (cK (qBq) t1)
 replace t2 := cK hb2 (cK (qBq) t2)
 replace t3 := cK hb2 (cK (qBq) t3)
 replace t4 := cK hb2 (cK (qBq) t4)
 replace zt : w.heap.size + 1 < w2.heap.size := wL w2 _ t0
 clear hb2 hv hB1
 cases hp : inB t.frm 0 ((n2 : Int) - 1)
 ·
  have HC : Hid (R = 3) := by show _ = _; rw [HD2.out, if_neg (fun h => by rw [hp] at h; cases h.2)]
  clear HD2
  go_wp2_with (first | (go_at_call 154; refine (placeA_any _ _ _ _ _ L2).mono ?_; rintro e w' ⟨rfl, hw⟩; obtain rfl := hw.symm; rw [hp]))
  go_ret
  exact ⟨by rw [HC.out]; rfl, qBq⟩
 have HD3 : Hid (R = if bh = true then 0 else 1) := by show _ = _; rw [HD2.out, if_pos ⟨HVt.out, hp⟩]
 clear HD2 HVt
 go_wp2_with (first | (go_at_call 154; refine (placeA_any _ _ _ _ _ L2).mono ?_; rintro e w' ⟨rfl, hw⟩; obtain rfl := hw.symm; rw [hp]))
 refine (HB.out _ (qBq)).mono ?_
 rintro e w3 ⟨rfl, hb3⟩
 have hB3 : Below w.heap.size w w3 := bS (qBq) hb3
 clear hb3 HB
 cases bh
 all_goals
  go_wp2; go_ret
  exact ⟨by rw [HD3.out]; rfl, hB3⟩
theorem knownF_any (x : Value) (c : Clu) (w : World) (hx : cluR.V w x c) :
  Calls Tryz.prog 52 #[x] w fun e w' => e = .returned (.int .i64 (knowsF c)) ∧ Below w.heap.size w w' := by
 have HV : Hid (∀ W, Below w.heap.size w W → cluR.V W x c) := fun W hW => cluR.below hx hW
 have hx' := hx
 obtain ⟨a0, a1, a2, a3, a4, c0, c1, c2, c3, c4, n0, n1, n2, n3, n4, rfl, e0, e1, e2, e3, e4, L0, L1, L2, L3, L4⟩ := clu_formN hx
 obtain ⟨u1, u2, u3, u4, u5, eq, h1, h2, h3, h4, h5⟩ := hx'
 simp only [Value.agg.injEq, Array.mk.injEq, List.cons.injEq, and_true] at eq
 obtain ⟨rfl, rfl, rfl, rfl, rfl⟩ := eq
 obtain ⟨_, hnc, hmc, HA⟩ := ldrs_at h4
 unfold maxLen at hmc
 have HX : Hid _ := HA
 clear HA h1 h2 h3 h4 h5 hx
 have H1 : Hid (∀ k, k < n3 → scanI (fun k => knownF c (c.ldrs.getD k default)) k = 0 → ¬ knownF c (c.ldrs.getD k default) = 0 → knowsF c = knownF c (c.ldrs.getD k default)) := fun k hk hs h0 => by unfold knowsF; exact scanI_hit (f := fun k => knownF c (c.ldrs.getD k default)) hs h0 _ (by rw [e3]; exact hk)
 have H2 : Hid (scanI (fun k => knownF c (c.ldrs.getD k default)) n3 = 0 → knowsF c = 0) := fun h => by unfold knowsF; rw [e3]; exact h
 skip
 skip
 skip
 clear e0 e1 e2 e3 e4 L0 L1 L2 L4
 generalize knowsF c = R at *
 go_enter Tryz.func52, Tryz.ntmps52
 go_wp2
 go_loopw [9] (fun i w' => ∃ k : Nat, k ≤ n3 ∧ i = .int .i64 k ∧ Hid (scanI (fun k => knownF c (c.ldrs.getD k default)) k = 0) ∧ (w'.cell? ⟨w.heap.size, 0, none⟩ = some (.slice a0 n0 c0) ∧ w'.cell? ⟨w.heap.size, 1, none⟩ = some (.slice a1 n1 c1) ∧ w'.cell? ⟨w.heap.size, 2, none⟩ = some (.slice a2 n2 c2) ∧ w'.cell? ⟨w.heap.size, 3, none⟩ = some (.slice a3 n3 c3) ∧ w'.cell? ⟨w.heap.size, 4, none⟩ = some (.slice a4 n4 c4)) ∧ Below w.heap.size w w') (fun i _ => n3 - (intOf i).toNat)
 case atStart => exact ⟨0, Nat.zero_le _, rfl, rfl, ⟨by simp [go_sem], by simp [go_sem], by simp [go_sem], by simp [go_sem], by simp [go_sem]⟩, qBq⟩
 case round =>
  obtain ⟨k, hk, rfl, HS, ⟨y0, y1, y2, y3, y4⟩, hbl⟩ := hrel
  have zq : w.heap.size < wr.heap.size := wL wr _ y0
  by_cases hlt : k < n3
  ·
   have HA := HX.out k hlt
   skip
   have HH : Hid (¬ knownF c (c.ldrs.getD k default) = 0 → R = knownF c (c.ldrs.getD k default)) := fun h => H1.out k hlt HS.out h
   have HZ : Hid (knownF c (c.ldrs.getD k default) = 0 → scanI (fun k => knownF c (c.ldrs.getD k default)) (k + 1) = 0) := fun h => scanI_succ (f := fun k => knownF c (c.ldrs.getD k default)) HS.out h
   obtain ⟨l, hl0⟩ : ∃ l, l = c.ldrs.getD k default := ⟨_, rfl⟩
   rw [← hl0] at HA HH HZ
   clear hl0
   obtain ⟨b, o, p, q, p', q', rfl, g0, g1, g2, ht, hh⟩ := HA
   have HF : Hid (∀ W, Below w.heap.size w W → Calls Tryz.prog 104 #[.agg #[.slice a0 n0 c0, .slice a1 n1 c1, .slice a2 n2 c2, .slice (some ⟨b, o, none⟩) n3 c3, .slice a4 n4 c4], .slice p' l.known.length q', .func (.func 105) #[] #[]] W fun e w' => e = .returned (.int .i64 (knownF c l)) ∧ Below W.heap.size W w') := fun W hW => by
    have HX2 : Hid _ := (hrds_atF hh).2.2.2
    have hmx := (hrds_atF hh).2.2.1
    have hnx := (hrds_atF hh).2.1
    unfold maxLen at hmx
    exact firstH_any _ c 105 (hrdAt c l.known) p' _ q' l.known W (HV.out W hW) (enters_of Tryz.func105 (by kernel_rfl) rfl) (hrdsR.below hh hW) rfl (fun k hk W' item hW' hi => by
     subst hi
     rw [hrdAt_eq]
     by_cases hk0 : k = 0
     ·
      exact heardF_any _ c _ _ p' k q' W' (HV.out W' (bS hW hW')) (by omega) (fun p hp => by omega)
     ·
      obtain ⟨b, o, ha, k0, k1, k2, k3, k4⟩ := HX2.out (k - 1) (by omega)
      exact heardF_any _ c _ _ p' k q' W' (HV.out W' (bS hW hW')) (by omega) (fun p hp => ⟨b, o, ha, cK (bS hW hW') (by rw [show p = k - 1 by omega]; exact k0), cK (bS hW hW') (by rw [show p = k - 1 by omega]; exact k1), cK (bS hW hW') (by rw [show p = k - 1 by omega]; exact k2), cK (bS hW hW') (by rw [show p = k - 1 by omega]; exact k3), cK (bS hW hW') (by rw [show p = k - 1 by omega]; exact k4)⟩))
   clear ht hh
   replace g0 := cK hbl g0
   replace g1 := cK hbl g1
   replace g2 := cK hbl g2
   have zb : b < wr.heap.size := wL wr _ g0
   have hti : (k : Int) < (n3 : Int) := by omega
   generalize knownF c l = z at *
   generalize l.count = ct at *
   generalize l.tries.length = mt at *
   generalize l.known.length = mk at *
   go_wp2_with fail
   refine (HF.out _ (qBq)).mono ?_
   rintro e w1 ⟨rfl, hb1⟩
   have hB1 : Below w.heap.size w w1 := bS (qBq) hb1
   have Y1 := And.intro (cK hb1 (cK (qBq) y0)) (And.intro (cK hb1 (cK (qBq) y1)) (And.intro (cK hb1 (cK (qBq) y2)) (And.intro (cK hb1 (cK (qBq) y3)) (cK hb1 (cK (qBq) y4)))))
   clear hb1 HF g0 g1 g2
   by_cases hz : z = 0
   ·
    have HQ : Hid _ := HZ.out hz
    subst hz
    clear HH HZ
    go_wp2
    exact ⟨⟨k + 1, by omega, by go_num, HQ, Y1, hB1⟩, by simp [intOf]; omega⟩
   ·
    have HC : Hid _ := HH.out hz
    have hz' : (z != 0) = true := by simp [hz]
    clear HH HZ
    go_wp2; go_ret
    exact ⟨by rw [HC.out]; rfl, hB1⟩
  ·
   obtain rfl : k = n3 := by omega
   have hti : ¬ (k : Int) < (k : Int) := by omega
   have HC : Hid (R = 0) := H2.out HS.out
   go_wp2; go_ret
   exact ⟨by rw [HC.out]; rfl, hbl⟩
end Go.Proofs.YtackhljepbhpgaaGreat

namespace Go.Proofs.YtackhljepbhpgaaGreat
open Go.RowKit Go.Shelf
variable [DecidableEq Leg] [Inhabited Leg] [DecidableEq Rw] [Inhabited Rw] [DecidableEq Bal] [Inhabited Bal] [DecidableEq Ledg] [Inhabited Ledg] [DecidableEq Cont] [Inhabited Cont] [DecidableEq LedgR] [Inhabited LedgR] [DecidableEq OutcR] [Inhabited OutcR] [DecidableEq Mrk] [Inhabited Mrk] [DecidableEq Shd] [Inhabited Shd] [DecidableEq ShdR] [Inhabited ShdR]
attribute [local go_sem] Oper.semAt_some

def QclC (C : List Value) (k T L0 : Nat) (w W : World) (Y : Nat → Prop) (v : Value) : Prop :=
 W.cell? ⟨T, 0, none⟩ = some v ∧ W.ownsRow L0 2 1 v k C ∧ (∀ b, v.ownBlock = some b → ¬ Y b) ∧ (∀ b, b ≤ T → ¬ Y b) ∧ L0 ≤ W.heap.size ∧ W.frozen? ⟨T, 0, none⟩ = false ∧ Below T w W
theorem QclC_mod {C : List Value} {k T L0 : Nat} {w W W' : World} {Y Y' F : Nat → Prop} {v : Value} (hTL : T < L0) (h : QclC C k T L0 w W Y v) (hm : Mod F W W') (hF : ∀ b, b ≤ T → ¬ F b) (hFv : ∀ b, v.ownBlock = some b → ¬ F b)
  (hY : ∀ b, b ≤ T → ¬ Y' b) (hYv : ∀ b, v.ownBlock = some b → ¬ Y' b) : QclC C k T L0 w W' Y' v := by
 obtain ⟨h1, h2, h3, h4, h5, h9, h10⟩ := h
 have hs := hm.size
 refine ⟨hm.cell h1 (hF _ (Nat.le_refl _)), hm.owns h2 hFv, hYv, hY, by omega, (hm.frz (a := ⟨T, 0, none⟩) (by dsimp only; omega) (hF _ (by dsimp only; omega))).trans h9, ?_⟩
 exact ⟨hm.os.trans h10.os, hm.tape.trans h10.tape, hm.output.trans h10.output, Nat.le_trans h10.size hs, fun b hb => (hm.block b (by omega) (hF b (by omega))).trans (h10.block b hb)⟩
def QclI (T L0 : Nat) (w : World) (pre : List Int) (W : World) (Y : Nat → Prop) : Prop := ∃ v, QclC (intsC pre) pre.length T L0 w W Y v
theorem QclI_stb {T L0 : Nat} {w : World} (hTL : T < L0) : Stb (QclI T L0 w) := by
 rintro pre W W' Y Y' ⟨v, h⟩ hm hYY hYn
 have h' := h
 obtain ⟨h1, h2, h3, h4, h5, h9, h10⟩ := h'
 refine ⟨v, QclC_mod hTL h hm h4 h3 (fun b hb h2 => ?_) (fun b hb hy => ?_)⟩
 ·
  rcases (hYn b h2).1 with h3 | h3
  ·
   exact h4 b hb h3
  ·
   omega
 ·
  rcases (hYn b hy).1 with h | h
  ·
   exact h3 b hb h
  ·
   have := (h2.lt b hb).2
   omega
theorem QclC_mid {C : List Value} {k T L0 : Nat} {w W w5 : World} {Y : Nat → Prop} {v : Value} {o : Obj} (hTL : T < L0) (h : QclC C k T L0 w W Y v) (hg : (W.alloc o).grownBy w5 v.ownBlock) :
  w5.cell? ⟨T, 0, none⟩ = some v ∧ w5.frozen? ⟨T, 0, none⟩ = false ∧ Mod (fun b => v.ownBlock = some b) W w5 := by
 obtain ⟨h1, h2, h3, h4, h5, h9, h10⟩ := h
 have hm : Mod (fun b => v.ownBlock = some b) W w5 := (mod_alloc _ W o).trans (Mod.of_grown hg)
 have hn : ¬ v.ownBlock = some T := fun e => by have := (h2.lt T e).1; omega
 exact ⟨hm.cell h1 hn, (hm.frz (a := ⟨T, 0, none⟩) (by dsimp only; omega) hn).trans h9, hm⟩
theorem QclC_app {C news : List Value} {k m T L0 : Nat} {w W w5 : World} {Y : Nat → Prop} {v v' : Value} {o : Obj} (hTL : T < L0) (h : QclC C k T L0 w W Y v) (hg : (W.alloc o).grownBy w5 v.ownBlock)
  (ho : w5.ownsRow L0 2 1 v' (k + m) (C ++ news)) (hv : v'.ownBlock = v.ownBlock ∨ v'.ownBlock = some (W.alloc o).heap.size) (hYa : ∀ b, Y b → b < W.heap.size) :
  QclC (C ++ news) (k + m) T L0 w (w5.setCell ⟨T, 0, none⟩ v') Y v' ∧ Mod (fun b => b = T ∨ v.ownBlock = some b) W (w5.setCell ⟨T, 0, none⟩ v') := by
 obtain ⟨c1, c2, hm⟩ := QclC_mid hTL h hg
 obtain ⟨h1, h2, h3, h4, h5, h9, h10⟩ := h
 have hset : Mod (fun b => b = T) w5 (w5.setCell ⟨T, 0, none⟩ v') := Mod.of_set w5 ⟨T, 0, none⟩ v'
 have hM : Mod (fun b => b = T ∨ v.ownBlock = some b) W (w5.setCell ⟨T, 0, none⟩ v') := (hm.mono (fun b h => .inr h)).trans (hset.mono (fun b h => .inl h))
 have hlow : ∀ b, b < T → ¬ (b = T ∨ v.ownBlock = some b) := by
  rintro b hb (h | h)
  ·
   omega
  ·
   have := (h2.lt b h).1
   omega
 have hs := hM.size
 refine ⟨⟨set_same c1, owns_setCell ho (by dsimp only; exact hTL) _, fun b hb hy => ?_, h4, by omega, by rw [World.frozen?_setCell]; exact c2,
  ⟨hM.os.trans h10.os, hM.tape.trans h10.tape, hM.output.trans h10.output, Nat.le_trans h10.size hs, fun b hb => (hM.block b (by omega) (hlow b (by omega))).trans (h10.block b hb)⟩⟩, hM⟩
 rcases hv with hv | hv
 ·
  rw [hv] at hb
  exact h3 b hb hy
 ·
  rw [hv] at hb
  cases hb
  have := hYa _ hy
  simp at this
  omega
def NoQ (c : Code) (pre : List Int) (W : World) (Y : Nat → Prop) : Prop := False
theorem NoQ_stb (c : Code) : Stb (NoQ c) := fun _ _ _ _ _ h _ _ _ => h
theorem appendSeqQ_any (gf : Nat) (lb : Array Value) (Ok Dn : List Int → Prop) (R : Nat → Prop) (w : World) (eg : ∀ args w, (callFunc gf args).run Tryz.prog w = .ok (.enter gf args) w) (hseq : Seqy Tryz.prog gf lb (Value.int .i64) Ok Dn R w) (hR : ∀ b, R b → b < w.heap.size) (hlen : ∀ ys, Ok ys → ys.length ≤ 1048576) :
  Calls Tryz.prog 226 #[.slice none 0 0, .func (.func gf) #[] lb] w fun e w' => ∃ v xs, e = .returned v ∧ Dn xs ∧ w'.ownsRow w.heap.size 2 1 v xs.length (intsC xs) ∧ Below w.heap.size w w' := by
 obtain ⟨i0, hi, hz0, hz1, hz2⟩ := info_parts infoInt
 refine (callsIn_wide (n := 0)).1 ?_
 refine callsIn_of_wp_marks Tryz.func226 rfl trivial ?_ rfl
 simp only [Tryz.ntmps226, List.size_toArray, List.length_cons, List.length_nil, Nat.reduceAdd, Nat.reduceSub, Array.replicate_succ, Array.replicate_zero, List.push_toArray, List.append_toArray, List.nil_append, List.cons_append]
 gi_wp2
 have acc : QclC (intsC []) 0 w.heap.size (w.heap.size + 1) w (w.alloc (.cells #[.slice none 0 0] 72)) (fun _ => False) (.slice none 0 0) :=
  ⟨by simp [go_sem], World.ownsRow_nil _ _ _ _, fun _ _ h => h, fun _ _ h => h, by simp, by simp [go_sem], qBq⟩
 have hseq2 := seqy_mod hseq (mod_alloc (fun k => ¬ R k) w (.cells #[.slice none 0 0] 72))
 have hRa : ∀ b, R b → b < (w.alloc (.cells #[.slice none 0 0] 72)).heap.size := fun b h => by have := hR b h; simp; omega
 have HR : Hid (∀ b, R b → b < w.heap.size) := hR
 have HLE : Hid (∀ ys, Ok ys → ys.length ≤ 1048576) := hlen
 have hsz : (w.alloc (.cells #[.slice none 0 0] 72)).heap.size = w.heap.size + 1 := by simp
 have HSZ : Hid ((w.alloc (.cells #[.slice none 0 0] 72)).heap.size = w.heap.size + 1) := hsz
 clear hsz hR hseq
 generalize w.alloc (.cells #[.slice none 0 0] 72) = W0 at *
 obtain ⟨T, hTT⟩ : ∃ T, w.heap.size = T := ⟨_, rfl⟩
 have HTT : Hid (w.heap.size = T) := hTT
 rw [hTT] at acc HR HSZ ⊢
 clear hTT
 obtain ⟨L0, hL0⟩ : ∃ L, T + 1 = L := ⟨_, rfl⟩
 rw [hL0] at acc HSZ
 have hTL : T < L0 := by omega
 refine wp_rangeY (gf := gf) rfl eg hseq2 hRa (QclI T L0 w) NoQ (QclI_stb hTL) NoQ_stb (fun _ => False) (fun _ h => h.elim) ⟨_, acc⟩
  (fun x a' _ _ => a' = { tmps := #[.slice none 0 0, .func (.func gf) #[] lb, .pointer (some ⟨T, 0, none⟩), undef, .slice none 0 0, .int .i64 x, .func (.func gf) #[] lb, .int .i64 x, undef, undef, undef, undef, undef], defers := [] })
  (fun x a' _ _ _ _ _ h _ _ _ => h) ?assign ?body ?done ?stop
 case assign =>
  intro l2 pre x W3 Y K hI hYl hYa hK
  gi_wp2
  exact hK _ _ (Mod.refl _ _) rfl
 case body =>
  rintro l2 pre x a' W3 Y hYl hYa ⟨vv, ha⟩ rfl hpre
  have hle : pre.length ≤ 1048576 := by have := HLE.out _ hpre; rw [List.length_append] at this; omega
  have HP : Hid ((pre ++ [x]).length = pre.length + 1 ∧ intsC (pre ++ [x]) = intsC pre ++ [.int .i64 x]) := ⟨by simp, by simp [intsC]⟩
  have ha' := ha
  obtain ⟨a1, a2, a3, a4, a5, a9, a10⟩ := ha
  obtain ⟨ys, hys⟩ : ∃ ys, intsC pre = ys := ⟨_, rfl⟩
  obtain ⟨m, hm⟩ : ∃ m, pre.length = m := ⟨_, rfl⟩
  rw [hys, hm] at a2 HP ha'
  rw [hm] at hle
  clear hys hm
  obtain ⟨av, cv, rfl⟩ := owns_form a2
  have hzT := wL _ _ a1
  dsimp only at hzT
  gi_wp2_with (gi_at_builtin; refine wpListIn_append_own_at _ rfl _ _ 72 rfl L0 2 i0 _ 1 8 Tryz.underlying72 hi hz0 hz1 hz2 rfl (by decide) _ _ _ rfl (a2.alloc _) ⟨W3.heap.size, 0, none⟩ 1 1 [.int .i64 x] rfl rfl ?c1 ?c2 ?c3 ?c4 ?c5 ?_)
  case c1 =>
   intro j u hj
   match j, hj with
   | 0, hj => simp at hj; subst hj; simp [Addr.add, go_sem]
   | j + 1, hj => simp at hj
  case c2 =>
   intro u hu
   rw [List.mem_singleton] at hu
   rw [hu]
   rfl
  case c3 => unfold maxLen; omega
  case c4 => omega
  case c5 => simp; omega
  intro v' w5 hown' hgrow _ hown
  obtain ⟨g', cap', rfl⟩ := ownsRow_succ hown'
  obtain ⟨b1, b9, _⟩ := QclC_mid hTL ha' hgrow
  obtain ⟨hnew, hM⟩ := QclC_app hTL ha' hgrow hown' (by rw [World.size_alloc]; exact hown) hYa
  gi_wp2
  refine ⟨hM.mono (fun b h => ?_), .slice (some ⟨g', 0, none⟩) (m + 1) cap', ?_⟩
  ·
   rcases h with rfl | h
   ·
    rintro (h2 | h2)
    ·
     have := HR.out _ h2
     omega
    ·
     exact a4 _ (Nat.le_refl _) h2
   ·
    have := (a2.lt b h).1
    rintro (h2 | h2)
    ·
     have := HR.out _ h2
     omega
    ·
     exact a3 b h h2
  ·
   rw [HP.out.1, HP.out.2]
   exact hnew
 case done =>
  rintro D W3 Y hD hYD xs hDn ⟨vv, ha⟩ hdef
  obtain ⟨a1, a2, a3, a4, a5, a9, a10⟩ := ha
  obtain ⟨av, cv, rfl⟩ := owns_form a2
  have hsD := HSZ.out
  gi_wp2
  refine ⟨by simp, .inl ⟨_, _, rfl, run_takeDeferred hdef, ?_⟩⟩
  refine ⟨.slice av xs.length cv, by simp [results, Tryz.results226, go_sem], ?_⟩
  have mp : Mod (fun b => b = D) W3 (W3.putObj D (.deferred none)) := mod_put _ _ _
  have hTT := HTT.out
  rw [hTT]
  refine ⟨_, xs, rfl, hDn, owns_base (mp.owns a2 (fun b hb e => a3 b hb (by rw [e]; exact hYD))) (by omega), ?_⟩
  exact ⟨mp.os.trans a10.os, mp.tape.trans a10.tape, mp.output.trans a10.output, Nat.le_trans a10.size mp.size, fun b hb => (mp.block b (by have := a10.size; omega) (by omega)).trans (a10.block b hb)⟩
 case stop =>
  rintro D c pre W3 Y hD hYD hpre h hdef
  exact h.elim
theorem collectQ_any (gf : Nat) (lb : Array Value) (Ok Dn : List Int → Prop) (R : Nat → Prop) (w : World) (eg : ∀ args w, (callFunc gf args).run Tryz.prog w = .ok (.enter gf args) w) (hseq : Seqy Tryz.prog gf lb (Value.int .i64) Ok Dn R w) (hR : ∀ b, R b → b < w.heap.size) (hlen : ∀ ys, Ok ys → ys.length ≤ 1048576) :
  Calls Tryz.prog 205 #[.func (.func gf) #[] lb] w fun e w' => ∃ v xs, e = .returned v ∧ Dn xs ∧ w'.ownsRow w.heap.size 2 1 v xs.length (intsC xs) ∧ Below w.heap.size w w' := by
 have hc := appendSeqQ_any gf lb Ok Dn R w eg hseq hR hlen
 clear eg hseq
 go_enter Tryz.func205, Tryz.ntmps205
 go_wp2_with fail
 refine hc.mono ?_
 rintro e w1 ⟨v, xs, rfl, hDn, ho, hb⟩
 obtain ⟨av, cv, rfl⟩ := owns_form ho
 clear hc
 go_wp2; go_ret
 exact ⟨_, xs, rfl, hDn, ho, hb⟩
theorem valuesQ_seq (Bs : Nat) (v : Value) (xs : List Int) (w : World) (hB : w.cell? ⟨Bs, 0, none⟩ = some v) (hT : IntsV w v xs) :
  Seqy Tryz.prog 207 #[.pointer (some ⟨Bs, 0, none⟩)] (Value.int .i64) (fun ys => ys <+: xs) (fun ys => ys = xs) (fun b => b < w.heap.size) w := by
 intro l J Jx W X hm hXa hJ hJx hY h0
 have hBl : Bs < w.heap.size := wL w _ hB
 have hBW := hm.cell hB (fun h => h hBl)
 obtain ⟨a, cap, rfl, hc1, hc2, hrow0⟩ := hT
 have hrow : ∀ i, i < xs.length → ∃ b o, a = some ⟨b, o, none⟩ ∧ b < w.heap.size ∧ W.cell? ⟨b, o + i, none⟩ = some (.int .i64 (xs.getD i 0)) := fun i hi => by
  obtain ⟨b, o, e, hc⟩ := hrow0 i hi
  have hl : b < w.heap.size := wL w _ hc
  exact ⟨b, o, e, hl, hm.cell hc (fun h => h hl)⟩
 clear hB hrow0
 unfold maxLen at hc2
 have HP : Hid (∀ k, k < xs.length → xs.take k ++ [xs.getD k 0] = xs.take (k + 1)) := fun k hk => by rw [List.take_add_one, List.getElem?_eq_getElem hk]; simp [List.getD, hk]
 have HA : Hid (∀ k, xs.take k <+: xs) := fun k => List.take_prefix _ _
 have HE : Hid (xs.take xs.length = xs) := List.take_length
 generalize hN : xs.length = n at *
 have HN : Hid (xs.length = n) := hN
 clear hN
 refine callsIn_of_wp Tryz.func207 rfl trivial ?_ rfl
 simp only [Tryz.ntmps207, List.size_toArray, List.length_cons, List.length_nil, Nat.reduceAdd, Nat.reduceSub, Array.replicate_succ, Array.replicate_zero, List.push_toArray, List.append_toArray, List.nil_append, List.cons_append]
 gi_wp2
 gi_loopw [7] (fun i wr => ∃ k : Nat, k ≤ n ∧ i = .int .i64 k ∧ Hid (J (xs.take k) wr X) ∧ Hid (∀ b, X b → b < wr.heap.size) ∧ Mod (fun b => ¬ b < w.heap.size) W wr) (fun i _ => n - (intOf i).toNat)
 case atStart => exact ⟨0, Nat.zero_le _, rfl, (show J [] W X from h0), hXa, Mod.refl _ _⟩
 case round =>
  obtain ⟨k, hk, rfl, HJ, HXa, hmr⟩ := hrel
  by_cases hlt : k < n
  ·
   obtain ⟨b, o, rfl, hRb, hc⟩ := hrow k hlt
   obtain ⟨q, hq⟩ : ∃ q, q = xs.getD k 0 := ⟨_, rfl⟩
   have hP := HP.out k hlt
   rw [← hq] at hc hP
   have HPk : Hid (xs.take k ++ [q] = xs.take (k + 1)) := hP
   replace hc := hmr.cell hc (fun h => h hRb)
   obtain ⟨fn, tmps, assign, body, hy, hR2⟩ := hY _ q _ X HJ.out (fun _ h => h) HXa.out (by rw [hP]; exact HA.out _)
   clear hP hq hrow
   gi_wp2
   refine ⟨rfl, hR2.mono ?_⟩
   rintro e W3 (⟨rfl, hJ3, hk3⟩ | ⟨rfl, hJx3, hk3⟩)
   ·
    gi_wp2
    go_roundw
    case rel =>
     have hs := hk3.size
     refine ⟨k + 1, by omega, by simp, ?_, fun b h => ?_, hmr.trans (hk3.mono (fun b h hr => h (.inl hr)))⟩
     ·
      rw [Hid, ← HPk.out]
      exact hJ3
     ·
      have := HXa.out b h
      omega
    case measure => simp [intOf]; omega
   ·
    gi_wp2
    refine bodyPost_ret (results_none rfl _ _ _) rfl ?_
    exact ⟨⟨_, rfl⟩, X, fun _ h => h, .inr ⟨_, by rw [HPk.out]; exact HA.out _, hJx3⟩⟩
  ·
   obtain rfl : k = n := by omega
   gi_wp2
   go_end0
   refine ⟨⟨_, rfl⟩, X, fun _ h => h, .inl ⟨_, rfl, ?_⟩⟩
   have hj := HJ.out
   rw [HE.out] at hj
   exact hj
theorem valuesQ_any (a : Option Addr) (n c : Nat) (w : World) : Calls Tryz.prog 158 #[.slice a n c] w fun e w' => e = .returned (.func (.func 207) #[] #[.pointer (some ⟨w.heap.size, 0, none⟩)]) ∧ w' = w.alloc (.cells #[.slice a n c] 72) := by
 have hmf : ∀ (fn : Fn) (first cap : Array Value) (w : World), (Instr.makeFunc fn first cap).run Tryz.prog w = .ok (.func fn first cap) w := fun _ _ _ _ => rfl
 go_enter Tryz.func158, Tryz.ntmps158
 go_wp2; go_ret
 exact ⟨rfl, rfl⟩
end Go.Proofs.YtackhljepbhpgaaGreat

