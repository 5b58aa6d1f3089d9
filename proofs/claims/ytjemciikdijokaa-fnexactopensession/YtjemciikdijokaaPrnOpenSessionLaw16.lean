import Derived.Test.YtjemciikdijokaaPrnOpenSessionLaw12
import Derived.Shelf.Abstract
import Derived.Test.YtjemciikdijokaaPrnOpenSessionLaw11
import Derived.BigQuiet
import Derived.Deep.QuietTactic
import Derived.Deep.RegionHeld3
import Derived.Test.YtjemciikdijokaaPrnOpenSessionLaw13
import Derived.Test.YtjemciikdijokaaPrnOpenSessionLaw14
import Derived.Test.YtjemciikdijokaaPrnOpenSessionLaw2
import Derived.Deep.Slices
import Derived.Lib.SmallJoins
import Derived.Test.YtjemciikdijokaaPrnOpenSessionLaw3
import Derived.Carry

/-
  SessionsFault, the program's.
-/
set_option linter.unusedSimpArgs false
set_option linter.unusedVariables false
namespace Go.Proofs.Ytjemciikdijokaa
open Go.RowKit
set_option linter.unusedSectionVars false
variable [DecidableEq Leg] [Inhabited Leg] [DecidableEq Ses] [Inhabited Ses] [DecidableEq Cont] [Inhabited Cont] [DecidableEq Bal] [Inhabited Bal] [DecidableEq Mrk] [Inhabited Mrk] [DecidableEq Shd] [Inhabited Shd] [DecidableEq Vot] [Inhabited Vot] [DecidableEq Slt] [Inhabited Slt] [DecidableEq Acc] [Inhabited Acc] [DecidableEq Trr] [Inhabited Trr] [DecidableEq Hrd] [Inhabited Hrd] [DecidableEq Ldr] [Inhabited Ldr] [DecidableEq Msg] [Inhabited Msg] [DecidableEq Clu] [Inhabited Clu] [DecidableEq SesR] [Inhabited SesR] [DecidableEq Ledg] [Inhabited Ledg]
attribute [local go_sem ↓] Go.wp_at_zero Go.wp_at_succ

set_option maxHeartbeats 4000000 in
set_option maxRecDepth 20000 in
theorem behindZ_any (i j i2 j2 : Int) (u v : Value) (a : Option Addr) (n c : Nat) (w : World) (hn : n ≤ 9223372036854775807) (h : ∀ p, n = p + 1 → ∃ b o, a = some ⟨b, o, none⟩ ∧ w.cell? ⟨b, o + p * 3, none⟩ = some (.int .i64 j) ∧ w.cell? ⟨b, o + p * 3 + 1, none⟩ = some (.int .i64 j2) ∧ w.cell? ⟨b, o + p * 3 + 2, none⟩ = some (v)) :
    Calls Try.prog 25 #[.agg #[.int .i64 i, .int .i64 i2, u], .slice a n c, .func (.func 26) #[] #[]] w fun e w' => e = .returned (.bool (decide (n = 0) || decide (cmpSn j i < 0))) ∧ Below w.heap.size w w' := by
  have eg := enters_of Try.func26 (by kernel_rfl) rfl
  cases n with
  | zero =>
    clear h
    go_enter Try.func25, Try.ntmps25
    go_wp2
    refine wp_region_noPanic ?_
    refine region_upto (fun W => W.cell? ⟨w.heap.size, 0, none⟩ = some (.int .i64 i) ∧ W.cell? ⟨w.heap.size, 1, none⟩ = some (.int .i64 i2) ∧ W.cell? ⟨w.heap.size, 2, none⟩ = some (u)) 16 (by kernel_rfl) ⟨by simp [go_sem], by simp [go_sem], by simp [go_sem]⟩ (fun hS => ?_)
    refine upto_takeN (i := 0) (v := ?_) rfl (by kernel_rfl) (by kernel_rfl) (by kernel_rfl) (by kernel_rfl) (fun _ _ _ h => h) (by rfl) hS ?_ ?_
    rotate_left
    · intro wS hSw
      try dsimp only at hSw
      first | (go_simp; done) | (go_simp; with_reducible rfl)
    try simp only [Act.put, List.getElem_toArray, List.getElem_cons_zero, List.getElem_cons_succ, List.setIfInBounds_toArray, List.set_cons_zero, List.set_cons_succ]
    refine upto_takeN (i := 1) (v := ?_) rfl (by kernel_rfl) (by kernel_rfl) (by kernel_rfl) (by kernel_rfl) (fun _ _ _ h => h) (by rfl) hS ?_ ?_
    rotate_left
    · intro wS hSw
      try dsimp only at hSw
      first | (go_simp; done) | (go_simp; with_reducible rfl)
    try simp only [Act.put, List.getElem_toArray, List.getElem_cons_zero, List.getElem_cons_succ, List.setIfInBounds_toArray, List.set_cons_zero, List.set_cons_succ]
    refine upto_takeN (i := 2) (v := (.bool true)) rfl (by kernel_rfl) (by kernel_rfl) (by kernel_rfl) (by kernel_rfl) (fun _ _ _ h => h) (by rfl) hS ?_ ?_
    · intro wS hSw
      try dsimp only at hSw
      go_simp
    try simp only [Act.put, List.getElem_toArray, List.getElem_cons_zero, List.getElem_cons_succ, List.setIfInBounds_toArray, List.set_cons_zero, List.set_cons_succ]
    refine upto_takeN (i := 3) (v := ?_) rfl (by kernel_rfl) (by kernel_rfl) (by kernel_rfl) (by kernel_rfl) (fun _ _ _ h => h) (by rfl) hS ?_ ?_
    rotate_left
    · intro wS hSw
      try dsimp only at hSw
      first | (go_simp; done) | (go_simp; with_reducible rfl)
    try simp only [Act.put, List.getElem_toArray, List.getElem_cons_zero, List.getElem_cons_succ, List.setIfInBounds_toArray, List.set_cons_zero, List.set_cons_succ]
    refine upto_skipN (i := 4) rfl (by kernel_rfl) (by kernel_rfl) (by kernel_rfl) (by kernel_rfl) (fun _ _ _ h => h) (by rfl) hS (fun q4 => ?_)
    try simp only [Act.put, List.getElem_toArray, List.getElem_cons_zero, List.getElem_cons_succ, List.setIfInBounds_toArray, List.set_cons_zero, List.set_cons_succ]
    refine upto_skipN (i := 5) rfl (by kernel_rfl) (by kernel_rfl) (by kernel_rfl) (by kernel_rfl) (fun _ _ _ h => h) (by rfl) hS (fun q5 => ?_)
    try simp only [Act.put, List.getElem_toArray, List.getElem_cons_zero, List.getElem_cons_succ, List.setIfInBounds_toArray, List.set_cons_zero, List.set_cons_succ]
    refine upto_skipN (i := 6) rfl (by kernel_rfl) (by kernel_rfl) (by kernel_rfl) (by kernel_rfl) (fun _ _ _ h => h) (by rfl) hS (fun q6 => ?_)
    try simp only [Act.put, List.getElem_toArray, List.getElem_cons_zero, List.getElem_cons_succ, List.setIfInBounds_toArray, List.set_cons_zero, List.set_cons_succ]
    refine upto_skipN (i := 7) rfl (by kernel_rfl) (by kernel_rfl) (by kernel_rfl) (by kernel_rfl) (fun _ _ _ h => h) (by rfl) hS (fun q7 => ?_)
    try simp only [Act.put, List.getElem_toArray, List.getElem_cons_zero, List.getElem_cons_succ, List.setIfInBounds_toArray, List.set_cons_zero, List.set_cons_succ]
    refine upto_skipN (i := 8) rfl (by kernel_rfl) (by kernel_rfl) (by kernel_rfl) (by kernel_rfl) (fun _ _ _ h => h) (by rfl) hS (fun q8 => ?_)
    try simp only [Act.put, List.getElem_toArray, List.getElem_cons_zero, List.getElem_cons_succ, List.setIfInBounds_toArray, List.set_cons_zero, List.set_cons_succ]
    refine upto_skipN (i := 9) rfl (by kernel_rfl) (by kernel_rfl) (by kernel_rfl) (by kernel_rfl) (fun _ _ _ h => h) (by rfl) hS (fun q9 => ?_)
    try simp only [Act.put, List.getElem_toArray, List.getElem_cons_zero, List.getElem_cons_succ, List.setIfInBounds_toArray, List.set_cons_zero, List.set_cons_succ]
    refine upto_skipN (i := 10) rfl (by kernel_rfl) (by kernel_rfl) (by kernel_rfl) (by kernel_rfl) (fun _ _ _ h => h) (by rfl) hS (fun q10 => ?_)
    try simp only [Act.put, List.getElem_toArray, List.getElem_cons_zero, List.getElem_cons_succ, List.setIfInBounds_toArray, List.set_cons_zero, List.set_cons_succ]
    refine upto_skipN (i := 11) rfl (by kernel_rfl) (by kernel_rfl) (by kernel_rfl) (by kernel_rfl) (fun _ _ _ h => h) (by rfl) hS (fun q11 => ?_)
    try simp only [Act.put, List.getElem_toArray, List.getElem_cons_zero, List.getElem_cons_succ, List.setIfInBounds_toArray, List.set_cons_zero, List.set_cons_succ]
    refine upto_skipN (i := 12) rfl (by kernel_rfl) (by kernel_rfl) (by kernel_rfl) (by kernel_rfl) (fun _ _ _ h => h) (by rfl) hS (fun q12 => ?_)
    try simp only [Act.put, List.getElem_toArray, List.getElem_cons_zero, List.getElem_cons_succ, List.setIfInBounds_toArray, List.set_cons_zero, List.set_cons_succ]
    refine upto_skipN (i := 13) rfl (by kernel_rfl) (by kernel_rfl) (by kernel_rfl) (by kernel_rfl) (fun _ _ _ h => h) (by rfl) hS (fun q13 => ?_)
    try simp only [Act.put, List.getElem_toArray, List.getElem_cons_zero, List.getElem_cons_succ, List.setIfInBounds_toArray, List.set_cons_zero, List.set_cons_succ]
    refine upto_takeN (i := 14) (v := ?_) rfl (by kernel_rfl) (by kernel_rfl) (by kernel_rfl) (by kernel_rfl) (fun _ _ _ h => h) (by rfl) hS ?_ ?_
    rotate_left
    · intro wS hSw
      try dsimp only at hSw
      first | (go_simp; done) | (go_simp; with_reducible rfl)
    try simp only [Act.put, List.getElem_toArray, List.getElem_cons_zero, List.getElem_cons_succ, List.setIfInBounds_toArray, List.set_cons_zero, List.set_cons_succ]
    refine upto_takeN (i := 15) (v := ?_) rfl (by kernel_rfl) (by kernel_rfl) (by kernel_rfl) (by kernel_rfl) (fun _ _ _ h => h) (by rfl) hS ?_ ?_
    rotate_left
    · intro wS hSw
      try dsimp only at hSw
      first | (go_simp; done) | (go_simp; with_reducible rfl)
    try simp only [Act.put, List.getElem_toArray, List.getElem_cons_zero, List.getElem_cons_succ, List.setIfInBounds_toArray, List.set_cons_zero, List.set_cons_succ]
    refine upto_done (by kernel_rfl) ?_
    refine NoPanic.normal ?_
    go_wp2
    go_ret
    exact ⟨rfl, by (repeat (first | exact Below.refl _ _ | assumption | refine Below.drew ?_ | refine balloc ?_ _ | refine bset ?_ (by simp; omega) _ | refine bset ?_ (by simp) _ | refine bstep ?_ (by assumption)))⟩
  | succ p =>
    obtain ⟨b, o, rfl, g0, g1, g2⟩ := h p rfl
    clear h
    have zb : b < w.heap.size := World.block_lt_of_cell? w _ g0
    have i1 : (0 : Int) ≤ (p : Int) := by omega
    have i2' : (p : Int) < ((p + 1 : Nat) : Int) := by omega
    have i3 : (((p + 1 : Nat) : Int) == 0) = false := by rw [beq_eq_false_iff_ne]; omega
    have i4 : ((p : Int) + 1 == 0) = false := by rw [beq_eq_false_iff_ne]; omega
    have i5 : IntKind.i64.wrap (((p + 1 : Nat) : Int) - 1) = (p : Int) := by rw [IntKind.wrap_i64]; omega
    have i6 : IntKind.i64.wrap ((p : Int) + 1 - 1) = (p : Int) := by rw [IntKind.wrap_i64]; omega
    have i7 : ¬ ((p : Int) + 1 = 0) := by omega
    have i8 : (p : Int) < (p : Int) + 1 := by omega
    have w1' : IntKind.i64.wrap (p : Int) = p := wrapId (by omega) (by omega)
    rw [show (decide (p + 1 = 0) || decide (cmpSn j i < 0)) = decide (cmpSn j i < 0) by simp]
    go_enter Try.func25, Try.ntmps25
    go_wp2
    refine wp_region_noPanic ?_
    refine region_upto (fun W => W.cell? ⟨w.heap.size, 0, none⟩ = some (.int .i64 i) ∧ W.cell? ⟨w.heap.size, 1, none⟩ = some (.int .i64 i2) ∧ W.cell? ⟨w.heap.size, 2, none⟩ = some (u) ∧ W.cell? ⟨b, o + p * 3, none⟩ = some (.int .i64 j) ∧ W.cell? ⟨b, o + p * 3 + 1, none⟩ = some (.int .i64 j2) ∧ W.cell? ⟨b, o + p * 3 + 2, none⟩ = some (v)) 16 (by kernel_rfl) ⟨by simp [go_sem], by simp [go_sem], by simp [go_sem], cell_keep (by (repeat (first | exact Below.refl _ _ | assumption | refine Below.drew ?_ | refine balloc ?_ _ | refine bset ?_ (by simp; omega) _ | refine bset ?_ (by simp) _ | refine bstep ?_ (by assumption)))) g0, cell_keep (by (repeat (first | exact Below.refl _ _ | assumption | refine Below.drew ?_ | refine balloc ?_ _ | refine bset ?_ (by simp; omega) _ | refine bset ?_ (by simp) _ | refine bstep ?_ (by assumption)))) g1, cell_keep (by (repeat (first | exact Below.refl _ _ | assumption | refine Below.drew ?_ | refine balloc ?_ _ | refine bset ?_ (by simp; omega) _ | refine bset ?_ (by simp) _ | refine bstep ?_ (by assumption)))) g2⟩ (fun hS => ?_)
    refine upto_takeN (i := 0) (v := ?_) rfl (by kernel_rfl) (by kernel_rfl) (by kernel_rfl) (by kernel_rfl) (fun _ _ _ h => h) (by rfl) hS ?_ ?_
    rotate_left
    · intro wS hSw
      try dsimp only at hSw
      first | (go_simp; done) | (go_simp; with_reducible rfl)
    try simp only [Act.put, List.getElem_toArray, List.getElem_cons_zero, List.getElem_cons_succ, List.setIfInBounds_toArray, List.set_cons_zero, List.set_cons_succ]
    refine upto_takeN (i := 1) (v := ?_) rfl (by kernel_rfl) (by kernel_rfl) (by kernel_rfl) (by kernel_rfl) (fun _ _ _ h => h) (by rfl) hS ?_ ?_
    rotate_left
    · intro wS hSw
      try dsimp only at hSw
      first | (go_simp; done) | (go_simp; with_reducible rfl)
    try simp only [Act.put, List.getElem_toArray, List.getElem_cons_zero, List.getElem_cons_succ, List.setIfInBounds_toArray, List.set_cons_zero, List.set_cons_succ]
    refine upto_takeN (i := 2) (v := (.bool false)) rfl (by kernel_rfl) (by kernel_rfl) (by kernel_rfl) (by kernel_rfl) (fun _ _ _ h => h) (by rfl) hS ?_ ?_
    · intro wS hSw
      try dsimp only at hSw
      go_simp
    try simp only [Act.put, List.getElem_toArray, List.getElem_cons_zero, List.getElem_cons_succ, List.setIfInBounds_toArray, List.set_cons_zero, List.set_cons_succ]
    refine upto_takeN (i := 3) (v := ?_) rfl (by kernel_rfl) (by kernel_rfl) (by kernel_rfl) (by kernel_rfl) (fun _ _ _ h => h) (by rfl) hS ?_ ?_
    rotate_left
    · intro wS hSw
      try dsimp only at hSw
      first | (go_simp; done) | (go_simp; with_reducible rfl)
    try simp only [Act.put, List.getElem_toArray, List.getElem_cons_zero, List.getElem_cons_succ, List.setIfInBounds_toArray, List.set_cons_zero, List.set_cons_succ]
    refine upto_takeN (i := 4) (v := ?_) rfl (by kernel_rfl) (by kernel_rfl) (by kernel_rfl) (by kernel_rfl) (fun _ _ _ h => h) (by rfl) hS ?_ ?_
    rotate_left
    · intro wS hSw
      try dsimp only at hSw
      first | (go_simp; done) | (go_simp; with_reducible rfl)
    try simp only [Act.put, List.getElem_toArray, List.getElem_cons_zero, List.getElem_cons_succ, List.setIfInBounds_toArray, List.set_cons_zero, List.set_cons_succ]
    refine upto_takeN (i := 5) (v := ?_) rfl (by kernel_rfl) (by kernel_rfl) (by kernel_rfl) (by kernel_rfl) (fun _ _ _ h => h) (by rfl) hS ?_ ?_
    rotate_left
    · intro wS hSw
      try dsimp only at hSw
      first | (go_simp; done) | (go_simp; with_reducible rfl)
    try simp only [Act.put, List.getElem_toArray, List.getElem_cons_zero, List.getElem_cons_succ, List.setIfInBounds_toArray, List.set_cons_zero, List.set_cons_succ]
    refine upto_takeN (i := 6) (v := ?_) rfl (by kernel_rfl) (by kernel_rfl) (by kernel_rfl) (by kernel_rfl) (fun _ _ _ h => h) (by rfl) hS ?_ ?_
    rotate_left
    · intro wS hSw
      try dsimp only at hSw
      first | (go_simp; done) | (go_simp; with_reducible rfl)
    try simp only [Act.put, List.getElem_toArray, List.getElem_cons_zero, List.getElem_cons_succ, List.setIfInBounds_toArray, List.set_cons_zero, List.set_cons_succ]
    refine upto_takeN (i := 7) (v := ?_) rfl (by kernel_rfl) (by kernel_rfl) (by kernel_rfl) (by kernel_rfl) (fun _ _ _ h => h) (by rfl) hS ?_ ?_
    rotate_left
    · intro wS hSw
      try dsimp only at hSw
      first | (go_simp; done) | (go_simp; with_reducible rfl)
    try simp only [Act.put, List.getElem_toArray, List.getElem_cons_zero, List.getElem_cons_succ, List.setIfInBounds_toArray, List.set_cons_zero, List.set_cons_succ]
    refine upto_takeN (i := 8) (v := ?_) rfl (by kernel_rfl) (by kernel_rfl) (by kernel_rfl) (by kernel_rfl) (fun _ _ _ h => h) (by rfl) hS ?_ ?_
    rotate_left
    · intro wS hSw
      try dsimp only at hSw
      first | (go_simp; done) | (go_simp; with_reducible rfl)
    try simp only [Act.put, List.getElem_toArray, List.getElem_cons_zero, List.getElem_cons_succ, List.setIfInBounds_toArray, List.set_cons_zero, List.set_cons_succ]
    refine upto_takeN (i := 9) (v := ?_) rfl (by kernel_rfl) (by kernel_rfl) (by kernel_rfl) (by kernel_rfl) (fun _ _ _ h => h) (by rfl) hS ?_ ?_
    rotate_left
    · intro wS hSw
      try dsimp only at hSw
      first | (go_simp; done) | (go_simp; with_reducible rfl)
    try simp only [Act.put, List.getElem_toArray, List.getElem_cons_zero, List.getElem_cons_succ, List.setIfInBounds_toArray, List.set_cons_zero, List.set_cons_succ]
    refine upto_takeN (i := 10) (v := ?_) rfl (by kernel_rfl) (by kernel_rfl) (by kernel_rfl) (by kernel_rfl) (fun _ _ _ h => h) (by rfl) hS ?_ ?_
    rotate_left
    · intro wS hSw
      try dsimp only at hSw
      first | (go_simp; done) | (go_simp; with_reducible rfl)
    try simp only [Act.put, List.getElem_toArray, List.getElem_cons_zero, List.getElem_cons_succ, List.setIfInBounds_toArray, List.set_cons_zero, List.set_cons_succ]
    refine upto_takeN (i := 11) (v := ?_) rfl (by kernel_rfl) (by kernel_rfl) (by kernel_rfl) (by kernel_rfl) (fun _ _ _ h => h) (by rfl) hS ?_ ?_
    rotate_left
    · intro wS hSw
      try dsimp only at hSw
      first | (go_simp; done) | (go_simp; with_reducible rfl)
    try simp only [Act.put, List.getElem_toArray, List.getElem_cons_zero, List.getElem_cons_succ, List.setIfInBounds_toArray, List.set_cons_zero, List.set_cons_succ]
    refine upto_step (i := 12) (by kernel_rfl) rfl ?_
    intro K hK
    go_simp
    refine (cmpCli_any j i j2 i2 v u _).mono ?_
    rintro e w1 ⟨rfl, hb1⟩
    have hB1 : Below w.heap.size w w1 := bstep (by (repeat (first | exact Below.refl _ _ | assumption | refine Below.drew ?_ | refine balloc ?_ _ | refine bset ?_ (by simp; omega) _ | refine bset ?_ (by simp) _ | refine bstep ?_ (by assumption)))) hb1
    have hS1 : (fun W => W.cell? ⟨w.heap.size, 0, none⟩ = some (.int .i64 i) ∧ W.cell? ⟨w.heap.size, 1, none⟩ = some (.int .i64 i2) ∧ W.cell? ⟨w.heap.size, 2, none⟩ = some (u) ∧ W.cell? ⟨b, o + p * 3, none⟩ = some (.int .i64 j) ∧ W.cell? ⟨b, o + p * 3 + 1, none⟩ = some (.int .i64 j2) ∧ W.cell? ⟨b, o + p * 3 + 2, none⟩ = some (v)) w1 := ⟨cell_keep hb1 hS.1, cell_keep hb1 hS.2.1, cell_keep hb1 hS.2.2.1, cell_keep hb1 hS.2.2.2.1, cell_keep hb1 hS.2.2.2.2.1, cell_keep hb1 hS.2.2.2.2.2⟩
    refine hK _ _ (fun _ => hS1) ?_
    clear hK K
    try simp only [Act.put, List.getElem_toArray, List.getElem_cons_zero, List.getElem_cons_succ, List.setIfInBounds_toArray, List.set_cons_zero, List.set_cons_succ]
    refine upto_takeN (i := 13) (v := ?_) rfl (by kernel_rfl) (by kernel_rfl) (by kernel_rfl) (by kernel_rfl) (fun _ _ _ h => h) (by rfl) hS1 ?_ ?_
    rotate_left
    · intro wS hSw
      try dsimp only at hSw
      first | (go_simp; done) | (go_simp; with_reducible rfl)
    try simp only [Act.put, List.getElem_toArray, List.getElem_cons_zero, List.getElem_cons_succ, List.setIfInBounds_toArray, List.set_cons_zero, List.set_cons_succ]
    refine upto_takeN (i := 14) (v := ?_) rfl (by kernel_rfl) (by kernel_rfl) (by kernel_rfl) (by kernel_rfl) (fun _ _ _ h => h) (by rfl) hS1 ?_ ?_
    rotate_left
    · intro wS hSw
      try dsimp only at hSw
      first | (go_simp; done) | (go_simp; with_reducible rfl)
    try simp only [Act.put, List.getElem_toArray, List.getElem_cons_zero, List.getElem_cons_succ, List.setIfInBounds_toArray, List.set_cons_zero, List.set_cons_succ]
    refine upto_takeN (i := 15) (v := ?_) rfl (by kernel_rfl) (by kernel_rfl) (by kernel_rfl) (by kernel_rfl) (fun _ _ _ h => h) (by rfl) hS1 ?_ ?_
    rotate_left
    · intro wS hSw
      try dsimp only at hSw
      first | (go_simp; done) | (go_simp; with_reducible rfl)
    try simp only [Act.put, List.getElem_toArray, List.getElem_cons_zero, List.getElem_cons_succ, List.setIfInBounds_toArray, List.set_cons_zero, List.set_cons_succ]
    refine upto_done (by kernel_rfl) ?_
    refine NoPanic.normal ?_
    go_wp2
    go_ret
    exact ⟨rfl, hB1⟩
set_option maxHeartbeats 4000000 in
theorem sentAll_any (x : Ses) (p : Option Addr) (q : Nat) (w : World) (hx : sesR.V w (.agg #[.int .i64 x.client, .int .i64 x.next, .slice p x.sent.length q]) x) (hn : 1 ≤ x.next ∧ x.next ≤ 1000) :
    Calls Try.prog 27 #[.agg #[.int .i64 x.client, .int .i64 x.next, .slice p x.sent.length q]] w fun e w' => e = .returned (.bool (sentB x)) ∧ Below w.heap.size w w' := by
  obtain ⟨hms, hss⟩ := sent_at hx
  clear hx
  obtain ⟨xc, xn, xs⟩ := x
  dsimp only at hms hss hn ⊢
  have HSt : Hid (∀ i, i < xs.length → ∃ b o, p = some ⟨b, o, none⟩ ∧ w.cell? ⟨b, o + i, none⟩ = some (.int .i64 (xs.getD i default))) := hss
  clear hss
  have HT : Hid ((xs.length : Int) = xn - 1 → (∀ j, j < xs.length → xs.getD j default = (j : Int) + 1) → sentB ⟨xc, xn, xs⟩ = true) := fun h1 h2 => by
    unfold sentB
    rw [decide_eq_true_eq]
    exact ⟨h1, h2⟩
  have HFa : Hid (¬ (xs.length : Int) = xn - 1 → sentB ⟨xc, xn, xs⟩ = false) := fun h1 => by
    unfold sentB
    rw [decide_eq_false_iff_not]
    exact fun h => h1 h.1
  have HFb : Hid (∀ j, j < xs.length → ¬ xs.getD j default = (j : Int) + 1 → sentB ⟨xc, xn, xs⟩ = false) := fun j hj h1 => by
    unfold sentB
    rw [decide_eq_false_iff_not]
    exact fun h => h1 (h.2 j hj)
  generalize sentB ⟨xc, xn, xs⟩ = R at *
  obtain ⟨m, hm⟩ : ∃ m, m = xs.length := ⟨_, rfl⟩
  have HM : Hid (xs.length = m) := hm.symm
  rw [← hm] at hms HSt HT HFa HFb ⊢
  clear hm
  have wn : IntKind.i64.wrap (xn - 1) = xn - 1 := wrapId (by omega) (by omega)
  by_cases hl : (m : Int) = xn - 1
  · have f1 : ((m : Int) != xn - 1) = false := by simp [hl]
    have HL : Hid ((m : Int) = xn - 1) := hl
    clear hl HFa
    go_enter Try.func27, Try.ntmps27
    go_wp2
    go_loopw [14] (fun j w' => ∃ t : Nat, t ≤ m ∧ j = .int .i64 t ∧ Hid (∀ i, i < t → xs.getD i default = (i : Int) + 1) ∧ w'.cell? ⟨w.heap.size, 2, none⟩ = some (.slice p m q) ∧ Below w.heap.size w w') (fun j _ => m - (intOf j).toNat)
    case atStart => exact ⟨0, Nat.zero_le _, rfl, fun i h => absurd h (Nat.not_lt_zero _), by simp [go_sem], by (repeat (first | exact Below.refl _ _ | assumption | refine Below.drew ?_ | refine balloc ?_ _ | refine bset ?_ (by simp; omega) _ | refine bset ?_ (by simp) _ | refine bstep ?_ (by assumption)))⟩
    case round =>
      obtain ⟨t, ht, rfl, HP, hq, hbl⟩ := hrel
      have hmx := HL.out
      by_cases htl : t < m
      · obtain ⟨bs, os, rfl, gs⟩ := HSt.out t htl
        replace gs := cell_keep hbl gs
        have t1 : (t : Int) < (m : Int) := by omega
        have t1' : (t : Int) < xn - 1 := by omega
        have t2 : (0 : Int) ≤ (t : Int) := by omega
        have t3 : IntKind.i64.wrap ((t : Int) + 1) = (t : Int) + 1 := wrapId (by omega) (by omega)
        clear hmx
        by_cases he : xs.getD t default = (t : Int) + 1
        · have HP2 : Hid (∀ i, i < t + 1 → xs.getD i default = (i : Int) + 1) := fun i hi => by
            by_cases e : i = t
            · rw [e]; exact he
            · exact HP.out i (by omega)
          have f2 : (xs.getD t default != (t : Int) + 1) = false := bne_eq_false_iff_eq.2 he
          generalize xs.getD t default = y at *
          clear he HT HFb
          go_wp2
          exact ⟨⟨t + 1, by omega, by go_num, HP2, hq, hbl⟩, by simp [intOf]; omega⟩
        · have HC : Hid (R = false) := HFb.out t htl he
          have f2 : (xs.getD t default != (t : Int) + 1) = true := bne_iff_ne.2 he
          generalize xs.getD t default = y at *
          clear he HT HFb
          go_wp2
          go_ret
          exact ⟨by rw [HC.out]; rfl, hbl⟩
      · have htm : t = m := by omega
        have HC : Hid (R = true) := HT.out HL.out (fun j hj => HP.out j (by omega))
        have t1 : ¬ (t : Int) < xn - 1 := by omega
        clear HT HFb hmx
        go_wp2
        go_ret
        exact ⟨by rw [HC.out]; rfl, hbl⟩
  · have f1 : ((m : Int) != xn - 1) = true := by simp [hl]
    have HC : Hid (R = false) := HFa.out hl
    clear hl HT HFb HSt
    go_enter Try.func27, Try.ntmps27
    go_wp2
    go_ret
    exact ⟨by rw [HC.out]; rfl, by (repeat (first | exact Below.refl _ _ | assumption | refine Below.drew ?_ | refine balloc ?_ _ | refine bset ?_ (by simp; omega) _ | refine bset ?_ (by simp) _ | refine bstep ?_ (by assumption)))⟩
set_option maxRecDepth 20000 in
set_option maxHeartbeats 8000000 in
theorem implSesF_any (v : Value) (l : List Ses) (w : World) (hx : sessR.V w v l) :
    Calls Try.prog 9 #[v] w fun e w' => e = .returned (.int .i64 (sesF l)) ∧ Below w.heap.size w w' := by
  obtain ⟨a, c, rfl, hcx, hmx, hx⟩ := sess_at hx
  unfold maxLen at hmx
  have HX : Hid (∀ k, k < l.length → ∃ b o p q, a = some ⟨b, o, none⟩ ∧ w.cell? ⟨b, o + k * 3, none⟩ = some (.int .i64 (l.getD k default).client) ∧ w.cell? ⟨b, o + k * 3 + 1, none⟩ = some (.int .i64 (l.getD k default).next) ∧ w.cell? ⟨b, o + k * 3 + 2, none⟩ = some (.slice p (l.getD k default).sent.length q) ∧ sesR.V w (.agg #[.int .i64 (l.getD k default).client, .int .i64 (l.getD k default).next, .slice p (l.getD k default).sent.length q]) (l.getD k default)) := hx
  clear hx
  obtain ⟨n, hn'⟩ : ∃ n, n = l.length := ⟨_, rfl⟩
  have HN : Hid (l.length = n) := hn'.symm
  rw [← hn'] at hcx HX ⊢
  clear hn'
  by_cases h6 : 10 < n
  · have HC : Hid (sesF l = 2) := sesF_many (by rw [HN.out]; exact h6)
    have h6' : (10 : Int) < n := by omega
    clear HX
    go_enter Try.func9, Try.ntmps9
    go_wp2
    go_ret
    exact ⟨by rw [HC.out]; rfl, by (repeat (first | exact Below.refl _ _ | assumption | refine Below.drew ?_ | refine balloc ?_ _ | refine bset ?_ (by simp; omega) _ | refine bset ?_ (by simp) _ | refine bstep ?_ (by assumption)))⟩
  have h6' : ¬ (10 : Int) < n := by omega
  have HH : Hid (∀ k c, k < n → scanI (sesAt l) k = 0 → sesAt l k = c → ¬ c = 0 → sesF l = c) := fun k c hk hs hc h0 => sesF_hit (by rw [HN.out]; exact h6) (by rw [HN.out]; exact hk) hs hc h0
  have HE : Hid (scanI (sesAt l) n = 0 → sesF l = 0) := fun hs => sesF_end (by rw [HN.out]; exact h6) (by rw [HN.out]; exact hs)
  have h10 : n ≤ 10 := by omega
  clear h6
  go_enter Try.func9, Try.ntmps9
  go_wp2
  go_loopw [10] (fun i w' => ∃ k : Nat, k ≤ n ∧ i = .int .i64 k ∧ Hid (scanI (sesAt l) k = 0) ∧ Below w.heap.size w w') (fun i _ => n - (intOf i).toNat)
  case atStart => exact ⟨0, Nat.zero_le _, rfl, rfl, by (repeat (first | exact Below.refl _ _ | assumption | refine Below.drew ?_ | refine balloc ?_ _ | refine bset ?_ (by simp; omega) _ | refine bset ?_ (by simp) _ | refine bstep ?_ (by assumption)))⟩
  case round =>
    obtain ⟨k, hk, rfl, HS, hbl⟩ := hrel
    by_cases hlt : k < n
    · obtain ⟨b, o, p, q, rfl, g0, g1, g2, hV⟩ := HX.out k hlt
      have hxp := HX.out (k - 1) (by omega)
      have HR : Hid (¬ (inB (l.getD k default).client 1 999 = true ∧ inB (l.getD k default).next 1 1000 = true) → sesF l = 3) := fun h => HH.out k 3 hlt HS.out (sesAt_range h) (by omega)
      have HF : Hid ((inB (l.getD k default).client 1 999 = true ∧ inB (l.getD k default).next 1 1000 = true) → ¬ ((k = 0 ∨ cliAt l (k - 1) < (l.getD k default).client) ∧ sentB (l.getD k default) = true) → sesF l = 1) := fun h h1 => HH.out k 1 hlt HS.out (sesAt_form h h1) (by omega)
      have HO : Hid ((inB (l.getD k default).client 1 999 = true ∧ inB (l.getD k default).next 1 1000 = true) → ((k = 0 ∨ cliAt l (k - 1) < (l.getD k default).client) ∧ sentB (l.getD k default) = true) → scanI (sesAt l) (k + 1) = 0) := fun h h1 => scanI_succ HS.out (sesAt_ok h h1)
      obtain ⟨x, hx⟩ : ∃ x, x = l.getD k default := ⟨_, rfl⟩
      rw [← hx] at g0 g1 g2 hV HR HF HO
      clear hx
      obtain ⟨bp, op, pq, qq, e, p0, p1, p2, _⟩ := hxp
      simp only [Option.some.injEq, Addr.mk.injEq, and_true] at e
      obtain ⟨rfl, rfl⟩ := e
      replace p0 : w.cell? ⟨b, o + (k - 1) * 3, none⟩ = some (.int .i64 (cliAt l (k - 1))) := p0
      obtain ⟨z, hz⟩ : ∃ z, z = cliAt l (k - 1) := ⟨_, rfl⟩
      rw [← hz] at p0 HF HO
      clear hz
      obtain ⟨z2, hz2⟩ : ∃ z, z = (l.getD (k - 1) default).next := ⟨_, rfl⟩
      rw [← hz2] at p1
      clear hz2
      obtain ⟨zv, hzv⟩ : ∃ z : Value, z = .slice pq (l.getD (k - 1) default).sent.length qq := ⟨_, rfl⟩
      rw [← hzv] at p2
      clear hzv
      have hk63 : k ≤ 9223372036854775807 := by omega
      obtain ⟨xc, xn, xs⟩ := x
      dsimp only at g0 g1 g2 hV HR HF HO
      have HB : Hid (∀ W, Below w.heap.size w W → Calls Try.prog 25 #[.agg #[.int .i64 xc, .int .i64 xn, .slice p xs.length q], .slice (some ⟨b, o, none⟩) k c, .func (.func 26) #[] #[]] W fun e w' => e = .returned (.bool (decide (k = 0) || decide (cmpSn z xc < 0))) ∧ Below W.heap.size W w') := fun W hW => behindZ_any xc z xn z2 _ zv _ k c W hk63 (fun t ht => by
        subst ht
        rw [Nat.add_sub_cancel] at p0 p1 p2
        exact ⟨b, o, rfl, cell_keep hW p0, cell_keep hW p1, cell_keep hW p2⟩)
      have HSA0 : Hid ((1 ≤ xn ∧ xn ≤ 1000) → ∀ W, Below w.heap.size w W → Calls Try.prog 27 #[.agg #[.int .i64 xc, .int .i64 xn, .slice p xs.length q]] W fun e w' => e = .returned (.bool (sentB ⟨xc, xn, xs⟩)) ∧ Below W.heap.size W w') := fun hn W hW => sentAll_any ⟨xc, xn, xs⟩ p q W (sesR.below hV hW) hn
      clear hV p1 p2
      obtain ⟨m, hm⟩ : ∃ m, m = xs.length := ⟨_, rfl⟩
      rw [← hm] at g2 HB HSA0
      clear hm
      have k1 : (0 : Int) ≤ (k : Int) := by omega
      have k2 : (k : Int) ≤ (c : Int) := by omega
      replace g0 := cell_keep hbl g0
      replace g1 := cell_keep hbl g1
      replace g2 := cell_keep hbl g2
      replace p0 := cell_keep hbl p0
      have zb : b < wr.heap.size := World.block_lt_of_cell? wr _ g0
      have hwz := hbl.size
      cases hc1 : inB xc 1 999
      · have HC : Hid (sesF l = 3) := HR.out (by rw [hc1]; simp)
        clear HR HF HO HB HSA0 p0
        go_wp2_with (first | (go_at_call 24; refine (within_any _ _ _ _).mono ?_; rintro e w' ⟨rfl, rfl⟩) | (go_at_call 23; refine (isClient_any _ _).mono ?_; rintro e w' ⟨rfl, rfl⟩))
        go_ret
        exact ⟨by rw [HC.out]; rfl, by (repeat (first | exact Below.refl _ _ | assumption | refine Below.drew ?_ | refine balloc ?_ _ | refine bset ?_ (by simp; omega) _ | refine bset ?_ (by simp) _ | refine bstep ?_ (by assumption)))⟩
      cases hc2 : inB xn 1 1000
      · have HC : Hid (sesF l = 3) := HR.out (by rw [hc2]; simp)
        clear HR HF HO HB HSA0 p0
        go_wp2_with (first | (go_at_call 24; refine (within_any _ _ _ _).mono ?_; rintro e w' ⟨rfl, rfl⟩) | (go_at_call 23; refine (isClient_any _ _).mono ?_; rintro e w' ⟨rfl, rfl⟩))
        go_ret
        exact ⟨by rw [HC.out]; rfl, by (repeat (first | exact Below.refl _ _ | assumption | refine Below.drew ?_ | refine balloc ?_ _ | refine bset ?_ (by simp; omega) _ | refine bset ?_ (by simp) _ | refine bstep ?_ (by assumption)))⟩
      have HF2 : Hid (¬ ((k = 0 ∨ z < xc) ∧ sentB ⟨xc, xn, xs⟩ = true) → sesF l = 1) := HF.out ⟨hc1, hc2⟩
      have HO2 : Hid (((k = 0 ∨ z < xc) ∧ sentB ⟨xc, xn, xs⟩ = true) → scanI (sesAt l) (k + 1) = 0) := HO.out ⟨hc1, hc2⟩
      have hnb := hc2
      unfold inB at hnb
      simp only [Bool.and_eq_true, decide_eq_true_eq] at hnb
      have wn : IntKind.i64.wrap (xn - 1) = xn - 1 := wrapId (by omega) (by omega)
      have HSA : Hid (∀ W, Below w.heap.size w W → Calls Try.prog 27 #[.agg #[.int .i64 xc, .int .i64 xn, .slice p m q]] W fun e w' => e = .returned (.bool (sentB ⟨xc, xn, xs⟩)) ∧ Below W.heap.size W w') := HSA0.out hnb
      clear HR HF HO HSA0 p0
      go_wp2_with (first | (go_at_call 24; refine (within_any _ _ _ _).mono ?_; rintro e w' ⟨rfl, rfl⟩) | (go_at_call 23; refine (isClient_any _ _).mono ?_; rintro e w' ⟨rfl, rfl⟩))
      obtain ⟨wq, hwq⟩ : ∃ wq, wq = wr.alloc (.cells #[.int .i64 xc, .int .i64 xn, .slice p m q] 52) := ⟨_, rfl⟩
      have y0 : wq.cell? ⟨wr.heap.size, 0, none⟩ = some (.int .i64 xc) := by rw [hwq]; simp [go_sem]
      have y1 : wq.cell? ⟨wr.heap.size, 1, none⟩ = some (.int .i64 xn) := by rw [hwq]; simp [go_sem]
      have y2 : wq.cell? ⟨wr.heap.size, 2, none⟩ = some (.slice p m q) := by rw [hwq]; simp [go_sem]
      have hBq : Below w.heap.size w wq := by rw [hwq]; (repeat (first | exact Below.refl _ _ | assumption | refine Below.drew ?_ | refine balloc ?_ _ | refine bset ?_ (by simp; omega) _ | refine bset ?_ (by simp) _ | refine bstep ?_ (by assumption)))
      have zq : wr.heap.size < wq.heap.size := by rw [hwq]; simp
      rw [← hwq]
      clear hwq
      cases hb1 : (decide (k = 0) || decide (cmpSn z xc < 0))
      · have HC : Hid (sesF l = 1) := HF2.out (fun h => by
          rw [Bool.or_eq_false_iff] at hb1
          have e1 := hb1.1
          have e2 := hb1.2
          rw [decide_eq_false_iff_not] at e1 e2
          rw [cmpSn_neg] at e2
          exact h.1.elim e1 e2)
        rw [hb1] at HB
        clear HF2 HO2 HSA hb1
        refine wp_region_noPanic ?_
        refine region_upto (fun W => Below wq.heap.size wq W ∧ W.cell? ⟨wr.heap.size, 0, none⟩ = some (.int .i64 xc) ∧ W.cell? ⟨wr.heap.size, 1, none⟩ = some (.int .i64 xn) ∧ W.cell? ⟨wr.heap.size, 2, none⟩ = some (.slice p m q)) 11 (by kernel_rfl) ⟨by (repeat (first | exact Below.refl _ _ | assumption | refine Below.drew ?_ | refine balloc ?_ _ | refine bset ?_ (by simp; omega) _ | refine bset ?_ (by simp) _ | refine bstep ?_ (by assumption))), y0, y1, y2⟩ (fun hS => ?_)
        refine upto_takeN (i := 0) (v := ?_) rfl (by kernel_rfl) (by kernel_rfl) (by kernel_rfl) (by kernel_rfl) (fun _ _ _ h => h) (by rfl) hS ?_ ?_
        rotate_left
        · intro wS hSw
          try dsimp only at hSw
          first | (go_simp; done) | (go_simp; with_reducible rfl)
        try simp only [Act.put, List.getElem_toArray, List.getElem_cons_zero, List.getElem_cons_succ, List.setIfInBounds_toArray, List.set_cons_zero, List.set_cons_succ]
        refine upto_takeN (i := 1) (v := ?_) rfl (by kernel_rfl) (by kernel_rfl) (by kernel_rfl) (by kernel_rfl) (fun _ _ _ h => h) (by rfl) hS ?_ ?_
        rotate_left
        · intro wS hSw
          try dsimp only at hSw
          first | (go_simp; done) | (go_simp; with_reducible rfl)
        try simp only [Act.put, List.getElem_toArray, List.getElem_cons_zero, List.getElem_cons_succ, List.setIfInBounds_toArray, List.set_cons_zero, List.set_cons_succ]
        refine upto_takeN (i := 2) (v := ?_) rfl (by kernel_rfl) (by kernel_rfl) (by kernel_rfl) (by kernel_rfl) (fun _ _ _ h => h) (by rfl) hS ?_ ?_
        rotate_left
        · intro wS hSw
          try dsimp only at hSw
          first | (go_simp; done) | (go_simp; with_reducible rfl)
        try simp only [Act.put, List.getElem_toArray, List.getElem_cons_zero, List.getElem_cons_succ, List.setIfInBounds_toArray, List.set_cons_zero, List.set_cons_succ]
        refine upto_takeN (i := 3) (v := ?_) rfl (by kernel_rfl) (by kernel_rfl) (by kernel_rfl) (by kernel_rfl) (fun _ _ _ h => h) (by rfl) hS ?_ ?_
        rotate_left
        · intro wS hSw
          try dsimp only at hSw
          first | (go_simp; done) | (go_simp; with_reducible rfl)
        try simp only [Act.put, List.getElem_toArray, List.getElem_cons_zero, List.getElem_cons_succ, List.setIfInBounds_toArray, List.set_cons_zero, List.set_cons_succ]
        refine upto_step (i := 4) (by kernel_rfl) rfl ?_
        intro K hK
        go_simp
        refine (HB.out _ (by (repeat (first | exact Below.refl _ _ | assumption | refine Below.drew ?_ | refine balloc ?_ _ | refine bset ?_ (by simp; omega) _ | refine bset ?_ (by simp) _ | refine bstep ?_ (by assumption))))).mono ?_
        rintro e w1 ⟨rfl, hb1⟩
        have hS1 : (fun W => Below wq.heap.size wq W ∧ W.cell? ⟨wr.heap.size, 0, none⟩ = some (.int .i64 xc) ∧ W.cell? ⟨wr.heap.size, 1, none⟩ = some (.int .i64 xn) ∧ W.cell? ⟨wr.heap.size, 2, none⟩ = some (.slice p m q)) w1 := ⟨bstep hS.1 hb1, cell_keep hb1 hS.2.1, cell_keep hb1 hS.2.2.1, cell_keep hb1 hS.2.2.2⟩
        have hB1 : Below w.heap.size w w1 := bstep (by (repeat (first | exact Below.refl _ _ | assumption | refine Below.drew ?_ | refine balloc ?_ _ | refine bset ?_ (by simp; omega) _ | refine bset ?_ (by simp) _ | refine bstep ?_ (by assumption)))) hb1
        refine hK _ _ (fun _ => hS1) ?_
        clear hK K
        try simp only [Act.put, List.getElem_toArray, List.getElem_cons_zero, List.getElem_cons_succ, List.setIfInBounds_toArray, List.set_cons_zero, List.set_cons_succ]
        refine upto_takeN (i := 5) (v := ?_) rfl (by kernel_rfl) (by kernel_rfl) (by kernel_rfl) (by kernel_rfl) (fun _ _ _ h => h) (by rfl) hS1 ?_ ?_
        rotate_left
        · intro wS hSw
          try dsimp only at hSw
          first | (go_simp; done) | (go_simp; with_reducible rfl)
        try simp only [Act.put, List.getElem_toArray, List.getElem_cons_zero, List.getElem_cons_succ, List.setIfInBounds_toArray, List.set_cons_zero, List.set_cons_succ]
        refine upto_takeN (i := 6) (v := (.bool true)) rfl (by kernel_rfl) (by kernel_rfl) (by kernel_rfl) (by kernel_rfl) (fun _ _ _ h => h) (by rfl) hS1 ?_ ?_
        · intro wS hSw
          try dsimp only at hSw
          go_simp
        try simp only [Act.put, List.getElem_toArray, List.getElem_cons_zero, List.getElem_cons_succ, List.setIfInBounds_toArray, List.set_cons_zero, List.set_cons_succ]
        refine upto_skipN (i := 7) rfl (by kernel_rfl) (by kernel_rfl) (by kernel_rfl) (by kernel_rfl) (fun _ _ _ h => h) (by rfl) hS1 (fun q7 => ?_)
        try simp only [Act.put, List.getElem_toArray, List.getElem_cons_zero, List.getElem_cons_succ, List.setIfInBounds_toArray, List.set_cons_zero, List.set_cons_succ]
        refine upto_skipN (i := 8) rfl (by kernel_rfl) (by kernel_rfl) (by kernel_rfl) (by kernel_rfl) (fun _ _ _ h => h) (by rfl) hS1 (fun q8 => ?_)
        try simp only [Act.put, List.getElem_toArray, List.getElem_cons_zero, List.getElem_cons_succ, List.setIfInBounds_toArray, List.set_cons_zero, List.set_cons_succ]
        refine upto_skipN (i := 9) rfl (by kernel_rfl) (by kernel_rfl) (by kernel_rfl) (by kernel_rfl) (fun _ _ _ h => h) (by rfl) hS1 (fun q9 => ?_)
        try simp only [Act.put, List.getElem_toArray, List.getElem_cons_zero, List.getElem_cons_succ, List.setIfInBounds_toArray, List.set_cons_zero, List.set_cons_succ]
        refine upto_takeN (i := 10) (v := ?_) rfl (by kernel_rfl) (by kernel_rfl) (by kernel_rfl) (by kernel_rfl) (fun _ _ _ h => h) (by rfl) hS1 ?_ ?_
        rotate_left
        · intro wS hSw
          try dsimp only at hSw
          first | (go_simp; done) | (go_simp; with_reducible rfl)
        try simp only [Act.put, List.getElem_toArray, List.getElem_cons_zero, List.getElem_cons_succ, List.setIfInBounds_toArray, List.set_cons_zero, List.set_cons_succ]
        refine upto_done (by kernel_rfl) ?_
        refine NoPanic.normal ?_
        go_wp2
        go_ret
        exact ⟨by rw [HC.out]; rfl, hB1⟩
      · have HK : Hid (k = 0 ∨ z < xc) := by
          rw [Bool.or_eq_true, decide_eq_true_eq, decide_eq_true_eq, cmpSn_neg] at hb1
          exact hb1
        rw [hb1] at HB
        clear hb1
        cases hs : sentB ⟨xc, xn, xs⟩
        all_goals
          rw [hs] at HSA
          refine wp_region_noPanic ?_
          refine region_upto (fun W => Below wq.heap.size wq W ∧ W.cell? ⟨wr.heap.size, 0, none⟩ = some (.int .i64 xc) ∧ W.cell? ⟨wr.heap.size, 1, none⟩ = some (.int .i64 xn) ∧ W.cell? ⟨wr.heap.size, 2, none⟩ = some (.slice p m q)) 11 (by kernel_rfl) ⟨by (repeat (first | exact Below.refl _ _ | assumption | refine Below.drew ?_ | refine balloc ?_ _ | refine bset ?_ (by simp; omega) _ | refine bset ?_ (by simp) _ | refine bstep ?_ (by assumption))), y0, y1, y2⟩ (fun hS => ?_)
          refine upto_takeN (i := 0) (v := ?_) rfl (by kernel_rfl) (by kernel_rfl) (by kernel_rfl) (by kernel_rfl) (fun _ _ _ h => h) (by rfl) hS ?_ ?_
          rotate_left
          · intro wS hSw
            try dsimp only at hSw
            first | (go_simp; done) | (go_simp; with_reducible rfl)
          try simp only [Act.put, List.getElem_toArray, List.getElem_cons_zero, List.getElem_cons_succ, List.setIfInBounds_toArray, List.set_cons_zero, List.set_cons_succ]
          refine upto_takeN (i := 1) (v := ?_) rfl (by kernel_rfl) (by kernel_rfl) (by kernel_rfl) (by kernel_rfl) (fun _ _ _ h => h) (by rfl) hS ?_ ?_
          rotate_left
          · intro wS hSw
            try dsimp only at hSw
            first | (go_simp; done) | (go_simp; with_reducible rfl)
          try simp only [Act.put, List.getElem_toArray, List.getElem_cons_zero, List.getElem_cons_succ, List.setIfInBounds_toArray, List.set_cons_zero, List.set_cons_succ]
          refine upto_takeN (i := 2) (v := ?_) rfl (by kernel_rfl) (by kernel_rfl) (by kernel_rfl) (by kernel_rfl) (fun _ _ _ h => h) (by rfl) hS ?_ ?_
          rotate_left
          · intro wS hSw
            try dsimp only at hSw
            first | (go_simp; done) | (go_simp; with_reducible rfl)
          try simp only [Act.put, List.getElem_toArray, List.getElem_cons_zero, List.getElem_cons_succ, List.setIfInBounds_toArray, List.set_cons_zero, List.set_cons_succ]
          refine upto_takeN (i := 3) (v := ?_) rfl (by kernel_rfl) (by kernel_rfl) (by kernel_rfl) (by kernel_rfl) (fun _ _ _ h => h) (by rfl) hS ?_ ?_
          rotate_left
          · intro wS hSw
            try dsimp only at hSw
            first | (go_simp; done) | (go_simp; with_reducible rfl)
          try simp only [Act.put, List.getElem_toArray, List.getElem_cons_zero, List.getElem_cons_succ, List.setIfInBounds_toArray, List.set_cons_zero, List.set_cons_succ]
          refine upto_step (i := 4) (by kernel_rfl) rfl ?_
          intro K hK
          go_simp
          refine (HB.out _ (by (repeat (first | exact Below.refl _ _ | assumption | refine Below.drew ?_ | refine balloc ?_ _ | refine bset ?_ (by simp; omega) _ | refine bset ?_ (by simp) _ | refine bstep ?_ (by assumption))))).mono ?_
          rintro e w1 ⟨rfl, hb1⟩
          have hS1 : (fun W => Below wq.heap.size wq W ∧ W.cell? ⟨wr.heap.size, 0, none⟩ = some (.int .i64 xc) ∧ W.cell? ⟨wr.heap.size, 1, none⟩ = some (.int .i64 xn) ∧ W.cell? ⟨wr.heap.size, 2, none⟩ = some (.slice p m q)) w1 := ⟨bstep hS.1 hb1, cell_keep hb1 hS.2.1, cell_keep hb1 hS.2.2.1, cell_keep hb1 hS.2.2.2⟩
          have hB1 : Below w.heap.size w w1 := bstep (by (repeat (first | exact Below.refl _ _ | assumption | refine Below.drew ?_ | refine balloc ?_ _ | refine bset ?_ (by simp; omega) _ | refine bset ?_ (by simp) _ | refine bstep ?_ (by assumption)))) hb1
          refine hK _ _ (fun _ => hS1) ?_
          clear hK K
          try simp only [Act.put, List.getElem_toArray, List.getElem_cons_zero, List.getElem_cons_succ, List.setIfInBounds_toArray, List.set_cons_zero, List.set_cons_succ]
          refine upto_takeN (i := 5) (v := ?_) rfl (by kernel_rfl) (by kernel_rfl) (by kernel_rfl) (by kernel_rfl) (fun _ _ _ h => h) (by rfl) hS1 ?_ ?_
          rotate_left
          · intro wS hSw
            try dsimp only at hSw
            first | (go_simp; done) | (go_simp; with_reducible rfl)
          try simp only [Act.put, List.getElem_toArray, List.getElem_cons_zero, List.getElem_cons_succ, List.setIfInBounds_toArray, List.set_cons_zero, List.set_cons_succ]
          refine upto_takeN (i := 6) (v := (.bool false)) rfl (by kernel_rfl) (by kernel_rfl) (by kernel_rfl) (by kernel_rfl) (fun _ _ _ h => h) (by rfl) hS1 ?_ ?_
          · intro wS hSw
            try dsimp only at hSw
            go_simp
          try simp only [Act.put, List.getElem_toArray, List.getElem_cons_zero, List.getElem_cons_succ, List.setIfInBounds_toArray, List.set_cons_zero, List.set_cons_succ]
          refine upto_takeN (i := 7) (v := ?_) rfl (by kernel_rfl) (by kernel_rfl) (by kernel_rfl) (by kernel_rfl) (fun _ _ _ h => h) (by rfl) hS1 ?_ ?_
          rotate_left
          · intro wS hSw
            try dsimp only at hSw
            first | (go_simp; done) | (go_simp; with_reducible rfl)
          try simp only [Act.put, List.getElem_toArray, List.getElem_cons_zero, List.getElem_cons_succ, List.setIfInBounds_toArray, List.set_cons_zero, List.set_cons_succ]
          refine upto_step (i := 8) (by kernel_rfl) rfl ?_
          intro K hK
          go_simp
          refine (HSA.out _ hB1).mono ?_
          rintro e w2 ⟨rfl, hb2⟩
          have hS2 : (fun W => Below wq.heap.size wq W ∧ W.cell? ⟨wr.heap.size, 0, none⟩ = some (.int .i64 xc) ∧ W.cell? ⟨wr.heap.size, 1, none⟩ = some (.int .i64 xn) ∧ W.cell? ⟨wr.heap.size, 2, none⟩ = some (.slice p m q)) w2 := ⟨bstep hS1.1 hb2, cell_keep hb2 hS1.2.1, cell_keep hb2 hS1.2.2.1, cell_keep hb2 hS1.2.2.2⟩
          refine hK _ _ (fun _ => hS2) ?_
          clear hK K
          replace hB1 : Below w.heap.size w w2 := bstep hB1 hb2
          try simp only [Act.put, List.getElem_toArray, List.getElem_cons_zero, List.getElem_cons_succ, List.setIfInBounds_toArray, List.set_cons_zero, List.set_cons_succ]
          refine upto_takeN (i := 9) (v := ?_) rfl (by kernel_rfl) (by kernel_rfl) (by kernel_rfl) (by kernel_rfl) (fun _ _ _ h => h) (by rfl) hS2 ?_ ?_
          rotate_left
          · intro wS hSw
            try dsimp only at hSw
            first | (go_simp; done) | (go_simp; with_reducible rfl)
          try simp only [Act.put, List.getElem_toArray, List.getElem_cons_zero, List.getElem_cons_succ, List.setIfInBounds_toArray, List.set_cons_zero, List.set_cons_succ]
          refine upto_takeN (i := 10) (v := ?_) rfl (by kernel_rfl) (by kernel_rfl) (by kernel_rfl) (by kernel_rfl) (fun _ _ _ h => h) (by rfl) hS2 ?_ ?_
          rotate_left
          · intro wS hSw
            try dsimp only at hSw
            first | (go_simp; done) | (go_simp; with_reducible rfl)
          try simp only [Act.put, List.getElem_toArray, List.getElem_cons_zero, List.getElem_cons_succ, List.setIfInBounds_toArray, List.set_cons_zero, List.set_cons_succ]
        · have HC : Hid (sesF l = 1) := HF2.out (fun h => by have := h.2; rw [hs] at this; cases this)
          clear HF2 HO2
          refine upto_done (by kernel_rfl) ?_
          refine NoPanic.normal ?_
          go_wp2
          go_ret
          exact ⟨by rw [HC.out]; rfl, hB1⟩
        · have HZ : Hid (scanI (sesAt l) (k + 1) = 0) := HO2.out ⟨HK.out, hs⟩
          clear HF2 HO2
          refine upto_done (by kernel_rfl) ?_
          refine NoPanic.normal ?_
          go_wp2
          exact ⟨⟨k + 1, by omega, by go_num, HZ, hB1⟩, by simp [intOf]; omega⟩
    · have hkn : k = n := by omega
      subst hkn
      have HC : Hid (sesF l = 0) := HE.out HS.out
      go_wp2
      go_ret
      exact ⟨by rw [HC.out]; rfl, by (repeat (first | exact Below.refl _ _ | assumption | refine Below.drew ?_ | refine balloc ?_ _ | refine bset ?_ (by simp; omega) _ | refine bset ?_ (by simp) _ | refine bstep ?_ (by assumption)))⟩
end Go.Proofs.Ytjemciikdijokaa

/-
  OpenSession, the program's.
-/
set_option linter.unusedVariables false
set_option linter.unusedSimpArgs false
namespace Go.Proofs.Ytjemciikdijokaa
open Go.RowKit
set_option linter.unusedSectionVars false
variable [DecidableEq Leg] [Inhabited Leg] [DecidableEq Ses] [Inhabited Ses] [DecidableEq Cont] [Inhabited Cont] [DecidableEq Bal] [Inhabited Bal] [DecidableEq Mrk] [Inhabited Mrk] [DecidableEq Shd] [Inhabited Shd] [DecidableEq Vot] [Inhabited Vot] [DecidableEq Slt] [Inhabited Slt] [DecidableEq Acc] [Inhabited Acc] [DecidableEq Trr] [Inhabited Trr] [DecidableEq Hrd] [Inhabited Hrd] [DecidableEq Ldr] [Inhabited Ldr] [DecidableEq Msg] [Inhabited Msg] [DecidableEq Clu] [Inhabited Clu] [DecidableEq SesR] [Inhabited SesR] [DecidableEq Ledg] [Inhabited Ledg]
attribute [local go_sem ↓] Go.wp_at_zero Go.wp_at_succ

set_option maxRecDepth 20000 in
set_option maxHeartbeats 16000000 in
theorem implOpenS_u (x : Value) (l : List Ses) (c : Int) (w : World) (hx : sessR.V w x l) :
    Calls Try.prog 12 #[x, .int .i64 c] w fun e w' => ∃ v F, e = .returned v ∧ sesRR.O w' w.heap.size F v (openD l c) ∧ Below w.heap.size w w' := by
  have HFt : Hid (∀ W, Below w.heap.size w W → Calls Try.prog 9 #[x] W fun e w' => e = .returned (.int .i64 (sesF l)) ∧ Below W.heap.size W w') := fun W hW => implSesF_any x l W (sessR.below hx hW)
  have HCp : Hid (SesOk l → ∀ W, Below w.heap.size w W → Calls Try.prog 31 #[x, .func (.func 32) #[] #[]] W fun e w' => ∃ v F, e = .returned v ∧ sessR.O w' W.heap.size F v l ∧ Below W.heap.size W w') := fun hok W hW => copEachZ_u x l W (sessR.below hx hW) (Nat.le_trans hok.len (by omega)) (fun k hk => Nat.le_trans (hok.sent k hk) (by omega))
  have HFd : Hid (SesOk l → ∀ W, Below w.heap.size w W → Calls Try.prog 33 #[x, .int .i64 c] W fun e w' => e = .returned (.tuple #[.int .i64 (posZ c l : Nat), .bool (hasZ c l)]) ∧ Below W.heap.size W w') := fun hok W hW => sesPlace_any x l c W (sessR.below hx hW) hok
  have HE0 : Hid (¬ sesF l = 0 → openD l c = errZ (sesF l)) := fun h => by show _ = _; unfold openD; rw [if_neg h]
  have HE3 : Hid (sesF l = 0 → inB c 1 999 = false → openD l c = errZ 3) := fun h h1 => by show _ = _; unfold openD; rw [if_pos h, if_neg (by rw [h1]; simp)]
  have HEs : Hid (sesF l = 0 → inB c 1 999 = true → hasZ c l = true → openD l c = ⟨0, 0, l, cluZ⟩) := fun h h1 h2 => by show _ = _; unfold openD; rw [if_pos h, if_pos h1, if_pos h2]
  have HE2 : Hid (sesF l = 0 → inB c 1 999 = true → hasZ c l = false → l.length = 10 → openD l c = errZ 2) := fun h h1 h2 h3 => by show _ = _; unfold openD; rw [if_pos h, if_pos h1, if_neg (by rw [h2]; simp), if_pos h3]
  have HEp : Hid (sesF l = 0 → inB c 1 999 = true → hasZ c l = false → ¬ l.length = 10 → openD l c = ⟨0, 0, putZ c l, cluZ⟩) := fun h h1 h2 h3 => by show _ = _; unfold openD; rw [if_pos h, if_pos h1, if_neg (by rw [h2]; simp), if_neg h3]
  have HOk : Hid (sesF l = 0 → SesOk l) := sesOk_of
  generalize openD l c = Z at *
  obtain ⟨ax, cx, rfl⟩ := sess_form hx
  clear hx
  go_enter Try.func12, Try.ntmps12
  go_wp2_with fail
  refine (HFt.out _ (by (repeat (first | exact Below.refl _ _ | assumption | refine Below.drew ?_ | refine balloc ?_ _ | refine bset ?_ (by simp; omega) _ | refine bset ?_ (by simp) _ | refine bstep ?_ (by assumption))))).mono ?_
  rintro e w1 ⟨rfl, hb1⟩
  have r0 : w1.cell? ⟨w.heap.size, 0, none⟩ = some (.int .i64 0) := cell_keep hb1 (by simp [go_sem])
  have r1 : w1.cell? ⟨w.heap.size, 1, none⟩ = some (.int .i64 0) := cell_keep hb1 (by simp [go_sem])
  have r2 : w1.cell? ⟨w.heap.size, 2, none⟩ = some (.slice none 0 0) := cell_keep hb1 (by simp [go_sem])
  have r3 : w1.cell? ⟨w.heap.size, 3, none⟩ = some (.slice none 0 0) := cell_keep hb1 (by simp [go_sem])
  have r4 : w1.cell? ⟨w.heap.size, 4, none⟩ = some (.slice none 0 0) := cell_keep hb1 (by simp [go_sem])
  have r5 : w1.cell? ⟨w.heap.size, 5, none⟩ = some (.slice none 0 0) := cell_keep hb1 (by simp [go_sem])
  have r6 : w1.cell? ⟨w.heap.size, 6, none⟩ = some (.slice none 0 0) := cell_keep hb1 (by simp [go_sem])
  have r7 : w1.cell? ⟨w.heap.size, 7, none⟩ = some (.slice none 0 0) := cell_keep hb1 (by simp [go_sem])
  have rf : ∀ o, w1.frozen? ⟨w.heap.size, o, none⟩ = false := fun o => by rw [(bcell hb1).2 _ _ (by simp)]; simp [go_sem]
  have hz1 := hb1.size
  simp only [World.size_alloc] at hz1
  have hB1 : Below w.heap.size w w1 := bstep (by (repeat (first | exact Below.refl _ _ | assumption | refine Below.drew ?_ | refine balloc ?_ _ | refine bset ?_ (by simp; omega) _ | refine bset ?_ (by simp) _ | refine bstep ?_ (by assumption)))) hb1
  clear hb1 HFt
  by_cases h0 : sesF l = 0
  · have hok := HOk.out h0
    have HCq := HCp.out hok
    have HFe := HFd.out hok
    have hl10 := hok.len
    have HOk2 : Hid (SesOk l) := hok
    have HCp2 : Hid (∀ W, Below w.heap.size w W → Calls Try.prog 31 #[.slice ax l.length cx, .func (.func 32) #[] #[]] W fun e w' => ∃ v F, e = .returned v ∧ sessR.O w' W.heap.size F v l ∧ Below W.heap.size W w') := HCq
    have HFd2 : Hid (∀ W, Below w.heap.size w W → Calls Try.prog 33 #[.slice ax l.length cx, .int .i64 c] W fun e w' => e = .returned (.tuple #[.int .i64 (posZ c l : Nat), .bool (hasZ c l)]) ∧ Below W.heap.size W w') := HFe
    have HE3a := HE3.out h0
    have HEsa := HEs.out h0
    have HE2a := HE2.out h0
    have HEpa := HEp.out h0
    have HE3 : Hid (inB c 1 999 = false → Z = errZ 3) := HE3a
    have HEs : Hid (inB c 1 999 = true → hasZ c l = true → Z = ⟨0, 0, l, cluZ⟩) := HEsa
    have HE2 : Hid (inB c 1 999 = true → hasZ c l = false → l.length = 10 → Z = errZ 2) := HE2a
    have HEp : Hid (inB c 1 999 = true → hasZ c l = false → ¬ l.length = 10 → Z = ⟨0, 0, putZ c l, cluZ⟩) := HEpa
    rw [h0]
    clear h0 hok HCq HFe HE3a HEsa HE2a HEpa HE0 HOk HCp HFd
    cases h1 : inB c 1 999
    · have HC : Hid (Z = errZ 3) := HE3.out h1
      clear HE3 HEs HE2 HEp
      go_wp2_with (first | (go_at_call 23; refine (isClient_any _ _).mono ?_; rintro e w' ⟨rfl, hw⟩; obtain rfl := hw.symm) | fail)
      refine bodyPost_ret (v := .agg #[.int .i64 3, .int .i64 0, .slice none 0 0, .slice none 0 0, .slice none 0 0, .slice none 0 0, .slice none 0 0, .slice none 0 0]) (by simp [results, Try.results12, go_sem, r0, r1, r2, r3, r4, r5, r6, r7, rf]) rfl (sesR_err 3 HC.out (by (repeat (first | refine bset ?_ (by simp; omega) _ | refine bset ?_ (by simp) _ | refine balloc ?_ _ | assumption))))
    · have HEs2 : Hid (hasZ c l = true → Z = ⟨0, 0, l, cluZ⟩) := HEs.out h1
      have HE22 : Hid (hasZ c l = false → l.length = 10 → Z = errZ 2) := HE2.out h1
      have HEp2 : Hid (hasZ c l = false → ¬ l.length = 10 → Z = ⟨0, 0, putZ c l, cluZ⟩) := HEp.out h1
      clear HE3 HEs HE2 HEp
      obtain ⟨n, hn'⟩ : ∃ n, n = l.length := ⟨_, rfl⟩
      have HN : Hid (l.length = n) := hn'.symm
      rw [← hn'] at hl10 HCp2 HFd2 HE22 HEp2 ⊢
      clear hn'
      go_wp2_with (first | (go_at_call 23; refine (isClient_any _ _).mono ?_; rintro e w' ⟨rfl, hw⟩; obtain rfl := hw.symm) | fail)
      refine (HCp2.out _ (by (repeat (first | exact Below.refl _ _ | assumption | refine Below.drew ?_ | refine balloc ?_ _ | refine bset ?_ (by simp; omega) _ | refine bset ?_ (by simp) _ | refine bstep ?_ (by assumption))))).mono ?_
      rintro e w2 ⟨v2, F2, rfl, o2, hb2⟩
      obtain ⟨a2, c2, e2⟩ := sess_form (sessR.ofO o2)
      rw [HN.out] at e2
      subst e2
      have HO2 : Hid (sessR.O w2 w1.heap.size F2 (.slice a2 n c2) l) := o2
      have hB2 : Below w.heap.size w w2 := bstep hB1 hb2
      have hz2 := hb2.size
      replace r0 := cell_keep hb2 r0
      replace r1 := cell_keep hb2 r1
      replace r2 := cell_keep hb2 r2
      replace r3 := cell_keep hb2 r3
      replace r4 := cell_keep hb2 r4
      replace r5 := cell_keep hb2 r5
      replace r6 := cell_keep hb2 r6
      replace r7 := cell_keep hb2 r7
      replace rf : ∀ o, w2.frozen? ⟨w.heap.size, o, none⟩ = false := fun o => by rw [(bcell hb2).2 _ _ (by omega)]; exact rf o
      clear o2 hb2 HCp2 hB1
      go_wp2_with fail
      refine (HFd2.out _ (by (repeat (first | exact Below.refl _ _ | assumption | refine Below.drew ?_ | refine balloc ?_ _ | refine bset ?_ (by simp; omega) _ | refine bset ?_ (by simp) _ | refine bstep ?_ (by assumption))))).mono ?_
      rintro e w3 ⟨rfl, hb3⟩
      have hz3 := hb3.size
      have HO3 : Hid (sessR.O w3 w1.heap.size F2 (.slice a2 n c2) l) := sessR.keep HO2.out hb3
      have HF3 : Hid (∀ b, F2 b → w1.heap.size ≤ b ∧ b < w2.heap.size) := fun b hb => sessR.rng HO2.out b hb
      have hB3 : Below w.heap.size w w3 := bstep hB2 hb3
      replace r0 := cell_keep hb3 r0
      replace r1 := cell_keep hb3 r1
      replace r2 := cell_keep hb3 r2
      replace r3 := cell_keep hb3 r3
      replace r4 := cell_keep hb3 r4
      replace r5 := cell_keep hb3 r5
      replace r6 := cell_keep hb3 r6
      replace r7 := cell_keep hb3 r7
      replace rf : ∀ o, w3.frozen? ⟨w.heap.size, o, none⟩ = false := fun o => by rw [(bcell hb3).2 _ _ (by omega)]; exact rf o
      clear hb3 HFd2 HO2 hB2
      cases hh : hasZ c l
      · by_cases hten : n = 10
        · have HC : Hid (Z = errZ 2) := HE22.out hh hten
          have ht1 : ((n : Int) == 10) = true := by simp [hten]
          clear HEs2 HE22 HEp2
          go_wp2
          refine bodyPost_ret (v := .agg #[.int .i64 2, .int .i64 0, .slice none 0 0, .slice none 0 0, .slice none 0 0, .slice none 0 0, .slice none 0 0, .slice none 0 0]) (by simp [results, Try.results12, go_sem, r0, r1, r2, r3, r4, r5, r6, r7, rf]) rfl (sesR_err 2 HC.out (by (repeat (first | refine bset ?_ (by simp; omega) _ | refine bset ?_ (by simp) _ | refine balloc ?_ _ | assumption))))
        · have HC : Hid (Z = ⟨0, 0, putZ c l, cluZ⟩) := HEp2.out hh hten
          have ht1 : ((n : Int) == 10) = false := by rw [beq_eq_false_iff_ne]; omega
          have ht2 : ¬ (n : Int) = 10 := by omega
          have hpl := posZ_le c l
          rw [HN.out] at hpl
          have HPu : Hid (putZ c l = l.take (posZ c l) ++ [⟨c, 1, []⟩] ++ l.drop (posZ c l)) := rfl
          have HIns : Hid (∀ W vb, Below w3.heap.size w3 W → w3.heap.size ≤ vb → W.heap[vb]? = some (.cells #[.int .i64 c, .int .i64 1, .slice none 0 0] 52 (0, 0)) → Calls Try.prog 34 #[.slice a2 n c2, .int .i64 (posZ c l : Nat), .slice (some ⟨vb, 0, none⟩) 1 1] W fun e w' => ∃ v' F', e = .returned v' ∧ sessR.O w' w1.heap.size F' v' (putZ c l) ∧ Mod (fun b => (Value.slice a2 n c2).ownBlock = some b) W w' ∧ (∀ b, F' b → F2 b ∨ W.heap.size ≤ b)) := fun W vb hW hvb hh => by
            have hown := sessR.keep HO3.out hW
            refine (insertZ_any w1.heap.size (.slice a2 n c2) (posZ c l) vb l _ ⟨c, 1, []⟩ F2 _ W hown (by rw [HN.out]; exact hpl) (by rw [HN.out]; omega) (by have := hW.size; omega) (new_ses W w1.heap.size c) (fun b _ h => noBlkZ h) hh (fun e => by
              obtain ⟨cs, us, fs, hp, _⟩ := HO3.out
              have := (hp.row.lt vb e).2
              omega)).mono ?_
            rintro e w' ⟨v', F', rfl, h1, h2, h3⟩
            refine ⟨v', F', rfl, ?_, h2, fun b hb => ?_⟩
            · rw [HPu.out]; exact h1
            · rcases h3 b hb with h | h | h
              · exact .inl h
              · exact (noBlkZ h).elim
              · exact .inr h
          have HBk : Hid (∀ b, (Value.slice a2 n c2).ownBlock = some b → w1.heap.size ≤ b) := fun b hb => by
            obtain ⟨cs, us, fs, hp, _⟩ := HO3.out
            exact (hp.row.lt b hb).1
          clear HEs2 HE22 HEp2 HO3 HPu
          generalize posZ c l = P at *
          go_wp2_with fail
          refine (HIns.out _ _ (by (repeat (first | exact Below.refl _ _ | assumption | refine Below.drew ?_ | refine balloc ?_ _ | refine bset ?_ (by simp; omega) _ | refine bset ?_ (by simp) _ | refine bstep ?_ (by assumption)))) (Nat.le_refl _) (heap_newZ _ _)).mono ?_
          rintro e w4 ⟨v4, F4, rfl, o4, hm4, hF4⟩
          obtain ⟨a4, c4, rfl⟩ := sess_form (sessR.ofO o4)
          have hb4 := hm4.size
          simp only [World.size_alloc] at hb4
          have hB4 : Below w.heap.size w w4 := hm4.below (balloc hB3 _) (by simp; omega) (fun b hb => by have := HBk.out b hb; omega)
          replace r0 : w4.cell? ⟨w.heap.size, 0, none⟩ = some (.int .i64 0) := hm4.cell (cell_keep (balloc (Below.refl _ _) _) r0) (fun e => by have := HBk.out _ e; dsimp only at this; omega)
          replace r1 : w4.cell? ⟨w.heap.size, 1, none⟩ = some (.int .i64 0) := hm4.cell (cell_keep (balloc (Below.refl _ _) _) r1) (fun e => by have := HBk.out _ e; dsimp only at this; omega)
          replace r2 : w4.cell? ⟨w.heap.size, 2, none⟩ = some (.slice none 0 0) := hm4.cell (cell_keep (balloc (Below.refl _ _) _) r2) (fun e => by have := HBk.out _ e; dsimp only at this; omega)
          replace r3 : w4.cell? ⟨w.heap.size, 3, none⟩ = some (.slice none 0 0) := hm4.cell (cell_keep (balloc (Below.refl _ _) _) r3) (fun e => by have := HBk.out _ e; dsimp only at this; omega)
          replace r4 : w4.cell? ⟨w.heap.size, 4, none⟩ = some (.slice none 0 0) := hm4.cell (cell_keep (balloc (Below.refl _ _) _) r4) (fun e => by have := HBk.out _ e; dsimp only at this; omega)
          replace r5 : w4.cell? ⟨w.heap.size, 5, none⟩ = some (.slice none 0 0) := hm4.cell (cell_keep (balloc (Below.refl _ _) _) r5) (fun e => by have := HBk.out _ e; dsimp only at this; omega)
          replace r6 : w4.cell? ⟨w.heap.size, 6, none⟩ = some (.slice none 0 0) := hm4.cell (cell_keep (balloc (Below.refl _ _) _) r6) (fun e => by have := HBk.out _ e; dsimp only at this; omega)
          replace r7 : w4.cell? ⟨w.heap.size, 7, none⟩ = some (.slice none 0 0) := hm4.cell (cell_keep (balloc (Below.refl _ _) _) r7) (fun e => by have := HBk.out _ e; dsimp only at this; omega)
          replace rf : ∀ o, w4.frozen? ⟨w.heap.size, o, none⟩ = false := fun o => by
            rw [hm4.iceZ (by simp; omega) (fun e => by have := HBk.out _ e; omega)]
            rw [(bcell (balloc (Below.refl _ _) _)).2 _ _ (by omega)]
            exact rf o
          have HO4 : Hid (sessR.O w4 w1.heap.size F4 (.slice a4 (putZ c l).length c4) (putZ c l)) := o4
          have HF5 : Hid (∀ b, F4 b → w.heap.size < b) := fun b hb => by
            rcases hF4 b hb with h | h
            · have := HF3.out b h; omega
            · simp only [World.size_alloc] at h; omega
          clear o4 hm4 hF4 HIns HBk
          go_wp2
          refine bodyPost_ret (v := .agg #[.int .i64 0, .int .i64 0, .slice a4 (putZ c l).length c4, .slice none 0 0, .slice none 0 0, .slice none 0 0, .slice none 0 0, .slice none 0 0]) (by simp [results, Try.results12, go_sem, r0, r1, r2, r3, r4, r5, r6, r7, rf]) rfl (sesR_ret HC.out (setZ8 _ (sessR.base HO4.out (by omega)) (fun hb => by have := HF5.out _ hb; omega) _ _ _ _ _ _ _ _) (by (repeat (first | refine bset ?_ (by simp; omega) _ | refine bset ?_ (by simp) _ | refine balloc ?_ _ | assumption))))
      · have HC : Hid (Z = ⟨0, 0, l, cluZ⟩) := HEs2.out hh
        clear HEs2 HE22 HEp2
        go_wp2
        refine bodyPost_ret (v := .agg #[.int .i64 0, .int .i64 0, .slice a2 n c2, .slice none 0 0, .slice none 0 0, .slice none 0 0, .slice none 0 0, .slice none 0 0]) (by simp [results, Try.results12, go_sem, r0, r1, r2, r3, r4, r5, r6, r7, rf]) rfl (sesR_ret HC.out (setZ8 _ (sessR.base HO3.out (by omega)) (fun hb => by have := HF3.out _ hb; omega) _ _ _ _ _ _ _ _) (by (repeat (first | refine bset ?_ (by simp; omega) _ | refine bset ?_ (by simp) _ | refine balloc ?_ _ | assumption))))
  · have HC : Hid (Z = errZ (sesF l)) := HE0.out h0
    clear HE0 HE3 HEs HE2 HEp HOk HCp HFd
    generalize sesF l = k at *
    have h0' : (k != 0) = true := bne_iff_ne.2 h0
    go_wp2
    refine bodyPost_ret (v := .agg #[.int .i64 k, .int .i64 0, .slice none 0 0, .slice none 0 0, .slice none 0 0, .slice none 0 0, .slice none 0 0, .slice none 0 0]) (by simp [results, Try.results12, go_sem, r0, r1, r2, r3, r4, r5, r6, r7, rf]) rfl (sesR_err k HC.out (by (repeat (first | refine bset ?_ (by simp; omega) _ | refine bset ?_ (by simp) _ | refine balloc ?_ _ | assumption))))
end Go.Proofs.Ytjemciikdijokaa

/-
  What is handed in, read as data, is data in memory: rows and structs of rows.
-/
namespace Go.Proofs.Ytjemciikdijokaa
open Go.ChangeShapes Go.WideShapes Go.ChangeAt Go.RowKit Go.Joins

theorem spot_none {W : World} {base k : Nat} {a : Addr} {cs : List Value} (hk : 0 < k) (hc : W.cells? base a k = some cs) : a.spot = none := by
  obtain ⟨hb, hl, hcell⟩ := World.cells?_some hc
  have q0 := hcell 0 hk
  obtain ⟨b, o, s⟩ := a
  cases s with
  | none => rfl
  | some s =>
    have : 0 < cs.length := by omega
    simp [Addr.add, World.cell?, this] at q0
    split at q0 <;> simp at q0
theorem add_plain (b o i : Nat) : (Addr.mk b o none).add i = ⟨b, o + i, none⟩ := by
  by_cases h : i = 0
  · subst h; simp [Addr.add]
  · simp [Addr.add, h]
theorem openRow {H : Type} {enc : TypeId × Value → H} {W : World} {sp : Nat → Bool} {held : Bool} {n : Nat} {v : Value} {y : DataW H × List MemPlace} {t e size : Nat} {α : Type} [Inhabited α] {q : List Value → α → Prop}
    (ht : Try.prog.underlying t = some (.slice e)) (hz : Try.prog.cellsOf e = size) (hs : 0 < size)
    (hq : ∀ n cs y, DataW.trod enc Try.prog W 0 sp held n e cs = some y → cs.length = size → ∃ x, q cs x) (h : DataW.trod enc Try.prog W 0 sp held n t [v] = some y) :
    ∃ (a : Option Addr) (cap : Nat) (xs : List α) (cs : Nat → List Value), v = .slice a xs.length cap ∧ xs.length ≤ cap ∧ cap ≤ maxLen ∧ ∀ i, i < xs.length → q (cs i) (xs.getD i default) ∧ (cs i).length = size ∧ ∃ b o, a = some ⟨b, o, none⟩ ∧ ∀ j, j < size → W.cell? ⟨b, o + i * size + j, none⟩ = (cs i)[j]? := by
  rcases Go.Deep.open_slice ht h with ⟨hcs, _⟩ | ⟨a, len, cap, m, n', D, Pl, hcs, hb, hl, hm, hmm, _, hc⟩
  · simp at hcs
    subst hcs
    exact ⟨none, 0, [], fun _ => [], rfl, by simp, by unfold maxLen; omega, fun i hi => by simp at hi⟩
  · simp at hcs
    subst hcs
    have hlm : len ≤ m := by rw [hmm]; split <;> omega
    rw [hz] at hc
    have h1 : ∀ i, i < len → ∃ z : List Value × α, q z.1 z.2 ∧ z.1.length = size ∧ ∃ b o, a = ⟨b, o, none⟩ ∧ ∀ j, j < size → W.cell? ⟨b, o + i * size + j, none⟩ = z.1[j]? := by
      intro i hi
      obtain ⟨cs', h1, h2⟩ := hc i (by omega)
      obtain ⟨_, hl', hcell⟩ := World.cells?_some h1
      obtain ⟨x, hx⟩ := hq _ _ _ h2 hl'
      obtain ⟨cs0, k1, _⟩ := hc 0 (by omega)
      have hsp := spot_none hs k1
      obtain ⟨b, o, s⟩ := a
      have hs0 : s = none := by simpa [Addr.add] using hsp
      subst hs0
      refine ⟨(cs', x), hx, hl', b, o, rfl, fun j hj => ?_⟩
      have := hcell j hj
      rw [add_plain, add_plain] at this
      exact this
    obtain ⟨f, hf⟩ := Go.Deep.choose_lt h1
    refine ⟨some a, cap, (List.range len).map (fun i => (f i).2), fun i => (f i).1, by simp, by simpa using hl, hm, fun i hi => ?_⟩
    simp at hi
    obtain ⟨g1, g2, b, o, rfl, g3⟩ := hf i hi
    have e : (List.map (fun i => (f i).2) (List.range len)).getD i default = (f i).2 := by simp [List.getD, hi]
    rw [e]
    exact ⟨g1, g2, b, o, rfl, g3⟩
theorem openN {H : Type} {enc : TypeId × Value → H} {W : World} {sp : Nat → Bool} {held : Bool} {n : Nat} {v : Value} {y : DataW H × List MemPlace} {t e size : Nat} {α : Type} [Inhabited α] {R : Rep α} {te : Nat} {lv : Value → List Value}
    (ht : Try.prog.underlying t = some (.slice e)) (hz : Try.prog.cellsOf e = size) (hs : 0 < size)
    (hq : ∀ n cs y, DataW.trod enc Try.prog W 0 sp held n e cs = some y → cs.length = size → ∃ x u, lv u = cs ∧ R.V W u x) (h : DataW.trod enc Try.prog W 0 sp held n t [v] = some y) :
    ∃ xs : List α, (nRep R te size lv).V W v xs := by
  obtain ⟨a, cap, xs, cs, rfl, h1, h2, h3⟩ := openRow (q := fun cs x => ∃ u, lv u = cs ∧ R.V W u x) ht hz hs hq h
  refine ⟨xs, a, cap, rfl, h1, h2, fun i hi => ?_⟩
  obtain ⟨⟨u, g1, g2⟩, g3, b, o, g4, g5⟩ := h3 i hi
  exact ⟨b, o, u, g4, by rw [g1]; exact g3, fun j hj => by rw [g1]; exact g5 j hj, g2⟩
end Go.Proofs.Ytjemciikdijokaa

/-
  Numbers handed in.
-/
namespace Go.Proofs.Ytjemciikdijokaa
open Go.ChangeShapes Go.WideShapes Go.ChangeAt Go.RowKit Go.Joins
set_option linter.unusedSectionVars false
variable [DecidableEq Leg] [Inhabited Leg]

theorem cellsNu : Try.prog.cellsOf 2 = 1 := by kernel_rfl
theorem openNu {H : Type} {enc : TypeId × Value → H} {W : World} {sp : Nat → Bool} {held : Bool} {n : Nat} {cs : List Value} {y : DataW H × List MemPlace}
    (ht : DataW.trod enc Try.prog W 0 sp held n 2 cs = some y) (hl : cs.length = 1) : ∃ x : Int, cs = [.int .i64 x] := by
  match cs, hl with
  | [c], _ =>
    obtain ⟨x, e, _⟩ := DataW.trod_int Try.underlying2 ht
    simp at e
    exact ⟨x, by rw [e]⟩
theorem openNus {H : Type} {enc : TypeId × Value → H} {W : World} {sp : Nat → Bool} {held : Bool} {n : Nat} {v : Value} {y : DataW H × List MemPlace}
    (ht : DataW.trod enc Try.prog W 0 sp held n 49 [v] = some y) : ∃ xs : List Int, intsR.V W v xs := by
  obtain ⟨a, cap, xs, cs, rfl, h1, h2, h3⟩ := openRow (q := fun cs x => cs = [.int .i64 x]) Try.underlying49 cellsNu (by omega) (fun n cs y h hl => openNu h hl) ht
  refine ⟨xs, a, cap, rfl, h1, h2, fun i hi => ?_⟩
  obtain ⟨g1, g3, b, o, g4, g5⟩ := h3 i hi
  rw [g1] at g5
  have h := g5 0 (by omega)
  exact ⟨b, o, g4, by simpa [List.getD] using h⟩
end Go.Proofs.Ytjemciikdijokaa

