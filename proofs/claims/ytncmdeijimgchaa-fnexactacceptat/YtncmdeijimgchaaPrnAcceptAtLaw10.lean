import Derived.Test.YtncmdeijimgchaaPrnAcceptAtLaw9
import Derived.Test.YtncmdeijimgchaaPrnAcceptAtLaw6
import Derived.BigQuiet
import Derived.Deep.QuietTactic
import Derived.Deep.RegionHeld3
import Derived.Test.YtncmdeijimgchaaPrnAcceptAtLaw3
import Derived.Shelf.Abstract
import Derived.Test.YtncmdeijimgchaaPrnAcceptAtLaw1
import Derived.Test.YtncmdeijimgchaaPrnAcceptAtLaw4

/-
  Slots compared, on both sides.
-/
set_option linter.unusedSimpArgs false
set_option linter.unusedVariables false
namespace Go.Proofs.Ytncmdeijimgchaa
open Go.RowKit
set_option linter.unusedSectionVars false
variable [DecidableEq Vot] [Inhabited Vot] [DecidableEq Slt] [Inhabited Slt] [DecidableEq SltR] [Inhabited SltR] [DecidableEq Bal] [Inhabited Bal] [DecidableEq Ledg] [Inhabited Ledg] [DecidableEq Leg] [Inhabited Leg] [DecidableEq Acc] [Inhabited Acc] [DecidableEq AccR] [Inhabited AccR] [DecidableEq AccsR] [Inhabited AccsR] [DecidableEq SltsR] [Inhabited SltsR]
attribute [local go_sem ↓] Go.wp_at_zero Go.wp_at_succ

theorem isNaNz_any (x : Int) (w : World) :
    Calls Try.prog 163 #[.int .i64 x] w fun e w' => e = .returned (.bool false) ∧ w' = w := by
  go_enter Try.func163, Try.ntmps163
  go_wp2
  go_ret
  exact ⟨rfl, rfl⟩
set_option maxHeartbeats 1000000 in
theorem cmpZ_any (x y : Int) (w : World) :
    Calls Try.prog 156 #[.int .i64 x, .int .i64 y] w fun e w' => e = .returned (.int .i64 (cmpZ x y)) ∧ w' = w := by
  go_enter Try.func156, Try.ntmps156
  go_wp2_with (go_at_call 163; refine (isNaNz_any _ _).mono ?_; rintro e w' ⟨rfl, rfl⟩)
  all_goals (go_ret; refine ⟨?_, rfl⟩; unfold cmpZ; (repeat' split) <;> first | rfl | (exfalso; omega))
set_option maxHeartbeats 1000000 in
theorem orZ_any (b : Nat) (x y : Int) (w : World) (h0 : w.cell? ⟨b, 0, none⟩ = some (.int .i64 x)) (h1 : w.cell? ⟨b, 1, none⟩ = some (.int .i64 y)) :
    Calls Try.prog 155 #[.slice (some ⟨b, 0, none⟩) 2 2] w fun e w' => e = .returned (.int .i64 (orZ x y)) ∧ w' = w := by
  go_enter Try.func155, Try.ntmps155
  go_wp2
  go_loopw [8] (fun i w' => ∃ k : Nat, k ≤ 2 ∧ i = .int .i64 k ∧ w' = w ∧ (0 < k → x = 0) ∧ (1 < k → y = 0)) (fun i _ => 2 - (intOf i).toNat)
  case atStart => exact ⟨0, by omega, rfl, rfl, by omega, by omega⟩
  case round =>
    obtain ⟨k, hk, rfl, rfl, p0, p1⟩ := hrel
    rcases (show k = 0 ∨ k = 1 ∨ k = 2 by omega) with rfl | rfl | rfl
    · by_cases hx : x = 0
      · subst hx
        go_wp2
        exact ⟨⟨1, by omega, by go_num, by simp⟩, by simp [intOf]⟩
      · go_wp2
        go_ret
        refine ⟨?_, rfl⟩
        unfold orZ
        rw [if_neg hx]
        rfl
    · have hx := p0 (by omega)
      subst hx
      by_cases hy : y = 0
      · subst hy
        go_wp2
        exact ⟨⟨2, by omega, by go_num, by simp⟩, by simp [intOf]⟩
      · go_wp2
        go_ret
        refine ⟨?_, rfl⟩
        unfold orZ
        rw [if_pos rfl]
        rfl
    · have hx := p0 (by omega)
      have hy := p1 (by omega)
      subst hx hy
      go_wp2
      go_ret
      exact ⟨rfl, rfl⟩
set_option maxHeartbeats 2000000 in
theorem compareSlots_any (x y : Slt) (u v : Value) (w : World) :
    Calls Try.prog 134 #[.agg #[.int .i64 x.con, .int .i64 x.sh, .int .i64 x.pr, .int .i64 x.lb, .int .i64 x.lv, u], .agg #[.int .i64 y.con, .int .i64 y.sh, .int .i64 y.pr, .int .i64 y.lb, .int .i64 y.lv, v]] w fun e w' => e = .returned (.int .i64 (cmpS x y)) ∧ Below w.heap.size w w' := by
  go_enter Try.func134, Try.ntmps134
  go_wp2
  go_region_held3 (fun w' => Below w.heap.size w w' ∧ w'.cell? ⟨w.heap.size, 0, none⟩ = some (.int .i64 x.con) ∧ w'.cell? ⟨w.heap.size, 1, none⟩ = some (.int .i64 x.sh) ∧ w'.cell? ⟨w.heap.size + 1, 0, none⟩ = some (.int .i64 y.con) ∧ w'.cell? ⟨w.heap.size + 1, 1, none⟩ = some (.int .i64 y.sh))
    ((refine ⟨?_, ?_, ?_, ?_, ?_⟩; (repeat (first | exact Below.refl _ _ | assumption | refine Below.drew ?_ | refine balloc ?_ _)); all_goals simp [go_sem]))
    (first | (go_at_call 156; refine (cmpZ_any _ _ _).mono ?_; rintro e w' ⟨rfl, rfl⟩) | (go_at_call 155; refine (orZ_any _ (cmpZ x.con y.con) (cmpZ x.sh y.sh) _ ?_ ?_).mono ?_; simp [go_sem]; simp [go_sem]; rintro e w' ⟨rfl, rfl⟩))
  all_goals
    rename_i hH
    have hB := hH.1
    clear hH
    go_wp2
    go_ret
    exact ⟨rfl, hB⟩
set_option maxHeartbeats 1000000 in
theorem l9Ahead_any (x y : Slt) (u v : Value) (w : World) :
    Calls Try.prog 138 #[.agg #[.int .i64 x.con, .int .i64 x.sh, .int .i64 x.pr, .int .i64 x.lb, .int .i64 x.lv, u], .agg #[.int .i64 y.con, .int .i64 y.sh, .int .i64 y.pr, .int .i64 y.lb, .int .i64 y.lv, v]] w fun e w' => e = .returned (.bool (aheadS x y)) ∧ Below w.heap.size w w' := by
  have e : aheadS x y = if x.con = y.con then decide (x.sh < y.sh) else decide (x.con < y.con) := by
    rw [Bool.eq_iff_iff, aheadS_iff]
    split <;> simp only [decide_eq_true_eq] <;> omega
  rw [e]
  by_cases h : x.con = y.con
  · rw [if_pos h]
    have f1 : (x.con != y.con) = false := by simp [h]
    go_enter Try.func138, Try.ntmps138
    go_wp2
    go_ret
    exact ⟨rfl, by (repeat (first | exact Below.refl _ _ | assumption | refine Below.drew ?_ | refine balloc ?_ _ | refine bset ?_ (by simp; omega) _ | refine bset ?_ (by simp) _ | refine bstep ?_ (by assumption)))⟩
  · rw [if_neg h]
    have f1 : (x.con != y.con) = true := by simp [h]
    go_enter Try.func138, Try.ntmps138
    go_wp2
    go_ret
    exact ⟨rfl, by (repeat (first | exact Below.refl _ _ | assumption | refine Below.drew ?_ | refine balloc ?_ _ | refine bset ?_ (by simp; omega) _ | refine bset ?_ (by simp) _ | refine bstep ?_ (by assumption)))⟩
end Go.Proofs.Ytncmdeijimgchaa

/-
  slices.BinarySearchFunc over slots; where a slot stands.
-/
set_option linter.unusedVariables false
set_option linter.unusedSimpArgs false
namespace Go.Proofs.Ytncmdeijimgchaa
open Go.RowKit
set_option linter.unusedSectionVars false
variable [DecidableEq Vot] [Inhabited Vot] [DecidableEq Slt] [Inhabited Slt] [DecidableEq SltR] [Inhabited SltR] [DecidableEq Bal] [Inhabited Bal] [DecidableEq Ledg] [Inhabited Ledg] [DecidableEq Leg] [Inhabited Leg] [DecidableEq Acc] [Inhabited Acc] [DecidableEq AccR] [Inhabited AccR] [DecidableEq AccsR] [Inhabited AccsR] [DecidableEq SltsR] [Inhabited SltsR]
attribute [local go_sem ↓] Go.wp_at_zero Go.wp_at_succ

theorem sltKeep2 {w w' : World} {b o b' o' : Nat} {x y : Slt} {u v : Value} (hb : Below w.heap.size w w') (h : w.cell? ⟨b, o, none⟩ = some (.int .i64 x.con) ∧ w.cell? ⟨b, o + 1, none⟩ = some (.int .i64 x.sh) ∧ w.cell? ⟨b, o + 2, none⟩ = some (.int .i64 x.pr) ∧ w.cell? ⟨b, o + 3, none⟩ = some (.int .i64 x.lb) ∧ w.cell? ⟨b, o + 4, none⟩ = some (.int .i64 x.lv) ∧ w.cell? ⟨b, o + 5, none⟩ = some (u)) (h' : w.cell? ⟨b', o', none⟩ = some (.int .i64 y.con) ∧ w.cell? ⟨b', o' + 1, none⟩ = some (.int .i64 y.sh) ∧ w.cell? ⟨b', o' + 2, none⟩ = some (.int .i64 y.pr) ∧ w.cell? ⟨b', o' + 3, none⟩ = some (.int .i64 y.lb) ∧ w.cell? ⟨b', o' + 4, none⟩ = some (.int .i64 y.lv) ∧ w.cell? ⟨b', o' + 5, none⟩ = some (v)) :
    Below w.heap.size w w' ∧ (w'.cell? ⟨b, o, none⟩ = some (.int .i64 x.con) ∧ w'.cell? ⟨b, o + 1, none⟩ = some (.int .i64 x.sh) ∧ w'.cell? ⟨b, o + 2, none⟩ = some (.int .i64 x.pr) ∧ w'.cell? ⟨b, o + 3, none⟩ = some (.int .i64 x.lb) ∧ w'.cell? ⟨b, o + 4, none⟩ = some (.int .i64 x.lv) ∧ w'.cell? ⟨b, o + 5, none⟩ = some (u)) ∧ (w'.cell? ⟨b', o', none⟩ = some (.int .i64 y.con) ∧ w'.cell? ⟨b', o' + 1, none⟩ = some (.int .i64 y.sh) ∧ w'.cell? ⟨b', o' + 2, none⟩ = some (.int .i64 y.pr) ∧ w'.cell? ⟨b', o' + 3, none⟩ = some (.int .i64 y.lb) ∧ w'.cell? ⟨b', o' + 4, none⟩ = some (.int .i64 y.lv) ∧ w'.cell? ⟨b', o' + 5, none⟩ = some (v)) :=
  ⟨hb, ⟨cell_keep hb h.1, cell_keep hb h.2.1, cell_keep hb h.2.2.1, cell_keep hb h.2.2.2.1, cell_keep hb h.2.2.2.2.1, cell_keep hb h.2.2.2.2.2⟩, ⟨cell_keep hb h'.1, cell_keep hb h'.2.1, cell_keep hb h'.2.2.1, cell_keep hb h'.2.2.2.1, cell_keep hb h'.2.2.2.2.1, cell_keep hb h'.2.2.2.2.2⟩⟩
theorem slts_at {w : World} {a : Option Addr} {xs : List Slt} {n k : Nat} (hx : ∀ i, i < n → ∃ b o u, a = some ⟨b, o, none⟩ ∧ (lvSlt u).length = 6 ∧ (∀ j, j < 6 → w.cell? ⟨b, o + i * 6 + j, none⟩ = (lvSlt u)[j]?) ∧ sltR.V w u (xs.getD i default)) (hk : k < n) :
    ∃ b o p q, a = some ⟨b, o, none⟩ ∧ (w.cell? ⟨b, o + k * 6, none⟩ = some (.int .i64 (xs.getD k default).con) ∧ w.cell? ⟨b, o + k * 6 + 1, none⟩ = some (.int .i64 (xs.getD k default).sh) ∧ w.cell? ⟨b, o + k * 6 + 2, none⟩ = some (.int .i64 (xs.getD k default).pr) ∧ w.cell? ⟨b, o + k * 6 + 3, none⟩ = some (.int .i64 (xs.getD k default).lb) ∧ w.cell? ⟨b, o + k * 6 + 4, none⟩ = some (.int .i64 (xs.getD k default).lv) ∧ w.cell? ⟨b, o + k * 6 + 5, none⟩ = some (.slice p (xs.getD k default).cast.length q)) ∧ sltR.V w (.agg #[.int .i64 (xs.getD k default).con, .int .i64 (xs.getD k default).sh, .int .i64 (xs.getD k default).pr, .int .i64 (xs.getD k default).lb, .int .i64 (xs.getD k default).lv, .slice p (xs.getD k default).cast.length q]) (xs.getD k default) := by
  obtain ⟨b, o, u, e, _, p, hv⟩ := hx k hk
  have hV := hv
  obtain ⟨s, rfl, hc⟩ := hv
  obtain ⟨au, cu, rfl⟩ := vots_form hc
  exact ⟨b, o, au, cu, e, ⟨p 0 (by omega), p 1 (by omega), p 2 (by omega), p 3 (by omega), p 4 (by omega), p 5 (by omega)⟩, hV⟩
set_option maxRecDepth 20000 in
set_option maxHeartbeats 8000000 in
theorem bsS_any (x : Value) (xs : List Slt) (q : Slt) (uq : Value) (w : World) (hx : sltsR.V w x xs) (hn : xs.length ≤ 1048576)
    (hmono : ∀ a b, a ≤ b → b < xs.length → cmpS (xs.getD b default) q < 0 → cmpS (xs.getD a default) q < 0) :
    Calls Try.prog 157 #[x, .agg #[.int .i64 q.con, .int .i64 q.sh, .int .i64 q.pr, .int .i64 q.lb, .int .i64 q.lv, uq], .func (.func 134) #[] #[]] w fun e w' => ∃ i : Nat, i ≤ xs.length ∧ e = .returned (.tuple #[.int .i64 i, .bool (decide (i < xs.length ∧ cmpS (xs.getD i default) q = 0))]) ∧
      (∀ k, k < i → cmpS (xs.getD k default) q < 0) ∧ (∀ k, i ≤ k → k < xs.length → 0 ≤ cmpS (xs.getD k default) q) ∧ Below w.heap.size w w' := by
  obtain ⟨ax, cx, rfl, hcx, hmx, hx⟩ := hx
  unfold maxLen at hmx
  have HMO : Hid (∀ a b, a ≤ b → b < xs.length → cmpS (xs.getD b default) q < 0 → cmpS (xs.getD a default) q < 0) := hmono
  clear hmono
  have hX : Hid (∀ k, k < xs.length → ∃ b o p q, ax = some ⟨b, o, none⟩ ∧ (w.cell? ⟨b, o + k * 6, none⟩ = some (.int .i64 (xs.getD k default).con) ∧ w.cell? ⟨b, o + k * 6 + 1, none⟩ = some (.int .i64 (xs.getD k default).sh) ∧ w.cell? ⟨b, o + k * 6 + 2, none⟩ = some (.int .i64 (xs.getD k default).pr) ∧ w.cell? ⟨b, o + k * 6 + 3, none⟩ = some (.int .i64 (xs.getD k default).lb) ∧ w.cell? ⟨b, o + k * 6 + 4, none⟩ = some (.int .i64 (xs.getD k default).lv) ∧ w.cell? ⟨b, o + k * 6 + 5, none⟩ = some (.slice p (xs.getD k default).cast.length q)) ∧ sltR.V w (.agg #[.int .i64 (xs.getD k default).con, .int .i64 (xs.getD k default).sh, .int .i64 (xs.getD k default).pr, .int .i64 (xs.getD k default).lb, .int .i64 (xs.getD k default).lv, .slice p (xs.getD k default).cast.length q]) (xs.getD k default)) := fun k hk => slts_at hx hk
  clear hx
  generalize hN : xs.length = n at *
  clear hN
  have eg := enters_of Try.func134 (by kernel_rfl) rfl
  go_enter Try.func157, Try.ntmps157
  go_wp2
  go_loopw [9, 10] (fun a b W => ∃ i j : Nat, i ≤ j ∧ j ≤ n ∧ a = .int .i64 i ∧ b = .int .i64 j ∧ Hid (∀ k, k < i → cmpS (xs.getD k default) q < 0) ∧ Hid (∀ k, j ≤ k → k < n → 0 ≤ cmpS (xs.getD k default) q) ∧ (W.cell? ⟨w.heap.size, 0, none⟩ = some (.int .i64 q.con) ∧ W.cell? ⟨w.heap.size, 0 + 1, none⟩ = some (.int .i64 q.sh) ∧ W.cell? ⟨w.heap.size, 0 + 2, none⟩ = some (.int .i64 q.pr) ∧ W.cell? ⟨w.heap.size, 0 + 3, none⟩ = some (.int .i64 q.lb) ∧ W.cell? ⟨w.heap.size, 0 + 4, none⟩ = some (.int .i64 q.lv) ∧ W.cell? ⟨w.heap.size, 0 + 5, none⟩ = some (uq)) ∧ Below w.heap.size w W) (fun a b _ => (intOf b).toNat - (intOf a).toNat)
  case atStart => exact ⟨0, n, Nat.zero_le _, Nat.le_refl _, rfl, rfl, fun k h => absurd h (Nat.not_lt_zero _), fun k h1 h2 => by omega, by simp [go_sem], balloc (Below.refl _ _) _⟩
  case round =>
    obtain ⟨i, j, hij, hjn, rfl, rfl, HA, HB, hq, hbl⟩ := hrel
    by_cases hlt : i < j
    · have hlt' : (i : Int) < j := by omega
      go_wp2
      obtain ⟨m, hm⟩ : ∃ m : Nat, ((i : Int) + j) / 2 = (m : Int) := ⟨(i + j) / 2, by omega⟩
      have hm1 : i ≤ m := by omega
      have hm2 : m < j := by omega
      rw [hm]
      clear hm
      obtain ⟨b, o, pp, qq, rfl, hc, _⟩ := hX.out m (by omega)
      obtain ⟨l, hl⟩ : ∃ l, l = xs.getD m default := ⟨_, rfl⟩
      rw [← hl] at hc
      have HL : Hid (l = xs.getD m default) := hl
      clear hl hX
      have r1 := (sltKeep2 hbl hc hc).2.1
      have hi4 : (0 : Int) ≤ m := by omega
      have hi5 : (m : Int) < n := by omega
      go_region_held3 (fun W => Below wr.heap.size wr W ∧ (W.cell? ⟨b, o + m * 6, none⟩ = some (.int .i64 l.con) ∧ W.cell? ⟨b, o + m * 6 + 1, none⟩ = some (.int .i64 l.sh) ∧ W.cell? ⟨b, o + m * 6 + 2, none⟩ = some (.int .i64 l.pr) ∧ W.cell? ⟨b, o + m * 6 + 3, none⟩ = some (.int .i64 l.lb) ∧ W.cell? ⟨b, o + m * 6 + 4, none⟩ = some (.int .i64 l.lv) ∧ W.cell? ⟨b, o + m * 6 + 5, none⟩ = some (.slice pp l.cast.length qq)) ∧ (W.cell? ⟨w.heap.size, 0, none⟩ = some (.int .i64 q.con) ∧ W.cell? ⟨w.heap.size, 0 + 1, none⟩ = some (.int .i64 q.sh) ∧ W.cell? ⟨w.heap.size, 0 + 2, none⟩ = some (.int .i64 q.pr) ∧ W.cell? ⟨w.heap.size, 0 + 3, none⟩ = some (.int .i64 q.lb) ∧ W.cell? ⟨w.heap.size, 0 + 4, none⟩ = some (.int .i64 q.lv) ∧ W.cell? ⟨w.heap.size, 0 + 5, none⟩ = some (uq))) ((refine sltKeep2 ?_ r1 hq; repeat (first | exact Below.refl _ _ | assumption | refine Below.drew ?_ | refine balloc ?_ _ | refine bstep ?_ (by assumption))))
        (first | (go_at_call 134; refine (compareSlots_any l q _ _ _).mono ?_; rintro e wa ⟨rfl, hb1⟩))
      rename_i hH
      have hB := bstep hbl hH.1
      have hq2 := hH.2.2
      clear hH
      by_cases hneg : cmpS l q < 0
      · have hd : decide (cmpS l q < 0) = true := decide_eq_true hneg
        have HA2 : Hid (∀ k, k < m + 1 → cmpS (xs.getD k default) q < 0) := fun k hk => HMO.out k m (by omega) (by omega) (by rw [← HL.out]; exact hneg)
        go_wp2
        refine ⟨⟨m + 1, j, by omega, hjn, by go_num, rfl, HA2, HB, hq2, hB⟩, ?_⟩
        simp [intOf]
        omega
      · have hd : decide (cmpS l q < 0) = false := decide_eq_false hneg
        have HB2 : Hid (∀ k, m ≤ k → k < n → 0 ≤ cmpS (xs.getD k default) q) := fun k hk hkn => by
          by_cases h : cmpS (xs.getD k default) q < 0
          · have := HMO.out m k hk hkn h
            rw [← HL.out] at this
            exact absurd this hneg
          · omega
        go_wp2
        refine ⟨⟨i, m, hm1, by omega, rfl, rfl, HA, HB2, hq2, hB⟩, ?_⟩
        simp [intOf]
        omega
    · obtain rfl : i = j := by omega
      have hi4 : (0 : Int) ≤ i := by omega
      have hnl : ¬ (i : Int) < i := by omega
      by_cases hin : i < n
      · obtain ⟨b, o, pp, qq, rfl, hc, _⟩ := hX.out i hin
        obtain ⟨l, hl⟩ : ∃ l, l = xs.getD i default := ⟨_, rfl⟩
        rw [← hl] at hc
        have HL : Hid (l = xs.getD i default) := hl
        clear hl hX
        have r1 := (sltKeep2 hbl hc hc).2.1
        have hi5 : (i : Int) < n := by omega
        have hi6 : decide (i < n) = true := decide_eq_true hin
        go_wp2
        go_region_held3 (fun W => Below wr.heap.size wr W ∧ (W.cell? ⟨b, o + i * 6, none⟩ = some (.int .i64 l.con) ∧ W.cell? ⟨b, o + i * 6 + 1, none⟩ = some (.int .i64 l.sh) ∧ W.cell? ⟨b, o + i * 6 + 2, none⟩ = some (.int .i64 l.pr) ∧ W.cell? ⟨b, o + i * 6 + 3, none⟩ = some (.int .i64 l.lb) ∧ W.cell? ⟨b, o + i * 6 + 4, none⟩ = some (.int .i64 l.lv) ∧ W.cell? ⟨b, o + i * 6 + 5, none⟩ = some (.slice pp l.cast.length qq)) ∧ (W.cell? ⟨w.heap.size, 0, none⟩ = some (.int .i64 q.con) ∧ W.cell? ⟨w.heap.size, 0 + 1, none⟩ = some (.int .i64 q.sh) ∧ W.cell? ⟨w.heap.size, 0 + 2, none⟩ = some (.int .i64 q.pr) ∧ W.cell? ⟨w.heap.size, 0 + 3, none⟩ = some (.int .i64 q.lb) ∧ W.cell? ⟨w.heap.size, 0 + 4, none⟩ = some (.int .i64 q.lv) ∧ W.cell? ⟨w.heap.size, 0 + 5, none⟩ = some (uq))) ((refine sltKeep2 ?_ r1 hq; repeat (first | exact Below.refl _ _ | assumption | refine Below.drew ?_ | refine balloc ?_ _ | refine bstep ?_ (by assumption))))
          (first | (go_at_call 134; refine (compareSlots_any l q _ _ _).mono ?_; rintro e wa ⟨rfl, hb1⟩))
        rename_i hH
        have hB := bstep hbl hH.1
        clear hH
        go_wp2
        refine bodyPost_ret (v := .tuple #[.int .i64 i, .bool (cmpS l q == 0)]) (by simp [results, Try.results157, go_sem]) rfl ?_
        refine ⟨i, hjn, ?_, HA.out, HB.out, hB⟩
        rw [← HL.out]
        have e : (cmpS l q == 0) = decide (i < n ∧ cmpS l q = 0) := by
          rw [Bool.eq_iff_iff]
          simp [hin]
        rw [e]
      · have hi5 : ¬ (i : Int) < n := by omega
        have hi6 : decide (i < n) = false := decide_eq_false hin
        go_wp2
        go_quiet (fail)
        go_wp2
        refine bodyPost_ret (v := .tuple #[.int .i64 i, .bool false]) (by simp [results, Try.results157, go_sem]) rfl ?_
        refine ⟨i, hjn, ?_, HA.out, HB.out, bdrewN hbl _⟩
        simp [hin]
def PlE (xs : List Slt) (q : Slt) (w : World) (e : Ending) (w' : World) : Prop :=
  ∃ i : Nat, i ≤ xs.length ∧ e = .returned (.tuple #[.int .i64 i, .bool (decide (i < xs.length ∧ cmpS (xs.getD i default) q = 0))]) ∧
    (∀ k, k < i → cmpS (xs.getD k default) q < 0) ∧ (∀ k, i ≤ k → k < xs.length → 0 ≤ cmpS (xs.getD k default) q) ∧ Below w.heap.size w w'
theorem accOk_mono {xs : List Slt} (h : AccOk xs) (q : Slt) : ∀ a b, a ≤ b → b < xs.length → cmpS (xs.getD b default) q < 0 → cmpS (xs.getD a default) q < 0 := by
  intro a b hab hb hc
  rcases Nat.eq_or_lt_of_le hab with rfl | hlt
  · exact hc
  · have h1 := aheadS_iff.1 (h.ord a b hlt hb)
    rw [cmpS_lt] at hc ⊢
    omega
set_option maxHeartbeats 1000000 in
theorem placeIn_any (x : Value) (d : Acc) (q : Slt) (uq : Value) (w : World) (hx : accR.V w x d) (hok : AccOk d.slots) :
    Calls Try.prog 135 #[x, .agg #[.int .i64 q.con, .int .i64 q.sh, .int .i64 q.pr, .int .i64 q.lb, .int .i64 q.lv, uq]] w fun e w' => PlE d.slots q w e w' := by
  obtain ⟨u1, rfl, hx⟩ := hx
  obtain ⟨xs⟩ := d
  dsimp only at hx hok ⊢
  have hl := hok.len
  have HP : Hid (∀ W, Below w.heap.size w W → Calls Try.prog 157 #[u1, .agg #[.int .i64 q.con, .int .i64 q.sh, .int .i64 q.pr, .int .i64 q.lb, .int .i64 q.lv, uq], .func (.func 134) #[] #[]] W fun e w' => PlE xs q W e w') := fun W hW => bsS_any u1 xs q uq W (sltsR.below hx hW) (by omega) (accOk_mono hok q)
  obtain ⟨au, cu, rfl⟩ := slts_form hx
  clear hx
  go_enter Try.func135, Try.ntmps135
  go_wp2_with fail
  refine (HP.out _ (by (repeat (first | exact Below.refl _ _ | assumption | refine Below.drew ?_ | refine balloc ?_ _ | refine bset ?_ (by simp; omega) _ | refine bset ?_ (by simp) _ | refine bstep ?_ (by assumption))))).mono ?_
  rintro e w1 ⟨i, hi, rfl, h1, h2, hb1⟩
  have hB1 : Below w.heap.size w w1 := by (repeat (first | exact Below.refl _ _ | assumption | refine Below.drew ?_ | refine balloc ?_ _ | refine bset ?_ (by simp; omega) _ | refine bset ?_ (by simp) _ | refine bstep ?_ (by assumption)))
  have HA : Hid (∀ k, k < i → cmpS (xs.getD k default) q < 0) := h1
  have HB : Hid (∀ k, i ≤ k → k < xs.length → 0 ≤ cmpS (xs.getD k default) q) := h2
  clear h1 h2
  generalize hD : decide (i < xs.length ∧ cmpS (xs.getD i default) q = 0) = D
  go_wp2
  refine bodyPost_ret (v := .tuple #[.int .i64 i, .bool D]) (by simp [results, Try.results135, go_sem]) rfl ?_
  exact ⟨i, hi, by rw [hD], HA.out, HB.out, hB1⟩
end Go.Proofs.Ytncmdeijimgchaa

/-
  Cells that are kept. (Written by program: lawgen.py.)
-/
namespace Go.Proofs.Ytncmdeijimgchaa
open Go.RowKit
theorem keepN6 {w w' : World} {a0 : Addr} {x0 : Value} {a1 : Addr} {x1 : Value} {a2 : Addr} {x2 : Value} {a3 : Addr} {x3 : Value} {a4 : Addr} {x4 : Value} {a5 : Addr} {x5 : Value} (hb : Below w.heap.size w w') (g0 : w.cell? a0 = some x0) (g1 : w.cell? a1 = some x1) (g2 : w.cell? a2 = some x2) (g3 : w.cell? a3 = some x3) (g4 : w.cell? a4 = some x4) (g5 : w.cell? a5 = some x5) : Below w.heap.size w w' ∧ w'.cell? a0 = some x0 ∧ w'.cell? a1 = some x1 ∧ w'.cell? a2 = some x2 ∧ w'.cell? a3 = some x3 ∧ w'.cell? a4 = some x4 ∧ w'.cell? a5 = some x5 :=
  ⟨hb, cell_keep hb g0, cell_keep hb g1, cell_keep hb g2, cell_keep hb g3, cell_keep hb g4, cell_keep hb g5⟩
theorem keepN10 {w w' : World} {a0 : Addr} {x0 : Value} {a1 : Addr} {x1 : Value} {a2 : Addr} {x2 : Value} {a3 : Addr} {x3 : Value} {a4 : Addr} {x4 : Value} {a5 : Addr} {x5 : Value} {a6 : Addr} {x6 : Value} {a7 : Addr} {x7 : Value} {a8 : Addr} {x8 : Value} {a9 : Addr} {x9 : Value} (hb : Below w.heap.size w w') (g0 : w.cell? a0 = some x0) (g1 : w.cell? a1 = some x1) (g2 : w.cell? a2 = some x2) (g3 : w.cell? a3 = some x3) (g4 : w.cell? a4 = some x4) (g5 : w.cell? a5 = some x5) (g6 : w.cell? a6 = some x6) (g7 : w.cell? a7 = some x7) (g8 : w.cell? a8 = some x8) (g9 : w.cell? a9 = some x9) : Below w.heap.size w w' ∧ w'.cell? a0 = some x0 ∧ w'.cell? a1 = some x1 ∧ w'.cell? a2 = some x2 ∧ w'.cell? a3 = some x3 ∧ w'.cell? a4 = some x4 ∧ w'.cell? a5 = some x5 ∧ w'.cell? a6 = some x6 ∧ w'.cell? a7 = some x7 ∧ w'.cell? a8 = some x8 ∧ w'.cell? a9 = some x9 :=
  ⟨hb, cell_keep hb g0, cell_keep hb g1, cell_keep hb g2, cell_keep hb g3, cell_keep hb g4, cell_keep hb g5, cell_keep hb g6, cell_keep hb g7, cell_keep hb g8, cell_keep hb g9⟩
end Go.Proofs.Ytncmdeijimgchaa

/-
  A region that draws its order, none of whose operations breaks what is asked of the world.
-/
namespace Go.Proofs.Ytncmdeijimgchaa
open Go.RowKit

section
variable {P : Program} {ops : Array Oper} {Q : Exit → Act → World → Prop} {md : Region.Mode} {S : World → Prop} {t : Nat}

theorem upto_firstN {i : Nat} {oi : Oper} {v : Value} (hi : ops[i]? = some oi) (hsel : Region.noSelect ops = true) (ht : ops[t]? = none)
    (hQ : ∀ c a w, Q (.panic c) (a.put oi.dst v) w → Q (.panic c) a w) :
    ∀ (f : Nat) (listed : Array Bool) (a : Act) (w : World),
      (∀ j oj, ops[j]? = some oj → j ≠ i → listed.getD j true = false → (∀ e ∈ oj.after, Region.binds md e = true → e.on ≠ i) → oi.apart ops oj = true) →
      i ∈ Region.ready md ops listed → YieldsIf P ops S oi v a → S w →
      wpUpto P md ops Q S t f (listed.setIfInBounds i true) (a.put oi.dst v) w → wpUpto P md ops Q S t (f + 1) listed a w := by
  intro f
  induction f with
  | zero =>
    intro listed a w _ hr hy hS H
    refine ⟨fun h => (by rw [h] at hr; cases hr), fun j hj => ?_⟩
    by_cases hji : j = i
    · subst hji
      exact hy.wpOp hi hS ⟨fun _ => hS, H⟩
    · have hm := ready_mono hj hji
      rw [H.1] at hm
      cases hm
  | succ f ih =>
    intro listed a w hfree hr hy hS H
    refine ⟨fun h => (by rw [h] at hr; cases hr), fun j hj => ?_⟩
    by_cases hji : j = i
    · subst hji
      exact hy.wpOp hi hS ⟨fun _ => hS, H⟩
    · obtain ⟨hjun, oj, hoj, hall⟩ := mem_ready.1 hj
      have hun := (mem_ready.1 hr).1
      have hnl : ¬ listed.getD i false = true := by
        intro h1
        rcases Nat.lt_or_ge i listed.size with h' | h'
        · simp [h'] at hun h1
          rw [hun] at h1
          cases h1
        · simp [Array.getElem?_eq_none h'] at h1
      have hnot : ∀ e ∈ oj.after, Region.binds md e = true → e.on ≠ i := fun e he hb heq => hnl (by rw [← heq]; exact hall e he hb)
      have hjt : j ≠ t := by
        rintro rfl
        rw [ht] at hoj
        cases hoj
      have h1 := H.2 j (ready_mono hj hji)
      have h2 := wpOp_putIf hoj (hfree j oj hoj hji hjun hnot) (fun cs b => Region.noSelect_spec hsel i oi cs b hi) (fun cs b => Region.noSelect_spec hsel j oj cs b hoj) hQ hy h1
      refine wpOp_mono (fun a' w' h3 => ⟨h3.2.1, ih (listed.setIfInBounds j true) a' w' ?_ (ready_mono hr (Ne.symm hji)) h3.1 (h3.2.1 hjt) ?_⟩) h2
      · intro k ok hk hki hunk hno
        refine hfree k ok hk hki ?_ hno
        by_cases hjk : j = k
        · subst hjk; exact hjun
        · rw [getD_set_ne true hjk] at hunk; exact hunk
      · rw [Array.setIfInBounds_comm _ _ hji]
        exact h3.2.2
theorem upto_takeN {i : Nat} {oi : Oper} {v : Value} {f : Nat} {listed : Array Bool} {a : Act} {w : World} (hi : ops[i]? = some oi) (hsel : Region.noSelect ops = true) (ht : ops[t]? = none)
    (hf : Region.free md ops listed i = true) (hr : (Region.ready md ops listed).contains i = true) (hQ : ∀ c a w, Q (.panic c) (a.put oi.dst v) w → Q (.panic c) a w)
    (hwd : Region.wanted oi (yielded ops a.tmps) = true) (hS : S w) (hy : ∀ w, S w → (execOp a.eval oi).run P w = .ok (.value v) w)
    (h : wpUpto P md ops Q S t f (listed.setIfInBounds i true) (a.put oi.dst v) w) : wpUpto P md ops Q S t (f + 1) listed a w :=
  upto_firstN hi hsel ht hQ f listed a w (Region.free_spec hi hf) (by simpa using hr) (Or.inl ⟨hwd, hy⟩) hS h
theorem upto_skipN {i : Nat} {oi : Oper} {f : Nat} {listed : Array Bool} {a : Act} {w : World} (hi : ops[i]? = some oi) (hsel : Region.noSelect ops = true) (ht : ops[t]? = none)
    (hf : Region.free md ops listed i = true) (hr : (Region.ready md ops listed).contains i = true) (hQ : ∀ c a w, Q (.panic c) (a.put oi.dst undef) w → Q (.panic c) a w)
    (hwd : Region.wanted oi (yielded ops a.tmps) = false) (hS : S w)
    (h : ∀ u : Value, wpUpto P md ops Q S t f (listed.setIfInBounds i true) (a.put oi.dst u) w) : wpUpto P md ops Q S t (f + 1) listed a w :=
  upto_firstN hi hsel ht hQ f listed a w (Region.free_spec hi hf) (by simpa using hr) (Or.inr ⟨hwd, rfl⟩) hS (h undef)
end

end Go.Proofs.Ytncmdeijimgchaa

