/-
  slices.BinarySearchFunc over the rows of a table.
-/
import Derived.Test.YtdfapehonegeeaaTabC
namespace Go.Proofs.Ytdfapehonegeeaa
open Go.RowKit
set_option linter.unusedSectionVars false
variable [DecidableEq Rw] [Inhabited Rw]
set_option linter.unusedVariables false
set_option linter.unusedSimpArgs false
attribute [local go_sem ↓] Go.wp_at_zero Go.wp_at_succ

theorem bsfKeep {w w' : World} {b o b' o' : Nat} {x y : Rw} (hb : Below w.heap.size w w') (h : rowCells w b o x) (h' : rowCells w b' o' y) :
    Below w.heap.size w w' ∧ (w'.cell? ⟨b, o, none⟩ = some (.string x.key) ∧ w'.cell? ⟨b, o + 1, none⟩ = some (.int .i64 x.ver) ∧ w'.cell? ⟨b, o + 2, none⟩ = some (.string x.val) ∧ w'.cell? ⟨b, o + 3, none⟩ = some (.bool x.gone)) ∧ (w'.cell? ⟨b', o', none⟩ = some (.string y.key) ∧ w'.cell? ⟨b', o' + 1, none⟩ = some (.int .i64 y.ver) ∧ w'.cell? ⟨b', o' + 2, none⟩ = some (.string y.val) ∧ w'.cell? ⟨b', o' + 3, none⟩ = some (.bool y.gone)) := rowKeep2 hb h h'

set_option maxRecDepth 20000 in
set_option maxHeartbeats 4000000 in
theorem bsf_any (x : Value) (xs : List Rw) (q : Rw) (w : World) (hx : RowsV w x xs) (hn : xs.length ≤ 1048576)
    (hmono : ∀ a b, a ≤ b → b < xs.length → cmpR (xs.getD b default) q < 0 → cmpR (xs.getD a default) q < 0) :
    Calls Try.prog 126 #[x, rowV q, cmpF] w fun e w' => ∃ i : Nat, i ≤ xs.length ∧ e = .returned (.tuple #[.int .i64 i, .bool (decide (i < xs.length ∧ cmpR (xs.getD i default) q = 0))]) ∧
      (∀ k, k < i → cmpR (xs.getD k default) q < 0) ∧ (∀ k, i ≤ k → k < xs.length → 0 ≤ cmpR (xs.getD k default) q) ∧ Below w.heap.size w w' := by
  obtain ⟨ax, cx, rfl, hcx, hmx, hx⟩ := hx
  unfold maxLen at hmx
  have HMO : Hid (∀ a b, a ≤ b → b < xs.length → cmpR (xs.getD b default) q < 0 → cmpR (xs.getD a default) q < 0) := hmono
  clear hmono
  generalize hN : xs.length = n at *
  clear hN
  have eg := enters_of Try.func58 (by kernel_rfl) rfl
  unfold rowV cmpF
  go_enter Try.func126, Try.ntmps126
  go_wp2
  go_loopw [9, 10] (fun a b W => ∃ i j : Nat, i ≤ j ∧ j ≤ n ∧ a = .int .i64 i ∧ b = .int .i64 j ∧ Hid (∀ k, k < i → cmpR (xs.getD k default) q < 0) ∧ Hid (∀ k, j ≤ k → k < n → 0 ≤ cmpR (xs.getD k default) q) ∧ rowCells W w.heap.size 0 q ∧ Below w.heap.size w W) (fun a b _ => (intOf b).toNat - (intOf a).toNat)
  case atStart => exact ⟨0, n, Nat.zero_le _, Nat.le_refl _, rfl, rfl, fun k h => absurd h (Nat.not_lt_zero _), fun k h1 h2 => by omega, by unfold rowCells; simp [go_sem], balloc (Below.refl _ _) _⟩
  case round =>
    obtain ⟨i, j, hij, hjn, rfl, rfl, HA, HB, hq, hbl⟩ := hrel
    by_cases hlt : i < j
    · have hlt' : (i : Int) < j := by omega
      go_wp2
      obtain ⟨m, hm⟩ : ∃ m : Nat, ((i : Int) + j) / 2 = (m : Int) := ⟨(i + j) / 2, by omega⟩
      have hm1 : i ≤ m := by omega
      have hm2 : m < j := by omega
      rw [hm]
      clear hm
      obtain ⟨b, o, rfl, hc⟩ := hx m (by omega)
      obtain ⟨l, hl⟩ : ∃ l, l = xs.getD m default := ⟨_, rfl⟩
      rw [← hl] at hc
      have HL : Hid (l = xs.getD m default) := hl
      clear hl hx
      have r1 := rowCells_below hbl hc
      have hi4 : (0 : Int) ≤ m := by omega
      have hi5 : (m : Int) < n := by omega
      go_region_held3 (fun W => Below wr.heap.size wr W ∧ (W.cell? ⟨b, o + m * 4, none⟩ = some (.string l.key) ∧ W.cell? ⟨b, o + m * 4 + 1, none⟩ = some (.int .i64 l.ver) ∧ W.cell? ⟨b, o + m * 4 + 2, none⟩ = some (.string l.val) ∧ W.cell? ⟨b, o + m * 4 + 3, none⟩ = some (.bool l.gone)) ∧ (W.cell? ⟨w.heap.size, 0, none⟩ = some (.string q.key) ∧ W.cell? ⟨w.heap.size, 0 + 1, none⟩ = some (.int .i64 q.ver) ∧ W.cell? ⟨w.heap.size, 0 + 2, none⟩ = some (.string q.val) ∧ W.cell? ⟨w.heap.size, 0 + 3, none⟩ = some (.bool q.gone))) ((refine bsfKeep ?_ r1 hq; repeat (first | exact Below.refl _ _ | assumption | refine Below.drew ?_ | refine balloc ?_ _ | refine bstep ?_ (by assumption))))
        (first | (go_at_call 58; refine (compareRows_any l q _).mono ?_; rintro e wa ⟨rfl, hb1⟩))
      rename_i hH
      have hB := bstep hbl hH.1
      have hq2 : rowCells wa w.heap.size 0 q := rowCells_below hH.1 hq
      clear hH
      by_cases hneg : cmpR l q < 0
      · have hd : decide (cmpR l q < 0) = true := decide_eq_true hneg
        have HA2 : Hid (∀ k, k < m + 1 → cmpR (xs.getD k default) q < 0) := fun k hk => HMO.out k m (by omega) (by omega) (by rw [← HL.out]; exact hneg)
        go_wp2
        refine ⟨⟨m + 1, j, by omega, hjn, by go_num, rfl, HA2, HB, hq2, hB⟩, ?_⟩
        simp [intOf]
        omega
      · have hd : decide (cmpR l q < 0) = false := decide_eq_false hneg
        have HB2 : Hid (∀ k, m ≤ k → k < n → 0 ≤ cmpR (xs.getD k default) q) := fun k hk hkn => by
          by_cases h : cmpR (xs.getD k default) q < 0
          · have := HMO.out m k hk hkn h
            rw [← HL.out] at this
            exact absurd this hneg
          · omega
        go_wp2
        refine ⟨⟨i, m, hm1, by omega, rfl, rfl, HA, HB2, hq2, hB⟩, ?_⟩
        simp [intOf]
        omega
    · obtain rfl : i = j := by omega
      have hi4 : (0 : Int) ≤ i := by omega
      have hnl : ¬ (i : Int) < i := by omega
      by_cases hin : i < n
      · obtain ⟨b, o, rfl, hc⟩ := hx i hin
        obtain ⟨l, hl⟩ : ∃ l, l = xs.getD i default := ⟨_, rfl⟩
        rw [← hl] at hc
        have HL : Hid (l = xs.getD i default) := hl
        clear hl hx
        have r1 := rowCells_below hbl hc
        have hi5 : (i : Int) < n := by omega
        have hi6 : decide (i < n) = true := decide_eq_true hin
        go_wp2
        go_region_held3 (fun W => Below wr.heap.size wr W ∧ (W.cell? ⟨b, o + i * 4, none⟩ = some (.string l.key) ∧ W.cell? ⟨b, o + i * 4 + 1, none⟩ = some (.int .i64 l.ver) ∧ W.cell? ⟨b, o + i * 4 + 2, none⟩ = some (.string l.val) ∧ W.cell? ⟨b, o + i * 4 + 3, none⟩ = some (.bool l.gone)) ∧ (W.cell? ⟨w.heap.size, 0, none⟩ = some (.string q.key) ∧ W.cell? ⟨w.heap.size, 0 + 1, none⟩ = some (.int .i64 q.ver) ∧ W.cell? ⟨w.heap.size, 0 + 2, none⟩ = some (.string q.val) ∧ W.cell? ⟨w.heap.size, 0 + 3, none⟩ = some (.bool q.gone))) ((refine bsfKeep ?_ r1 hq; repeat (first | exact Below.refl _ _ | assumption | refine Below.drew ?_ | refine balloc ?_ _ | refine bstep ?_ (by assumption))))
          (first | (go_at_call 58; refine (compareRows_any l q _).mono ?_; rintro e wa ⟨rfl, hb1⟩))
        rename_i hH
        have hB := bstep hbl hH.1
        clear hH
        go_wp2
        refine bodyPost_ret (v := .tuple #[.int .i64 i, .bool (cmpR l q == 0)]) (by simp [results, Try.results126, go_sem]) rfl ?_
        refine ⟨i, hjn, ?_, HA.out, HB.out, hB⟩
        rw [← HL.out]
        have e : (cmpR l q == 0) = decide (i < n ∧ cmpR l q = 0) := by
          rw [Bool.eq_iff_iff]
          simp [hin]
        rw [e]
      · have hi5 : ¬ (i : Int) < n := by omega
        have hi6 : decide (i < n) = false := decide_eq_false hin
        go_wp2
        go_quiet (fail)
        go_wp2
        refine bodyPost_ret (v := .tuple #[.int .i64 i, .bool false]) (by simp [results, Try.results126, go_sem]) rfl ?_
        refine ⟨i, hjn, ?_, HA.out, HB.out, bdrN hbl _⟩
        simp [hin]

end Go.Proofs.Ytdfapehonegeeaa
