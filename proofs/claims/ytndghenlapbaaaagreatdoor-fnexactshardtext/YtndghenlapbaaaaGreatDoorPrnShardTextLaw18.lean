import Derived.Test.YtndghenlapbaaaaGreatDoorPrnShardTextLaw17
import Derived.Shelf.Abstract
import Derived.BigQuiet
import Derived.Deep.QuietTactic
import Derived.Deep.RegionHeld3
import Derived.Test.YtndghenlapbaaaaGreatDoorPrnShardTextLaw2
import Derived.Test.YtndghenlapbaaaaGreatDoorPrnShardTextLaw8

/-
  Marks that are searched for, the program's.
-/
set_option linter.unusedSimpArgs false
set_option linter.unusedVariables false
namespace Go.Proofs.YtndghenlapbaaaaGreatDoor
open Go.RowKit
set_option linter.unusedSectionVars false
variable [DecidableEq Rw] [Inhabited Rw] [DecidableEq Bal] [Inhabited Bal] [DecidableEq Ledg] [Inhabited Ledg] [DecidableEq Leg] [Inhabited Leg] [DecidableEq Cont] [Inhabited Cont] [DecidableEq LedgR] [Inhabited LedgR] [DecidableEq OutcR] [Inhabited OutcR] [DecidableEq Mrk] [Inhabited Mrk] [DecidableEq Shd] [Inhabited Shd] [DecidableEq ShdR] [Inhabited ShdR]
attribute [local go_sem ↓] Go.wp_at_zero Go.wp_at_succ

def cmpQ (x y : Int) : Int := if x < y then -1 else if y < x then 1 else 0
theorem cmpQ_neg {x y : Int} : cmpQ x y < 0 ↔ x < y := by unfold cmpQ; split <;> (try split) <;> omega
theorem cmpQ_eq {x y : Int} : cmpQ x y = 0 ↔ x = y := by unfold cmpQ; split <;> (try split) <;> omega
theorem isNaNq_any (x : Int) (w : World) : Calls Tryz.prog 144 #[.int .i64 x] w fun e w' => e = .returned (.bool false) ∧ w' = w := by
  go_enter Tryz.func144, Tryz.ntmps144
  go_wp2
  go_ret
  exact ⟨rfl, rfl⟩
set_option maxHeartbeats 1000000 in
theorem cmpQ_any (x y : Int) (w : World) : Calls Tryz.prog 125 #[.int .i64 x, .int .i64 y] w fun e w' => e = .returned (.int .i64 (cmpQ x y)) ∧ w' = w := by
  go_enter Tryz.func125, Tryz.ntmps125
  go_wp2_with (go_at_call 144; refine (isNaNq_any _ _).mono ?_; rintro e w' ⟨rfl, rfl⟩)
  all_goals (go_ret; refine ⟨?_, rfl⟩; unfold cmpQ; (repeat' split) <;> first | rfl | (exfalso; omega))
set_option maxHeartbeats 1000000 in
theorem mrkCmp_any (l : Mrk) (c : Int) (w : World) : Calls Tryz.prog 143 #[.agg #[.int .i64 l.con, .int .i64 l.val], .int .i64 c] w fun e w' => e = .returned (.int .i64 (cmpQ l.con c)) ∧ Below w.heap.size w w' := by
  go_enter Tryz.func143, Tryz.ntmps143
  go_wp2_with (go_at_call 125; refine (cmpQ_any _ _ _).mono ?_; rintro e w' ⟨rfl, rfl⟩)
  go_ret
  exact ⟨rfl, by (repeat (first | exact Below.refl _ _ | assumption | refine Below.drew ?_ | refine balloc ?_ _ | refine bset ?_ (by simp; omega) _ | refine bset ?_ (by simp) _ | refine bstep ?_ (by assumption)))⟩
def PlM (xs : List Mrk) (c : Int) (w : World) (e : Ending) (w' : World) : Prop := ∃ i : Nat, i ≤ xs.length ∧ e = .returned (.tuple #[.int .i64 i, .bool (decide (i < xs.length ∧ (xs.getD i default).con = c))]) ∧ (∀ k, k < i → (xs.getD k default).con < c) ∧ (∀ k, i ≤ k → k < xs.length → c ≤ (xs.getD k default).con) ∧ Below w.heap.size w w'
set_option maxRecDepth 20000 in
set_option maxHeartbeats 8000000 in
theorem bsM_any (x : Value) (xs : List Mrk) (c : Int) (w : World) (hx : mrksR.V w x xs) (hn : xs.length ≤ 1048576) (hr : ∀ i j, i < j → j < xs.length → (xs.getD i default).con < (xs.getD j default).con) :
    Calls Tryz.prog 142 #[x, .int .i64 c, .func (.func 143) #[] #[]] w (PlM xs c w) := by
  obtain ⟨ax, cx, rfl, hcx, hmx, hx⟩ := hx
  unfold maxLen at hmx
  have HR : Hid (∀ i j, i < j → j < xs.length → (xs.getD i default).con < (xs.getD j default).con) := hr
  have HX : Hid (∀ i, i < xs.length → ∃ b o, ax = some ⟨b, o, none⟩ ∧ mrkCells w b (o + i * 2) (xs.getD i default)) := hx
  clear hx hr
  generalize hN : xs.length = n at *
  have HN : Hid (xs.length = n) := hN
  clear hN
  have eg := enters_of Tryz.func143 (by kernel_rfl) rfl
  go_enter Tryz.func142, Tryz.ntmps142
  go_wp2
  go_loopw [9, 10] (fun a b W => ∃ i j : Nat, i ≤ j ∧ j ≤ n ∧ a = .int .i64 i ∧ b = .int .i64 j ∧ Hid (∀ k, k < i → (xs.getD k default).con < c) ∧ Hid (∀ k, j ≤ k → k < n → c ≤ (xs.getD k default).con) ∧ Below w.heap.size w W) (fun a b _ => (intOf b).toNat - (intOf a).toNat)
  case atStart => exact ⟨0, n, Nat.zero_le _, Nat.le_refl _, rfl, rfl, fun k h => absurd h (Nat.not_lt_zero _), fun k h1 h2 => by omega, Below.refl _ _⟩
  case round =>
    obtain ⟨i, j, hij, hjn, rfl, rfl, HA, HB, hbl⟩ := hrel
    by_cases hlt : i < j
    · have hlt' : (i : Int) < j := by omega
      obtain ⟨m, hm⟩ : ∃ m : Nat, ((i : Int) + j) / 2 = (m : Int) := ⟨(i + j) / 2, by omega⟩
      have hm1 : i ≤ m := by omega
      have hm2 : m < j := by omega
      have hi4 : (0 : Int) ≤ m := by omega
      have hi5 : (m : Int) < n := by omega
      obtain ⟨bx, ox, rfl, g1⟩ := HX.out m (by omega)
      obtain ⟨l, hl⟩ : ∃ l, l = xs.getD m default := ⟨_, rfl⟩
      rw [← hl] at g1
      have HL : Hid (l = xs.getD m default) := hl
      clear hl
      obtain ⟨g2, g3⟩ := mrkCells_below hbl g1; clear g1
      by_cases hneg : cmpQ l.con c < 0
      · have hd : decide (cmpQ l.con c < 0) = true := decide_eq_true hneg
        have HA2 : Hid (∀ k, k < m + 1 → (xs.getD k default).con < c) := fun k hk => by
          have h1 : (xs.getD m default).con < c := by rw [← HL.out]; exact cmpQ_neg.1 hneg
          by_cases e : k = m
          · rw [e]; exact h1
          · have := HR.out k m (by omega) (by omega); omega
        go_wp2_with (first | (go_at_call 143; refine (mrkCmp_any l  c _).mono ?_; rintro e wa ⟨rfl, hb1⟩))
        refine ⟨⟨m + 1, j, by omega, hjn, by go_num, rfl, HA2, HB, by (repeat (first | exact Below.refl _ _ | assumption | refine Below.drew ?_ | refine balloc ?_ _ | refine bset ?_ (by simp; omega) _ | refine bset ?_ (by simp) _ | refine bstep ?_ (by assumption)))⟩, ?_⟩
        simp [intOf]
        omega
      · have hd : decide (cmpQ l.con c < 0) = false := decide_eq_false hneg
        have HB2 : Hid (∀ k, m ≤ k → k < n → c ≤ (xs.getD k default).con) := fun k hk hkn => by
          have h1 : c ≤ (xs.getD m default).con := by rw [← HL.out]; have := mt cmpQ_neg.2 hneg; omega
          by_cases e : k = m
          · rw [e]; exact h1
          · have := HR.out m k (by omega) (by omega); omega
        go_wp2_with (first | (go_at_call 143; refine (mrkCmp_any l  c _).mono ?_; rintro e wa ⟨rfl, hb1⟩))
        refine ⟨⟨i, m, hm1, by omega, rfl, rfl, HA, HB2, by (repeat (first | exact Below.refl _ _ | assumption | refine Below.drew ?_ | refine balloc ?_ _ | refine bset ?_ (by simp; omega) _ | refine bset ?_ (by simp) _ | refine bstep ?_ (by assumption)))⟩, ?_⟩
        simp [intOf]
        omega
    · obtain rfl : i = j := by omega
      have hi4 : (0 : Int) ≤ i := by omega
      have hnl : ¬ (i : Int) < i := by omega
      by_cases hin : i < n
      · obtain ⟨bx, ox, rfl, g1⟩ := HX.out i hin
        obtain ⟨l, hl⟩ : ∃ l, l = xs.getD i default := ⟨_, rfl⟩
        rw [← hl] at g1
        have HL : Hid (l = xs.getD i default) := hl
        clear hl
        obtain ⟨g2, g3⟩ := mrkCells_below hbl g1; clear g1
        have hi5 : (i : Int) < n := by omega
        have hi6 : decide (i < n) = true := decide_eq_true hin
        go_wp2_with (first | (go_at_call 143; refine (mrkCmp_any l  c _).mono ?_; rintro e wa ⟨rfl, hb1⟩))
        refine bodyPost_ret (v := .tuple #[.int .i64 i, .bool (cmpQ l.con c == 0)]) (by simp [results, Tryz.results142, go_sem]) rfl ?_
        refine ⟨i, by rw [HN.out]; exact hjn, ?_, HA.out, by rw [HN.out]; exact HB.out, by (repeat (first | exact Below.refl _ _ | assumption | refine Below.drew ?_ | refine balloc ?_ _ | refine bset ?_ (by simp; omega) _ | refine bset ?_ (by simp) _ | refine bstep ?_ (by assumption)))⟩
        rw [← HL.out, HN.out]
        have e : (cmpQ l.con c == 0) = decide (i < n ∧ l.con = c) := by
          rw [Bool.eq_iff_iff]
          simp [hin, cmpQ_eq]
        rw [e]
      · have hi5 : ¬ (i : Int) < n := by omega
        have hi6 : decide (i < n) = false := decide_eq_false hin
        go_wp2
        refine bodyPost_ret (v := .tuple #[.int .i64 i, .bool false]) (by simp [results, Tryz.results142, go_sem]) rfl ?_
        refine ⟨i, by rw [HN.out]; exact hjn, ?_, HA.out, by rw [HN.out]; exact HB.out, by (repeat (first | exact Below.refl _ _ | assumption | refine Below.drew ?_ | refine balloc ?_ _ | refine bset ?_ (by simp; omega) _ | refine bset ?_ (by simp) _ | refine bstep ?_ (by assumption)))⟩
        rw [HN.out, decide_eq_false (fun h => hin h.1)]
set_option maxHeartbeats 2000000 in
theorem markPlace_any (x : Value) (xs : List Mrk) (c : Int) (w : World) (hx : mrksR.V w x xs) (hn : xs.length ≤ 1048576) (hr : ∀ i j, i < j → j < xs.length → (xs.getD i default).con < (xs.getD j default).con) :
    Calls Tryz.prog 122 #[x, .int .i64 c] w (PlM xs c w) := by
  have HB : Hid (∀ W, Below w.heap.size w W → Calls Tryz.prog 142 #[x, .int .i64 c, .func (.func 143) #[] #[]] W (PlM xs c W)) := fun W hW => bsM_any x xs c W (mrksR.below hx hW) hn hr
  obtain ⟨a, ca, rfl⟩ := mrks_form hx
  clear hx hr
  go_enter Tryz.func122, Tryz.ntmps122
  go_wp2_with fail
  refine (HB.out _ (by (repeat (first | exact Below.refl _ _ | assumption | refine Below.drew ?_ | refine balloc ?_ _ | refine bset ?_ (by simp; omega) _ | refine bset ?_ (by simp) _ | refine bstep ?_ (by assumption))))).mono ?_
  rintro e w1 ⟨i, hi, rfl, h1, h2, hb1⟩
  go_wp2
  refine bodyPost_ret (v := .tuple #[.int .i64 i, .bool (decide (i < xs.length ∧ (xs.getD i default).con = c))]) (by simp [results, Tryz.results122, go_sem]) rfl ?_
  exact ⟨i, hi, rfl, h1, h2, by (repeat (first | exact Below.refl _ _ | assumption | refine Below.drew ?_ | refine balloc ?_ _ | refine bset ?_ (by simp; omega) _ | refine bset ?_ (by simp) _ | refine bstep ?_ (by assumption)))⟩
set_option maxHeartbeats 2000000 in
theorem valueIn_any (x : Value) (xs : List Mrk) (c : Int) (w : World) (hx : mrksR.V w x xs) (hn : xs.length ≤ 1048576) (hr : ∀ i j, i < j → j < xs.length → (xs.getD i default).con < (xs.getD j default).con) :
    Calls Tryz.prog 106 #[x, .int .i64 c] w fun e w' => e = .returned (.int .i64 (findM c xs)) ∧ Below w.heap.size w w' := by
  have HB : Hid (∀ W, Below w.heap.size w W → Calls Tryz.prog 122 #[x, .int .i64 c] W (PlM xs c W)) := fun W hW => markPlace_any x xs c W (mrksR.below hx hW) hn hr
  obtain ⟨ax, cx, rfl, hcx, hmx, hx⟩ := hx
  unfold maxLen at hmx
  have HF : Hid (∀ i, i ≤ xs.length → (∀ k, k < i → (xs.getD k default).con < c) → (∀ k, i ≤ k → k < xs.length → c ≤ (xs.getD k default).con) → findM c xs = if i < xs.length ∧ (xs.getD i default).con = c then (xs.getD i default).val else 0) := fun i hi h1 h2 => findM_at hr hi h1 h2
  have HX : Hid (∀ i, i < xs.length → ∃ b o, ax = some ⟨b, o, none⟩ ∧ mrkCells w b (o + i * 2) (xs.getD i default)) := hx
  clear hx hr
  go_enter Tryz.func106, Tryz.ntmps106
  go_wp2_with fail
  refine (HB.out _ (by (repeat (first | exact Below.refl _ _ | assumption | refine Below.drew ?_ | refine balloc ?_ _ | refine bset ?_ (by simp; omega) _ | refine bset ?_ (by simp) _ | refine bstep ?_ (by assumption))))).mono ?_
  rintro e w1 ⟨i, hi, rfl, h1, h2, hb1⟩
  have hf := HF.out i hi h1 h2
  have HFd : Hid (findM c xs = if i < xs.length ∧ (xs.getD i default).con = c then (xs.getD i default).val else 0) := hf
  clear HF h1 h2 hf
  by_cases hc : i < xs.length ∧ (xs.getD i default).con = c
  · have hd : decide (i < xs.length ∧ (xs.getD i default).con = c) = true := decide_eq_true hc
    rw [hd]
    have HC : Hid (findM c xs = (xs.getD i default).val) := by show _ = _; rw [HFd.out, if_pos hc]
    obtain ⟨bx, ox, rfl, g1⟩ := HX.out i hc.1
    obtain ⟨g2, g3⟩ := mrkCells_below hb1 g1
    have i1 : (i : Int) < xs.length := by have := hc.1; omega
    have i2 : (0 : Int) ≤ i := by omega
    clear hd hc HFd g1
    generalize (xs.getD i default).val = vv at *
    generalize xs.length = n at *
    go_wp2
    go_ret
    exact ⟨by rw [HC.out]; rfl, by (repeat (first | exact Below.refl _ _ | assumption | refine Below.drew ?_ | refine balloc ?_ _ | refine bset ?_ (by simp; omega) _ | refine bset ?_ (by simp) _ | refine bstep ?_ (by assumption)))⟩
  · have hd : decide (i < xs.length ∧ (xs.getD i default).con = c) = false := decide_eq_false hc
    rw [hd]
    have HC : Hid (findM c xs = 0) := by show _ = _; rw [HFd.out, if_neg hc]
    clear hd hc HFd
    go_wp2
    go_ret
    exact ⟨by rw [HC.out]; rfl, by (repeat (first | exact Below.refl _ _ | assumption | refine Below.drew ?_ | refine balloc ?_ _ | refine bset ?_ (by simp; omega) _ | refine bset ?_ (by simp) _ | refine bstep ?_ (by assumption)))⟩
end Go.Proofs.YtndghenlapbaaaaGreatDoor

/-
  Contracts that are searched for, the program's.
-/
set_option linter.unusedSimpArgs false
set_option linter.unusedVariables false
namespace Go.Proofs.YtndghenlapbaaaaGreatDoor
open Go.RowKit
set_option linter.unusedSectionVars false
variable [DecidableEq Rw] [Inhabited Rw] [DecidableEq Bal] [Inhabited Bal] [DecidableEq Ledg] [Inhabited Ledg] [DecidableEq Leg] [Inhabited Leg] [DecidableEq Cont] [Inhabited Cont] [DecidableEq LedgR] [Inhabited LedgR] [DecidableEq OutcR] [Inhabited OutcR] [DecidableEq Mrk] [Inhabited Mrk] [DecidableEq Shd] [Inhabited Shd] [DecidableEq ShdR] [Inhabited ShdR]
attribute [local go_sem ↓] Go.wp_at_zero Go.wp_at_succ

set_option maxHeartbeats 1000000 in
theorem contCmp_any (l : Cont) (u : Value) (c : Int) (w : World) : Calls Tryz.prog 124 #[.agg #[.int .i64 l.id, u], .int .i64 c] w fun e w' => e = .returned (.int .i64 (cmpQ l.id c)) ∧ Below w.heap.size w w' := by
  go_enter Tryz.func124, Tryz.ntmps124
  go_wp2_with (go_at_call 125; refine (cmpQ_any _ _ _).mono ?_; rintro e w' ⟨rfl, rfl⟩)
  go_ret
  exact ⟨rfl, by (repeat (first | exact Below.refl _ _ | assumption | refine Below.drew ?_ | refine balloc ?_ _ | refine bset ?_ (by simp; omega) _ | refine bset ?_ (by simp) _ | refine bstep ?_ (by assumption)))⟩
def PlC (xs : List Cont) (c : Int) (w : World) (e : Ending) (w' : World) : Prop := ∃ i : Nat, i ≤ xs.length ∧ e = .returned (.tuple #[.int .i64 i, .bool (decide (i < xs.length ∧ (xs.getD i default).id = c))]) ∧ (∀ k, k < i → (xs.getD k default).id < c) ∧ (∀ k, i ≤ k → k < xs.length → c ≤ (xs.getD k default).id) ∧ Below w.heap.size w w'
set_option maxRecDepth 20000 in
set_option maxHeartbeats 8000000 in
theorem bsC_any (x : Value) (xs : List Cont) (c : Int) (w : World) (hx : contsR.V w x xs) (hn : xs.length ≤ 1048576) (hr : ∀ i j, i < j → j < xs.length → (xs.getD i default).id < (xs.getD j default).id) :
    Calls Tryz.prog 123 #[x, .int .i64 c, .func (.func 124) #[] #[]] w (PlC xs c w) := by
  obtain ⟨ax, cx, rfl, hcx, hmx, hx⟩ := conts_at hx
  unfold maxLen at hmx
  have HR : Hid (∀ i j, i < j → j < xs.length → (xs.getD i default).id < (xs.getD j default).id) := hr
  have HX : Hid (∀ k, k < xs.length → ∃ b o p q, ax = some ⟨b, o, none⟩ ∧ w.cell? ⟨b, o + k * 2, none⟩ = some (.int .i64 (xs.getD k default).id) ∧ w.cell? ⟨b, o + k * 2 + 1, none⟩ = some (.slice p (xs.getD k default).legs.length q) ∧ contR.V w (.agg #[.int .i64 (xs.getD k default).id, .slice p (xs.getD k default).legs.length q]) (xs.getD k default)) := hx
  clear hx hr
  generalize hN : xs.length = n at *
  have HN : Hid (xs.length = n) := hN
  clear hN
  have eg := enters_of Tryz.func124 (by kernel_rfl) rfl
  go_enter Tryz.func123, Tryz.ntmps123
  go_wp2
  go_loopw [9, 10] (fun a b W => ∃ i j : Nat, i ≤ j ∧ j ≤ n ∧ a = .int .i64 i ∧ b = .int .i64 j ∧ Hid (∀ k, k < i → (xs.getD k default).id < c) ∧ Hid (∀ k, j ≤ k → k < n → c ≤ (xs.getD k default).id) ∧ Below w.heap.size w W) (fun a b _ => (intOf b).toNat - (intOf a).toNat)
  case atStart => exact ⟨0, n, Nat.zero_le _, Nat.le_refl _, rfl, rfl, fun k h => absurd h (Nat.not_lt_zero _), fun k h1 h2 => by omega, Below.refl _ _⟩
  case round =>
    obtain ⟨i, j, hij, hjn, rfl, rfl, HA, HB, hbl⟩ := hrel
    by_cases hlt : i < j
    · have hlt' : (i : Int) < j := by omega
      obtain ⟨m, hm⟩ : ∃ m : Nat, ((i : Int) + j) / 2 = (m : Int) := ⟨(i + j) / 2, by omega⟩
      have hm1 : i ≤ m := by omega
      have hm2 : m < j := by omega
      have hi4 : (0 : Int) ≤ m := by omega
      have hi5 : (m : Int) < n := by omega
      obtain ⟨bx, ox, pp, qq, rfl, g2, g3, _⟩ := HX.out m (by omega)
      obtain ⟨l, hl⟩ : ∃ l, l = xs.getD m default := ⟨_, rfl⟩
      rw [← hl] at g2 g3
      have HL : Hid (l = xs.getD m default) := hl
      clear hl
      replace g2 := cell_keep hbl g2; replace g3 := cell_keep hbl g3
      by_cases hneg : cmpQ l.id c < 0
      · have hd : decide (cmpQ l.id c < 0) = true := decide_eq_true hneg
        have HA2 : Hid (∀ k, k < m + 1 → (xs.getD k default).id < c) := fun k hk => by
          have h1 : (xs.getD m default).id < c := by rw [← HL.out]; exact cmpQ_neg.1 hneg
          by_cases e : k = m
          · rw [e]; exact h1
          · have := HR.out k m (by omega) (by omega); omega
        go_wp2_with (first | (go_at_call 124; refine (contCmp_any l _ c _).mono ?_; rintro e wa ⟨rfl, hb1⟩))
        refine ⟨⟨m + 1, j, by omega, hjn, by go_num, rfl, HA2, HB, by (repeat (first | exact Below.refl _ _ | assumption | refine Below.drew ?_ | refine balloc ?_ _ | refine bset ?_ (by simp; omega) _ | refine bset ?_ (by simp) _ | refine bstep ?_ (by assumption)))⟩, ?_⟩
        simp [intOf]
        omega
      · have hd : decide (cmpQ l.id c < 0) = false := decide_eq_false hneg
        have HB2 : Hid (∀ k, m ≤ k → k < n → c ≤ (xs.getD k default).id) := fun k hk hkn => by
          have h1 : c ≤ (xs.getD m default).id := by rw [← HL.out]; have := mt cmpQ_neg.2 hneg; omega
          by_cases e : k = m
          · rw [e]; exact h1
          · have := HR.out m k (by omega) (by omega); omega
        go_wp2_with (first | (go_at_call 124; refine (contCmp_any l _ c _).mono ?_; rintro e wa ⟨rfl, hb1⟩))
        refine ⟨⟨i, m, hm1, by omega, rfl, rfl, HA, HB2, by (repeat (first | exact Below.refl _ _ | assumption | refine Below.drew ?_ | refine balloc ?_ _ | refine bset ?_ (by simp; omega) _ | refine bset ?_ (by simp) _ | refine bstep ?_ (by assumption)))⟩, ?_⟩
        simp [intOf]
        omega
    · obtain rfl : i = j := by omega
      have hi4 : (0 : Int) ≤ i := by omega
      have hnl : ¬ (i : Int) < i := by omega
      by_cases hin : i < n
      · obtain ⟨bx, ox, pp, qq, rfl, g2, g3, _⟩ := HX.out i hin
        obtain ⟨l, hl⟩ : ∃ l, l = xs.getD i default := ⟨_, rfl⟩
        rw [← hl] at g2 g3
        have HL : Hid (l = xs.getD i default) := hl
        clear hl
        replace g2 := cell_keep hbl g2; replace g3 := cell_keep hbl g3
        have hi5 : (i : Int) < n := by omega
        have hi6 : decide (i < n) = true := decide_eq_true hin
        go_wp2_with (first | (go_at_call 124; refine (contCmp_any l _ c _).mono ?_; rintro e wa ⟨rfl, hb1⟩))
        refine bodyPost_ret (v := .tuple #[.int .i64 i, .bool (cmpQ l.id c == 0)]) (by simp [results, Tryz.results123, go_sem]) rfl ?_
        refine ⟨i, by rw [HN.out]; exact hjn, ?_, HA.out, by rw [HN.out]; exact HB.out, by (repeat (first | exact Below.refl _ _ | assumption | refine Below.drew ?_ | refine balloc ?_ _ | refine bset ?_ (by simp; omega) _ | refine bset ?_ (by simp) _ | refine bstep ?_ (by assumption)))⟩
        rw [← HL.out, HN.out]
        have e : (cmpQ l.id c == 0) = decide (i < n ∧ l.id = c) := by
          rw [Bool.eq_iff_iff]
          simp [hin, cmpQ_eq]
        rw [e]
      · have hi5 : ¬ (i : Int) < n := by omega
        have hi6 : decide (i < n) = false := decide_eq_false hin
        go_wp2
        refine bodyPost_ret (v := .tuple #[.int .i64 i, .bool false]) (by simp [results, Tryz.results123, go_sem]) rfl ?_
        refine ⟨i, by rw [HN.out]; exact hjn, ?_, HA.out, by rw [HN.out]; exact HB.out, by (repeat (first | exact Below.refl _ _ | assumption | refine Below.drew ?_ | refine balloc ?_ _ | refine bset ?_ (by simp; omega) _ | refine bset ?_ (by simp) _ | refine bstep ?_ (by assumption)))⟩
        rw [HN.out, decide_eq_false (fun h => hin h.1)]
set_option maxHeartbeats 2000000 in
theorem placeAmong_any (x : Value) (xs : List Cont) (c : Int) (w : World) (hx : contsR.V w x xs) (hn : xs.length ≤ 1048576) (hr : ∀ i j, i < j → j < xs.length → (xs.getD i default).id < (xs.getD j default).id) :
    Calls Tryz.prog 109 #[x, .int .i64 c] w (PlC xs c w) := by
  have HB : Hid (∀ W, Below w.heap.size w W → Calls Tryz.prog 123 #[x, .int .i64 c, .func (.func 124) #[] #[]] W (PlC xs c W)) := fun W hW => bsC_any x xs c W (contsR.below hx hW) hn hr
  obtain ⟨a, ca, rfl⟩ := conts_form hx
  clear hx hr
  go_enter Tryz.func109, Tryz.ntmps109
  go_wp2_with fail
  refine (HB.out _ (by (repeat (first | exact Below.refl _ _ | assumption | refine Below.drew ?_ | refine balloc ?_ _ | refine bset ?_ (by simp; omega) _ | refine bset ?_ (by simp) _ | refine bstep ?_ (by assumption))))).mono ?_
  rintro e w1 ⟨i, hi, rfl, h1, h2, hb1⟩
  go_wp2
  refine bodyPost_ret (v := .tuple #[.int .i64 i, .bool (decide (i < xs.length ∧ (xs.getD i default).id = c))]) (by simp [results, Tryz.results109, go_sem]) rfl ?_
  exact ⟨i, hi, rfl, h1, h2, by (repeat (first | exact Below.refl _ _ | assumption | refine Below.drew ?_ | refine balloc ?_ _ | refine bset ?_ (by simp; omega) _ | refine bset ?_ (by simp) _ | refine bstep ?_ (by assumption)))⟩
set_option maxHeartbeats 2000000 in
theorem isHeld_any (x : Value) (d : Shd) (c : Int) (w : World) (hx : shdR.V w x d) (hn : d.held.length ≤ 1048576) (hr : ∀ i j, i < j → j < d.held.length → (d.held.getD i default).id < (d.held.getD j default).id) :
    Calls Tryz.prog 92 #[x, .int .i64 c] w fun e w' => e = .returned (.bool (heldIn d.held c)) ∧ Below w.heap.size w w' := by
  obtain ⟨u1, u2, u3, u4, u5, rfl, _, _, h3, _, _⟩ := hx
  have HB : Hid (∀ W, Below w.heap.size w W → Calls Tryz.prog 109 #[u3, .int .i64 c] W (PlC d.held c W)) := fun W hW => placeAmong_any u3 d.held c W (contsR.below h3 hW) hn hr
  have HF : Hid (∀ i, (∀ k, k < i → (d.held.getD k default).id < c) → (∀ k, i ≤ k → k < d.held.length → c ≤ (d.held.getD k default).id) → heldIn d.held c = decide (i < d.held.length ∧ (d.held.getD i default).id = c)) := fun i h1 h2 => heldIn_at hr h1 h2
  obtain ⟨a3, c3, rfl⟩ := conts_form h3
  clear h3 hr
  go_enter Tryz.func92, Tryz.ntmps92
  go_wp2_with fail
  refine (HB.out _ (by (repeat (first | exact Below.refl _ _ | assumption | refine Below.drew ?_ | refine balloc ?_ _ | refine bset ?_ (by simp; omega) _ | refine bset ?_ (by simp) _ | refine bstep ?_ (by assumption))))).mono ?_
  rintro e w1 ⟨i, hi, rfl, h1, h2, hb1⟩
  have HC : Hid (heldIn d.held c = decide (i < d.held.length ∧ (d.held.getD i default).id = c)) := HF.out i h1 h2
  clear HF h1 h2
  generalize decide (i < d.held.length ∧ (d.held.getD i default).id = c) = bb at *
  go_wp2
  go_ret
  exact ⟨by rw [HC.out]; rfl, by (repeat (first | exact Below.refl _ _ | assumption | refine Below.drew ?_ | refine balloc ?_ _ | refine bset ?_ (by simp; omega) _ | refine bset ?_ (by simp) _ | refine bstep ?_ (by assumption)))⟩
end Go.Proofs.YtndghenlapbaaaaGreatDoor

/-
  What is asked of marks, the program's.
-/
set_option linter.unusedSimpArgs false
set_option linter.unusedVariables false
namespace Go.Proofs.YtndghenlapbaaaaGreatDoor
open Go.RowKit
set_option linter.unusedSectionVars false
variable [DecidableEq Rw] [Inhabited Rw] [DecidableEq Bal] [Inhabited Bal] [DecidableEq Ledg] [Inhabited Ledg] [DecidableEq Leg] [Inhabited Leg] [DecidableEq Cont] [Inhabited Cont] [DecidableEq LedgR] [Inhabited LedgR] [DecidableEq OutcR] [Inhabited OutcR] [DecidableEq Mrk] [Inhabited Mrk] [DecidableEq Shd] [Inhabited Shd] [DecidableEq ShdR] [Inhabited ShdR]
attribute [local go_sem ↓] Go.wp_at_zero Go.wp_at_succ

theorem isValue_any (n : Int) (w : World) : Calls Tryz.prog 63 #[.int .i64 n] w fun e w' => e = .returned (.bool (inB n 1 2)) ∧ w' = w := by
  go_enter Tryz.func63, Tryz.ntmps63
  go_wp2_with (go_at_call 87; refine (within_any _ _ _ _).mono ?_; rintro e w' ⟨rfl, rfl⟩)
  go_ret
  exact ⟨rfl, rfl⟩
theorem isOutcome_any (n : Int) (w : World) : Calls Tryz.prog 64 #[.int .i64 n] w fun e w' => e = .returned (.bool (inB n 1 2)) ∧ w' = w := by
  go_enter Tryz.func64, Tryz.ntmps64
  go_wp2_with (go_at_call 87; refine (within_any _ _ _ _).mono ?_; rintro e w' ⟨rfl, rfl⟩)
  go_ret
  exact ⟨rfl, rfl⟩
set_option maxRecDepth 20000 in
set_option maxHeartbeats 4000000 in
theorem marksV_any (x : Value) (xs : List Mrk) (w : World) (hx : mrksR.V w x xs) :
    Calls Tryz.prog 62 #[x, .func (.func 63) #[] #[]] w fun e w' => e = .returned (.int .i64 (mrkF xs)) ∧ Below w.heap.size w w' := by
  obtain ⟨ax, cx, rfl, hcx, hmx, hx⟩ := hx
  unfold maxLen at hmx
  have HH : Hid (∀ k c, k < xs.length → scanI (mrkAt xs) k = 0 → mrkAt xs k = c → c ≠ 0 → mrkF xs = c) := fun k c hk hs h hc => mrkF_hit hk hs h hc
  have HE : Hid (scanI (mrkAt xs) xs.length = 0 → mrkF xs = 0) := fun h => h
  generalize hn' : xs.length = n at *
  clear hn'
  have eg := enters_of Tryz.func63 (by kernel_rfl) rfl
  go_enter Tryz.func62, Tryz.ntmps62
  go_wp2
  go_loopw [9] (fun i w' => ∃ k : Nat, k ≤ n ∧ i = .int .i64 k ∧ Hid (scanI (mrkAt xs) k = 0) ∧ Below w.heap.size w w') (fun i _ => n - (intOf i).toNat)
  case atStart => exact ⟨0, Nat.zero_le _, rfl, rfl, Below.refl _ _⟩
  case round =>
    obtain ⟨k, hk, rfl, HS, hbl⟩ := hrel
    by_cases hlt : k < n
    · obtain ⟨bx, ox, rfl, g1⟩ := hx k hlt
      obtain ⟨l, hl⟩ : ∃ l, l = xs.getD k default := ⟨_, rfl⟩
      rw [← hl] at g1
      have HL : Hid (l = xs.getD k default) := hl
      clear hl
      obtain ⟨a1, a2⟩ := mrkCells_below hbl g1
      have zb : bx < wr.heap.size := World.block_lt_of_cell? wr _ a1
      cases h1 : inB l.con 1 1000000000
      · have HC : Hid (mrkF xs = 3) := HH.out k 3 hlt HS.out (mrkAt_bad (by rw [← HL.out, h1]; rfl)) (by omega)
        clear hx
        go_wp2_with (first | (go_at_call 86; refine (isId_any _ _).mono ?_; rintro e w' ⟨rfl, rfl⟩; rw [h1]))
        go_ret
        exact ⟨by rw [HC.out]; rfl, by (repeat (first | exact Below.refl _ _ | assumption | refine Below.drew ?_ | refine balloc ?_ _ | refine bset ?_ (by simp; omega) _ | refine bset ?_ (by simp) _ | refine bstep ?_ (by assumption)))⟩
      cases h2 : inB l.val 1 2
      · have HC : Hid (mrkF xs = 3) := HH.out k 3 hlt HS.out (mrkAt_bad (by rw [← HL.out, h1, h2]; rfl)) (by omega)
        clear hx
        go_wp2_with (first | (go_at_call 86; refine (isId_any _ _).mono ?_; rintro e w' ⟨rfl, rfl⟩; rw [h1]) | (go_at_call 63; refine (isValue_any _ _).mono ?_; rintro e w' ⟨rfl, rfl⟩; rw [h2]))
        go_ret
        exact ⟨by rw [HC.out]; rfl, by (repeat (first | exact Below.refl _ _ | assumption | refine Below.drew ?_ | refine balloc ?_ _ | refine bset ?_ (by simp; omega) _ | refine bset ?_ (by simp) _ | refine bstep ?_ (by assumption)))⟩
      have hok : Hid ((inB (xs.getD k default).con 1 1000000000 && inB (xs.getD k default).val 1 2) = true) := by show _ = _; rw [← HL.out, h1, h2]; rfl
      cases k with
      | zero =>
        have HS2 : Hid (scanI (mrkAt xs) 1 = 0) := scanI_succ HS.out (mrkAt_zero hok.out)
        clear hx
        simp only [Nat.zero_mul, Nat.add_zero] at a1 a2
        go_wp2_with (first | (go_at_call 86; refine (isId_any _ _).mono ?_; rintro e w' ⟨rfl, rfl⟩; rw [h1]) | (go_at_call 63; refine (isValue_any _ _).mono ?_; rintro e w' ⟨rfl, rfl⟩; rw [h2]))
        go_quiet (fail)
        go_wp2
        exact ⟨⟨1, by omega, by go_num, HS2, bdrewN (by (repeat (first | exact Below.refl _ _ | assumption | refine Below.drew ?_ | refine balloc ?_ _ | refine bset ?_ (by simp; omega) _ | refine bset ?_ (by simp) _ | refine bstep ?_ (by assumption)))) _⟩, by simp [intOf]; omega⟩
      | succ m =>
        obtain ⟨bx', ox', he, g2⟩ := hx m (by omega)
        simp only [Option.some.injEq, Addr.mk.injEq, and_true] at he
        obtain ⟨rfl, rfl⟩ := he
        obtain ⟨l', hl'⟩ : ∃ l', l' = xs.getD m default := ⟨_, rfl⟩
        rw [← hl'] at g2
        have HL' : Hid (l' = xs.getD m default) := hl'
        clear hl' hx
        obtain ⟨a3, a4⟩ := mrkCells_below hbl g2
        have hw1 : IntKind.i64.wrap (((m + 1 : Nat) : Int) - 1) = (m : Int) := by rw [IntKind.wrap_i64]; omega
        have hw2 : (((m + 1 : Nat) : Int) - 1) = (m : Int) := by omega
        have hw3 : IntKind.i64.wrap (m : Int) = (m : Int) := wrapId (by omega) (by omega)
        have e1 : ((m + 1 : Nat) : Int) < n := by omega
        have e2 : (m : Int) < n := by omega
        have e3 : (0 : Int) ≤ m := by omega
        have e4 : (0 : Int) < ((m + 1 : Nat) : Int) := by omega
        have e5 : (0 : Int) ≤ ((m + 1 : Nat) : Int) := by omega
        have HFa : Hid (l.con ≤ l'.con → mrkF xs = 1) := fun h => HH.out (m + 1) 1 hlt HS.out (mrkAt_fall hok.out (by rw [← HL.out, ← HL'.out]; exact h)) (by omega)
        have HRi : Hid (l'.con < l.con → scanI (mrkAt xs) (m + 1 + 1) = 0) := fun h => scanI_succ HS.out (mrkAt_rise hok.out (by rw [← HL.out, ← HL'.out]; exact h))
        clear hok
        obtain ⟨ii, hii⟩ : ∃ ii : Nat, ii = m + 1 := ⟨_, rfl⟩
        have HII : Hid (ii = m + 1) := hii
        rw [← hii] at a1 a2 hw1 hw2 e1 e4 e5 HRi ⊢
        clear hii HS
        have e6 : decide (0 < ii) = true := decide_eq_true (by have := HII.out; omega)
        by_cases hle : l.con ≤ l'.con
        · have HC := HFa.out hle
          go_wp2_with (first | (go_at_call 86; refine (isId_any _ _).mono ?_; rintro e w' ⟨rfl, rfl⟩; rw [h1]) | (go_at_call 63; refine (isValue_any _ _).mono ?_; rintro e w' ⟨rfl, rfl⟩; rw [h2]))
          go_quiet (fail)
          go_wp2
          go_ret
          exact ⟨by rw [HC]; rfl, bdrewN (by (repeat (first | exact Below.refl _ _ | assumption | refine Below.drew ?_ | refine balloc ?_ _ | refine bset ?_ (by simp; omega) _ | refine bset ?_ (by simp) _ | refine bstep ?_ (by assumption)))) _⟩
        · have HS2 : Hid (scanI (mrkAt xs) (ii + 1) = 0) := HRi.out (by omega)
          go_wp2_with (first | (go_at_call 86; refine (isId_any _ _).mono ?_; rintro e w' ⟨rfl, rfl⟩; rw [h1]) | (go_at_call 63; refine (isValue_any _ _).mono ?_; rintro e w' ⟨rfl, rfl⟩; rw [h2]))
          go_quiet (fail)
          go_wp2
          exact ⟨⟨ii + 1, by omega, by go_num, HS2, bdrewN (by (repeat (first | exact Below.refl _ _ | assumption | refine Below.drew ?_ | refine balloc ?_ _ | refine bset ?_ (by simp; omega) _ | refine bset ?_ (by simp) _ | refine bstep ?_ (by assumption)))) _⟩, by simp [intOf]; omega⟩
    · have hkn : k = n := by omega
      subst hkn
      have HC := HE.out HS.out
      go_wp2
      go_ret
      exact ⟨by rw [HC]; rfl, by (repeat (first | exact Below.refl _ _ | assumption | refine Below.drew ?_ | refine balloc ?_ _ | refine bset ?_ (by simp; omega) _ | refine bset ?_ (by simp) _ | refine bstep ?_ (by assumption)))⟩
set_option maxRecDepth 20000 in
set_option maxHeartbeats 4000000 in
theorem marksO_any (x : Value) (xs : List Mrk) (w : World) (hx : mrksR.V w x xs) :
    Calls Tryz.prog 62 #[x, .func (.func 64) #[] #[]] w fun e w' => e = .returned (.int .i64 (mrkF xs)) ∧ Below w.heap.size w w' := by
  obtain ⟨ax, cx, rfl, hcx, hmx, hx⟩ := hx
  unfold maxLen at hmx
  have HH : Hid (∀ k c, k < xs.length → scanI (mrkAt xs) k = 0 → mrkAt xs k = c → c ≠ 0 → mrkF xs = c) := fun k c hk hs h hc => mrkF_hit hk hs h hc
  have HE : Hid (scanI (mrkAt xs) xs.length = 0 → mrkF xs = 0) := fun h => h
  generalize hn' : xs.length = n at *
  clear hn'
  have eg := enters_of Tryz.func64 (by kernel_rfl) rfl
  go_enter Tryz.func62, Tryz.ntmps62
  go_wp2
  go_loopw [9] (fun i w' => ∃ k : Nat, k ≤ n ∧ i = .int .i64 k ∧ Hid (scanI (mrkAt xs) k = 0) ∧ Below w.heap.size w w') (fun i _ => n - (intOf i).toNat)
  case atStart => exact ⟨0, Nat.zero_le _, rfl, rfl, Below.refl _ _⟩
  case round =>
    obtain ⟨k, hk, rfl, HS, hbl⟩ := hrel
    by_cases hlt : k < n
    · obtain ⟨bx, ox, rfl, g1⟩ := hx k hlt
      obtain ⟨l, hl⟩ : ∃ l, l = xs.getD k default := ⟨_, rfl⟩
      rw [← hl] at g1
      have HL : Hid (l = xs.getD k default) := hl
      clear hl
      obtain ⟨a1, a2⟩ := mrkCells_below hbl g1
      have zb : bx < wr.heap.size := World.block_lt_of_cell? wr _ a1
      cases h1 : inB l.con 1 1000000000
      · have HC : Hid (mrkF xs = 3) := HH.out k 3 hlt HS.out (mrkAt_bad (by rw [← HL.out, h1]; rfl)) (by omega)
        clear hx
        go_wp2_with (first | (go_at_call 86; refine (isId_any _ _).mono ?_; rintro e w' ⟨rfl, rfl⟩; rw [h1]))
        go_ret
        exact ⟨by rw [HC.out]; rfl, by (repeat (first | exact Below.refl _ _ | assumption | refine Below.drew ?_ | refine balloc ?_ _ | refine bset ?_ (by simp; omega) _ | refine bset ?_ (by simp) _ | refine bstep ?_ (by assumption)))⟩
      cases h2 : inB l.val 1 2
      · have HC : Hid (mrkF xs = 3) := HH.out k 3 hlt HS.out (mrkAt_bad (by rw [← HL.out, h1, h2]; rfl)) (by omega)
        clear hx
        go_wp2_with (first | (go_at_call 86; refine (isId_any _ _).mono ?_; rintro e w' ⟨rfl, rfl⟩; rw [h1]) | (go_at_call 64; refine (isOutcome_any _ _).mono ?_; rintro e w' ⟨rfl, rfl⟩; rw [h2]))
        go_ret
        exact ⟨by rw [HC.out]; rfl, by (repeat (first | exact Below.refl _ _ | assumption | refine Below.drew ?_ | refine balloc ?_ _ | refine bset ?_ (by simp; omega) _ | refine bset ?_ (by simp) _ | refine bstep ?_ (by assumption)))⟩
      have hok : Hid ((inB (xs.getD k default).con 1 1000000000 && inB (xs.getD k default).val 1 2) = true) := by show _ = _; rw [← HL.out, h1, h2]; rfl
      cases k with
      | zero =>
        have HS2 : Hid (scanI (mrkAt xs) 1 = 0) := scanI_succ HS.out (mrkAt_zero hok.out)
        clear hx
        simp only [Nat.zero_mul, Nat.add_zero] at a1 a2
        go_wp2_with (first | (go_at_call 86; refine (isId_any _ _).mono ?_; rintro e w' ⟨rfl, rfl⟩; rw [h1]) | (go_at_call 64; refine (isOutcome_any _ _).mono ?_; rintro e w' ⟨rfl, rfl⟩; rw [h2]))
        go_quiet (fail)
        go_wp2
        exact ⟨⟨1, by omega, by go_num, HS2, bdrewN (by (repeat (first | exact Below.refl _ _ | assumption | refine Below.drew ?_ | refine balloc ?_ _ | refine bset ?_ (by simp; omega) _ | refine bset ?_ (by simp) _ | refine bstep ?_ (by assumption)))) _⟩, by simp [intOf]; omega⟩
      | succ m =>
        obtain ⟨bx', ox', he, g2⟩ := hx m (by omega)
        simp only [Option.some.injEq, Addr.mk.injEq, and_true] at he
        obtain ⟨rfl, rfl⟩ := he
        obtain ⟨l', hl'⟩ : ∃ l', l' = xs.getD m default := ⟨_, rfl⟩
        rw [← hl'] at g2
        have HL' : Hid (l' = xs.getD m default) := hl'
        clear hl' hx
        obtain ⟨a3, a4⟩ := mrkCells_below hbl g2
        have hw1 : IntKind.i64.wrap (((m + 1 : Nat) : Int) - 1) = (m : Int) := by rw [IntKind.wrap_i64]; omega
        have hw2 : (((m + 1 : Nat) : Int) - 1) = (m : Int) := by omega
        have hw3 : IntKind.i64.wrap (m : Int) = (m : Int) := wrapId (by omega) (by omega)
        have e1 : ((m + 1 : Nat) : Int) < n := by omega
        have e2 : (m : Int) < n := by omega
        have e3 : (0 : Int) ≤ m := by omega
        have e4 : (0 : Int) < ((m + 1 : Nat) : Int) := by omega
        have e5 : (0 : Int) ≤ ((m + 1 : Nat) : Int) := by omega
        have HFa : Hid (l.con ≤ l'.con → mrkF xs = 1) := fun h => HH.out (m + 1) 1 hlt HS.out (mrkAt_fall hok.out (by rw [← HL.out, ← HL'.out]; exact h)) (by omega)
        have HRi : Hid (l'.con < l.con → scanI (mrkAt xs) (m + 1 + 1) = 0) := fun h => scanI_succ HS.out (mrkAt_rise hok.out (by rw [← HL.out, ← HL'.out]; exact h))
        clear hok
        obtain ⟨ii, hii⟩ : ∃ ii : Nat, ii = m + 1 := ⟨_, rfl⟩
        have HII : Hid (ii = m + 1) := hii
        rw [← hii] at a1 a2 hw1 hw2 e1 e4 e5 HRi ⊢
        clear hii HS
        have e6 : decide (0 < ii) = true := decide_eq_true (by have := HII.out; omega)
        by_cases hle : l.con ≤ l'.con
        · have HC := HFa.out hle
          go_wp2_with (first | (go_at_call 86; refine (isId_any _ _).mono ?_; rintro e w' ⟨rfl, rfl⟩; rw [h1]) | (go_at_call 64; refine (isOutcome_any _ _).mono ?_; rintro e w' ⟨rfl, rfl⟩; rw [h2]))
          go_quiet (fail)
          go_wp2
          go_ret
          exact ⟨by rw [HC]; rfl, bdrewN (by (repeat (first | exact Below.refl _ _ | assumption | refine Below.drew ?_ | refine balloc ?_ _ | refine bset ?_ (by simp; omega) _ | refine bset ?_ (by simp) _ | refine bstep ?_ (by assumption)))) _⟩
        · have HS2 : Hid (scanI (mrkAt xs) (ii + 1) = 0) := HRi.out (by omega)
          go_wp2_with (first | (go_at_call 86; refine (isId_any _ _).mono ?_; rintro e w' ⟨rfl, rfl⟩; rw [h1]) | (go_at_call 64; refine (isOutcome_any _ _).mono ?_; rintro e w' ⟨rfl, rfl⟩; rw [h2]))
          go_quiet (fail)
          go_wp2
          exact ⟨⟨ii + 1, by omega, by go_num, HS2, bdrewN (by (repeat (first | exact Below.refl _ _ | assumption | refine Below.drew ?_ | refine balloc ?_ _ | refine bset ?_ (by simp; omega) _ | refine bset ?_ (by simp) _ | refine bstep ?_ (by assumption)))) _⟩, by simp [intOf]; omega⟩
    · have hkn : k = n := by omega
      subst hkn
      have HC := HE.out HS.out
      go_wp2
      go_ret
      exact ⟨by rw [HC]; rfl, by (repeat (first | exact Below.refl _ _ | assumption | refine Below.drew ?_ | refine balloc ?_ _ | refine bset ?_ (by simp; omega) _ | refine bset ?_ (by simp) _ | refine bstep ?_ (by assumption)))⟩
set_option maxHeartbeats 2000000 in
theorem isDone_any (x : Value) (d : Shd) (c : Int) (w : World) (hx : shdR.V w x d) (hn : d.done.length ≤ 1048576) (hok : MrksOk d.done) :
    Calls Tryz.prog 107 #[x, .int .i64 c] w fun e w' => e = .returned (.bool (findM c d.done != 0)) ∧ Below w.heap.size w w' := by
  obtain ⟨u1, u2, u3, u4, u5, rfl, h1, h2, h3, h4, h5⟩ := hx
  have HV : Hid (∀ W, Below w.heap.size w W → Calls Tryz.prog 106 #[u4, .int .i64 c] W fun e w' => e = .returned (.int .i64 (findM c d.done)) ∧ Below W.heap.size W w') := fun W hW => valueIn_any u4 _ c W (mrksR.below h4 hW) hn hok.rise
  obtain ⟨a1, c1, rfl⟩ := bals_form h1
  obtain ⟨a2, c2, rfl⟩ := mrks_form h2
  obtain ⟨a3, c3, rfl⟩ := conts_form h3
  obtain ⟨a4, c4, rfl⟩ := mrks_form h4
  obtain ⟨a5, c5, rfl⟩ := ints_form h5
  clear h1 h2 h3 h4 h5 hok hn
  generalize d.bals.length = n1 at *
  generalize d.votes.length = n2 at *
  generalize d.held.length = n3 at *
  generalize d.done.length = n4 at *
  generalize d.appl.length = n5 at *
  generalize findM c d.done = f at *
  go_enter Tryz.func107, Tryz.ntmps107
  go_wp2_with (first | (go_at_call 106; refine (HV.out _ (by (repeat (first | exact Below.refl _ _ | assumption | refine Below.drew ?_ | refine balloc ?_ _ | refine bset ?_ (by simp; omega) _ | refine bset ?_ (by simp) _ | refine bstep ?_ (by assumption))))).mono ?_; rintro e w1 ⟨rfl, hb1⟩))
  go_ret
  exact ⟨rfl, by (repeat (first | exact Below.refl _ _ | assumption | refine Below.drew ?_ | refine balloc ?_ _ | refine bset ?_ (by simp; omega) _ | refine bset ?_ (by simp) _ | refine bstep ?_ (by assumption)))⟩
def awaitB (d : Shd) (c : Int) : Bool := (findM c d.votes == 1) && !(findM c d.done != 0)
set_option maxHeartbeats 2000000 in
theorem awaits_any (x : Value) (d : Shd) (c : Int) (w : World) (hx : shdR.V w x d) (hn : d.votes.length ≤ 1048576 ∧ d.done.length ≤ 1048576) (hov : MrksOk d.votes) (hod : MrksOk d.done) :
    Calls Tryz.prog 89 #[x, .int .i64 c] w fun e w' => e = .returned (.bool (awaitB d c)) ∧ Below w.heap.size w w' := by
  have HD : Hid (∀ W, Below w.heap.size w W → Calls Tryz.prog 107 #[x, .int .i64 c] W fun e w' => e = .returned (.bool (findM c d.done != 0)) ∧ Below W.heap.size W w') := fun W hW => isDone_any x d c W (shdR.below hx hW) hn.2 hod
  obtain ⟨u1, u2, u3, u4, u5, rfl, h1, h2, h3, h4, h5⟩ := hx
  have HV : Hid (∀ W, Below w.heap.size w W → Calls Tryz.prog 106 #[u2, .int .i64 c] W fun e w' => e = .returned (.int .i64 (findM c d.votes)) ∧ Below W.heap.size W w') := fun W hW => valueIn_any u2 _ c W (mrksR.below h2 hW) hn.1 hov.rise
  obtain ⟨a1, c1, rfl⟩ := bals_form h1
  obtain ⟨a2, c2, rfl⟩ := mrks_form h2
  obtain ⟨a3, c3, rfl⟩ := conts_form h3
  obtain ⟨a4, c4, rfl⟩ := mrks_form h4
  obtain ⟨a5, c5, rfl⟩ := ints_form h5
  clear h1 h2 h3 h4 h5 hov hod hn
  generalize d.bals.length = n1 at *
  generalize d.votes.length = n2 at *
  generalize d.held.length = n3 at *
  generalize d.done.length = n4 at *
  generalize d.appl.length = n5 at *
  unfold awaitB
  generalize findM c d.done = f at *
  generalize findM c d.votes = g at *
  by_cases hg : g = 1
  · have hg' : (g == 1) = true := by simp [hg]
    rw [hg']
    go_enter Tryz.func89, Tryz.ntmps89
    go_wp2_with fail
    refine (HV.out _ (by (repeat (first | exact Below.refl _ _ | assumption | refine Below.drew ?_ | refine balloc ?_ _ | refine bset ?_ (by simp; omega) _ | refine bset ?_ (by simp) _ | refine bstep ?_ (by assumption))))).mono ?_
    rintro e w1 ⟨rfl, hb1⟩
    have hB1 : Below w.heap.size w w1 := bstep (by (repeat (first | exact Below.refl _ _ | assumption | refine Below.drew ?_ | refine balloc ?_ _ | refine bset ?_ (by simp; omega) _ | refine bset ?_ (by simp) _ | refine bstep ?_ (by assumption)))) hb1
    have y0 : w1.cell? ⟨w.heap.size, 0, none⟩ = some (.int .i64 d.idx) := cell_keep hb1 (by simp [go_sem])
    have y1 : w1.cell? ⟨w.heap.size, 1, none⟩ = some (.slice a1 n1 c1) := cell_keep hb1 (by simp [go_sem])
    have y2 : w1.cell? ⟨w.heap.size, 2, none⟩ = some (.slice a2 n2 c2) := cell_keep hb1 (by simp [go_sem])
    have y3 : w1.cell? ⟨w.heap.size, 3, none⟩ = some (.slice a3 n3 c3) := cell_keep hb1 (by simp [go_sem])
    have y4 : w1.cell? ⟨w.heap.size, 4, none⟩ = some (.slice a4 n4 c4) := cell_keep hb1 (by simp [go_sem])
    have y5 : w1.cell? ⟨w.heap.size, 5, none⟩ = some (.slice a5 n5 c5) := cell_keep hb1 (by simp [go_sem])
    clear hb1
    go_wp2_with (first | (go_at_call 107; refine (HD.out _ (by (repeat (first | exact Below.refl _ _ | assumption | refine Below.drew ?_ | refine balloc ?_ _ | refine bset ?_ (by simp; omega) _ | refine bset ?_ (by simp) _ | refine bstep ?_ (by assumption))))).mono ?_; rintro e w2 ⟨rfl, hb2⟩))
    go_ret
    exact ⟨by simp, by (repeat (first | exact Below.refl _ _ | assumption | refine Below.drew ?_ | refine balloc ?_ _ | refine bset ?_ (by simp; omega) _ | refine bset ?_ (by simp) _ | refine bstep ?_ (by assumption)))⟩
  · have hg' : (g == 1) = false := by simp [hg]
    rw [hg']
    go_enter Tryz.func89, Tryz.ntmps89
    go_wp2_with (first | (go_at_call 106; refine (HV.out _ (by (repeat (first | exact Below.refl _ _ | assumption | refine Below.drew ?_ | refine balloc ?_ _ | refine bset ?_ (by simp; omega) _ | refine bset ?_ (by simp) _ | refine bstep ?_ (by assumption))))).mono ?_; rintro e w1 ⟨rfl, hb1⟩))
    go_ret
    exact ⟨by simp, by (repeat (first | exact Below.refl _ _ | assumption | refine Below.drew ?_ | refine balloc ?_ _ | refine bset ?_ (by simp; omega) _ | refine bset ?_ (by simp) _ | refine bstep ?_ (by assumption)))⟩
end Go.Proofs.YtndghenlapbaaaaGreatDoor

/-
  An operation that is skipped, and on which others' guards hang: what it would have yielded is nothing.
-/
namespace Go.Proofs.YtndghenlapbaaaaGreatDoor
open Go.RowKit

theorem upto_skipU {P : Program} {ops : Array Oper} {Q : Exit → Act → World → Prop} {md : Region.Mode} {S : World → Prop} {t : Nat} {i : Nat} {oi : Oper} {f : Nat} {listed : Array Bool} {a : Act} {w : World} (hi : ops[i]? = some oi) (hsel : Region.noSelect ops = true) (ht : ops[t]? = none)
    (hf : Region.free md ops listed i = true) (hr : (Region.ready md ops listed).contains i = true) (hQ : ∀ c a w, Q (.panic c) (a.put oi.dst undef) w → Q (.panic c) a w)
    (hwd : Region.wanted oi (yielded ops a.tmps) = false) (hS : S w)
    (h : wpUpto P md ops Q S t f (listed.setIfInBounds i true) (a.put oi.dst undef) w) : wpUpto P md ops Q S t (f + 1) listed a w :=
  upto_firstN hi hsel ht hQ f listed a w (Region.free_spec hi hf) (by simpa using hr) (Or.inr ⟨hwd, rfl⟩) hS h
end Go.Proofs.YtndghenlapbaaaaGreatDoor

