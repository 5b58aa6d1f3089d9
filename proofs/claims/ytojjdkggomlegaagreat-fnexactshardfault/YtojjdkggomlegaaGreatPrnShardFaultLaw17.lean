import Derived.Test.YtojjdkggomlegaaGreatPrnShardFaultLaw16
import Derived.BigQuiet
import Derived.Deep.QuietTactic
import Derived.Deep.RegionHeld3
import Derived.Test.YtojjdkggomlegaaGreatPrnShardFaultLaw4
import Derived.Test.YtojjdkggomlegaaGreatShD
import Derived.Test.YtojjdkggomlegaaGreatPrnShardFaultLaw8
import Derived.Test.YtojjdkggomlegaaGreatPrnShardFaultLaw10

/-
  Contracts that are searched for, the program's.
-/
set_option linter.unusedSimpArgs false
set_option linter.unusedVariables false
namespace Go.Proofs.YtojjdkggomlegaaGreat
open Go.RowKit
set_option linter.unusedSectionVars false
variable [DecidableEq Rw] [Inhabited Rw] [DecidableEq Bal] [Inhabited Bal] [DecidableEq Ledg] [Inhabited Ledg] [DecidableEq Leg] [Inhabited Leg] [DecidableEq Cont] [Inhabited Cont] [DecidableEq LedgR] [Inhabited LedgR] [DecidableEq OutcR] [Inhabited OutcR] [DecidableEq Mrk] [Inhabited Mrk] [DecidableEq Shd] [Inhabited Shd] [DecidableEq ShdR] [Inhabited ShdR]
attribute [local go_sem ↓] Go.wp_at_zero Go.wp_at_succ

set_option maxHeartbeats 1000000 in
theorem contCmp_any (l : Cont) (u : Value) (c : Int) (w : World) : Calls Tryz.prog 151 #[.agg #[.int .i64 l.id, u], .int .i64 c] w fun e w' => e = .returned (.int .i64 (cmpQ l.id c)) ∧ Below w.heap.size w w' := by
  go_enter Tryz.func151, Tryz.ntmps151
  go_wp2_with (go_at_call 148; refine (cmpQ_any _ _ _).mono ?_; rintro e w' ⟨rfl, rfl⟩)
  go_ret
  exact ⟨rfl, by (repeat (first | exact Below.refl _ _ | assumption | refine Below.drew ?_ | refine balloc ?_ _ | refine bset ?_ (by simp; omega) _ | refine bset ?_ (by simp) _ | refine bstep ?_ (by assumption)))⟩
def PlC (xs : List Cont) (c : Int) (w : World) (e : Ending) (w' : World) : Prop := ∃ i : Nat, i ≤ xs.length ∧ e = .returned (.tuple #[.int .i64 i, .bool (decide (i < xs.length ∧ (xs.getD i default).id = c))]) ∧ (∀ k, k < i → (xs.getD k default).id < c) ∧ (∀ k, i ≤ k → k < xs.length → c ≤ (xs.getD k default).id) ∧ Below w.heap.size w w'
set_option maxRecDepth 20000 in
set_option maxHeartbeats 8000000 in
theorem bsC_any (x : Value) (xs : List Cont) (c : Int) (w : World) (hx : contsR.V w x xs) (hn : xs.length ≤ 1048576) (hr : ∀ i j, i < j → j < xs.length → (xs.getD i default).id < (xs.getD j default).id) :
    Calls Tryz.prog 150 #[x, .int .i64 c, .func (.func 151) #[] #[]] w (PlC xs c w) := by
  obtain ⟨ax, cx, rfl, hcx, hmx, hx⟩ := conts_at hx
  unfold maxLen at hmx
  have HR : Hid (∀ i j, i < j → j < xs.length → (xs.getD i default).id < (xs.getD j default).id) := hr
  have HX : Hid (∀ k, k < xs.length → ∃ b o p q, ax = some ⟨b, o, none⟩ ∧ w.cell? ⟨b, o + k * 2, none⟩ = some (.int .i64 (xs.getD k default).id) ∧ w.cell? ⟨b, o + k * 2 + 1, none⟩ = some (.slice p (xs.getD k default).legs.length q) ∧ contR.V w (.agg #[.int .i64 (xs.getD k default).id, .slice p (xs.getD k default).legs.length q]) (xs.getD k default)) := hx
  clear hx hr
  generalize hN : xs.length = n at *
  have HN : Hid (xs.length = n) := hN
  clear hN
  have eg := enters_of Tryz.func151 (by kernel_rfl) rfl
  go_enter Tryz.func150, Tryz.ntmps150
  go_wp2
  go_loopw [9, 10] (fun a b W => ∃ i j : Nat, i ≤ j ∧ j ≤ n ∧ a = .int .i64 i ∧ b = .int .i64 j ∧ Hid (∀ k, k < i → (xs.getD k default).id < c) ∧ Hid (∀ k, j ≤ k → k < n → c ≤ (xs.getD k default).id) ∧ Below w.heap.size w W) (fun a b _ => (intOf b).toNat - (intOf a).toNat)
  case atStart => exact ⟨0, n, Nat.zero_le _, Nat.le_refl _, rfl, rfl, fun k h => absurd h (Nat.not_lt_zero _), fun k h1 h2 => by omega, Below.refl _ _⟩
  case round =>
    obtain ⟨i, j, hij, hjn, rfl, rfl, HA, HB, hbl⟩ := hrel
    by_cases hlt : i < j
    · have hlt' : (i : Int) < j := by omega
      obtain ⟨m, hm⟩ : ∃ m : Nat, ((i : Int) + j) / 2 = (m : Int) := ⟨(i + j) / 2, by omega⟩
      have hm1 : i ≤ m := by omega
      have hm2 : m < j := by omega
      have hi4 : (0 : Int) ≤ m := by omega
      have hi5 : (m : Int) < n := by omega
      obtain ⟨bx, ox, pp, qq, rfl, g2, g3, _⟩ := HX.out m (by omega)
      obtain ⟨l, hl⟩ : ∃ l, l = xs.getD m default := ⟨_, rfl⟩
      rw [← hl] at g2 g3
      have HL : Hid (l = xs.getD m default) := hl
      clear hl
      replace g2 := cell_keep hbl g2; replace g3 := cell_keep hbl g3
      by_cases hneg : cmpQ l.id c < 0
      · have hd : decide (cmpQ l.id c < 0) = true := decide_eq_true hneg
        have HA2 : Hid (∀ k, k < m + 1 → (xs.getD k default).id < c) := fun k hk => by
          have h1 : (xs.getD m default).id < c := by rw [← HL.out]; exact cmpQ_neg.1 hneg
          by_cases e : k = m
          · rw [e]; exact h1
          · have := HR.out k m (by omega) (by omega); omega
        go_wp2_with (first | (go_at_call 151; refine (contCmp_any l _ c _).mono ?_; rintro e wa ⟨rfl, hb1⟩))
        refine ⟨⟨m + 1, j, by omega, hjn, by go_num, rfl, HA2, HB, by (repeat (first | exact Below.refl _ _ | assumption | refine Below.drew ?_ | refine balloc ?_ _ | refine bset ?_ (by simp; omega) _ | refine bset ?_ (by simp) _ | refine bstep ?_ (by assumption)))⟩, ?_⟩
        simp [intOf]
        omega
      · have hd : decide (cmpQ l.id c < 0) = false := decide_eq_false hneg
        have HB2 : Hid (∀ k, m ≤ k → k < n → c ≤ (xs.getD k default).id) := fun k hk hkn => by
          have h1 : c ≤ (xs.getD m default).id := by rw [← HL.out]; have := mt cmpQ_neg.2 hneg; omega
          by_cases e : k = m
          · rw [e]; exact h1
          · have := HR.out m k (by omega) (by omega); omega
        go_wp2_with (first | (go_at_call 151; refine (contCmp_any l _ c _).mono ?_; rintro e wa ⟨rfl, hb1⟩))
        refine ⟨⟨i, m, hm1, by omega, rfl, rfl, HA, HB2, by (repeat (first | exact Below.refl _ _ | assumption | refine Below.drew ?_ | refine balloc ?_ _ | refine bset ?_ (by simp; omega) _ | refine bset ?_ (by simp) _ | refine bstep ?_ (by assumption)))⟩, ?_⟩
        simp [intOf]
        omega
    · obtain rfl : i = j := by omega
      have hi4 : (0 : Int) ≤ i := by omega
      have hnl : ¬ (i : Int) < i := by omega
      by_cases hin : i < n
      · obtain ⟨bx, ox, pp, qq, rfl, g2, g3, _⟩ := HX.out i hin
        obtain ⟨l, hl⟩ : ∃ l, l = xs.getD i default := ⟨_, rfl⟩
        rw [← hl] at g2 g3
        have HL : Hid (l = xs.getD i default) := hl
        clear hl
        replace g2 := cell_keep hbl g2; replace g3 := cell_keep hbl g3
        have hi5 : (i : Int) < n := by omega
        have hi6 : decide (i < n) = true := decide_eq_true hin
        go_wp2_with (first | (go_at_call 151; refine (contCmp_any l _ c _).mono ?_; rintro e wa ⟨rfl, hb1⟩))
        refine bodyPost_ret (v := .tuple #[.int .i64 i, .bool (cmpQ l.id c == 0)]) (by simp [results, Tryz.results150, go_sem]) rfl ?_
        refine ⟨i, by rw [HN.out]; exact hjn, ?_, HA.out, by rw [HN.out]; exact HB.out, by (repeat (first | exact Below.refl _ _ | assumption | refine Below.drew ?_ | refine balloc ?_ _ | refine bset ?_ (by simp; omega) _ | refine bset ?_ (by simp) _ | refine bstep ?_ (by assumption)))⟩
        rw [← HL.out, HN.out]
        have e : (cmpQ l.id c == 0) = decide (i < n ∧ l.id = c) := by
          rw [Bool.eq_iff_iff]
          simp [hin, cmpQ_eq]
        rw [e]
      · have hi5 : ¬ (i : Int) < n := by omega
        have hi6 : decide (i < n) = false := decide_eq_false hin
        go_wp2
        refine bodyPost_ret (v := .tuple #[.int .i64 i, .bool false]) (by simp [results, Tryz.results150, go_sem]) rfl ?_
        refine ⟨i, by rw [HN.out]; exact hjn, ?_, HA.out, by rw [HN.out]; exact HB.out, by (repeat (first | exact Below.refl _ _ | assumption | refine Below.drew ?_ | refine balloc ?_ _ | refine bset ?_ (by simp; omega) _ | refine bset ?_ (by simp) _ | refine bstep ?_ (by assumption)))⟩
        rw [HN.out, decide_eq_false (fun h => hin h.1)]
set_option maxHeartbeats 2000000 in
theorem placeAmong_any (x : Value) (xs : List Cont) (c : Int) (w : World) (hx : contsR.V w x xs) (hn : xs.length ≤ 1048576) (hr : ∀ i j, i < j → j < xs.length → (xs.getD i default).id < (xs.getD j default).id) :
    Calls Tryz.prog 122 #[x, .int .i64 c] w (PlC xs c w) := by
  have HB : Hid (∀ W, Below w.heap.size w W → Calls Tryz.prog 150 #[x, .int .i64 c, .func (.func 151) #[] #[]] W (PlC xs c W)) := fun W hW => bsC_any x xs c W (contsR.below hx hW) hn hr
  obtain ⟨a, ca, rfl⟩ := conts_form hx
  clear hx hr
  go_enter Tryz.func122, Tryz.ntmps122
  go_wp2_with fail
  refine (HB.out _ (by (repeat (first | exact Below.refl _ _ | assumption | refine Below.drew ?_ | refine balloc ?_ _ | refine bset ?_ (by simp; omega) _ | refine bset ?_ (by simp) _ | refine bstep ?_ (by assumption))))).mono ?_
  rintro e w1 ⟨i, hi, rfl, h1, h2, hb1⟩
  go_wp2
  refine bodyPost_ret (v := .tuple #[.int .i64 i, .bool (decide (i < xs.length ∧ (xs.getD i default).id = c))]) (by simp [results, Tryz.results122, go_sem]) rfl ?_
  exact ⟨i, hi, rfl, h1, h2, by (repeat (first | exact Below.refl _ _ | assumption | refine Below.drew ?_ | refine balloc ?_ _ | refine bset ?_ (by simp; omega) _ | refine bset ?_ (by simp) _ | refine bstep ?_ (by assumption)))⟩
set_option maxHeartbeats 2000000 in
theorem isHeld_any (x : Value) (d : Shd) (c : Int) (w : World) (hx : shdR.V w x d) (hn : d.held.length ≤ 1048576) (hr : ∀ i j, i < j → j < d.held.length → (d.held.getD i default).id < (d.held.getD j default).id) :
    Calls Tryz.prog 77 #[x, .int .i64 c] w fun e w' => e = .returned (.bool (heldIn d.held c)) ∧ Below w.heap.size w w' := by
  obtain ⟨u1, u2, u3, u4, u5, rfl, _, _, h3, _, _⟩ := hx
  have HB : Hid (∀ W, Below w.heap.size w W → Calls Tryz.prog 122 #[u3, .int .i64 c] W (PlC d.held c W)) := fun W hW => placeAmong_any u3 d.held c W (contsR.below h3 hW) hn hr
  have HF : Hid (∀ i, (∀ k, k < i → (d.held.getD k default).id < c) → (∀ k, i ≤ k → k < d.held.length → c ≤ (d.held.getD k default).id) → heldIn d.held c = decide (i < d.held.length ∧ (d.held.getD i default).id = c)) := fun i h1 h2 => heldIn_at hr h1 h2
  obtain ⟨a3, c3, rfl⟩ := conts_form h3
  clear h3 hr
  go_enter Tryz.func77, Tryz.ntmps77
  go_wp2_with fail
  refine (HB.out _ (by (repeat (first | exact Below.refl _ _ | assumption | refine Below.drew ?_ | refine balloc ?_ _ | refine bset ?_ (by simp; omega) _ | refine bset ?_ (by simp) _ | refine bstep ?_ (by assumption))))).mono ?_
  rintro e w1 ⟨i, hi, rfl, h1, h2, hb1⟩
  have HC : Hid (heldIn d.held c = decide (i < d.held.length ∧ (d.held.getD i default).id = c)) := HF.out i h1 h2
  clear HF h1 h2
  generalize decide (i < d.held.length ∧ (d.held.getD i default).id = c) = bb at *
  go_wp2
  go_ret
  exact ⟨by rw [HC.out]; rfl, by (repeat (first | exact Below.refl _ _ | assumption | refine Below.drew ?_ | refine balloc ?_ _ | refine bset ?_ (by simp; omega) _ | refine bset ?_ (by simp) _ | refine bstep ?_ (by assumption)))⟩
end Go.Proofs.YtojjdkggomlegaaGreat

/-
  What is asked of marks, the program's.
-/
set_option linter.unusedSimpArgs false
set_option linter.unusedVariables false
namespace Go.Proofs.YtojjdkggomlegaaGreat
open Go.RowKit
set_option linter.unusedSectionVars false
variable [DecidableEq Rw] [Inhabited Rw] [DecidableEq Bal] [Inhabited Bal] [DecidableEq Ledg] [Inhabited Ledg] [DecidableEq Leg] [Inhabited Leg] [DecidableEq Cont] [Inhabited Cont] [DecidableEq LedgR] [Inhabited LedgR] [DecidableEq OutcR] [Inhabited OutcR] [DecidableEq Mrk] [Inhabited Mrk] [DecidableEq Shd] [Inhabited Shd] [DecidableEq ShdR] [Inhabited ShdR]
attribute [local go_sem ↓] Go.wp_at_zero Go.wp_at_succ

theorem isValue_any (n : Int) (w : World) : Calls Tryz.prog 98 #[.int .i64 n] w fun e w' => e = .returned (.bool (inB n 1 2)) ∧ w' = w := by
  go_enter Tryz.func98, Tryz.ntmps98
  go_wp2_with (go_at_call 129; refine (within_any _ _ _ _).mono ?_; rintro e w' ⟨rfl, rfl⟩)
  go_ret
  exact ⟨rfl, rfl⟩
theorem isOutcome_any (n : Int) (w : World) : Calls Tryz.prog 76 #[.int .i64 n] w fun e w' => e = .returned (.bool (inB n 1 2)) ∧ w' = w := by
  go_enter Tryz.func76, Tryz.ntmps76
  go_wp2_with (go_at_call 129; refine (within_any _ _ _ _).mono ?_; rintro e w' ⟨rfl, rfl⟩)
  go_ret
  exact ⟨rfl, rfl⟩
set_option maxRecDepth 20000 in
set_option maxHeartbeats 4000000 in
theorem marksV_any (x : Value) (xs : List Mrk) (w : World) (hx : mrksR.V w x xs) :
    Calls Tryz.prog 97 #[x, .func (.func 98) #[] #[]] w fun e w' => e = .returned (.int .i64 (mrkF xs)) ∧ Below w.heap.size w w' := by
  obtain ⟨ax, cx, rfl, hcx, hmx, hx⟩ := hx
  unfold maxLen at hmx
  have HH : Hid (∀ k c, k < xs.length → scanI (mrkAt xs) k = 0 → mrkAt xs k = c → c ≠ 0 → mrkF xs = c) := fun k c hk hs h hc => mrkF_hit hk hs h hc
  have HE : Hid (scanI (mrkAt xs) xs.length = 0 → mrkF xs = 0) := fun h => h
  generalize hn' : xs.length = n at *
  clear hn'
  have eg := enters_of Tryz.func98 (by kernel_rfl) rfl
  go_enter Tryz.func97, Tryz.ntmps97
  go_wp2
  go_loopw [9] (fun i w' => ∃ k : Nat, k ≤ n ∧ i = .int .i64 k ∧ Hid (scanI (mrkAt xs) k = 0) ∧ Below w.heap.size w w') (fun i _ => n - (intOf i).toNat)
  case atStart => exact ⟨0, Nat.zero_le _, rfl, rfl, Below.refl _ _⟩
  case round =>
    obtain ⟨k, hk, rfl, HS, hbl⟩ := hrel
    by_cases hlt : k < n
    · obtain ⟨bx, ox, rfl, g1⟩ := hx k hlt
      obtain ⟨l, hl⟩ : ∃ l, l = xs.getD k default := ⟨_, rfl⟩
      rw [← hl] at g1
      have HL : Hid (l = xs.getD k default) := hl
      clear hl
      obtain ⟨a1, a2⟩ := mrkCells_below hbl g1
      have zb : bx < wr.heap.size := World.block_lt_of_cell? wr _ a1
      cases h1 : inB l.con 1 1000000000
      · have HC : Hid (mrkF xs = 3) := HH.out k 3 hlt HS.out (mrkAt_bad (by rw [← HL.out, h1]; rfl)) (by omega)
        clear hx
        go_wp2_with (first | (go_at_call 75; refine (isId_any _ _).mono ?_; rintro e w' ⟨rfl, rfl⟩; rw [h1]))
        go_ret
        exact ⟨by rw [HC.out]; rfl, by (repeat (first | exact Below.refl _ _ | assumption | refine Below.drew ?_ | refine balloc ?_ _ | refine bset ?_ (by simp; omega) _ | refine bset ?_ (by simp) _ | refine bstep ?_ (by assumption)))⟩
      cases h2 : inB l.val 1 2
      · have HC : Hid (mrkF xs = 3) := HH.out k 3 hlt HS.out (mrkAt_bad (by rw [← HL.out, h1, h2]; rfl)) (by omega)
        clear hx
        go_wp2_with (first | (go_at_call 75; refine (isId_any _ _).mono ?_; rintro e w' ⟨rfl, rfl⟩; rw [h1]) | (go_at_call 98; refine (isValue_any _ _).mono ?_; rintro e w' ⟨rfl, rfl⟩; rw [h2]))
        go_ret
        exact ⟨by rw [HC.out]; rfl, by (repeat (first | exact Below.refl _ _ | assumption | refine Below.drew ?_ | refine balloc ?_ _ | refine bset ?_ (by simp; omega) _ | refine bset ?_ (by simp) _ | refine bstep ?_ (by assumption)))⟩
      have hok : Hid ((inB (xs.getD k default).con 1 1000000000 && inB (xs.getD k default).val 1 2) = true) := by show _ = _; rw [← HL.out, h1, h2]; rfl
      cases k with
      | zero =>
        have HS2 : Hid (scanI (mrkAt xs) 1 = 0) := scanI_succ HS.out (mrkAt_zero hok.out)
        clear hx
        simp only [Nat.zero_mul, Nat.add_zero] at a1 a2
        go_wp2_with (first | (go_at_call 75; refine (isId_any _ _).mono ?_; rintro e w' ⟨rfl, rfl⟩; rw [h1]) | (go_at_call 98; refine (isValue_any _ _).mono ?_; rintro e w' ⟨rfl, rfl⟩; rw [h2]))
        go_quiet (fail)
        go_wp2
        exact ⟨⟨1, by omega, by go_num, HS2, bdrewN (by (repeat (first | exact Below.refl _ _ | assumption | refine Below.drew ?_ | refine balloc ?_ _ | refine bset ?_ (by simp; omega) _ | refine bset ?_ (by simp) _ | refine bstep ?_ (by assumption)))) _⟩, by simp [intOf]; omega⟩
      | succ m =>
        obtain ⟨bx', ox', he, g2⟩ := hx m (by omega)
        simp only [Option.some.injEq, Addr.mk.injEq, and_true] at he
        obtain ⟨rfl, rfl⟩ := he
        obtain ⟨l', hl'⟩ : ∃ l', l' = xs.getD m default := ⟨_, rfl⟩
        rw [← hl'] at g2
        have HL' : Hid (l' = xs.getD m default) := hl'
        clear hl' hx
        obtain ⟨a3, a4⟩ := mrkCells_below hbl g2
        have hw1 : IntKind.i64.wrap (((m + 1 : Nat) : Int) - 1) = (m : Int) := by rw [IntKind.wrap_i64]; omega
        have hw2 : (((m + 1 : Nat) : Int) - 1) = (m : Int) := by omega
        have hw3 : IntKind.i64.wrap (m : Int) = (m : Int) := wrapId (by omega) (by omega)
        have e1 : ((m + 1 : Nat) : Int) < n := by omega
        have e2 : (m : Int) < n := by omega
        have e3 : (0 : Int) ≤ m := by omega
        have e4 : (0 : Int) < ((m + 1 : Nat) : Int) := by omega
        have e5 : (0 : Int) ≤ ((m + 1 : Nat) : Int) := by omega
        have HFa : Hid (l.con ≤ l'.con → mrkF xs = 1) := fun h => HH.out (m + 1) 1 hlt HS.out (mrkAt_fall hok.out (by rw [← HL.out, ← HL'.out]; exact h)) (by omega)
        have HRi : Hid (l'.con < l.con → scanI (mrkAt xs) (m + 1 + 1) = 0) := fun h => scanI_succ HS.out (mrkAt_rise hok.out (by rw [← HL.out, ← HL'.out]; exact h))
        clear hok
        obtain ⟨ii, hii⟩ : ∃ ii : Nat, ii = m + 1 := ⟨_, rfl⟩
        have HII : Hid (ii = m + 1) := hii
        rw [← hii] at a1 a2 hw1 hw2 e1 e4 e5 HRi ⊢
        clear hii HS
        have e6 : decide (0 < ii) = true := decide_eq_true (by have := HII.out; omega)
        by_cases hle : l.con ≤ l'.con
        · have HC := HFa.out hle
          go_wp2_with (first | (go_at_call 75; refine (isId_any _ _).mono ?_; rintro e w' ⟨rfl, rfl⟩; rw [h1]) | (go_at_call 98; refine (isValue_any _ _).mono ?_; rintro e w' ⟨rfl, rfl⟩; rw [h2]))
          go_quiet (fail)
          go_wp2
          go_ret
          exact ⟨by rw [HC]; rfl, bdrewN (by (repeat (first | exact Below.refl _ _ | assumption | refine Below.drew ?_ | refine balloc ?_ _ | refine bset ?_ (by simp; omega) _ | refine bset ?_ (by simp) _ | refine bstep ?_ (by assumption)))) _⟩
        · have HS2 : Hid (scanI (mrkAt xs) (ii + 1) = 0) := HRi.out (by omega)
          go_wp2_with (first | (go_at_call 75; refine (isId_any _ _).mono ?_; rintro e w' ⟨rfl, rfl⟩; rw [h1]) | (go_at_call 98; refine (isValue_any _ _).mono ?_; rintro e w' ⟨rfl, rfl⟩; rw [h2]))
          go_quiet (fail)
          go_wp2
          exact ⟨⟨ii + 1, by omega, by go_num, HS2, bdrewN (by (repeat (first | exact Below.refl _ _ | assumption | refine Below.drew ?_ | refine balloc ?_ _ | refine bset ?_ (by simp; omega) _ | refine bset ?_ (by simp) _ | refine bstep ?_ (by assumption)))) _⟩, by simp [intOf]; omega⟩
    · have hkn : k = n := by omega
      subst hkn
      have HC := HE.out HS.out
      go_wp2
      go_ret
      exact ⟨by rw [HC]; rfl, by (repeat (first | exact Below.refl _ _ | assumption | refine Below.drew ?_ | refine balloc ?_ _ | refine bset ?_ (by simp; omega) _ | refine bset ?_ (by simp) _ | refine bstep ?_ (by assumption)))⟩
set_option maxRecDepth 20000 in
set_option maxHeartbeats 4000000 in
theorem marksO_any (x : Value) (xs : List Mrk) (w : World) (hx : mrksR.V w x xs) :
    Calls Tryz.prog 97 #[x, .func (.func 76) #[] #[]] w fun e w' => e = .returned (.int .i64 (mrkF xs)) ∧ Below w.heap.size w w' := by
  obtain ⟨ax, cx, rfl, hcx, hmx, hx⟩ := hx
  unfold maxLen at hmx
  have HH : Hid (∀ k c, k < xs.length → scanI (mrkAt xs) k = 0 → mrkAt xs k = c → c ≠ 0 → mrkF xs = c) := fun k c hk hs h hc => mrkF_hit hk hs h hc
  have HE : Hid (scanI (mrkAt xs) xs.length = 0 → mrkF xs = 0) := fun h => h
  generalize hn' : xs.length = n at *
  clear hn'
  have eg := enters_of Tryz.func76 (by kernel_rfl) rfl
  go_enter Tryz.func97, Tryz.ntmps97
  go_wp2
  go_loopw [9] (fun i w' => ∃ k : Nat, k ≤ n ∧ i = .int .i64 k ∧ Hid (scanI (mrkAt xs) k = 0) ∧ Below w.heap.size w w') (fun i _ => n - (intOf i).toNat)
  case atStart => exact ⟨0, Nat.zero_le _, rfl, rfl, Below.refl _ _⟩
  case round =>
    obtain ⟨k, hk, rfl, HS, hbl⟩ := hrel
    by_cases hlt : k < n
    · obtain ⟨bx, ox, rfl, g1⟩ := hx k hlt
      obtain ⟨l, hl⟩ : ∃ l, l = xs.getD k default := ⟨_, rfl⟩
      rw [← hl] at g1
      have HL : Hid (l = xs.getD k default) := hl
      clear hl
      obtain ⟨a1, a2⟩ := mrkCells_below hbl g1
      have zb : bx < wr.heap.size := World.block_lt_of_cell? wr _ a1
      cases h1 : inB l.con 1 1000000000
      · have HC : Hid (mrkF xs = 3) := HH.out k 3 hlt HS.out (mrkAt_bad (by rw [← HL.out, h1]; rfl)) (by omega)
        clear hx
        go_wp2_with (first | (go_at_call 75; refine (isId_any _ _).mono ?_; rintro e w' ⟨rfl, rfl⟩; rw [h1]))
        go_ret
        exact ⟨by rw [HC.out]; rfl, by (repeat (first | exact Below.refl _ _ | assumption | refine Below.drew ?_ | refine balloc ?_ _ | refine bset ?_ (by simp; omega) _ | refine bset ?_ (by simp) _ | refine bstep ?_ (by assumption)))⟩
      cases h2 : inB l.val 1 2
      · have HC : Hid (mrkF xs = 3) := HH.out k 3 hlt HS.out (mrkAt_bad (by rw [← HL.out, h1, h2]; rfl)) (by omega)
        clear hx
        go_wp2_with (first | (go_at_call 75; refine (isId_any _ _).mono ?_; rintro e w' ⟨rfl, rfl⟩; rw [h1]) | (go_at_call 76; refine (isOutcome_any _ _).mono ?_; rintro e w' ⟨rfl, rfl⟩; rw [h2]))
        go_ret
        exact ⟨by rw [HC.out]; rfl, by (repeat (first | exact Below.refl _ _ | assumption | refine Below.drew ?_ | refine balloc ?_ _ | refine bset ?_ (by simp; omega) _ | refine bset ?_ (by simp) _ | refine bstep ?_ (by assumption)))⟩
      have hok : Hid ((inB (xs.getD k default).con 1 1000000000 && inB (xs.getD k default).val 1 2) = true) := by show _ = _; rw [← HL.out, h1, h2]; rfl
      cases k with
      | zero =>
        have HS2 : Hid (scanI (mrkAt xs) 1 = 0) := scanI_succ HS.out (mrkAt_zero hok.out)
        clear hx
        simp only [Nat.zero_mul, Nat.add_zero] at a1 a2
        go_wp2_with (first | (go_at_call 75; refine (isId_any _ _).mono ?_; rintro e w' ⟨rfl, rfl⟩; rw [h1]) | (go_at_call 76; refine (isOutcome_any _ _).mono ?_; rintro e w' ⟨rfl, rfl⟩; rw [h2]))
        go_quiet (fail)
        go_wp2
        exact ⟨⟨1, by omega, by go_num, HS2, bdrewN (by (repeat (first | exact Below.refl _ _ | assumption | refine Below.drew ?_ | refine balloc ?_ _ | refine bset ?_ (by simp; omega) _ | refine bset ?_ (by simp) _ | refine bstep ?_ (by assumption)))) _⟩, by simp [intOf]; omega⟩
      | succ m =>
        obtain ⟨bx', ox', he, g2⟩ := hx m (by omega)
        simp only [Option.some.injEq, Addr.mk.injEq, and_true] at he
        obtain ⟨rfl, rfl⟩ := he
        obtain ⟨l', hl'⟩ : ∃ l', l' = xs.getD m default := ⟨_, rfl⟩
        rw [← hl'] at g2
        have HL' : Hid (l' = xs.getD m default) := hl'
        clear hl' hx
        obtain ⟨a3, a4⟩ := mrkCells_below hbl g2
        have hw1 : IntKind.i64.wrap (((m + 1 : Nat) : Int) - 1) = (m : Int) := by rw [IntKind.wrap_i64]; omega
        have hw2 : (((m + 1 : Nat) : Int) - 1) = (m : Int) := by omega
        have hw3 : IntKind.i64.wrap (m : Int) = (m : Int) := wrapId (by omega) (by omega)
        have e1 : ((m + 1 : Nat) : Int) < n := by omega
        have e2 : (m : Int) < n := by omega
        have e3 : (0 : Int) ≤ m := by omega
        have e4 : (0 : Int) < ((m + 1 : Nat) : Int) := by omega
        have e5 : (0 : Int) ≤ ((m + 1 : Nat) : Int) := by omega
        have HFa : Hid (l.con ≤ l'.con → mrkF xs = 1) := fun h => HH.out (m + 1) 1 hlt HS.out (mrkAt_fall hok.out (by rw [← HL.out, ← HL'.out]; exact h)) (by omega)
        have HRi : Hid (l'.con < l.con → scanI (mrkAt xs) (m + 1 + 1) = 0) := fun h => scanI_succ HS.out (mrkAt_rise hok.out (by rw [← HL.out, ← HL'.out]; exact h))
        clear hok
        obtain ⟨ii, hii⟩ : ∃ ii : Nat, ii = m + 1 := ⟨_, rfl⟩
        have HII : Hid (ii = m + 1) := hii
        rw [← hii] at a1 a2 hw1 hw2 e1 e4 e5 HRi ⊢
        clear hii HS
        have e6 : decide (0 < ii) = true := decide_eq_true (by have := HII.out; omega)
        by_cases hle : l.con ≤ l'.con
        · have HC := HFa.out hle
          go_wp2_with (first | (go_at_call 75; refine (isId_any _ _).mono ?_; rintro e w' ⟨rfl, rfl⟩; rw [h1]) | (go_at_call 76; refine (isOutcome_any _ _).mono ?_; rintro e w' ⟨rfl, rfl⟩; rw [h2]))
          go_quiet (fail)
          go_wp2
          go_ret
          exact ⟨by rw [HC]; rfl, bdrewN (by (repeat (first | exact Below.refl _ _ | assumption | refine Below.drew ?_ | refine balloc ?_ _ | refine bset ?_ (by simp; omega) _ | refine bset ?_ (by simp) _ | refine bstep ?_ (by assumption)))) _⟩
        · have HS2 : Hid (scanI (mrkAt xs) (ii + 1) = 0) := HRi.out (by omega)
          go_wp2_with (first | (go_at_call 75; refine (isId_any _ _).mono ?_; rintro e w' ⟨rfl, rfl⟩; rw [h1]) | (go_at_call 76; refine (isOutcome_any _ _).mono ?_; rintro e w' ⟨rfl, rfl⟩; rw [h2]))
          go_quiet (fail)
          go_wp2
          exact ⟨⟨ii + 1, by omega, by go_num, HS2, bdrewN (by (repeat (first | exact Below.refl _ _ | assumption | refine Below.drew ?_ | refine balloc ?_ _ | refine bset ?_ (by simp; omega) _ | refine bset ?_ (by simp) _ | refine bstep ?_ (by assumption)))) _⟩, by simp [intOf]; omega⟩
    · have hkn : k = n := by omega
      subst hkn
      have HC := HE.out HS.out
      go_wp2
      go_ret
      exact ⟨by rw [HC]; rfl, by (repeat (first | exact Below.refl _ _ | assumption | refine Below.drew ?_ | refine balloc ?_ _ | refine bset ?_ (by simp; omega) _ | refine bset ?_ (by simp) _ | refine bstep ?_ (by assumption)))⟩
set_option maxHeartbeats 2000000 in
theorem isDone_any (x : Value) (d : Shd) (c : Int) (w : World) (hx : shdR.V w x d) (hn : d.done.length ≤ 1048576) (hok : MrksOk d.done) :
    Calls Tryz.prog 121 #[x, .int .i64 c] w fun e w' => e = .returned (.bool (findM c d.done != 0)) ∧ Below w.heap.size w w' := by
  obtain ⟨u1, u2, u3, u4, u5, rfl, h1, h2, h3, h4, h5⟩ := hx
  have HV : Hid (∀ W, Below w.heap.size w W → Calls Tryz.prog 60 #[u4, .int .i64 c] W fun e w' => e = .returned (.int .i64 (findM c d.done)) ∧ Below W.heap.size W w') := fun W hW => valueIn_any u4 _ c W (mrksR.below h4 hW) hn hok.rise
  obtain ⟨a1, c1, rfl⟩ := bals_form h1
  obtain ⟨a2, c2, rfl⟩ := mrks_form h2
  obtain ⟨a3, c3, rfl⟩ := conts_form h3
  obtain ⟨a4, c4, rfl⟩ := mrks_form h4
  obtain ⟨a5, c5, rfl⟩ := ints_form h5
  clear h1 h2 h3 h4 h5 hok hn
  generalize d.bals.length = n1 at *
  generalize d.votes.length = n2 at *
  generalize d.held.length = n3 at *
  generalize d.done.length = n4 at *
  generalize d.appl.length = n5 at *
  generalize findM c d.done = f at *
  go_enter Tryz.func121, Tryz.ntmps121
  go_wp2_with (first | (go_at_call 60; refine (HV.out _ (by (repeat (first | exact Below.refl _ _ | assumption | refine Below.drew ?_ | refine balloc ?_ _ | refine bset ?_ (by simp; omega) _ | refine bset ?_ (by simp) _ | refine bstep ?_ (by assumption))))).mono ?_; rintro e w1 ⟨rfl, hb1⟩))
  go_ret
  exact ⟨rfl, by (repeat (first | exact Below.refl _ _ | assumption | refine Below.drew ?_ | refine balloc ?_ _ | refine bset ?_ (by simp; omega) _ | refine bset ?_ (by simp) _ | refine bstep ?_ (by assumption)))⟩
def awaitB (d : Shd) (c : Int) : Bool := (findM c d.votes == 1) && !(findM c d.done != 0)
set_option maxHeartbeats 2000000 in
theorem awaits_any (x : Value) (d : Shd) (c : Int) (w : World) (hx : shdR.V w x d) (hn : d.votes.length ≤ 1048576 ∧ d.done.length ≤ 1048576) (hov : MrksOk d.votes) (hod : MrksOk d.done) :
    Calls Tryz.prog 137 #[x, .int .i64 c] w fun e w' => e = .returned (.bool (awaitB d c)) ∧ Below w.heap.size w w' := by
  have HD : Hid (∀ W, Below w.heap.size w W → Calls Tryz.prog 121 #[x, .int .i64 c] W fun e w' => e = .returned (.bool (findM c d.done != 0)) ∧ Below W.heap.size W w') := fun W hW => isDone_any x d c W (shdR.below hx hW) hn.2 hod
  obtain ⟨u1, u2, u3, u4, u5, rfl, h1, h2, h3, h4, h5⟩ := hx
  have HV : Hid (∀ W, Below w.heap.size w W → Calls Tryz.prog 60 #[u2, .int .i64 c] W fun e w' => e = .returned (.int .i64 (findM c d.votes)) ∧ Below W.heap.size W w') := fun W hW => valueIn_any u2 _ c W (mrksR.below h2 hW) hn.1 hov.rise
  obtain ⟨a1, c1, rfl⟩ := bals_form h1
  obtain ⟨a2, c2, rfl⟩ := mrks_form h2
  obtain ⟨a3, c3, rfl⟩ := conts_form h3
  obtain ⟨a4, c4, rfl⟩ := mrks_form h4
  obtain ⟨a5, c5, rfl⟩ := ints_form h5
  clear h1 h2 h3 h4 h5 hov hod hn
  generalize d.bals.length = n1 at *
  generalize d.votes.length = n2 at *
  generalize d.held.length = n3 at *
  generalize d.done.length = n4 at *
  generalize d.appl.length = n5 at *
  unfold awaitB
  generalize findM c d.done = f at *
  generalize findM c d.votes = g at *
  by_cases hg : g = 1
  · have hg' : (g == 1) = true := by simp [hg]
    rw [hg']
    go_enter Tryz.func137, Tryz.ntmps137
    go_wp2_with fail
    refine (HV.out _ (by (repeat (first | exact Below.refl _ _ | assumption | refine Below.drew ?_ | refine balloc ?_ _ | refine bset ?_ (by simp; omega) _ | refine bset ?_ (by simp) _ | refine bstep ?_ (by assumption))))).mono ?_
    rintro e w1 ⟨rfl, hb1⟩
    have hB1 : Below w.heap.size w w1 := bstep (by (repeat (first | exact Below.refl _ _ | assumption | refine Below.drew ?_ | refine balloc ?_ _ | refine bset ?_ (by simp; omega) _ | refine bset ?_ (by simp) _ | refine bstep ?_ (by assumption)))) hb1
    have y0 : w1.cell? ⟨w.heap.size, 0, none⟩ = some (.int .i64 d.idx) := cell_keep hb1 (by simp [go_sem])
    have y1 : w1.cell? ⟨w.heap.size, 1, none⟩ = some (.slice a1 n1 c1) := cell_keep hb1 (by simp [go_sem])
    have y2 : w1.cell? ⟨w.heap.size, 2, none⟩ = some (.slice a2 n2 c2) := cell_keep hb1 (by simp [go_sem])
    have y3 : w1.cell? ⟨w.heap.size, 3, none⟩ = some (.slice a3 n3 c3) := cell_keep hb1 (by simp [go_sem])
    have y4 : w1.cell? ⟨w.heap.size, 4, none⟩ = some (.slice a4 n4 c4) := cell_keep hb1 (by simp [go_sem])
    have y5 : w1.cell? ⟨w.heap.size, 5, none⟩ = some (.slice a5 n5 c5) := cell_keep hb1 (by simp [go_sem])
    clear hb1
    go_wp2_with (first | (go_at_call 121; refine (HD.out _ (by (repeat (first | exact Below.refl _ _ | assumption | refine Below.drew ?_ | refine balloc ?_ _ | refine bset ?_ (by simp; omega) _ | refine bset ?_ (by simp) _ | refine bstep ?_ (by assumption))))).mono ?_; rintro e w2 ⟨rfl, hb2⟩))
    go_ret
    exact ⟨by simp, by (repeat (first | exact Below.refl _ _ | assumption | refine Below.drew ?_ | refine balloc ?_ _ | refine bset ?_ (by simp; omega) _ | refine bset ?_ (by simp) _ | refine bstep ?_ (by assumption)))⟩
  · have hg' : (g == 1) = false := by simp [hg]
    rw [hg']
    go_enter Tryz.func137, Tryz.ntmps137
    go_wp2_with (first | (go_at_call 60; refine (HV.out _ (by (repeat (first | exact Below.refl _ _ | assumption | refine Below.drew ?_ | refine balloc ?_ _ | refine bset ?_ (by simp; omega) _ | refine bset ?_ (by simp) _ | refine bstep ?_ (by assumption))))).mono ?_; rintro e w1 ⟨rfl, hb1⟩))
    go_ret
    exact ⟨by simp, by (repeat (first | exact Below.refl _ _ | assumption | refine Below.drew ?_ | refine balloc ?_ _ | refine bset ?_ (by simp; omega) _ | refine bset ?_ (by simp) _ | refine bstep ?_ (by assumption)))⟩
end Go.Proofs.YtojjdkggomlegaaGreat

/-
  What a shard has forgotten, the program's.
-/
set_option linter.unusedSimpArgs false
set_option linter.unusedVariables false
namespace Go.Proofs.YtojjdkggomlegaaGreat
open Go.RowKit
set_option linter.unusedSectionVars false
variable [DecidableEq Rw] [Inhabited Rw] [DecidableEq Bal] [Inhabited Bal] [DecidableEq Ledg] [Inhabited Ledg] [DecidableEq Leg] [Inhabited Leg] [DecidableEq Cont] [Inhabited Cont] [DecidableEq LedgR] [Inhabited LedgR] [DecidableEq OutcR] [Inhabited OutcR] [DecidableEq Mrk] [Inhabited Mrk] [DecidableEq Shd] [Inhabited Shd] [DecidableEq ShdR] [Inhabited ShdR]
attribute [local go_sem ↓] Go.wp_at_zero Go.wp_at_succ

theorem lostAt_zero {d : Shd} {k : Nat} (h : (awaitB d (d.votes.getD k default).con && !heldIn d.held (d.votes.getD k default).con) = false) (hf : findM (d.votes.getD k default).con d.votes = (d.votes.getD k default).val) : lostAt d k = 0 := by
  unfold lostAt
  rw [if_neg]
  rintro ⟨h1, h2, h3⟩
  unfold awaitB at h
  rw [hf, h1, h2, h3] at h
  simp at h
theorem lostAt_one {d : Shd} {k : Nat} (h : (awaitB d (d.votes.getD k default).con && !heldIn d.held (d.votes.getD k default).con) = true) (hf : findM (d.votes.getD k default).con d.votes = (d.votes.getD k default).val) : lostAt d k = 1 := by
  unfold lostAt
  unfold awaitB at h
  rw [hf] at h
  simp at h
  rw [if_pos ⟨h.1.1, by simp [h.2], h.1.2⟩]
theorem findM_own {xs : List Mrk} (h : MrksOk xs) {k : Nat} (hk : k < xs.length) : findM (xs.getD k default).con xs = (xs.getD k default).val := by
  rw [findM_at (i := k) h.rise (by omega) (fun j hj => h.rise j k hj hk) (fun j hj hl => by
    by_cases e : k = j
    · rw [e]; exact Int.le_refl _
    · have := h.rise k j (by omega) hl; omega), if_pos ⟨hk, rfl⟩]
structure LsOk (d : Shd) : Prop where
  nv : d.votes.length ≤ 100
  nh : d.held.length ≤ 100
  nd : d.done.length ≤ 100
  na : d.appl.length ≤ 100
  ov : MrksOk d.votes
  od : MrksOk d.done
set_option maxRecDepth 20000 in
set_option maxHeartbeats 4000000 in
theorem forgot1_any (B : Nat) (x : Value) (d : Shd) (m : Mrk) (w : World) (hx : shdR.V w x d) (hB : ∃ c0 c1 c2 c3 c4 c5, x = .agg #[c0, c1, c2, c3, c4, c5] ∧ w.cell? ⟨B, 0, none⟩ = some (c0) ∧ w.cell? ⟨B, 1, none⟩ = some (c1) ∧ w.cell? ⟨B, 2, none⟩ = some (c2) ∧ w.cell? ⟨B, 3, none⟩ = some (c3) ∧ w.cell? ⟨B, 4, none⟩ = some (c4) ∧ w.cell? ⟨B, 5, none⟩ = some (c5)) (hok : LsOk d) (hh : HeldOk d) :
    Calls Tryz.prog 139 #[.agg #[.int .i64 m.con, .int .i64 m.val], .pointer (some ⟨B, 0, none⟩)] w fun e w' => e = .returned (.bool (awaitB d m.con && !heldIn d.held m.con)) ∧ Below w.heap.size w w' := by
  have HAw : Hid (∀ W, Below w.heap.size w W → Calls Tryz.prog 137 #[x, .int .i64 m.con] W fun e w' => e = .returned (.bool (awaitB d m.con)) ∧ Below W.heap.size W w') := fun W hW => awaits_any x d m.con W (shdR.below hx hW) ⟨by have := hok.nv; omega, by have := hok.nd; omega⟩ hok.ov hok.od
  have HIs : Hid (∀ W, Below w.heap.size w W → Calls Tryz.prog 77 #[x, .int .i64 m.con] W fun e w' => e = .returned (.bool (heldIn d.held m.con)) ∧ Below W.heap.size W w') := fun W hW => isHeld_any x d m.con W (shdR.below hx hW) (by have := hok.nh; omega) hh.rise
  obtain ⟨u1, u2, u3, u4, u5, rfl, h1, h2, h3, h4, h5⟩ := hx
  obtain ⟨a1, c1, rfl⟩ := bals_form h1
  obtain ⟨a2, c2, rfl⟩ := mrks_form h2
  obtain ⟨a3, c3, rfl⟩ := conts_form h3
  obtain ⟨a4, c4, rfl⟩ := mrks_form h4
  obtain ⟨a5, c5, rfl⟩ := ints_form h5
  obtain ⟨q0, q1, q2, q3, q4, q5, e, y0, y1, y2, y3, y4, y5⟩ := hB
  simp only [Value.agg.injEq, Array.mk.injEq, List.cons.injEq, and_true] at e
  obtain ⟨rfl, rfl, rfl, rfl, rfl, rfl⟩ := e
  clear h1 h2 h3 h4 h5 hok hh
  generalize d.bals.length = n1 at *
  generalize d.votes.length = n2 at *
  generalize d.held.length = n3 at *
  generalize d.done.length = n4 at *
  generalize d.appl.length = n5 at *
  have zB : B < w.heap.size := World.block_lt_of_cell? w _ y0
  cases ha : awaitB d m.con
  · rw [ha] at HAw
    go_enter Tryz.func139, Tryz.ntmps139
    go_wp2_with (first | (go_at_call 137; refine (HAw.out _ (by (repeat (first | exact Below.refl _ _ | assumption | refine Below.drew ?_ | refine balloc ?_ _ | refine bset ?_ (by simp; omega) _ | refine bset ?_ (by simp) _ | refine bstep ?_ (by assumption))))).mono ?_; rintro e w1 ⟨rfl, hb1⟩))
    go_ret
    exact ⟨by rfl, by (repeat (first | exact Below.refl _ _ | assumption | refine Below.drew ?_ | refine balloc ?_ _ | refine bset ?_ (by simp; omega) _ | refine bset ?_ (by simp) _ | refine bstep ?_ (by assumption)))⟩
  · rw [ha] at HAw
    go_enter Tryz.func139, Tryz.ntmps139
    go_wp2_with fail
    refine (HAw.out _ (by (repeat (first | exact Below.refl _ _ | assumption | refine Below.drew ?_ | refine balloc ?_ _ | refine bset ?_ (by simp; omega) _ | refine bset ?_ (by simp) _ | refine bstep ?_ (by assumption))))).mono ?_
    rintro e w1 ⟨rfl, hb1⟩
    have hB1 : Below w.heap.size w w1 := bstep (by (repeat (first | exact Below.refl _ _ | assumption | refine Below.drew ?_ | refine balloc ?_ _ | refine bset ?_ (by simp; omega) _ | refine bset ?_ (by simp) _ | refine bstep ?_ (by assumption)))) hb1
    have g0 : w1.cell? ⟨w.heap.size, 0, none⟩ = some (.int .i64 m.con) := cell_keep hb1 (by simp [go_sem])
    replace y0 := cell_keep hB1 y0
    replace y1 := cell_keep hB1 y1
    replace y2 := cell_keep hB1 y2
    replace y3 := cell_keep hB1 y3
    replace y4 := cell_keep hB1 y4
    replace y5 := cell_keep hB1 y5
    clear hb1
    go_wp2_with (first | (go_at_call 77; refine (HIs.out _ (by (repeat (first | exact Below.refl _ _ | assumption | refine Below.drew ?_ | refine balloc ?_ _ | refine bset ?_ (by simp; omega) _ | refine bset ?_ (by simp) _ | refine bstep ?_ (by assumption))))).mono ?_; rintro e w2 ⟨rfl, hb2⟩))
    go_ret
    exact ⟨by simp, by (repeat (first | exact Below.refl _ _ | assumption | refine Below.drew ?_ | refine balloc ?_ _ | refine bset ?_ (by simp; omega) _ | refine bset ?_ (by simp) _ | refine bstep ?_ (by assumption)))⟩
set_option maxRecDepth 20000 in
set_option maxHeartbeats 4000000 in
theorem indexForg_any (B : Nat) (x v : Value) (d : Shd) (w : World) (hx : shdR.V w x d) (hv : mrksR.V w v d.votes) (hB : ∃ c0 c1 c2 c3 c4 c5, x = .agg #[c0, c1, c2, c3, c4, c5] ∧ w.cell? ⟨B, 0, none⟩ = some (c0) ∧ w.cell? ⟨B, 1, none⟩ = some (c1) ∧ w.cell? ⟨B, 2, none⟩ = some (c2) ∧ w.cell? ⟨B, 3, none⟩ = some (c3) ∧ w.cell? ⟨B, 4, none⟩ = some (c4) ∧ w.cell? ⟨B, 5, none⟩ = some (c5)) (hok : LsOk d) (hh : HeldOk d) :
    Calls Tryz.prog 161 #[v, .func (.func 139) #[] #[.pointer (some ⟨B, 0, none⟩)]] w fun e w' => ∃ i : Int, e = .returned (.int .i64 i) ∧ (0 ≤ i ↔ ¬ scanI (lostAt d) d.votes.length = 0) ∧ Below w.heap.size w w' := by
  have HF : Hid (∀ W (m : Mrk), Below w.heap.size w W → Calls Tryz.prog 139 #[.agg #[.int .i64 m.con, .int .i64 m.val], .pointer (some ⟨B, 0, none⟩)] W fun e w' => e = .returned (.bool (awaitB d m.con && !heldIn d.held m.con)) ∧ Below W.heap.size W w') := fun W m hW => forgot1_any B x d m W (shdR.below hx hW) (by
    obtain ⟨c0, c1, c2, c3, c4, c5, e, g0, g1, g2, g3, g4, g5⟩ := hB
    exact ⟨c0, c1, c2, c3, c4, c5, e, cell_keep hW g0, cell_keep hW g1, cell_keep hW g2, cell_keep hW g3, cell_keep hW g4, cell_keep hW g5⟩) hok hh
  obtain ⟨ax, cx, rfl, hcx, hmx, hx2⟩ := hv
  unfold maxLen at hmx
  have HX : Hid (∀ i, i < d.votes.length → ∃ b o, ax = some ⟨b, o, none⟩ ∧ mrkCells w b (o + i * 2) (d.votes.getD i default)) := hx2
  have HZ : Hid (∀ k, k < d.votes.length → (awaitB d (d.votes.getD k default).con && !heldIn d.held (d.votes.getD k default).con) = false → lostAt d k = 0) := fun k hk h => lostAt_zero h (findM_own hok.ov hk)
  have HO : Hid (∀ k, k < d.votes.length → (awaitB d (d.votes.getD k default).con && !heldIn d.held (d.votes.getD k default).con) = true → scanI (lostAt d) k = 0 → ¬ scanI (lostAt d) d.votes.length = 0) := fun k hk h hs => by
    have h1 := lostAt_one h (findM_own hok.ov hk)
    rw [scanI_hit hs (by rw [h1]; omega) _ hk, h1]
    omega
  clear hx hB hok hh hx2
  generalize hn : d.votes.length = n at *
  clear hn
  have eg := enters_of Tryz.func139 (by kernel_rfl) rfl
  go_enter Tryz.func161, Tryz.ntmps161
  go_wp2
  go_loopw [8] (fun i w' => ∃ k : Nat, k ≤ n ∧ i = .int .i64 k ∧ Hid (scanI (lostAt d) k = 0) ∧ Below w.heap.size w w') (fun i _ => n - (intOf i).toNat)
  case atStart => exact ⟨0, Nat.zero_le _, rfl, rfl, Below.refl _ _⟩
  case round =>
    obtain ⟨k, hk, rfl, HS, hbl⟩ := hrel
    by_cases hlt : k < n
    · obtain ⟨bx, ox, rfl, g1⟩ := HX.out k hlt
      have h1 := HZ.out k hlt
      have h2 := HO.out k hlt
      obtain ⟨l, hl⟩ : ∃ l, l = d.votes.getD k default := ⟨_, rfl⟩
      rw [← hl] at g1 h1 h2
      have HF1 : Hid (∀ W, Below w.heap.size w W → Calls Tryz.prog 139 #[.agg #[.int .i64 l.con, .int .i64 l.val], .pointer (some ⟨B, 0, none⟩)] W fun e w' => e = .returned (.bool (awaitB d l.con && !heldIn d.held l.con)) ∧ Below W.heap.size W w') := fun W hW => HF.out W l hW
      generalize (awaitB d l.con && !heldIn d.held l.con) = bb at *
      have H1 : Hid (bb = false → lostAt d k = 0) := h1
      have H2 : Hid (bb = true → scanI (lostAt d) k = 0 → ¬ scanI (lostAt d) n = 0) := h2
      clear hl h1 h2
      obtain ⟨g2, g3⟩ := mrkCells_below hbl g1
      clear g1
      cases hbb : bb
      · have HC : Hid (scanI (lostAt d) (k + 1) = 0) := scanI_succ HS.out (H1.out hbb)
        rw [hbb] at HF1
        clear H1 H2 HS hbb
        go_wp2_with (first | (go_at_call 139; refine (HF1.out _ (by (repeat (first | exact Below.refl _ _ | assumption | refine Below.drew ?_ | refine balloc ?_ _ | refine bset ?_ (by simp; omega) _ | refine bset ?_ (by simp) _ | refine bstep ?_ (by assumption))))).mono ?_; rintro e w1 ⟨rfl, hb1⟩))
        exact ⟨⟨k + 1, by omega, by go_num, HC, by (repeat (first | exact Below.refl _ _ | assumption | refine Below.drew ?_ | refine balloc ?_ _ | refine bset ?_ (by simp; omega) _ | refine bset ?_ (by simp) _ | refine bstep ?_ (by assumption)))⟩, by simp [intOf]; omega⟩
      · have HC := H2.out hbb HS.out
        rw [hbb] at HF1
        clear H1 H2 hbb
        have HCh : Hid (¬ scanI (lostAt d) n = 0) := HC
        clear HC
        go_wp2_with (first | (go_at_call 139; refine (HF1.out _ (by (repeat (first | exact Below.refl _ _ | assumption | refine Below.drew ?_ | refine balloc ?_ _ | refine bset ?_ (by simp; omega) _ | refine bset ?_ (by simp) _ | refine bstep ?_ (by assumption))))).mono ?_; rintro e w1 ⟨rfl, hb1⟩))
        go_ret
        exact ⟨k, rfl, ⟨fun _ => HCh.out, fun _ => by omega⟩, by (repeat (first | exact Below.refl _ _ | assumption | refine Below.drew ?_ | refine balloc ?_ _ | refine bset ?_ (by simp; omega) _ | refine bset ?_ (by simp) _ | refine bstep ?_ (by assumption)))⟩
    · have hkn : k = n := by omega
      subst hkn
      go_wp2
      go_ret
      exact ⟨-1, rfl, ⟨fun h => absurd h (by omega), fun h => absurd HS.out h⟩, by (repeat (first | exact Below.refl _ _ | assumption | refine Below.drew ?_ | refine balloc ?_ _ | refine bset ?_ (by simp; omega) _ | refine bset ?_ (by simp) _ | refine bstep ?_ (by assumption)))⟩
set_option maxRecDepth 20000 in
set_option maxHeartbeats 4000000 in
theorem forgotten_any (x : Value) (d : Shd) (w : World) (hx : shdR.V w x d) (hok : LsOk d) (hh : HeldOk d) :
    Calls Tryz.prog 100 #[x] w fun e w' => e = .returned (.bool (decide (¬ scanI (lostAt d) d.votes.length = 0))) ∧ Below w.heap.size w w' := by
  have HI : Hid (∀ W v, Below w.heap.size w W → mrksR.V W v d.votes → (∃ c0 c1 c2 c3 c4 c5, x = .agg #[c0, c1, c2, c3, c4, c5] ∧ W.cell? ⟨w.heap.size, 0, none⟩ = some (c0) ∧ W.cell? ⟨w.heap.size, 1, none⟩ = some (c1) ∧ W.cell? ⟨w.heap.size, 2, none⟩ = some (c2) ∧ W.cell? ⟨w.heap.size, 3, none⟩ = some (c3) ∧ W.cell? ⟨w.heap.size, 4, none⟩ = some (c4) ∧ W.cell? ⟨w.heap.size, 5, none⟩ = some (c5)) → Calls Tryz.prog 161 #[v, .func (.func 139) #[] #[.pointer (some ⟨w.heap.size, 0, none⟩)]] W fun e w' => ∃ i : Int, e = .returned (.int .i64 i) ∧ (0 ≤ i ↔ ¬ scanI (lostAt d) d.votes.length = 0) ∧ Below W.heap.size W w') := fun W v hW hv hB => indexForg_any w.heap.size x v d W (shdR.below hx hW) hv hB hok hh
  obtain ⟨u1, u2, u3, u4, u5, rfl, h1, h2, h3, h4, h5⟩ := hx
  have HV : Hid (∀ W, Below w.heap.size w W → mrksR.V W u2 d.votes) := fun W hW => mrksR.below h2 hW
  obtain ⟨a1, c1, rfl⟩ := bals_form h1
  obtain ⟨a2, c2, rfl⟩ := mrks_form h2
  obtain ⟨a3, c3, rfl⟩ := conts_form h3
  obtain ⟨a4, c4, rfl⟩ := mrks_form h4
  obtain ⟨a5, c5, rfl⟩ := ints_form h5
  clear h1 h2 h3 h4 h5 hok hh
  obtain ⟨pz, hpz⟩ : ∃ pz : Prop, pz = ¬ scanI (lostAt d) d.votes.length = 0 := ⟨_, rfl⟩
  have e9 : decide (¬ scanI (lostAt d) d.votes.length = 0) = !decide (scanI (lostAt d) d.votes.length = 0) := by simp
  rw [e9]
  clear e9 hpz pz
  generalize d.bals.length = n1 at *
  generalize d.votes.length = n2 at *
  generalize d.held.length = n3 at *
  generalize d.done.length = n4 at *
  generalize d.appl.length = n5 at *
  generalize scanI (lostAt d) n2 = sc at *
  have hmf : ∀ (fn : Fn) (first cap : Array Value) (w : World), (Instr.makeFunc fn first cap).run Tryz.prog w = .ok (.func fn first cap) w := fun _ _ _ _ => rfl
  have HCF : Hid (∀ W, Below w.heap.size w W → W.cell? ⟨w.heap.size, 0, none⟩ = some (.int .i64 d.idx) → W.cell? ⟨w.heap.size, 1, none⟩ = some (.slice a1 n1 c1) → W.cell? ⟨w.heap.size, 2, none⟩ = some (.slice a2 n2 c2) → W.cell? ⟨w.heap.size, 3, none⟩ = some (.slice a3 n3 c3) → W.cell? ⟨w.heap.size, 4, none⟩ = some (.slice a4 n4 c4) → W.cell? ⟨w.heap.size, 5, none⟩ = some (.slice a5 n5 c5) → Calls Tryz.prog 138 #[.slice a2 n2 c2, .func (.func 139) #[] #[.pointer (some ⟨w.heap.size, 0, none⟩)]] W fun e w' => e = .returned (.bool (!decide (sc = 0))) ∧ Below W.heap.size W w') := fun W hW g0 g1 g2 g3 g4 g5 => by
    have hc := HI.out W (.slice a2 n2 c2) hW (HV.out W hW) ⟨_, _, _, _, _, _, rfl, g0, g1, g2, g3, g4, g5⟩
    clear HI HV
    go_enter Tryz.func138, Tryz.ntmps138
    go_wp2_with fail
    refine hc.mono ?_
    rintro e w1 ⟨i, rfl, hi, hb1⟩
    have HI1 : Hid (decide (0 ≤ i) = !decide (sc = 0)) := by
      show _ = _
      rw [Bool.eq_iff_iff]
      simp
      exact hi
    clear hi hc
    go_wp2
    go_ret
    exact ⟨by rw [← HI1.out]; rfl, by (repeat (first | exact Below.refl _ _ | assumption | refine Below.drew ?_ | refine balloc ?_ _ | refine bset ?_ (by simp; omega) _ | refine bset ?_ (by simp) _ | refine bstep ?_ (by assumption)))⟩
  go_enter Tryz.func100, Tryz.ntmps100
  go_wp2_with fail
  refine (HCF.out _ (by (repeat (first | exact Below.refl _ _ | assumption | refine Below.drew ?_ | refine balloc ?_ _ | refine bset ?_ (by simp; omega) _ | refine bset ?_ (by simp) _ | refine bstep ?_ (by assumption)))) (by simp [go_sem]) (by simp [go_sem]) (by simp [go_sem]) (by simp [go_sem]) (by simp [go_sem]) (by simp [go_sem])).mono ?_
  rintro e w1 ⟨rfl, hb1⟩
  go_wp2
  go_ret
  exact ⟨rfl, by (repeat (first | exact Below.refl _ _ | assumption | refine Below.drew ?_ | refine balloc ?_ _ | refine bset ?_ (by simp; omega) _ | refine bset ?_ (by simp) _ | refine bstep ?_ (by assumption)))⟩
end Go.Proofs.YtojjdkggomlegaaGreat

/-
  What is in doubt, the program's.
-/
set_option linter.unusedSimpArgs false
set_option linter.unusedVariables false
namespace Go.Proofs.YtojjdkggomlegaaGreat
open Go.RowKit
set_option linter.unusedSectionVars false
variable [DecidableEq Rw] [Inhabited Rw] [DecidableEq Bal] [Inhabited Bal] [DecidableEq Ledg] [Inhabited Ledg] [DecidableEq Leg] [Inhabited Leg] [DecidableEq Cont] [Inhabited Cont] [DecidableEq LedgR] [Inhabited LedgR] [DecidableEq OutcR] [Inhabited OutcR] [DecidableEq Mrk] [Inhabited Mrk] [DecidableEq Shd] [Inhabited Shd] [DecidableEq ShdR] [Inhabited ShdR]
attribute [local go_sem ↓] Go.wp_at_zero Go.wp_at_succ

set_option maxRecDepth 20000 in
set_option maxHeartbeats 8000000 in
theorem inDoubtF_any (x : Value) (d : Shd) (w : World) (hx : shdR.V w x d) (hok : LsOk d) :
    Calls Tryz.prog 99 #[x] w fun e w' => e = .returned (.int .i64 (scanI (heldAt d) d.held.length)) ∧ Below w.heap.size w w' := by
  have HAw : Hid (∀ W c, Below w.heap.size w W → Calls Tryz.prog 137 #[x, .int .i64 c] W fun e w' => e = .returned (.bool (awaitB d c)) ∧ Below W.heap.size W w') := fun W c hW => awaits_any x d c W (shdR.below hx hW) ⟨by have := hok.nv; omega, by have := hok.nd; omega⟩ hok.ov hok.od
  obtain ⟨u1, u2, u3, u4, u5, rfl, h1, h2, h3, h4, h5⟩ := hx
  have HX3 : Hid (∃ a c, u3 = .slice a d.held.length c ∧ d.held.length ≤ c ∧ c ≤ maxLen ∧ ∀ k, k < d.held.length → ∃ b o p q, a = some ⟨b, o, none⟩ ∧ w.cell? ⟨b, o + k * 2, none⟩ = some (.int .i64 (d.held.getD k default).id) ∧ w.cell? ⟨b, o + k * 2 + 1, none⟩ = some (.slice p (d.held.getD k default).legs.length q) ∧ contR.V w (.agg #[.int .i64 (d.held.getD k default).id, .slice p (d.held.getD k default).legs.length q]) (d.held.getD k default)) := conts_at h3
  obtain ⟨a1, c1, rfl⟩ := bals_form h1
  obtain ⟨a2, c2, rfl⟩ := mrks_form h2
  obtain ⟨a3, c3, rfl⟩ := conts_form h3
  obtain ⟨a4, c4, rfl⟩ := mrks_form h4
  obtain ⟨a5, c5, rfl⟩ := ints_form h5
  obtain ⟨_, _, e3, hc3, hm3, hx3⟩ := HX3.out
  simp only [Value.slice.injEq, true_and] at e3
  obtain ⟨rfl, rfl⟩ := e3
  unfold maxLen at hm3
  have HX : Hid (∀ k, k < d.held.length → ∃ b o p q, a3 = some ⟨b, o, none⟩ ∧ w.cell? ⟨b, o + k * 2, none⟩ = some (.int .i64 (d.held.getD k default).id) ∧ w.cell? ⟨b, o + k * 2 + 1, none⟩ = some (.slice p (d.held.getD k default).legs.length q) ∧ contR.V w (.agg #[.int .i64 (d.held.getD k default).id, .slice p (d.held.getD k default).legs.length q]) (d.held.getD k default)) := hx3
  have HHe : Hid (∀ k c, k < d.held.length → scanI (heldAt d) k = 0 → heldAt d k = c → c ≠ 0 → scanI (heldAt d) d.held.length = c) := fun k c hk hs h hc => by rw [scanI_hit hs (by rw [h]; exact hc) _ hk, h]
  clear h1 h2 h3 h4 h5 hok HX3 hx3
  generalize d.bals.length = n1 at *
  generalize d.votes.length = n2 at *
  generalize d.held.length = n3 at *
  generalize d.done.length = n4 at *
  generalize d.appl.length = n5 at *
  obtain ⟨Z, hZ⟩ : ∃ Z, Z = scanI (heldAt d) n3 := ⟨_, rfl⟩
  have HZ : Hid (Z = scanI (heldAt d) n3) := hZ
  rw [← hZ] at HHe ⊢
  clear hZ
  go_enter Tryz.func99, Tryz.ntmps99
  go_wp2
  go_loopw [10] (fun i w' => ∃ k : Nat, k ≤ n3 ∧ i = .int .i64 k ∧ Hid (scanI (heldAt d) k = 0) ∧ (w'.cell? ⟨w.heap.size, 0, none⟩ = some (.int .i64 d.idx) ∧ w'.cell? ⟨w.heap.size, 1, none⟩ = some (.slice a1 n1 c1) ∧ w'.cell? ⟨w.heap.size, 2, none⟩ = some (.slice a2 n2 c2) ∧ w'.cell? ⟨w.heap.size, 3, none⟩ = some (.slice a3 n3 c3) ∧ w'.cell? ⟨w.heap.size, 4, none⟩ = some (.slice a4 n4 c4) ∧ w'.cell? ⟨w.heap.size, 5, none⟩ = some (.slice a5 n5 c5)) ∧ Below w.heap.size w w') (fun i _ => n3 - (intOf i).toNat)
  case atStart => exact ⟨0, Nat.zero_le _, rfl, rfl, by simp [go_sem], by (repeat (first | exact Below.refl _ _ | assumption | refine Below.drew ?_ | refine balloc ?_ _ | refine bset ?_ (by simp; omega) _ | refine bset ?_ (by simp) _ | refine bstep ?_ (by assumption)))⟩
  case round =>
    obtain ⟨k, hk, rfl, HS, ⟨y0, y1, y2, y3, y4, y5⟩, hbl⟩ := hrel
    have zq : w.heap.size < wr.heap.size := World.block_lt_of_cell? wr _ y0
    by_cases hlt : k < n3
    · obtain ⟨bx, ox, pp, qq, rfl, g0, g1, hV⟩ := HX.out k hlt
      obtain ⟨ul, hul, hvl⟩ := hV
      simp only [Value.agg.injEq, Array.mk.injEq, List.cons.injEq, and_true, true_and] at hul
      subst hul
      have HC1 : Hid (∀ W, Below wr.heap.size wr W → Calls Tryz.prog 117 #[.agg #[.int .i64 (d.held.getD k default).id, .slice pp (d.held.getD k default).legs.length qq]] W fun e w' => e = .returned (.int .i64 (contractFault (d.held.getD k default).id (d.held.getD k default).legs)) ∧ Below W.heap.size W w') := fun W hW => implFault_any _ _ _ W (legsR.below hvl (bstep hbl hW))
      have HC2 : Hid (∀ W, Below wr.heap.size wr W → contractFault (d.held.getD k default).id (d.held.getD k default).legs = 0 → Calls Tryz.prog 105 #[.slice pp (d.held.getD k default).legs.length qq, .int .i64 d.idx] W fun e w' => ∃ v, e = .returned v ∧ w'.ownsRow W.heap.size 111 4 v (legsH d k).length (legsC (legsH d k)) ∧ Below W.heap.size W w') := fun W hW h0 => legsOn_any _ _ _ W (legsR.below hvl (bstep hbl hW)) (by have := (cf_inv h0).2.2.1; omega)
      have HC3 : Hid (∀ W, Below wr.heap.size wr W → Calls Tryz.prog 137 #[.agg #[.int .i64 d.idx, .slice a1 n1 c1, .slice a2 n2 c2, .slice (some ⟨bx, ox, none⟩) n3 c3, .slice a4 n4 c4, .slice a5 n5 c5], .int .i64 (d.held.getD k default).id] W fun e w' => e = .returned (.bool (awaitB d (d.held.getD k default).id)) ∧ Below W.heap.size W w') := fun W hW => HAw.out W _ (bstep hbl hW)
      have HE1 : Hid (¬ contractFault (d.held.getD k default).id (d.held.getD k default).legs = 0 → Z = contractFault (d.held.getD k default).id (d.held.getD k default).legs) := fun h => HHe.out k _ hlt HS.out (heldAt_code h) h
      have HE2 : Hid (contractFault (d.held.getD k default).id (d.held.getD k default).legs = 0 → ¬ (riseC d.held k = true ∧ ¬ (legsH d k).length = 0 ∧ awaitB d (d.held.getD k default).id = true) → Z = 1) := fun h h2 => HHe.out k 1 hlt HS.out (heldAt_bad h (fun h3 => h2 ⟨h3.1, h3.2.1, by unfold awaitB; rw [h3.2.2.1, h3.2.2.2]; rfl⟩)) (by omega)
      have HE3 : Hid (contractFault (d.held.getD k default).id (d.held.getD k default).legs = 0 → (riseC d.held k = true ∧ ¬ (legsH d k).length = 0 ∧ awaitB d (d.held.getD k default).id = true) → scanI (heldAt d) (k + 1) = 0) := fun h h2 => scanI_succ HS.out (heldAt_ok h (by
        have h3 := h2.2.2
        unfold awaitB at h3
        simp at h3
        exact ⟨h2.1, h2.2.1, h3.1, h3.2⟩))
      have HPre : Hid (∀ m, k = m + 1 → ∃ q, wr.cell? ⟨bx, ox + m * 2, none⟩ = some (.int .i64 q) ∧ (riseC d.held k = decide (q < (d.held.getD k default).id))) := fun m hm => by
        obtain ⟨bx', ox', _, _, he, g2, _, _⟩ := HX.out m (by omega)
        simp only [Option.some.injEq, Addr.mk.injEq, and_true] at he
        obtain ⟨rfl, rfl⟩ := he
        refine ⟨_, cell_keep hbl g2, ?_⟩
        unfold riseC
        rw [hm, Nat.add_sub_cancel, decide_eq_decide]
        constructor
        · rintro (h | h)
          · omega
          · exact h
        · exact .inr
      have HR0 : Hid (k = 0 → riseC d.held k = true) := fun h => by unfold riseC; exact decide_eq_true (.inl h)
      replace g0 := cell_keep hbl g0
      replace g1 := cell_keep hbl g1
      clear hvl HHe HS
      generalize (d.held.getD k default).legs.length = ll at *
      generalize contractFault (d.held.getD k default).id (d.held.getD k default).legs = cf at *
      generalize awaitB d (d.held.getD k default).id = aw at *
      generalize (d.held.getD k default).id = qid at *
      have zb : bx < wr.heap.size := World.block_lt_of_cell? wr _ g0
      go_wp2_with fail
      refine (HC1.out _ (by (repeat (first | exact Below.refl _ _ | assumption | refine Below.drew ?_ | refine balloc ?_ _ | refine bset ?_ (by simp; omega) _ | refine bset ?_ (by simp) _ | refine bstep ?_ (by assumption))))).mono ?_
      rintro e w3 ⟨rfl, hb3⟩
      have hB3 : Below wr.heap.size wr w3 := bstep (by (repeat (first | exact Below.refl _ _ | assumption | refine Below.drew ?_ | refine balloc ?_ _ | refine bset ?_ (by simp; omega) _ | refine bset ?_ (by simp) _ | refine bstep ?_ (by assumption)))) hb3
      have b0 : w3.cell? ⟨wr.heap.size, 0, none⟩ = some (.int .i64 qid) := cell_keep hb3 (by simp [go_sem])
      have b1 : w3.cell? ⟨wr.heap.size, 1, none⟩ = some (.slice pp ll qq) := cell_keep hb3 (by simp [go_sem])
      clear hb3 HC1
      by_cases hcf : cf = 0
      rotate_left
      · have HC := HE1.out hcf
        have hcf' : (cf != 0) = true := by simp [hcf]
        clear HE1 HE2 HE3 HC2 HC3
        go_wp2
        go_ret
        exact ⟨by rw [HC]; rfl, by (repeat (first | exact Below.refl _ _ | assumption | refine Below.drew ?_ | refine balloc ?_ _ | refine bset ?_ (by simp; omega) _ | refine bset ?_ (by simp) _ | refine bstep ?_ (by assumption)))⟩
      have HC2' : Hid (∀ W, Below wr.heap.size wr W → Calls Tryz.prog 105 #[.slice pp ll qq, .int .i64 d.idx] W fun e w' => ∃ v, e = .returned v ∧ w'.ownsRow W.heap.size 111 4 v (legsH d k).length (legsC (legsH d k)) ∧ Below W.heap.size W w') := fun W hW => HC2.out W hW hcf
      have HE2' : Hid (¬ (riseC d.held k = true ∧ ¬ (legsH d k).length = 0 ∧ aw = true) → Z = 1) := fun h => HE2.out hcf h
      have HE3' : Hid ((riseC d.held k = true ∧ ¬ (legsH d k).length = 0 ∧ aw = true) → scanI (heldAt d) (k + 1) = 0) := fun h => HE3.out hcf h
      rw [hcf]
      clear HE1 HE2 HE3 HC2 hcf
      replace g0 := cell_keep hB3 g0
      replace y0 := cell_keep hB3 y0
      replace y1 := cell_keep hB3 y1
      replace y2 := cell_keep hB3 y2
      replace y3 := cell_keep hB3 y3
      replace y4 := cell_keep hB3 y4
      replace y5 := cell_keep hB3 y5
      have hz3 := hB3.size
      generalize hll : legsH d k = lgs at *
      clear hll
      have HRS : Hid (riseC d.held k = true ∨ riseC d.held k = false) := by cases riseC d.held k <;> simp [Hid]
      cases k with
      | zero =>
        have hrs := HR0.out rfl
        rw [hrs] at HE2' HE3'
        simp only [Nat.zero_mul, Nat.add_zero] at g0 g1
        clear HPre HR0 hrs HRS
        go_wp2
        go_quiet (fail)
        obtain ⟨w4, hw4⟩ : ∃ w4, w4 = w3.drewN nq := ⟨_, rfl⟩
        have hb4 : Below w3.heap.size w3 w4 := by rw [hw4]; exact bdrewN (Below.refl _ _) _
        rw [← hw4]
        clear hw4
        replace y0 := cell_keep hb4 y0
        replace y1 := cell_keep hb4 y1
        replace y2 := cell_keep hb4 y2
        replace y3 := cell_keep hb4 y3
        replace y4 := cell_keep hb4 y4
        replace y5 := cell_keep hb4 y5
        replace b0 := cell_keep hb4 b0
        replace b1 := cell_keep hb4 b1
        have hB4 : Below wr.heap.size wr w4 := bstep hB3 hb4
        go_wp2_with fail
        refine (HC2'.out _ hB4).mono ?_
        rintro e w5 ⟨vl, rfl, ol, hb5⟩
        obtain ⟨al, cl, rfl⟩ := owns_form ol
        replace y0 := cell_keep hb5 y0
        replace y1 := cell_keep hb5 y1
        replace y2 := cell_keep hb5 y2
        replace y3 := cell_keep hb5 y3
        replace y4 := cell_keep hb5 y4
        replace y5 := cell_keep hb5 y5
        replace b0 := cell_keep hb5 b0
        have hB5 : Below wr.heap.size wr w5 := bstep hB4 hb5
        clear hb5 hb4 ol
        by_cases hl0 : lgs.length = 0
        · have hl0' : (((lgs.length : Nat) : Int) == 0) = true := by simp [hl0]
          have HC := HE2'.out (fun h => h.2.1 hl0)
          clear HE2' HE3' hl0
          generalize lgs.length = lg at *
          go_wp2
          go_ret
          exact ⟨by rw [HC]; rfl, by (repeat (first | exact Below.refl _ _ | assumption | refine Below.drew ?_ | refine balloc ?_ _ | refine bset ?_ (by simp; omega) _ | refine bset ?_ (by simp) _ | refine bstep ?_ (by assumption)))⟩
        have hl0' : (((lgs.length : Nat) : Int) == 0) = false := by simp; exact fun h => hl0 (by rw [h]; rfl)
        cases haw : aw
        · have HC := HE2'.out (fun h => by rw [haw] at h; exact absurd h.2.2 (by decide))
          rw [haw] at HC3
          clear HE2' HE3' hl0 haw
          generalize lgs.length = lg at *
          go_wp2_with (first | (go_at_call 137; refine (HC3.out _ (by (repeat (first | exact Below.refl _ _ | assumption | refine Below.drew ?_ | refine balloc ?_ _ | refine bset ?_ (by simp; omega) _ | refine bset ?_ (by simp) _ | refine bstep ?_ (by assumption))))).mono ?_; rintro e w6 ⟨rfl, hb6⟩))
          go_ret
          exact ⟨by rw [HC]; rfl, by (repeat (first | exact Below.refl _ _ | assumption | refine Below.drew ?_ | refine balloc ?_ _ | refine bset ?_ (by simp; omega) _ | refine bset ?_ (by simp) _ | refine bstep ?_ (by assumption)))⟩
        · have HC : Hid (scanI (heldAt d) (0 + 1) = 0) := HE3'.out ⟨by first | rfl | trivial, hl0, haw⟩
          rw [haw] at HC3
          clear HE2' HE3' hl0 haw
          generalize lgs.length = lg at *
          go_wp2_with fail
          refine (HC3.out _ hB5).mono ?_
          rintro e w6 ⟨rfl, hb6⟩
          replace y0 := cell_keep hb6 y0
          replace y1 := cell_keep hb6 y1
          replace y2 := cell_keep hb6 y2
          replace y3 := cell_keep hb6 y3
          replace y4 := cell_keep hb6 y4
          replace y5 := cell_keep hb6 y5
          have hB6 : Below wr.heap.size wr w6 := bstep hB5 hb6
          have hBw6 : Below w.heap.size w w6 := bstep hbl hB6
          clear hb6
          go_wp2
          exact ⟨⟨1, by omega, by go_num, HC, ⟨y0, y1, y2, y3, y4, y5⟩, hBw6⟩, by simp [intOf]; omega⟩
      | succ m =>
        obtain ⟨q, gq, hq⟩ := HPre.out m rfl
        replace gq := cell_keep hB3 gq
        clear HPre HR0 HRS
        have hw1 : IntKind.i64.wrap (((m + 1 : Nat) : Int) - 1) = (m : Int) := by rw [IntKind.wrap_i64]; omega
        have hw2 : (((m + 1 : Nat) : Int) - 1) = (m : Int) := by omega
        have hw3 : IntKind.i64.wrap (m : Int) = (m : Int) := wrapId (by omega) (by omega)
        have e1 : ((m + 1 : Nat) : Int) < n3 := by omega
        have e2 : (m : Int) < n3 := by omega
        have e3 : (0 : Int) ≤ m := by omega
        have e4 : (((m + 1 : Nat) : Int) == 0) = false := by simp; omega
        have e5 : (0 : Int) ≤ ((m + 1 : Nat) : Int) := by omega
        obtain ⟨ii, hii⟩ : ∃ ii : Nat, ii = m + 1 := ⟨_, rfl⟩
        have HII : Hid (ii = m + 1) := hii
        rw [← hii] at g0 g1 hw1 hw2 e1 e4 e5 HE2' HE3' hlt hk hq ⊢
        clear hii
        have e6 : ¬ ii = 0 := by have := HII.out; omega
        by_cases hle : q < qid
        · rw [decide_eq_true hle] at hq
          rw [hq] at HE2' HE3'
          have hle' : decide (q < qid) = true := decide_eq_true hle
          clear hq
          go_wp2
          go_quiet (fail)
          obtain ⟨w4, hw4⟩ : ∃ w4, w4 = w3.drewN nq := ⟨_, rfl⟩
          have hb4 : Below w3.heap.size w3 w4 := by rw [hw4]; exact bdrewN (Below.refl _ _) _
          rw [← hw4]
          clear hw4
          replace y0 := cell_keep hb4 y0
          replace y1 := cell_keep hb4 y1
          replace y2 := cell_keep hb4 y2
          replace y3 := cell_keep hb4 y3
          replace y4 := cell_keep hb4 y4
          replace y5 := cell_keep hb4 y5
          replace b0 := cell_keep hb4 b0
          replace b1 := cell_keep hb4 b1
          have hB4 : Below wr.heap.size wr w4 := bstep hB3 hb4
          go_wp2_with fail
          refine (HC2'.out _ hB4).mono ?_
          rintro e w5 ⟨vl, rfl, ol, hb5⟩
          obtain ⟨al, cl, rfl⟩ := owns_form ol
          replace y0 := cell_keep hb5 y0
          replace y1 := cell_keep hb5 y1
          replace y2 := cell_keep hb5 y2
          replace y3 := cell_keep hb5 y3
          replace y4 := cell_keep hb5 y4
          replace y5 := cell_keep hb5 y5
          replace b0 := cell_keep hb5 b0
          have hB5 : Below wr.heap.size wr w5 := bstep hB4 hb5
          clear hb5 hb4 ol
          by_cases hl0 : lgs.length = 0
          · have hl0' : (((lgs.length : Nat) : Int) == 0) = true := by simp [hl0]
            have HC := HE2'.out (fun h => h.2.1 hl0)
            clear HE2' HE3' hl0
            generalize lgs.length = lg at *
            go_wp2
            go_ret
            exact ⟨by rw [HC]; rfl, by (repeat (first | exact Below.refl _ _ | assumption | refine Below.drew ?_ | refine balloc ?_ _ | refine bset ?_ (by simp; omega) _ | refine bset ?_ (by simp) _ | refine bstep ?_ (by assumption)))⟩
          have hl0' : (((lgs.length : Nat) : Int) == 0) = false := by simp; exact fun h => hl0 (by rw [h]; rfl)
          cases haw : aw
          · have HC := HE2'.out (fun h => by rw [haw] at h; exact absurd h.2.2 (by decide))
            rw [haw] at HC3
            clear HE2' HE3' hl0 haw
            generalize lgs.length = lg at *
            go_wp2_with (first | (go_at_call 137; refine (HC3.out _ (by (repeat (first | exact Below.refl _ _ | assumption | refine Below.drew ?_ | refine balloc ?_ _ | refine bset ?_ (by simp; omega) _ | refine bset ?_ (by simp) _ | refine bstep ?_ (by assumption))))).mono ?_; rintro e w6 ⟨rfl, hb6⟩))
            go_ret
            exact ⟨by rw [HC]; rfl, by (repeat (first | exact Below.refl _ _ | assumption | refine Below.drew ?_ | refine balloc ?_ _ | refine bset ?_ (by simp; omega) _ | refine bset ?_ (by simp) _ | refine bstep ?_ (by assumption)))⟩
          · have HC : Hid (scanI (heldAt d) (ii + 1) = 0) := HE3'.out ⟨by first | rfl | trivial, hl0, haw⟩
            rw [haw] at HC3
            clear HE2' HE3' hl0 haw
            generalize lgs.length = lg at *
            go_wp2_with fail
            refine (HC3.out _ hB5).mono ?_
            rintro e w6 ⟨rfl, hb6⟩
            replace y0 := cell_keep hb6 y0
            replace y1 := cell_keep hb6 y1
            replace y2 := cell_keep hb6 y2
            replace y3 := cell_keep hb6 y3
            replace y4 := cell_keep hb6 y4
            replace y5 := cell_keep hb6 y5
            have hB6 : Below wr.heap.size wr w6 := bstep hB5 hb6
            have hBw6 : Below w.heap.size w w6 := bstep hbl hB6
            clear hb6
            go_wp2
            exact ⟨⟨ii + 1, by omega, by go_num, HC, ⟨y0, y1, y2, y3, y4, y5⟩, hBw6⟩, by simp [intOf]; omega⟩
        · rw [decide_eq_false hle] at hq
          rw [hq] at HE2' HE3'
          have HC := HE2'.out (fun h => by exact absurd h.1 (by decide))
          have hle' : decide (q < qid) = false := decide_eq_false hle
          clear hq HE2' HE3'
          go_wp2
          go_quiet (fail)
          go_wp2
          go_ret
          exact ⟨by rw [HC]; rfl, bdrewN (by (repeat (first | exact Below.refl _ _ | assumption | refine Below.drew ?_ | refine balloc ?_ _ | refine bset ?_ (by simp; omega) _ | refine bset ?_ (by simp) _ | refine bstep ?_ (by assumption)))) _⟩
    · have hkn : k = n3 := by omega
      subst hkn
      have HC : Hid (Z = 0) := by show _ = _; rw [HZ.out]; exact HS.out
      go_wp2
      go_ret
      exact ⟨by rw [HC.out]; rfl, by (repeat (first | exact Below.refl _ _ | assumption | refine Below.drew ?_ | refine balloc ?_ _ | refine bset ?_ (by simp; omega) _ | refine bset ?_ (by simp) _ | refine bstep ?_ (by assumption)))⟩
end Go.Proofs.YtojjdkggomlegaaGreat

