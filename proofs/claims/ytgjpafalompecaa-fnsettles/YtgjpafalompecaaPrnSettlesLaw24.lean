import Derived.Test.YtgjpafalompecaaPrnSettlesLaw4
import Derived.RegionTactic
import Derived.ChangeAlike
import Derived.BigRegion
import Derived.BigQuiet
import Derived.Deep.QuietTactic
import Derived.Shelf.Abstract
import Derived.Test.YtgjpafalompecaaPrnSettlesLaw17
import Derived.Test.YtgjpafalompecaaPrnSettlesLaw12
import Derived.PlainAid
import Derived.Laws.BitsAllLaws
import Derived.Test.YtgjpafalompecaaPrnSettlesLaw1
import Derived.Deep.RegionHeld3
import Derived.Deep.DrawnRows
import Derived.Lib.ConvBytes
import Derived.Test.YtgjpafalompecaaPrnSettlesLaw18
import Derived.Test.YtgjpafalompecaaPrnSettlesLaw6
import Derived.Test.YtgjpafalompecaaPrnSettlesLaw13
import Derived.Laws.BytesArg
import Derived.Test.YtgjpafalompecaaPrnSettlesLaw2

/-
  SameLedgers on both sides.
-/
namespace Go.Proofs.Ytgjpafalompecaa
open Go.RowKit
set_option linter.unusedSectionVars false
variable [DecidableEq Bal] [Inhabited Bal] [DecidableEq Ledg] [Inhabited Ledg] [DecidableEq Leg] [Inhabited Leg]
attribute [local go_sem ↓] Go.wp_at_zero Go.wp_at_succ

theorem eqGuardBal : Try.prog.eqGuardType Try.prog.depth 80 = false := by kernel_rfl
theorem neqBal (x y : Bal) (w : World) : (binOp .neq 80 (.agg #[.int .i64 x.ac, .int .i64 x.ast, .int .i64 x.am]) (.agg #[.int .i64 y.ac, .int .i64 y.ast, .int .i64 y.am])).run Try.prog w = .ok (.bool (!decide (x = y))) w := by
  rw [run_neq_struct, run_equalIn_struct w 9999 80 _ _ (by kernel_rfl) (by kernel_rfl)]
  have hf : (Try.prog.fieldsOf 80).toList = [{ name := "Account", type := 2, offset := 0, embedded := false, tag := "", pkgPath := "", byteOffset := 0 }, { name := "Asset", type := 2, offset := 1, embedded := false, tag := "", pkgPath := "", byteOffset := 8 }, { name := "Amount", type := 2, offset := 2, embedded := false, tag := "", pkgPath := "", byteOffset := 16 }] := by kernel_rfl
  rw [hf]
  obtain ⟨a, b, c⟩ := x
  obtain ⟨a', b', c'⟩ := y
  simp [Op.eqFields, go_sem]
  by_cases e1 : a = a' <;> by_cases e2 : b = b' <;> by_cases e3 : c = c' <;> simp [e1, e2, e3]
theorem ne_of_getD {α : Type} [Inhabited α] [DecidableEq α] {xs ys : List α} {k : Nat} (h : xs.getD k default ≠ ys.getD k default) : decide (xs = ys) = false := by
  simp only [decide_eq_false_iff_not]
  intro e
  rw [e] at h
  exact h rfl
set_option maxHeartbeats 1000000 in
theorem sliceEqBal_any (x y : Value) (xs ys : List Bal) (w : World) (hx : balsR.V w x xs) (hy : balsR.V w y ys) :
    Calls Try.prog 58 #[x, y] w fun e w' => e = .returned (.bool (decide (xs = ys))) ∧ Below w.heap.size w w' := by
  obtain ⟨ax, cx, rfl, hcx, hmx, hx⟩ := hx
  obtain ⟨ay, cy, rfl, hcy, hmy, hy⟩ := hy
  unfold maxLen at hmx hmy
  by_cases hl : xs.length = ys.length
  · generalize hn' : xs.length = n at *
    have HN : Hid (xs.length = n) := hn'
    have HM : Hid (ys.length = n) := hl.symm
    rw [← hl] at hy hcy ⊢
    clear hn' hl
    go_enter Try.func58, Try.ntmps58
    go_wp2
    go_loopw [13] (fun i w' => ∃ k : Nat, k ≤ n ∧ i = .int .i64 k ∧ (∀ j, j < k → xs.getD j default = ys.getD j default) ∧ Below w.heap.size w w') (fun i _ => n - (intOf i).toNat)
    case atStart => exact ⟨0, Nat.zero_le _, rfl, fun j hj => by omega, Below.refl _ _⟩
    case round =>
      obtain ⟨k, hk, rfl, hs, hbl⟩ := hrel
      have HS : Hid (∀ j, j < k → xs.getD j default = ys.getD j default) := hs
      clear hs
      by_cases hlt : k < n
      · obtain ⟨bx, ox, rfl, g1⟩ := hx k hlt
        obtain ⟨b2, o2, rfl, g2⟩ := hy k hlt
        obtain ⟨l, hl⟩ : ∃ l, l = xs.getD k default := ⟨_, rfl⟩
        rw [← hl] at g1
        have HL : Hid (l = xs.getD k default) := hl
        obtain ⟨o, ho⟩ : ∃ o, o = ys.getD k default := ⟨_, rfl⟩
        rw [← ho] at g2
        have HO : Hid (o = ys.getD k default) := ho
        clear hl ho hx hy
        obtain ⟨a1, a2, a3⟩ := balCells_below hbl g1
        obtain ⟨d1, d2, d3⟩ := balCells_below hbl g2
        have hnq := neqBal l o
        have hgd := eqGuardBal
        have i1 : (k : Int) < (n : Int) := by omega
        go_wp2
        go_quiet (fail)
        clear hnq hgd
        generalize hd : decide (l = o) = b
        have HD : Hid (decide (l = o) = b) := hd
        clear hd
        cases b with
        | true =>
          go_wp2
          have he : l = o := of_decide_eq_true HD.out
          refine ⟨⟨k + 1, by omega, by go_num, ?_, bdrewN hbl _⟩, by simp [intOf]; omega⟩
          intro j hj
          by_cases e : j = k
          · subst e; rw [← HL.out, ← HO.out, he]
          · exact HS.out j (by omega)
        | false =>
          go_wp2
          go_ret
          have he : ¬ l = o := of_decide_eq_false HD.out
          refine ⟨?_, bdrewN hbl _⟩
          rw [ne_of_getD (k := k) (by rw [← HL.out, ← HO.out]; exact he)]
          rfl
      · go_wp2
        go_ret
        have hkn : k = n := by omega
        subst hkn
        refine ⟨?_, hbl⟩
        have e : xs = ys := rows_eq_of (by rw [HN.out, HM.out]) (by rw [HN.out]; exact HS.out)
        rw [decide_eq_true e]
        rfl
  · have e : decide (xs = ys) = false := by
      simp only [decide_eq_false_iff_not]
      intro e
      rw [e] at hl
      exact hl rfl
    rw [e]
    clear hx hy
    generalize xs.length = n at *
    generalize ys.length = m at *
    have hl2 : ¬ (n : Int) = (m : Int) := by omega
    go_enter Try.func58, Try.ntmps58
    go_wp2
    go_ret
    exact ⟨rfl, Below.refl _ _⟩
theorem sameBalances_any (x y : Value) (xs ys : List Bal) (w : World) (hx : balsR.V w x xs) (hy : balsR.V w y ys) :
    Calls Try.prog 35 #[x, y] w fun e w' => e = .returned (.bool (decide (xs = ys))) ∧ Below w.heap.size w w' := by
  have hx0 := hx
  have hy0 := hy
  obtain ⟨ax, cx, rfl⟩ := bals_form hx
  obtain ⟨ay, cy, rfl⟩ := bals_form hy
  go_enter Try.func35, Try.ntmps35
  go_wp2_with fail
  refine (sliceEqBal_any _ _ xs ys _ hx0 hy0).mono ?_
  rintro e w' ⟨rfl, hb⟩
  go_wp2
  go_ret
  exact ⟨rfl, hb⟩
set_option maxHeartbeats 1000000 in
theorem equalFunc_any (x y : Value) (xs ys : List (List Bal)) (w : World) (hx : balssR.V w x xs) (hy : balssR.V w y ys) :
    Calls Try.prog 34 #[x, y, .func (.func 35) #[] #[]] w fun e w' => e = .returned (.bool (decide (xs = ys))) ∧ Below w.heap.size w w' := by
  obtain ⟨ax, cx, rfl, hcx, hmx, hx⟩ := hx
  obtain ⟨ay, cy, rfl, hcy, hmy, hy⟩ := hy
  unfold maxLen at hmx hmy
  by_cases hl : xs.length = ys.length
  · generalize hn' : xs.length = n at *
    have HN : Hid (xs.length = n) := hn'
    have HM : Hid (ys.length = n) := hl.symm
    rw [← hl] at hy hcy ⊢
    clear hn' hl
    go_enter Try.func34, Try.ntmps34
    go_wp2
    go_loopw [17] (fun i w' => ∃ k : Nat, k ≤ n ∧ i = .int .i64 k ∧ (∀ j, j < k → xs.getD j default = ys.getD j default) ∧ Below w.heap.size w w') (fun i _ => n - (intOf i).toNat)
    case atStart => exact ⟨0, Nat.zero_le _, rfl, fun j hj => by omega, Below.refl _ _⟩
    case round =>
      obtain ⟨k, hk, rfl, hs, hbl⟩ := hrel
      have HS : Hid (∀ j, j < k → xs.getD j default = ys.getD j default) := hs
      clear hs
      by_cases hlt : k < n
      · obtain ⟨bx, ox, u, rfl, _, hc, hu⟩ := hx k hlt
        obtain ⟨b2, o2, v, rfl, _, hd, hv⟩ := hy k hlt
        have c1 := cell_keep hbl (cells1 hc)
        have d1 := cell_keep hbl (cells1 hd)
        have hu1 := balsR.below hu hbl
        have hv1 := balsR.below hv hbl
        clear hu hc hv hd hx hy
        obtain ⟨l, hl⟩ : ∃ l, l = xs.getD k default := ⟨_, rfl⟩
        rw [← hl] at hu1
        have HL : Hid (l = xs.getD k default) := hl
        obtain ⟨o, ho⟩ : ∃ o, o = ys.getD k default := ⟨_, rfl⟩
        rw [← ho] at hv1
        have HO : Hid (o = ys.getD k default) := ho
        clear hl ho
        obtain ⟨a', c', rfl⟩ := bals_form hu1
        obtain ⟨a2, c2, rfl⟩ := bals_form hv1
        have eg : ∀ args w, (callFunc 35 args).run Try.prog w = .ok (.enter 35 args) w := enters_of Try.func35 (by kernel_rfl) rfl
        go_wp2_with fail
        refine (sameBalances_any _ _ l o _ hu1 hv1).mono ?_
        rintro e w' ⟨rfl, hb⟩
        have hB := bstep hbl hb
        clear eg hb
        generalize hd : decide (l = o) = b
        have HD : Hid (decide (l = o) = b) := hd
        clear hd
        cases b with
        | true =>
          go_wp2
          have he : l = o := of_decide_eq_true HD.out
          refine ⟨⟨k + 1, by omega, by go_num, ?_, hB⟩, by simp [intOf]; omega⟩
          intro j hj
          by_cases e : j = k
          · subst e; rw [← HL.out, ← HO.out, he]
          · exact HS.out j (by omega)
        | false =>
          go_wp2
          go_ret
          have he : ¬ l = o := of_decide_eq_false HD.out
          refine ⟨?_, hB⟩
          rw [ne_of_getD (k := k) (by rw [← HL.out, ← HO.out]; exact he)]
          rfl
      · go_wp2
        go_ret
        have hkn : k = n := by omega
        subst hkn
        refine ⟨?_, hbl⟩
        have e : xs = ys := rows_eq_of (by rw [HN.out, HM.out]) (by rw [HN.out]; exact HS.out)
        rw [decide_eq_true e]
        rfl
  · have e : decide (xs = ys) = false := by
      simp only [decide_eq_false_iff_not]
      intro e
      rw [e] at hl
      exact hl rfl
    rw [e]
    clear hx hy
    generalize xs.length = n at *
    generalize ys.length = m at *
    have hl2 : ¬ (n : Int) = (m : Int) := by omega
    go_enter Try.func34, Try.ntmps34
    go_wp2
    go_ret
    exact ⟨rfl, Below.refl _ _⟩
end Go.Proofs.Ytgjpafalompecaa

/-
  SameLedgers on both sides (the functions themselves).
-/
namespace Go.Proofs.Ytgjpafalompecaa
open Go.RowKit
set_option linter.unusedSectionVars false
variable [DecidableEq Bal] [Inhabited Bal] [DecidableEq Ledg] [Inhabited Ledg] [DecidableEq Leg] [Inhabited Leg]
attribute [local go_sem ↓] Go.wp_at_zero Go.wp_at_succ

theorem ledg_dec (g g' : Ledg) : decide (g.shards = g'.shards) = decide (g = g') := by
  obtain ⟨a⟩ := g
  obtain ⟨b⟩ := g'
  simp
set_option maxHeartbeats 1000000 in
theorem implSameL_any (x y : Value) (g g' : Ledg) (w : World) (hx : ledgR.V w x g) (hy : ledgR.V w y g') :
    Calls Try.prog 14 #[x, y] w fun e w' => e = .returned (.bool (decide (g = g'))) ∧ Below w.heap.size w w' := by
  obtain ⟨u, rfl, hu⟩ := hx
  obtain ⟨v, rfl, hv⟩ := hy
  obtain ⟨ax, cx, rfl⟩ := balss_form hu
  obtain ⟨ay, cy, rfl⟩ := balss_form hv
  go_enter Try.func14, Try.ntmps14
  go_wp2_with fail
  refine (equalFunc_any _ _ g.shards g'.shards _ (balssR.below hu (by (repeat (first | exact Below.refl _ _ | assumption | refine Below.drew ?_ | refine balloc ?_ _ | refine bset ?_ (by simp; omega) _ | refine bset ?_ (by simp) _ | refine bstep ?_ (by assumption))))) (balssR.below hv (by (repeat (first | exact Below.refl _ _ | assumption | refine Below.drew ?_ | refine balloc ?_ _ | refine bset ?_ (by simp; omega) _ | refine bset ?_ (by simp) _ | refine bstep ?_ (by assumption)))))).mono ?_
  rintro e w' ⟨rfl, hb⟩
  rw [ledg_dec]
  go_wp2
  go_ret
  exact ⟨rfl, by (repeat (first | exact Below.refl _ _ | assumption | refine Below.drew ?_ | refine balloc ?_ _ | refine bset ?_ (by simp; omega) _ | refine bset ?_ (by simp) _ | refine bstep ?_ (by assumption)))⟩
end Go.Proofs.Ytgjpafalompecaa

/-
  Bytes as text; one row of a row of rows; whether the code is too long.
-/
namespace Go.Proofs.Ytgjpafalompecaa
open Go.RowKit
set_option linter.unusedSectionVars false
variable [DecidableEq BytesR] [Inhabited BytesR] [DecidableEq RecsR] [Inhabited RecsR]
set_option linter.unusedSimpArgs false
attribute [local go_sem ↓] Go.wp_at_zero Go.wp_at_succ

set_option maxHeartbeats 400000 in
theorem lwBig_any (x : Value) (xs : List Byte) (w : World) (hx : bytesR.V w x xs) :
    Calls Try.prog 5 #[x] w fun e w' => e = .returned (.bool (decide (1048576 < xs.length))) ∧ w' = w := by
  obtain ⟨a, c, rfl, h1, h2, _⟩ := hx
  unfold maxLen at h2
  generalize xs.length = n at *
  go_enter Try.func5, Try.ntmps5
  by_cases h : 1048576 < n
  · have h' : (1048576 : Int) < (n : Int) := by omega
    go_wp2
    go_ret
    exact ⟨by simp [h], rfl⟩
  · have h' : ¬ (1048576 : Int) < (n : Int) := by omega
    go_wp2
    go_ret
    exact ⟨by simp [h], rfl⟩
end Go.Proofs.Ytgjpafalompecaa

/-
  A region in which two operations may come first: both ways.
-/
namespace Go.Proofs.Ytgjpafalompecaa
open Go.RowKit

theorem upto_two {P : Program} {ops : Array Oper} {Q : Exit → Act → World → Prop} {md : Region.Mode} {S : World → Prop} {t : Nat} {i j : Nat} {o o' : Oper} {f : Nat} {listed : Array Bool} {a : Act} {w : World} (hr : Region.ready md ops listed = [i, j]) (hi : ops[i]? = some o) (hj : ops[j]? = some o')
    (h : ∀ K : Act → World → Prop, (∀ a' w', (i ≠ t → S w') → wpUpto P md ops Q S t f (listed.setIfInBounds i true) a' w' → K a' w') → if Region.wanted o (yielded ops a.tmps) = true then Oper.wp P o a w K Q else K (a.put o.dst undef) w)
    (h' : ∀ K : Act → World → Prop, (∀ a' w', (j ≠ t → S w') → wpUpto P md ops Q S t f (listed.setIfInBounds j true) a' w' → K a' w') → if Region.wanted o' (yielded ops a.tmps) = true then Oper.wp P o' a w K Q else K (a.put o'.dst undef) w) :
    wpUpto P md ops Q S t (f + 1) listed a w := by
  refine ⟨fun h0 => (by rw [hr] at h0; cases h0), fun k hk => ?_⟩
  rw [hr] at hk
  have e : k = i ∨ k = j := by simpa using hk
  rcases e with e | e
  · subst e
    have h1 := h (fun a' w' => (k ≠ t → S w') ∧ wpUpto P md ops Q S t f (listed.setIfInBounds k true) a' w') (fun _ _ p q => ⟨p, q⟩)
    unfold wpOp
    simp only [hi]
    split
    · rename_i hw
      rw [if_pos hw] at h1
      exact .inl h1
    · rename_i hw
      rw [if_neg hw] at h1
      exact h1
  · subst e
    have h1 := h' (fun a' w' => (k ≠ t → S w') ∧ wpUpto P md ops Q S t f (listed.setIfInBounds k true) a' w') (fun _ _ p q => ⟨p, q⟩)
    unfold wpOp
    simp only [hj]
    split
    · rename_i hw
      rw [if_pos hw] at h1
      exact .inl h1
    · rename_i hw
      rw [if_neg hw] at h1
      exact h1
end Go.Proofs.Ytgjpafalompecaa

