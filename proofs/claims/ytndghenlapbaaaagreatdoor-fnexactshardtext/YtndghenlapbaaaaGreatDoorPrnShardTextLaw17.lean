import Derived.Test.YtndghenlapbaaaaGreatDoorPrnShardTextLaw16
import Derived.Test.YtndghenlapbaaaaGreatDoorPrnShardTextLaw2
import Derived.BigQuiet
import Derived.Deep.QuietTactic
import Derived.Deep.RegionHeld3
import Derived.Test.YtndghenlapbaaaaGreatDoorPrnShardTextLaw7
import Derived.Test.YtndghenlapbaaaaGreatDoorPrnShardTextLaw15
import Derived.Test.YtndghenlapbaaaaGreatDoorPrnShardTextLaw3
import Derived.Test.YtndghenlapbaaaaGreatDoorPrnShardTextLaw14
import Derived.Recover
import Derived.WalkLawsBesides
import Derived.Test.YtndghenlapbaaaaGreatDoorPrnShardTextLaw5
import Derived.Test.YtndghenlapbaaaaGreatDoorPrnShardTextLaw8

/-
  Marks and contracts of a shard: what is found, the document's.
-/
set_option linter.unusedSimpArgs false
set_option linter.unusedVariables false
namespace Go.Proofs.YtndghenlapbaaaaGreatDoor
open Go.RowKit
set_option linter.unusedSectionVars false
variable [DecidableEq Rw] [Inhabited Rw] [DecidableEq Bal] [Inhabited Bal] [DecidableEq Ledg] [Inhabited Ledg] [DecidableEq Leg] [Inhabited Leg] [DecidableEq Cont] [Inhabited Cont] [DecidableEq LedgR] [Inhabited LedgR] [DecidableEq OutcR] [Inhabited OutcR] [DecidableEq Mrk] [Inhabited Mrk] [DecidableEq Shd] [Inhabited Shd] [DecidableEq ShdR] [Inhabited ShdR]
attribute [local go_sem ↓] Go.wp_at_zero Go.wp_at_succ

theorem conts_at {w : World} {v : Value} {xs : List Cont} (hx : contsR.V w v xs) : ∃ a c, v = .slice a xs.length c ∧ xs.length ≤ c ∧ c ≤ maxLen ∧ ∀ k, k < xs.length → ∃ b o p q, a = some ⟨b, o, none⟩ ∧ w.cell? ⟨b, o + k * 2, none⟩ = some (.int .i64 (xs.getD k default).id) ∧ w.cell? ⟨b, o + k * 2 + 1, none⟩ = some (.slice p (xs.getD k default).legs.length q) ∧ contR.V w (.agg #[.int .i64 (xs.getD k default).id, .slice p (xs.getD k default).legs.length q]) (xs.getD k default) := by
  obtain ⟨a, c, rfl, h1, h2, h3⟩ := hx
  refine ⟨a, c, rfl, h1, h2, fun k hk => ?_⟩
  obtain ⟨b, o, u, e, _, p, hv⟩ := h3 k hk
  have hV := hv
  obtain ⟨s, rfl, hc⟩ := hv
  obtain ⟨au, cu, rfl⟩ := legs_form hc
  exact ⟨b, o, au, cu, e, p 0 (by omega), p 1 (by omega), hV⟩
theorem mrkAt_bad {xs : List Mrk} {k : Nat} (h : (inB (xs.getD k default).con 1 1000000000 && inB (xs.getD k default).val 1 2) = false) : mrkAt xs k = 3 := by unfold mrkAt; rw [h]; rfl
theorem mrkAt_zero {xs : List Mrk} (h : (inB (xs.getD 0 default).con 1 1000000000 && inB (xs.getD 0 default).val 1 2) = true) : mrkAt xs 0 = 0 := by unfold mrkAt; rw [if_pos h, if_neg (by omega)]
theorem mrkAt_fall {xs : List Mrk} {k : Nat} (h : (inB (xs.getD (k + 1) default).con 1 1000000000 && inB (xs.getD (k + 1) default).val 1 2) = true) (h2 : (xs.getD (k + 1) default).con ≤ (xs.getD k default).con) : mrkAt xs (k + 1) = 1 := by unfold mrkAt; rw [if_pos h, if_pos ⟨by omega, by rw [Nat.add_sub_cancel]; omega⟩]
theorem mrkAt_rise {xs : List Mrk} {k : Nat} (h : (inB (xs.getD (k + 1) default).con 1 1000000000 && inB (xs.getD (k + 1) default).val 1 2) = true) (h2 : (xs.getD k default).con < (xs.getD (k + 1) default).con) : mrkAt xs (k + 1) = 0 := by unfold mrkAt; rw [if_pos h, if_neg (by rw [Nat.add_sub_cancel]; omega)]
theorem mrkF_hit {xs : List Mrk} {k : Nat} {c : Int} (hk : k < xs.length) (hs : scanI (mrkAt xs) k = 0) (h : mrkAt xs k = c) (hc : c ≠ 0) : mrkF xs = c := by
  unfold mrkF; rw [scanI_hit hs (by rw [h]; exact hc) _ hk, h]
set_option maxHeartbeats 2000000 in
theorem l10Find_any (x : Value) (xs : List Mrk) (c : Int) (w : World) (hx : mrksR.V w x xs) :
    Calls Tryz.prog 54 #[x, .int .i64 c] w fun e w' => e = .returned (.int .i64 (findM c xs)) ∧ Below w.heap.size w w' := by
  obtain ⟨ax, cx, rfl, hcx, hmx, hx⟩ := hx
  unfold maxLen at hmx
  have HS0 : Hid (∀ k, k < xs.length → findM c (xs.drop k) = if (xs.getD k default).con = c then (xs.getD k default).val else findM c (xs.drop (k + 1))) := fun k hk => findM_drop hk
  have HE : Hid (findM c (xs.drop xs.length) = 0) := by show _ = _; rw [List.drop_length]; rfl
  generalize hn' : xs.length = n at *
  clear hn'
  go_enter Tryz.func54, Tryz.ntmps54
  go_wp2
  go_loopw [5] (fun i w' => ∃ k : Nat, k ≤ n ∧ i = .int .i64 k ∧ Hid (findM c xs = findM c (xs.drop k)) ∧ Below w.heap.size w w') (fun i _ => n - (intOf i).toNat)
  case atStart => exact ⟨0, Nat.zero_le _, rfl, rfl, Below.refl _ _⟩
  case round =>
    obtain ⟨k, hk, rfl, HS, hbl⟩ := hrel
    by_cases hlt : k < n
    · obtain ⟨bx, ox, rfl, g1⟩ := hx k hlt
      have h1 := HS0.out k hlt
      obtain ⟨l, hl⟩ : ∃ l, l = xs.getD k default := ⟨_, rfl⟩
      rw [← hl] at g1 h1
      have H1 : Hid (findM c (xs.drop k) = if l.con = c then l.val else findM c (xs.drop (k + 1))) := h1
      clear hl hx h1
      obtain ⟨a1, a2⟩ := mrkCells_below hbl g1
      by_cases he : l.con = c
      · have HC : Hid (findM c xs = l.val) := by show _ = _; rw [HS.out, H1.out, if_pos he]
        have he' : (l.con == c) = true := by simp [he]
        clear H1 HS
        go_wp2
        go_ret
        exact ⟨by rw [HC.out]; rfl, by (repeat (first | exact Below.refl _ _ | assumption | refine Below.drew ?_ | refine balloc ?_ _ | refine bset ?_ (by simp; omega) _ | refine bset ?_ (by simp) _ | refine bstep ?_ (by assumption)))⟩
      · have HC : Hid (findM c xs = findM c (xs.drop (k + 1))) := by show _ = _; rw [HS.out, H1.out, if_neg he]
        have he' : (l.con == c) = false := by simp [he]
        clear H1 HS
        go_wp2
        exact ⟨⟨k + 1, by omega, by go_num, HC, by (repeat (first | exact Below.refl _ _ | assumption | refine Below.drew ?_ | refine balloc ?_ _ | refine bset ?_ (by simp; omega) _ | refine bset ?_ (by simp) _ | refine bstep ?_ (by assumption)))⟩, by simp [intOf]; omega⟩
    · have hkn : k = n := by omega
      subst hkn
      have HC : Hid (findM c xs = 0) := by show _ = _; rw [HS.out, HE.out]
      go_wp2
      go_ret
      exact ⟨by rw [HC.out]; rfl, by (repeat (first | exact Below.refl _ _ | assumption | refine Below.drew ?_ | refine balloc ?_ _ | refine bset ?_ (by simp; omega) _ | refine bset ?_ (by simp) _ | refine bstep ?_ (by assumption)))⟩
set_option maxHeartbeats 4000000 in
theorem l10Marks_any (x : Value) (xs : List Mrk) (w : World) (hx : mrksR.V w x xs) :
    Calls Tryz.prog 30 #[x] w fun e w' => e = .returned (.int .i64 (mrkF xs)) ∧ Below w.heap.size w w' := by
  obtain ⟨ax, cx, rfl, hcx, hmx, hx⟩ := hx
  unfold maxLen at hmx
  have HH : Hid (∀ k c, k < xs.length → scanI (mrkAt xs) k = 0 → mrkAt xs k = c → c ≠ 0 → mrkF xs = c) := fun k c hk hs h hc => mrkF_hit hk hs h hc
  have HE : Hid (scanI (mrkAt xs) xs.length = 0 → mrkF xs = 0) := fun h => h
  generalize hn' : xs.length = n at *
  clear hn'
  go_enter Tryz.func30, Tryz.ntmps30
  go_wp2
  go_loopw [3] (fun i w' => ∃ k : Nat, k ≤ n ∧ i = .int .i64 k ∧ Hid (scanI (mrkAt xs) k = 0) ∧ Below w.heap.size w w') (fun i _ => n - (intOf i).toNat)
  case atStart => exact ⟨0, Nat.zero_le _, rfl, rfl, Below.refl _ _⟩
  case round =>
    obtain ⟨k, hk, rfl, HS, hbl⟩ := hrel
    by_cases hlt : k < n
    · obtain ⟨bx, ox, rfl, g1⟩ := hx k hlt
      obtain ⟨l, hl⟩ : ∃ l, l = xs.getD k default := ⟨_, rfl⟩
      rw [← hl] at g1
      have HL : Hid (l = xs.getD k default) := hl
      clear hl
      obtain ⟨a1, a2⟩ := mrkCells_below hbl g1
      cases h1 : inB l.con 1 1000000000
      · have HC : Hid (mrkF xs = 3) := HH.out k 3 hlt HS.out (mrkAt_bad (by rw [← HL.out, h1]; rfl)) (by omega)
        clear hx
        go_wp2_with (first | (go_at_call 51; refine (l1Id_any _ _).mono ?_; rintro e w' ⟨rfl, rfl⟩; rw [h1]))
        go_ret
        exact ⟨by rw [HC.out]; rfl, by (repeat (first | exact Below.refl _ _ | assumption | refine Below.drew ?_ | refine balloc ?_ _ | refine bset ?_ (by simp; omega) _ | refine bset ?_ (by simp) _ | refine bstep ?_ (by assumption)))⟩
      cases h2 : inB l.val 1 2
      · have HC : Hid (mrkF xs = 3) := HH.out k 3 hlt HS.out (mrkAt_bad (by rw [← HL.out, h1, h2]; rfl)) (by omega)
        clear hx
        go_wp2_with (first | (go_at_call 51; refine (l1Id_any _ _).mono ?_; rintro e w' ⟨rfl, rfl⟩; rw [h1]) | (go_at_call 49; refine (l1In_any _ _ _ _).mono ?_; rintro e w' ⟨rfl, rfl⟩; rw [h2]))
        go_ret
        exact ⟨by rw [HC.out]; rfl, by (repeat (first | exact Below.refl _ _ | assumption | refine Below.drew ?_ | refine balloc ?_ _ | refine bset ?_ (by simp; omega) _ | refine bset ?_ (by simp) _ | refine bstep ?_ (by assumption)))⟩
      have hok : Hid ((inB (xs.getD k default).con 1 1000000000 && inB (xs.getD k default).val 1 2) = true) := by show _ = _; rw [← HL.out, h1, h2]; rfl
      cases k with
      | zero =>
        have HS2 : Hid (scanI (mrkAt xs) 1 = 0) := scanI_succ HS.out (mrkAt_zero hok.out)
        clear hx
        simp only [Nat.zero_mul, Nat.add_zero] at a1 a2
        go_wp2_with (first | (go_at_call 51; refine (l1Id_any _ _).mono ?_; rintro e w' ⟨rfl, rfl⟩; rw [h1]) | (go_at_call 49; refine (l1In_any _ _ _ _).mono ?_; rintro e w' ⟨rfl, rfl⟩; rw [h2]))
        go_quiet (fail)
        go_wp2
        exact ⟨⟨1, by omega, by go_num, HS2, bdrewN hbl _⟩, by simp [intOf]; omega⟩
      | succ m =>
        obtain ⟨bx', ox', he, g2⟩ := hx m (by omega)
        simp only [Option.some.injEq, Addr.mk.injEq, and_true] at he
        obtain ⟨rfl, rfl⟩ := he
        obtain ⟨l', hl'⟩ : ∃ l', l' = xs.getD m default := ⟨_, rfl⟩
        rw [← hl'] at g2
        have HL' : Hid (l' = xs.getD m default) := hl'
        clear hl' hx
        obtain ⟨a3, a4⟩ := mrkCells_below hbl g2
        have hw1 : IntKind.i64.wrap (((m + 1 : Nat) : Int) - 1) = (m : Int) := by rw [IntKind.wrap_i64]; omega
        have hw2 : (((m + 1 : Nat) : Int) - 1) = (m : Int) := by omega
        have e1 : ((m + 1 : Nat) : Int) < n := by omega
        have e2 : (m : Int) < n := by omega
        have e3 : (0 : Int) ≤ m := by omega
        have e4 : (0 : Int) < ((m + 1 : Nat) : Int) := by omega
        have e5 : (0 : Int) ≤ ((m + 1 : Nat) : Int) := by omega
        have HFa : Hid (l.con ≤ l'.con → mrkF xs = 1) := fun h => HH.out (m + 1) 1 hlt HS.out (mrkAt_fall hok.out (by rw [← HL.out, ← HL'.out]; exact h)) (by omega)
        have HRi : Hid (l'.con < l.con → scanI (mrkAt xs) (m + 1 + 1) = 0) := fun h => scanI_succ HS.out (mrkAt_rise hok.out (by rw [← HL.out, ← HL'.out]; exact h))
        clear hok
        obtain ⟨ii, hii⟩ : ∃ ii : Nat, ii = m + 1 := ⟨_, rfl⟩
        have HII : Hid (ii = m + 1) := hii
        rw [← hii] at a1 a2 hw1 hw2 e1 e4 e5 HRi ⊢
        clear hii HS
        have e6 : decide (0 < ii) = true := decide_eq_true (by have := HII.out; omega)
        by_cases hle : l.con ≤ l'.con
        · have HC := HFa.out hle
          go_wp2_with (first | (go_at_call 51; refine (l1Id_any _ _).mono ?_; rintro e w' ⟨rfl, rfl⟩; rw [h1]) | (go_at_call 49; refine (l1In_any _ _ _ _).mono ?_; rintro e w' ⟨rfl, rfl⟩; rw [h2]))
          go_quiet (fail)
          go_wp2
          go_ret
          exact ⟨by rw [HC]; rfl, bdrewN hbl _⟩
        · have HS2 : Hid (scanI (mrkAt xs) (ii + 1) = 0) := HRi.out (by omega)
          go_wp2_with (first | (go_at_call 51; refine (l1Id_any _ _).mono ?_; rintro e w' ⟨rfl, rfl⟩; rw [h1]) | (go_at_call 49; refine (l1In_any _ _ _ _).mono ?_; rintro e w' ⟨rfl, rfl⟩; rw [h2]))
          go_quiet (fail)
          go_wp2
          exact ⟨⟨ii + 1, by omega, by go_num, HS2, bdrewN hbl _⟩, by simp [intOf]; omega⟩
    · have hkn : k = n := by omega
      subst hkn
      have HC := HE.out HS.out
      go_wp2
      go_ret
      exact ⟨by rw [HC]; rfl, by (repeat (first | exact Below.refl _ _ | assumption | refine Below.drew ?_ | refine balloc ?_ _ | refine bset ?_ (by simp; omega) _ | refine bset ?_ (by simp) _ | refine bstep ?_ (by assumption)))⟩
end Go.Proofs.YtndghenlapbaaaaGreatDoor

/-
  Contracts that are held, legs that touch, the document's.
-/
set_option linter.unusedSimpArgs false
set_option linter.unusedVariables false
namespace Go.Proofs.YtndghenlapbaaaaGreatDoor
open Go.RowKit
set_option linter.unusedSectionVars false
variable [DecidableEq Rw] [Inhabited Rw] [DecidableEq Bal] [Inhabited Bal] [DecidableEq Ledg] [Inhabited Ledg] [DecidableEq Leg] [Inhabited Leg] [DecidableEq Cont] [Inhabited Cont] [DecidableEq LedgR] [Inhabited LedgR] [DecidableEq OutcR] [Inhabited OutcR] [DecidableEq Mrk] [Inhabited Mrk] [DecidableEq Shd] [Inhabited Shd] [DecidableEq ShdR] [Inhabited ShdR]
attribute [local go_sem ↓] Go.wp_at_zero Go.wp_at_succ

set_option maxHeartbeats 2000000 in
theorem l10IsHeld_any (x : Value) (d : Shd) (c : Int) (w : World) (hx : shdR.V w x d) :
    Calls Tryz.prog 55 #[x, .int .i64 c] w fun e w' => e = .returned (.bool (heldIn d.held c)) ∧ Below w.heap.size w w' := by
  obtain ⟨u1, u2, u3, u4, u5, rfl, _, _, hx, _, _⟩ := hx
  obtain ⟨ax, cx, rfl, hcx, hmx, hx⟩ := conts_at hx
  unfold maxLen at hmx
  obtain ⟨idx, _, _, xs, _, _⟩ := d
  dsimp only at hcx hx ⊢
  have HS0 : Hid (∀ k, k < xs.length → heldIn (xs.take (k + 1)) c = (heldIn (xs.take k) c || decide ((xs.getD k default).id = c))) := fun k hk => heldIn_take hk
  have HE : Hid (heldIn (xs.take xs.length) c = heldIn xs c) := by show _ = _; rw [List.take_length]
  have HT : Hid (∀ k, k < xs.length → (xs.getD k default).id = c → heldIn xs c = true) := fun k hk h => heldIn_mem.2 ⟨k, hk, h⟩
  generalize hn' : xs.length = n at *
  clear hn'
  go_enter Tryz.func55, Tryz.ntmps55
  go_wp2
  go_loopw [5] (fun i w' => ∃ k : Nat, k ≤ n ∧ i = .int .i64 k ∧ Hid (heldIn (xs.take k) c = false) ∧ w'.cell? ⟨w.heap.size, 3, none⟩ = some (.slice ax n cx) ∧ Below w.heap.size w w') (fun i _ => n - (intOf i).toNat)
  case atStart => exact ⟨0, Nat.zero_le _, rfl, by show heldIn (xs.take 0) c = false; simp [heldIn], by simp [go_sem], by (repeat (first | exact Below.refl _ _ | assumption | refine Below.drew ?_ | refine balloc ?_ _ | refine bset ?_ (by simp; omega) _ | refine bset ?_ (by simp) _ | refine bstep ?_ (by assumption)))⟩
  case round =>
    obtain ⟨k, hk, rfl, HS, hq, hbl⟩ := hrel
    have zq : w.heap.size < wr.heap.size := World.block_lt_of_cell? wr _ hq
    by_cases hlt : k < n
    · obtain ⟨bx, ox, pp, qq, rfl, g0, g1, _⟩ := hx k hlt
      have h1 := HS0.out k hlt
      have h2 := HT.out k hlt
      generalize (xs.getD k default).legs.length = ll at *
      generalize (xs.getD k default).id = q at *
      have H1 : Hid (heldIn (xs.take (k + 1)) c = (heldIn (xs.take k) c || decide (q = c))) := h1
      have H2 : Hid (q = c → heldIn xs c = true) := h2
      clear hx h1 h2
      replace g0 := cell_keep hbl g0
      by_cases he : q = c
      · have HC := H2.out he
        have he' : (q == c) = true := by simp [he]
        clear H1 HS H2
        go_wp2
        go_ret
        exact ⟨by rw [HC]; rfl, by (repeat (first | exact Below.refl _ _ | assumption | refine Below.drew ?_ | refine balloc ?_ _ | refine bset ?_ (by simp; omega) _ | refine bset ?_ (by simp) _ | refine bstep ?_ (by assumption)))⟩
      · have HC : Hid (heldIn (xs.take (k + 1)) c = false) := by show _ = _; rw [H1.out, HS.out, decide_eq_false he]; rfl
        have he' : (q == c) = false := by simp [he]
        clear H1 HS H2
        go_wp2
        exact ⟨⟨k + 1, by omega, by go_num, HC, hq, by (repeat (first | exact Below.refl _ _ | assumption | refine Below.drew ?_ | refine balloc ?_ _ | refine bset ?_ (by simp; omega) _ | refine bset ?_ (by simp) _ | refine bstep ?_ (by assumption)))⟩, by simp [intOf]; omega⟩
    · have hkn : k = n := by omega
      subst hkn
      have HC : Hid (heldIn xs c = false) := by show _ = _; rw [← HE.out, HS.out]
      go_wp2
      go_ret
      exact ⟨by rw [HC.out]; rfl, by (repeat (first | exact Below.refl _ _ | assumption | refine Below.drew ?_ | refine balloc ?_ _ | refine bset ?_ (by simp; omega) _ | refine bset ?_ (by simp) _ | refine bstep ?_ (by assumption)))⟩
theorem any_take {α : Type} [Inhabited α] (f : α → Bool) {xs : List α} {k : Nat} (hk : k < xs.length) : (xs.take (k + 1)).any f = ((xs.take k).any f || f (xs.getD k default)) := by
  have e : xs.take (k + 1) = xs.take k ++ [xs.getD k default] := by rw [List.take_add_one]; simp [List.getD, hk]
  rw [e, List.any_append]
  simp
theorem any_at {α : Type} [Inhabited α] {f : α → Bool} {xs : List α} {k : Nat} (hk : k < xs.length) (h : f (xs.getD k default) = true) : xs.any f = true := List.any_eq_true.2 ⟨xs.getD k default, by simp [List.getD, hk], h⟩
set_option maxHeartbeats 4000000 in
theorem l10Touch_any (x y : Value) (xs ys : List Leg) (w : World) (hx : legsR.V w x xs) (hy : legsR.V w y ys) :
    Calls Tryz.prog 57 #[x, y] w fun e w' => e = .returned (.bool (touch xs ys)) ∧ Below w.heap.size w w' := by
  obtain ⟨ax, cx, rfl, hcx, hmx, hx⟩ := hx
  obtain ⟨ay, cy, rfl, hcy, hmy, hy⟩ := hy
  unfold maxLen at hmx hmy
  have HT : Hid (∀ i j, i < xs.length → j < ys.length → sameAA (xs.getD i default) (ys.getD j default) = true → touch xs ys = true) := fun i j hi hj h => any_at hi (any_at hj h)
  have HO : Hid (∀ i, i < xs.length → ((xs.take i).any (fun x => ys.any (fun y => sameAA x y))) = false → ys.any (fun y => sameAA (xs.getD i default) y) = false → ((xs.take (i + 1)).any (fun x => ys.any (fun y => sameAA x y))) = false) := fun i hi h1 h2 => by rw [any_take _ hi, h1, h2]; rfl
  have HI : Hid (∀ i j, j < ys.length → ((ys.take j).any (fun y => sameAA (xs.getD i default) y)) = false → sameAA (xs.getD i default) (ys.getD j default) = false → ((ys.take (j + 1)).any (fun y => sameAA (xs.getD i default) y)) = false) := fun i j hj h1 h2 => by rw [any_take _ hj, h1, h2]; rfl
  have HE1 : Hid (((xs.take xs.length).any (fun x => ys.any (fun y => sameAA x y))) = touch xs ys) := by show _ = _; rw [List.take_length]; rfl
  have HE2 : Hid (∀ i, ((ys.take ys.length).any (fun y => sameAA (xs.getD i default) y)) = ys.any (fun y => sameAA (xs.getD i default) y)) := fun i => by rw [List.take_length]
  generalize hn' : xs.length = n at *
  generalize hm' : ys.length = m at *
  clear hn' hm'
  go_enter Tryz.func57, Tryz.ntmps57
  go_wp2
  go_loopw [5] (fun i w' => ∃ k : Nat, k ≤ n ∧ i = .int .i64 k ∧ Hid (((xs.take k).any (fun x => ys.any (fun y => sameAA x y))) = false) ∧ Below w.heap.size w w') (fun i _ => n - (intOf i).toNat)
  case atStart => exact ⟨0, Nat.zero_le _, rfl, by show ((xs.take 0).any _) = false; simp, Below.refl _ _⟩
  case round =>
    obtain ⟨k, hk, rfl, HS, hbl⟩ := hrel
    by_cases hlt : k < n
    · go_wp2
      go_loopw [6] (fun i w' => ∃ j : Nat, j ≤ m ∧ i = .int .i64 j ∧ Hid (((ys.take j).any (fun y => sameAA (xs.getD k default) y)) = false) ∧ Below w.heap.size w w') (fun i _ => m - (intOf i).toNat)
      case atStart => exact ⟨0, Nat.zero_le _, rfl, by show ((ys.take 0).any _) = false; simp, hbl⟩
      case round =>
        rename_i wq
        obtain ⟨j, hj, rfl, HS2, hbl2⟩ := hrel
        by_cases hlt2 : j < m
        · obtain ⟨bx, ox, rfl, g1⟩ := hx k hlt
          obtain ⟨by_, oy, rfl, g2⟩ := hy j hlt2
          have h1 := HT.out k j hlt hlt2
          have h2 := HI.out k j hlt2 HS2.out
          obtain ⟨l, hl⟩ : ∃ l, l = xs.getD k default := ⟨_, rfl⟩
          rw [← hl] at g1
          obtain ⟨l', hl'⟩ : ∃ l', l' = ys.getD j default := ⟨_, rfl⟩
          rw [← hl'] at g2
          have H1 : Hid (sameAA l l' = true → touch xs ys = true) := by rw [hl, hl']; exact h1
          have H2 : Hid (sameAA l l' = false → ((ys.take (j + 1)).any (fun y => sameAA (xs.getD k default) y)) = false) := by rw [hl, hl']; exact h2
          clear hl hl' h1 h2 hx hy
          have ga := (legKeep hbl2 g1).2
          obtain ⟨a0, a1, a2, a3⟩ := ga
          have gb := (legKeep hbl2 g2).2
          obtain ⟨c0, c1, c2, c3⟩ := gb
          have k1 : (k : Int) < n := by omega
          have k2 : (0 : Int) ≤ k := by omega
          have j1 : (j : Int) < m := by omega
          have j2 : (0 : Int) ≤ j := by omega
          by_cases e1 : l.ac = l'.ac
          · have e1' : (l.ac == l'.ac) = true := by simp [e1]
            by_cases e2 : l.ast = l'.ast
            · have e2' : (l.ast == l'.ast) = true := by simp [e2]
              have HC := H1.out (by unfold sameAA; rw [e1', e2']; rfl)
              clear e1 e2
              go_wp2
              go_quiet (fail)
              go_wp2
              go_ret
              exact ⟨by rw [HC]; rfl, bdrewN hbl2 _⟩
            · have e2' : (l.ast == l'.ast) = false := by simp [e2]
              have HC : Hid (((ys.take (j + 1)).any (fun y => sameAA (xs.getD k default) y)) = false) := H2.out (by unfold sameAA; rw [e1', e2']; rfl)
              clear e1 e2
              go_wp2
              go_quiet (fail)
              go_wp2
              exact ⟨⟨j + 1, by omega, by go_num, HC, bdrewN hbl2 _⟩, by simp [intOf]; omega⟩
          · have e1' : (l.ac == l'.ac) = false := by simp [e1]
            have HC : Hid (((ys.take (j + 1)).any (fun y => sameAA (xs.getD k default) y)) = false) := H2.out (by unfold sameAA; rw [e1']; rfl)
            clear e1
            go_wp2
            go_quiet (fail)
            go_wp2
            exact ⟨⟨j + 1, by omega, by go_num, HC, bdrewN hbl2 _⟩, by simp [intOf]; omega⟩
        · have hjm : j = m := by omega
          subst hjm
          have HC : Hid (((xs.take (k + 1)).any (fun x => ys.any (fun y => sameAA x y))) = false) := HO.out k hlt HS.out (by rw [← HE2.out]; exact HS2.out)
          go_wp2
          exact ⟨⟨k + 1, by omega, by go_num, HC, by (repeat (first | exact Below.refl _ _ | assumption | refine Below.drew ?_ | refine balloc ?_ _ | refine bset ?_ (by simp; omega) _ | refine bset ?_ (by simp) _ | refine bstep ?_ (by assumption)))⟩, by simp [intOf]; omega⟩
    · have hkn : k = n := by omega
      subst hkn
      have HC : Hid (touch xs ys = false) := by show _ = _; rw [← HE1.out, HS.out]
      go_wp2
      go_ret
      exact ⟨by rw [HC.out]; rfl, by (repeat (first | exact Below.refl _ _ | assumption | refine Below.drew ?_ | refine balloc ?_ _ | refine bset ?_ (by simp; omega) _ | refine bset ?_ (by simp) _ | refine bstep ?_ (by assumption)))⟩
end Go.Proofs.YtndghenlapbaaaaGreatDoor

/-
  What cannot be held, the program's.
-/
set_option linter.unusedSimpArgs false
set_option linter.unusedVariables false
namespace Go.Proofs.YtndghenlapbaaaaGreatDoor
open Go.RowKit
set_option linter.unusedSectionVars false
variable [DecidableEq Rw] [Inhabited Rw] [DecidableEq Bal] [Inhabited Bal] [DecidableEq Ledg] [Inhabited Ledg] [DecidableEq Leg] [Inhabited Leg] [DecidableEq Cont] [Inhabited Cont] [DecidableEq LedgR] [Inhabited LedgR] [DecidableEq OutcR] [Inhabited OutcR] [DecidableEq Mrk] [Inhabited Mrk] [DecidableEq Shd] [Inhabited Shd] [DecidableEq ShdR] [Inhabited ShdR]
attribute [local go_sem ↓] Go.wp_at_zero Go.wp_at_succ

def refV (c : Int) : Value := .iface 83 (.int .i64 c)
def KeepE (c : Int) (w : World) (e : Ending) (w' : World) : Prop := ((c = 0 ∧ e = .returned (.tuple #[])) ∨ (¬ c = 0 ∧ e = .panicked [{ v := refV c, recovered := false }])) ∧ Below w.heap.size w w'
def apartC (idx : Int) (hs : List Cont) (ls : List Leg) : Int := if apartB idx hs ls = true then 7 else 0
set_option maxRecDepth 20000 in
set_option maxHeartbeats 8000000 in
theorem keepApart_any (idx id : Int) (y ul : Value) (hs : List Cont) (ls : List Leg) (w : World) (hy : contsR.V w y hs) (hl : legsR.V w ul ls) (hn : ls.length ≤ 1000) :
    Calls Tryz.prog 39 #[.int .i64 idx, y, .agg #[.int .i64 id, ul]] w (KeepE (apartC idx hs ls) w) := by
  have HLe : Hid (∀ W, Below w.heap.size w W → Calls Tryz.prog 71 #[ul, .int .i64 idx] W fun e w' => ∃ v, e = .returned v ∧ w'.ownsRow W.heap.size 119 4 v (onSh idx ls).length (legsC (onSh idx ls)) ∧ Below W.heap.size W w') := fun W hW => legsOn_any ul ls idx W (legsR.below hl hW) (by omega)
  obtain ⟨al, cl, rfl⟩ := legs_form hl
  obtain ⟨ay, cy, rfl, hcy, hmy, hy⟩ := conts_at hy
  unfold maxLen at hmy
  have HY : Hid (∀ k, k < hs.length → ∃ b o p q, ay = some ⟨b, o, none⟩ ∧ w.cell? ⟨b, o + k * 2, none⟩ = some (.int .i64 (hs.getD k default).id) ∧ w.cell? ⟨b, o + k * 2 + 1, none⟩ = some (.slice p (hs.getD k default).legs.length q) ∧ contR.V w (.agg #[.int .i64 (hs.getD k default).id, .slice p (hs.getD k default).legs.length q]) (hs.getD k default)) := hy
  have HT : Hid (∀ i j, i < (onSh idx ls).length → j < hs.length → hasPlace (hs.getD j default).legs ((onSh idx ls).getD i default) = true → apartC idx hs ls = 7) := fun i j hi hj h => by
    unfold apartC apartB
    rw [if_pos (any_at hi (any_at (f := fun o : Cont => hasPlace o.legs ((onSh idx ls).getD i default)) hj h))]
  have HE : Hid ((onSh idx ls).any (fun l => hs.any (fun o => hasPlace o.legs l)) = false → apartC idx hs ls = 0) := fun h => by unfold apartC apartB; rw [h]; rfl
  have HO : Hid (∀ i, i < (onSh idx ls).length → (((onSh idx ls).take i).any (fun l => hs.any (fun o => hasPlace o.legs l))) = false → hs.any (fun o => hasPlace o.legs ((onSh idx ls).getD i default)) = false → (((onSh idx ls).take (i + 1)).any (fun l => hs.any (fun o => hasPlace o.legs l))) = false) := fun i hi h1 h2 => by rw [any_take _ hi, h1, h2]; rfl
  have HI : Hid (∀ l j, j < hs.length → ((hs.take j).any (fun o => hasPlace o.legs l)) = false → hasPlace (hs.getD j default).legs l = false → ((hs.take (j + 1)).any (fun o => hasPlace o.legs l)) = false) := fun l j hj h1 h2 => by rw [any_take _ hj, h1, h2]; rfl
  have HE1 : Hid (((onSh idx ls).take (onSh idx ls).length) = onSh idx ls) := List.take_length
  have HE2 : Hid (hs.take hs.length = hs) := List.take_length
  clear hy hl
  generalize hcc : apartC idx hs ls = cc at *
  generalize hlg : onSh idx ls = lg at *
  generalize ls.length = ll at *
  clear hcc hlg hn
  generalize hm : hs.length = m at *
  clear hm
  go_enter Tryz.func39, Tryz.ntmps39
  go_wp2_with fail
  refine (HLe.out _ (by (repeat (first | exact Below.refl _ _ | assumption | refine Below.drew ?_ | refine balloc ?_ _ | refine bset ?_ (by simp; omega) _ | refine bset ?_ (by simp) _ | refine bstep ?_ (by assumption))))).mono ?_
  rintro e w1 ⟨v, rfl, o1, hb1⟩
  have hV := LegsV_of_owns o1
  have hB1 : Below w.heap.size w w1 := bstep (by (repeat (first | exact Below.refl _ _ | assumption | refine Below.drew ?_ | refine balloc ?_ _ | refine bset ?_ (by simp; omega) _ | refine bset ?_ (by simp) _ | refine bstep ?_ (by assumption)))) hb1
  obtain ⟨a1, c1, rfl, hc1, hm1, hx1⟩ := hV
  unfold maxLen at hm1
  have HX : Hid (∀ i, i < lg.length → ∃ b o, a1 = some ⟨b, o, none⟩ ∧ legCells w1 b (o + i * 4) (lg.getD i default)) := hx1
  clear o1 hb1 hx1 HLe
  obtain ⟨n, hn⟩ : ∃ n, n = lg.length := ⟨_, rfl⟩
  have HN : Hid (lg.length = n) := hn.symm
  rw [← hn] at HT HO HX hc1 HE1 ⊢
  clear hn
  go_wp2
  go_loopw [15] (fun i w' => ∃ k : Nat, k ≤ n ∧ i = .int .i64 k ∧ Hid (((lg.take k).any (fun l => hs.any (fun o => hasPlace o.legs l))) = false) ∧ Below w1.heap.size w1 w') (fun i _ => n - (intOf i).toNat)
  case atStart => exact ⟨0, Nat.zero_le _, rfl, by show ((lg.take 0).any _) = false; simp, Below.refl _ _⟩
  case round =>
    obtain ⟨k, hk, rfl, HS, hbl⟩ := hrel
    by_cases hlt : k < n
    · obtain ⟨bx, ox, rfl, g1⟩ := HX.out k hlt
      have h1 := HT.out k
      have h2 := HO.out k hlt HS.out
      obtain ⟨l, hl⟩ : ∃ l, l = lg.getD k default := ⟨_, rfl⟩
      rw [← hl] at g1 h1 h2
      have H1 : Hid (∀ j, j < m → hasPlace (hs.getD j default).legs l = true → cc = 7) := fun j hj h => h1 j hlt hj h
      have H2 : Hid (hs.any (fun o => hasPlace o.legs l) = false → (((lg.take (k + 1)).any (fun l => hs.any (fun o => hasPlace o.legs l))) = false)) := h2
      clear hl h1 h2
      obtain ⟨c0, c1', c2, c3⟩ := (legKeep hbl g1).2
      have zb : bx < wr.heap.size := World.block_lt_of_cell? wr _ c0
      have hBr : Below w.heap.size w wr := bstep hB1 hbl
      go_wp2
      obtain ⟨w2, hw2⟩ : ∃ w2, w2 = wr.alloc (.cells #[.int .i64 l.sh, .int .i64 l.ac, .int .i64 l.ast, .int .i64 l.am] 119) := ⟨_, rfl⟩
      have b0 : w2.cell? ⟨wr.heap.size, 0, none⟩ = some (.int .i64 l.sh) := by rw [hw2]; simp [go_sem]
      have b1 : w2.cell? ⟨wr.heap.size, 1, none⟩ = some (.int .i64 l.ac) := by rw [hw2]; simp [go_sem]
      have b2 : w2.cell? ⟨wr.heap.size, 2, none⟩ = some (.int .i64 l.ast) := by rw [hw2]; simp [go_sem]
      have b3 : w2.cell? ⟨wr.heap.size, 3, none⟩ = some (.int .i64 l.am) := by rw [hw2]; simp [go_sem]
      have hb2 : Below wr.heap.size wr w2 := by rw [hw2]; (repeat (first | exact Below.refl _ _ | assumption | refine Below.drew ?_ | refine balloc ?_ _ | refine bset ?_ (by simp; omega) _ | refine bset ?_ (by simp) _ | refine bstep ?_ (by assumption)))
      rw [← hw2]
      clear hw2
      have hB2 : Below w.heap.size w w2 := bstep hBr hb2
      have hBw2 : Below w1.heap.size w1 w2 := bstep hbl hb2
      go_loopw [21] (fun i w' => ∃ j : Nat, j ≤ m ∧ i = .int .i64 j ∧ Hid (((hs.take j).any (fun o => hasPlace o.legs l)) = false) ∧ Below w2.heap.size w2 w') (fun i _ => m - (intOf i).toNat)
      case atStart => exact ⟨0, Nat.zero_le _, rfl, by show ((hs.take 0).any _) = false; simp, Below.refl _ _⟩
      case round =>
        rename_i wq
        obtain ⟨j, hj, rfl, HS2, hbl2⟩ := hrel
        replace b0 := cell_keep hbl2 b0
        replace b1 := cell_keep hbl2 b1
        replace b2 := cell_keep hbl2 b2
        replace b3 := cell_keep hbl2 b3
        have hBq : Below w.heap.size w wr := bstep hB2 hbl2
        have hB1q : Below w1.heap.size w1 wr := bstep hBw2 hbl2
        by_cases hlt2 : j < m
        · obtain ⟨by_, oy, pp, qq, rfl, g2, g3, hV⟩ := HY.out j hlt2
          obtain ⟨ul, hul, hvl⟩ := hV
          simp only [Value.agg.injEq, Array.mk.injEq, List.cons.injEq, and_true, true_and] at hul
          subst hul
          have HP : Hid (∀ W, Below wr.heap.size wr W → Calls Tryz.prog 72 #[.slice pp (hs.getD j default).legs.length qq, .agg #[.int .i64 l.sh, .int .i64 l.ac, .int .i64 l.ast, .int .i64 l.am]] W fun e w' => e = .returned (.bool (hasPlace (hs.getD j default).legs l)) ∧ Below W.heap.size W w') := fun W hW => hasPlaceOf_any _ _ l W (legsR.below hvl (bstep hBq hW))
          have h3 := H1.out j hlt2
          have h4 := HI.out l j hlt2 HS2.out
          replace g2 := cell_keep hBq g2
          replace g3 := cell_keep hBq g3
          generalize hasPlace (hs.getD j default).legs l = bb at *
          have H3 : Hid (bb = true → cc = 7) := h3
          have H4 : Hid (bb = false → ((hs.take (j + 1)).any (fun o => hasPlace o.legs l)) = false) := h4
          clear h3 h4 hvl
          generalize (hs.getD j default).legs.length = lj at *
          generalize (hs.getD j default).id = ij at *
          have zy : by_ < wr.heap.size := World.block_lt_of_cell? wr _ g2
          have zl := World.block_lt_of_cell? wr _ b0
          dsimp only at zl
          go_wp2_with fail
          refine (HP.out _ (by (repeat (first | exact Below.refl _ _ | assumption | refine Below.drew ?_ | refine balloc ?_ _ | refine bset ?_ (by simp; omega) _ | refine bset ?_ (by simp) _ | refine bstep ?_ (by assumption))))).mono ?_
          rintro e w4 ⟨rfl, hb4⟩
          have hB4 : Below w.heap.size w w4 := bstep hBq (bstep (by (repeat (first | exact Below.refl _ _ | assumption | refine Below.drew ?_ | refine balloc ?_ _ | refine bset ?_ (by simp; omega) _ | refine bset ?_ (by simp) _ | refine bstep ?_ (by assumption)))) hb4)
          have hB24 : Below w2.heap.size w2 w4 := bstep hbl2 (bstep (by (repeat (first | exact Below.refl _ _ | assumption | refine Below.drew ?_ | refine balloc ?_ _ | refine bset ?_ (by simp; omega) _ | refine bset ?_ (by simp) _ | refine bstep ?_ (by assumption)))) hb4)
          clear hb4
          cases hbb : bb
          · have HC : Hid (((hs.take (j + 1)).any (fun o => hasPlace o.legs l)) = false) := H4.out hbb
            go_wp2
            exact ⟨⟨j + 1, by omega, by go_num, HC, hB24⟩, by simp [intOf]; omega⟩
          · have HC := H3.out hbb
            go_wp2
            exact ⟨rfl, .inr ⟨by rw [HC]; omega, by rw [HC]; rfl⟩, hB4⟩
        · have hjm : j = m := by omega
          subst hjm
          have HC : Hid (((lg.take (k + 1)).any (fun l => hs.any (fun o => hasPlace o.legs l))) = false) := H2.out (by have := HS2.out; rw [HE2.out] at this; exact this)
          go_wp2
          exact ⟨⟨k + 1, by omega, by go_num, HC, hB1q⟩, by simp [intOf]; omega⟩
    · have hkn : k = n := by omega
      subst hkn
      have HC := HE.out (by have := HS.out; rw [HE1.out] at this; exact this)
      go_wp2
      go_end0
      exact ⟨.inl ⟨HC, rfl⟩, bstep hB1 hbl⟩
end Go.Proofs.YtndghenlapbaaaaGreatDoor

/-
  A shard's book; what is covered, the program's.
-/
set_option linter.unusedSimpArgs false
set_option linter.unusedVariables false
namespace Go.Proofs.YtndghenlapbaaaaGreatDoor
open Go.RowKit
set_option linter.unusedSectionVars false
variable [DecidableEq Rw] [Inhabited Rw] [DecidableEq Bal] [Inhabited Bal] [DecidableEq Ledg] [Inhabited Ledg] [DecidableEq Leg] [Inhabited Leg] [DecidableEq Cont] [Inhabited Cont] [DecidableEq LedgR] [Inhabited LedgR] [DecidableEq OutcR] [Inhabited OutcR] [DecidableEq Mrk] [Inhabited Mrk] [DecidableEq Shd] [Inhabited Shd] [DecidableEq ShdR] [Inhabited ShdR]
attribute [local go_sem ↓] Go.wp_at_zero Go.wp_at_succ

def hereG (idx : Int) (bs : List Bal) : List (List Bal) := [if idx = 0 then bs else [], if idx = 1 then bs else [], if idx = 2 then bs else []]
theorem hereG_at {idx : Int} {bs : List Bal} (h : 0 ≤ idx ∧ idx ≤ 2) : (hereG idx bs).getD idx.toNat default = bs := by
  rcases (show idx = 0 ∨ idx = 1 ∨ idx = 2 by omega) with rfl | rfl | rfl <;> rfl
theorem hereG_ok {idx : Int} {bs : List Bal} (h : balFault bs = 0) : ledFault ⟨hereG idx bs⟩ = 0 := by
  have h0 : ∀ b : Bool, balFault (if b = true then bs else []) = 0 := fun b => by cases b; · rfl
                                                                                  · exact h
  unfold ledFault
  rw [if_neg (by show ¬ ((3 : Nat) < 1 ∨ 3 < 3); omega)]
  refine scanI_of fun k hk => ?_
  have hk3 : k < 3 := hk
  unfold ledAt hereG
  rcases (show k = 0 ∨ k = 1 ∨ k = 2 by omega) with rfl | rfl | rfl
  · show balFault (if idx = 0 then bs else []) = 0; split; exact h; rfl
  · show balFault (if idx = 1 then bs else []) = 0; split; exact h; rfl
  · show balFault (if idx = 2 then bs else []) = 0; split; exact h; rfl
theorem base_idx {idx : Int} {bs : List Bal} (h : baseF idx bs = 0) : (0 ≤ idx ∧ idx ≤ 2) ∧ balFault bs = 0 := by
  unfold baseF at h
  split at h
  · rename_i h1; exact ⟨inBi.1 h1, h⟩
  · omega
theorem balsV_nil (w : World) : balsR.V w (.slice none 0 0) [] := ⟨none, 0, rfl, Nat.le_refl _, by decide, fun i hi => absurd hi (Nat.not_lt_zero _)⟩
theorem hereG_V {W : World} {G : Nat} {u0 u1 u2 : Value} {idx : Int} {bs : List Bal} (c0 : W.cell? ⟨G, 0, none⟩ = some u0) (c1 : W.cell? ⟨G, 1, none⟩ = some u1) (c2 : W.cell? ⟨G, 2, none⟩ = some u2)
    (v0 : balsR.V W u0 (if idx = 0 then bs else [])) (v1 : balsR.V W u1 (if idx = 1 then bs else [])) (v2 : balsR.V W u2 (if idx = 2 then bs else [])) : ledgR.V W (.agg #[.slice (some ⟨G, 0, none⟩) 3 3]) ⟨hereG idx bs⟩ := by
  refine ⟨_, rfl, some ⟨G, 0, none⟩, 3, rfl, Nat.le_refl _, by decide, fun i hi => ?_⟩
  have hi3 : i < 3 := hi
  rcases (show i = 0 ∨ i = 1 ∨ i = 2 by omega) with rfl | rfl | rfl
  · exact ⟨G, 0, u0, rfl, rfl, fun j hj => by obtain rfl : j = 0 := by omega
                                              exact c0, v0⟩
  · exact ⟨G, 0, u1, rfl, rfl, fun j hj => by obtain rfl : j = 0 := by omega
                                              exact c1, v1⟩
  · exact ⟨G, 0, u2, rfl, rfl, fun j hj => by obtain rfl : j = 0 := by omega
                                              exact c2, v2⟩
theorem makeBs3 (w : World) : (Instr.makeSlice 121 (.int .i64 3) (.int .i64 3)).run Tryz.prog w = .ok (.slice (some ⟨w.heap.size, 0, none⟩) 3 3) (w.alloc (.cells #[.slice none 0 0, .slice none 0 0, .slice none 0 0] 32)) := by kernel_rfl
set_option maxRecDepth 20000 in
set_option maxHeartbeats 8000000 in
theorem bookHere_any (x : Value) (d : Shd) (w : World) (hx : shdR.V w x d) (h0 : baseF d.idx d.bals = 0) :
    Calls Tryz.prog 40 #[x] w fun e w' => ∃ b, e = .returned (.agg #[.int .i64 3, .map (some b)]) ∧ w.heap.size ≤ b ∧ Book w' b 54 (bookF (hereG d.idx d.bals)) ∧ Below w.heap.size w w' := by
  obtain ⟨hi, hbf⟩ := base_idx h0
  have HBo : Hid (∀ W y, ledgR.V W y ⟨hereG d.idx d.bals⟩ → Calls Tryz.prog 73 #[y] W fun e w' => ∃ b, e = .returned (.agg #[.int .i64 3, .map (some b)]) ∧ W.heap.size ≤ b ∧ Book w' b 54 (bookF (hereG d.idx d.bals)) ∧ Below W.heap.size W w') := fun W y hy => bookOf_any y ⟨hereG d.idx d.bals⟩ W hy (hereG_ok hbf)
  obtain ⟨u1, u2, u3, u4, u5, rfl, h1, h2, h3, h4, h5⟩ := hx
  have HV : Hid (∀ W, Below w.heap.size w W → balsR.V W u1 d.bals) := fun W hW => balsR.below h1 hW
  obtain ⟨a1, c1, rfl⟩ := bals_form h1
  obtain ⟨a2, c2, rfl⟩ := mrks_form h2
  obtain ⟨a3, c3, rfl⟩ := conts_form h3
  obtain ⟨a4, c4, rfl⟩ := mrks_form h4
  obtain ⟨a5, c5, rfl⟩ := ints_form h5
  clear h1 h2 h3 h4 h5 h0 hbf
  generalize d.bals.length = n1 at *
  generalize d.votes.length = n2 at *
  generalize d.held.length = n3 at *
  generalize d.done.length = n4 at *
  generalize d.appl.length = n5 at *
  have hmk := makeBs3
  obtain ⟨bs, hbs⟩ : ∃ bs, bs = d.bals := ⟨_, rfl⟩
  rw [← hbs] at HBo HV ⊢
  clear hbs
  generalize d.idx = idx at *
  rcases (show idx = 0 ∨ idx = 1 ∨ idx = 2 by omega) with rfl | rfl | rfl
  · clear hi
    go_enter Tryz.func40, Tryz.ntmps40
    go_wp2_with fail
    refine (HBo.out _ _ (hereG_V (G := w.heap.size + 2) (u0 := .slice a1 n1 c1) (u1 := .slice none 0 0) (u2 := .slice none 0 0) (by simp [go_sem]) (by simp [go_sem]) (by simp [go_sem]) ?v0 ?v1 ?v2)).mono ?_
    case v0 => first | exact HV.out _ (by (repeat (first | exact Below.refl _ _ | assumption | refine Below.drew ?_ | refine balloc ?_ _ | refine bset ?_ (by simp; omega) _ | refine bset ?_ (by simp) _ | refine bstep ?_ (by assumption)))) | exact balsV_nil _
    case v1 => first | exact HV.out _ (by (repeat (first | exact Below.refl _ _ | assumption | refine Below.drew ?_ | refine balloc ?_ _ | refine bset ?_ (by simp; omega) _ | refine bset ?_ (by simp) _ | refine bstep ?_ (by assumption)))) | exact balsV_nil _
    case v2 => first | exact HV.out _ (by (repeat (first | exact Below.refl _ _ | assumption | refine Below.drew ?_ | refine balloc ?_ _ | refine bset ?_ (by simp; omega) _ | refine bset ?_ (by simp) _ | refine bstep ?_ (by assumption)))) | exact balsV_nil _
    rintro e w1 ⟨b, rfl, hb, hbk, hb1⟩
    have hB1 : Below w.heap.size w w1 := bstep (by (repeat (first | exact Below.refl _ _ | assumption | refine Below.drew ?_ | refine balloc ?_ _ | refine bset ?_ (by simp; omega) _ | refine bset ?_ (by simp) _ | refine bstep ?_ (by assumption)))) hb1
    have hz1 := hb1.size
    simp at hb hz1
    obtain ⟨c1', f1⟩ := bcell hb1
    have r0 : w1.cell? ⟨w.heap.size + 1, 0, none⟩ = some (.int .i64 0) := cell_keep hb1 (by simp [go_sem])
    have r1 : w1.cell? ⟨w.heap.size + 1, 1, none⟩ = some (.map none) := cell_keep hb1 (by simp [go_sem])
    have rf : ∀ o, w1.frozen? ⟨w.heap.size + 1, o, none⟩ = false := fun o => by rw [f1 _ _ (by simp; try omega)]; simp [go_sem]
    have HBk : Hid (Book w1 b 54 (bookF (hereG 0 bs))) := hbk
    clear hb1 c1' f1 hbk
    go_wp2
    refine bodyPost_ret (v := .agg #[.int .i64 3, .map (some b)]) (by simp [results, Tryz.results40, go_sem, r0, r1, rf]) rfl ⟨b, rfl, by omega, ?_, by (repeat (first | refine bset ?_ (by simp; omega) _ | refine bset ?_ (by simp) _ | refine balloc ?_ _ | assumption))⟩
    exact (HBk.out.turned (Mod.of_set _ _ _) (by dsimp only; omega)).turned (Mod.of_set _ _ _) (by dsimp only; omega)
  · clear hi
    go_enter Tryz.func40, Tryz.ntmps40
    go_wp2_with fail
    refine (HBo.out _ _ (hereG_V (G := w.heap.size + 2) (u0 := .slice none 0 0) (u1 := .slice a1 n1 c1) (u2 := .slice none 0 0) (by simp [go_sem]) (by simp [go_sem]) (by simp [go_sem]) ?v0 ?v1 ?v2)).mono ?_
    case v0 => first | exact HV.out _ (by (repeat (first | exact Below.refl _ _ | assumption | refine Below.drew ?_ | refine balloc ?_ _ | refine bset ?_ (by simp; omega) _ | refine bset ?_ (by simp) _ | refine bstep ?_ (by assumption)))) | exact balsV_nil _
    case v1 => first | exact HV.out _ (by (repeat (first | exact Below.refl _ _ | assumption | refine Below.drew ?_ | refine balloc ?_ _ | refine bset ?_ (by simp; omega) _ | refine bset ?_ (by simp) _ | refine bstep ?_ (by assumption)))) | exact balsV_nil _
    case v2 => first | exact HV.out _ (by (repeat (first | exact Below.refl _ _ | assumption | refine Below.drew ?_ | refine balloc ?_ _ | refine bset ?_ (by simp; omega) _ | refine bset ?_ (by simp) _ | refine bstep ?_ (by assumption)))) | exact balsV_nil _
    rintro e w1 ⟨b, rfl, hb, hbk, hb1⟩
    have hB1 : Below w.heap.size w w1 := bstep (by (repeat (first | exact Below.refl _ _ | assumption | refine Below.drew ?_ | refine balloc ?_ _ | refine bset ?_ (by simp; omega) _ | refine bset ?_ (by simp) _ | refine bstep ?_ (by assumption)))) hb1
    have hz1 := hb1.size
    simp at hb hz1
    obtain ⟨c1', f1⟩ := bcell hb1
    have r0 : w1.cell? ⟨w.heap.size + 1, 0, none⟩ = some (.int .i64 0) := cell_keep hb1 (by simp [go_sem])
    have r1 : w1.cell? ⟨w.heap.size + 1, 1, none⟩ = some (.map none) := cell_keep hb1 (by simp [go_sem])
    have rf : ∀ o, w1.frozen? ⟨w.heap.size + 1, o, none⟩ = false := fun o => by rw [f1 _ _ (by simp; try omega)]; simp [go_sem]
    have HBk : Hid (Book w1 b 54 (bookF (hereG 1 bs))) := hbk
    clear hb1 c1' f1 hbk
    go_wp2
    refine bodyPost_ret (v := .agg #[.int .i64 3, .map (some b)]) (by simp [results, Tryz.results40, go_sem, r0, r1, rf]) rfl ⟨b, rfl, by omega, ?_, by (repeat (first | refine bset ?_ (by simp; omega) _ | refine bset ?_ (by simp) _ | refine balloc ?_ _ | assumption))⟩
    exact (HBk.out.turned (Mod.of_set _ _ _) (by dsimp only; omega)).turned (Mod.of_set _ _ _) (by dsimp only; omega)
  · clear hi
    go_enter Tryz.func40, Tryz.ntmps40
    go_wp2_with fail
    refine (HBo.out _ _ (hereG_V (G := w.heap.size + 2) (u0 := .slice none 0 0) (u1 := .slice none 0 0) (u2 := .slice a1 n1 c1) (by simp [go_sem]) (by simp [go_sem]) (by simp [go_sem]) ?v0 ?v1 ?v2)).mono ?_
    case v0 => first | exact HV.out _ (by (repeat (first | exact Below.refl _ _ | assumption | refine Below.drew ?_ | refine balloc ?_ _ | refine bset ?_ (by simp; omega) _ | refine bset ?_ (by simp) _ | refine bstep ?_ (by assumption)))) | exact balsV_nil _
    case v1 => first | exact HV.out _ (by (repeat (first | exact Below.refl _ _ | assumption | refine Below.drew ?_ | refine balloc ?_ _ | refine bset ?_ (by simp; omega) _ | refine bset ?_ (by simp) _ | refine bstep ?_ (by assumption)))) | exact balsV_nil _
    case v2 => first | exact HV.out _ (by (repeat (first | exact Below.refl _ _ | assumption | refine Below.drew ?_ | refine balloc ?_ _ | refine bset ?_ (by simp; omega) _ | refine bset ?_ (by simp) _ | refine bstep ?_ (by assumption)))) | exact balsV_nil _
    rintro e w1 ⟨b, rfl, hb, hbk, hb1⟩
    have hB1 : Below w.heap.size w w1 := bstep (by (repeat (first | exact Below.refl _ _ | assumption | refine Below.drew ?_ | refine balloc ?_ _ | refine bset ?_ (by simp; omega) _ | refine bset ?_ (by simp) _ | refine bstep ?_ (by assumption)))) hb1
    have hz1 := hb1.size
    simp at hb hz1
    obtain ⟨c1', f1⟩ := bcell hb1
    have r0 : w1.cell? ⟨w.heap.size + 1, 0, none⟩ = some (.int .i64 0) := cell_keep hb1 (by simp [go_sem])
    have r1 : w1.cell? ⟨w.heap.size + 1, 1, none⟩ = some (.map none) := cell_keep hb1 (by simp [go_sem])
    have rf : ∀ o, w1.frozen? ⟨w.heap.size + 1, o, none⟩ = false := fun o => by rw [f1 _ _ (by simp; try omega)]; simp [go_sem]
    have HBk : Hid (Book w1 b 54 (bookF (hereG 2 bs))) := hbk
    clear hb1 c1' f1 hbk
    go_wp2
    refine bodyPost_ret (v := .agg #[.int .i64 3, .map (some b)]) (by simp [results, Tryz.results40, go_sem, r0, r1, rf]) rfl ⟨b, rfl, by omega, ?_, by (repeat (first | refine bset ?_ (by simp; omega) _ | refine bset ?_ (by simp) _ | refine balloc ?_ _ | assumption))⟩
    exact (HBk.out.turned (Mod.of_set _ _ _) (by dsimp only; omega)).turned (Mod.of_set _ _ _) (by dsimp only; omega)
theorem canLs_book {idx : Int} {bs : List Bal} (h : 0 ≤ idx ∧ idx ≤ 2) (ls : List Leg) : scanI (fun k => canL (bookF (hereG idx bs)) ((onSh idx ls).getD k default)) (onSh idx ls).length = canLs bs (onSh idx ls) := by
  have e : ∀ k, k < (onSh idx ls).length → canL (bookF (hereG idx bs)) ((onSh idx ls).getD k default) = canB bs ((onSh idx ls).getD k default) := fun k hk => by
    have hm : (onSh idx ls).getD k default ∈ onSh idx ls := by simp [List.getD, hk]
    have hs := (List.mem_filter.1 hm).2
    simp only [beq_iff_eq] at hs
    have h1 := hasB_book (g := ⟨hereG idx bs⟩) (l := (onSh idx ls).getD k default) (by omega) (by show _ < ((3 : Nat) : Int); omega)
    rw [hs] at h1
    have h2 := hereG_at (bs := bs) h
    dsimp only at h1
    rw [h2] at h1
    exact h1.symm
  unfold canLs
  have hg : ∀ n, n ≤ (onSh idx ls).length → scanI (fun k => canL (bookF (hereG idx bs)) ((onSh idx ls).getD k default)) n = scanI (fun k => canB bs ((onSh idx ls).getD k default)) n := by
    intro n
    induction n with
    | zero => intro _; rfl
    | succ n ih =>
      intro hn
      have h1 := ih (by omega)
      unfold scanI
      rw [h1, e n (by omega)]
  exact hg _ (Nat.le_refl _)
set_option maxRecDepth 20000 in
set_option maxHeartbeats 8000000 in
theorem keepCovered_any (idx id : Int) (b : Nat) (ul : Value) (bs : List Bal) (ls : List Leg) (w : World) (hb : Book w b 54 (bookF (hereG idx bs))) (hl : legsR.V w ul ls) (hn : ls.length ≤ 1000) (hi : 0 ≤ idx ∧ idx ≤ 2) (hbf : balFault bs = 0) (hlf : ∀ l ∈ ls, legFault l = 0) :
    Calls Tryz.prog 41 #[.int .i64 idx, .agg #[.int .i64 3, .map (some b)], .agg #[.int .i64 id, ul]] w (KeepE (canLs bs (onSh idx ls)) w) := by
  have HLe : Hid (∀ W, Below w.heap.size w W → Calls Tryz.prog 71 #[ul, .int .i64 idx] W fun e w' => ∃ v, e = .returned v ∧ w'.ownsRow W.heap.size 119 4 v (onSh idx ls).length (legsC (onSh idx ls)) ∧ Below W.heap.size W w') := fun W hW => legsOn_any ul ls idx W (legsR.below hl hW) (by omega)
  have HAm : Hid (∀ W y, Below w.heap.size w W → legsR.V W y (onSh idx ls) → Calls Tryz.prog 74 #[.agg #[.int .i64 3, .map (some b)], y] W fun e w' => e = .returned (.int .i64 (canLs bs (onSh idx ls))) ∧ Below W.heap.size W w') := fun W y hW hy => by
    have h := amountsFault_any 3 b 54 (bookF (hereG idx bs)) y (onSh idx ls) W (hb.below hW) hy (smallF_of (g := ⟨hereG idx bs⟩) (hereG_ok hbf)) (fun k hk => by
      have hm : (onSh idx ls).getD k default ∈ onSh idx ls := by simp [List.getD, hk]
      exact hlf _ (List.mem_filter.1 hm).1)
    rw [canLs_book hi ls] at h
    exact h
  obtain ⟨al, cl, rfl⟩ := legs_form hl
  clear hl hn hi hbf hlf hb
  generalize ls.length = ll at *
  obtain ⟨cc, hcc⟩ : ∃ cc, cc = canLs bs (onSh idx ls) := ⟨_, rfl⟩
  rw [← hcc] at HAm ⊢
  clear hcc
  go_enter Tryz.func41, Tryz.ntmps41
  go_wp2
  obtain ⟨wr, hwr⟩ : ∃ wr, wr = (w.alloc (.cells #[.int .i64 3, .map (some b)] 89)).alloc (.cells #[.int .i64 id, .slice al ll cl] 66) := ⟨_, rfl⟩
  have p0 : wr.cell? ⟨w.heap.size, 0, none⟩ = some (.int .i64 3) := by rw [hwr]; simp [go_sem]
  have p1 : wr.cell? ⟨w.heap.size, 1, none⟩ = some (.map (some b)) := by rw [hwr]; simp [go_sem]
  have q0 : wr.cell? ⟨w.heap.size + 1, 0, none⟩ = some (.int .i64 id) := by rw [hwr]; simp [go_sem]
  have q1 : wr.cell? ⟨w.heap.size + 1, 1, none⟩ = some (.slice al ll cl) := by rw [hwr]; simp [go_sem]
  have hBr : Below w.heap.size w wr := by rw [hwr]; (repeat (first | exact Below.refl _ _ | assumption | refine Below.drew ?_ | refine balloc ?_ _ | refine bset ?_ (by simp; omega) _ | refine bset ?_ (by simp) _ | refine bstep ?_ (by assumption)))
  rw [← hwr]
  clear hwr
  refine wp_region_noPanic ?_
  refine region_upto (fun W => Below wr.heap.size wr W ∧ W.cell? ⟨w.heap.size, 0, none⟩ = some (.int .i64 3) ∧ W.cell? ⟨w.heap.size, 1, none⟩ = some (.map (some b)) ∧ W.cell? ⟨w.heap.size + 1, 1, none⟩ = some (.slice al ll cl)) 7 (by kernel_rfl) ⟨by (repeat (first | exact Below.refl _ _ | assumption | refine Below.drew ?_ | refine balloc ?_ _ | refine bset ?_ (by simp; omega) _ | refine bset ?_ (by simp) _ | refine bstep ?_ (by assumption))), cell_keep (by (repeat (first | exact Below.refl _ _ | assumption | refine Below.drew ?_ | refine balloc ?_ _ | refine bset ?_ (by simp; omega) _ | refine bset ?_ (by simp) _ | refine bstep ?_ (by assumption)))) p0, cell_keep (by (repeat (first | exact Below.refl _ _ | assumption | refine Below.drew ?_ | refine balloc ?_ _ | refine bset ?_ (by simp; omega) _ | refine bset ?_ (by simp) _ | refine bstep ?_ (by assumption)))) p1, cell_keep (by (repeat (first | exact Below.refl _ _ | assumption | refine Below.drew ?_ | refine balloc ?_ _ | refine bset ?_ (by simp; omega) _ | refine bset ?_ (by simp) _ | refine bstep ?_ (by assumption)))) q1⟩ (fun hS => ?_)
  refine upto_takeN (i := 0) (v := ?_) rfl (by kernel_rfl) (by kernel_rfl) (by kernel_rfl) (by kernel_rfl) (fun _ _ _ h => h) (by rfl) hS ?_ ?_
  rotate_left
  · intro wS hSw
    try dsimp only at hSw
    first | (go_simp; done) | (go_simp; with_reducible rfl)
  try simp only [Act.put, List.getElem_toArray, List.getElem_cons_zero, List.getElem_cons_succ, List.setIfInBounds_toArray, List.set_cons_zero, List.set_cons_succ]
  refine upto_takeN (i := 1) (v := ?_) rfl (by kernel_rfl) (by kernel_rfl) (by kernel_rfl) (by kernel_rfl) (fun _ _ _ h => h) (by rfl) hS ?_ ?_
  rotate_left
  · intro wS hSw
    try dsimp only at hSw
    first | (go_simp; done) | (go_simp; with_reducible rfl)
  try simp only [Act.put, List.getElem_toArray, List.getElem_cons_zero, List.getElem_cons_succ, List.setIfInBounds_toArray, List.set_cons_zero, List.set_cons_succ]
  refine upto_takeN (i := 2) (v := ?_) rfl (by kernel_rfl) (by kernel_rfl) (by kernel_rfl) (by kernel_rfl) (fun _ _ _ h => h) (by rfl) hS ?_ ?_
  rotate_left
  · intro wS hSw
    try dsimp only at hSw
    first | (go_simp; done) | (go_simp; with_reducible rfl)
  try simp only [Act.put, List.getElem_toArray, List.getElem_cons_zero, List.getElem_cons_succ, List.setIfInBounds_toArray, List.set_cons_zero, List.set_cons_succ]
  refine upto_takeN (i := 3) (v := ?_) rfl (by kernel_rfl) (by kernel_rfl) (by kernel_rfl) (by kernel_rfl) (fun _ _ _ h => h) (by rfl) hS ?_ ?_
  rotate_left
  · intro wS hSw
    try dsimp only at hSw
    first | (go_simp; done) | (go_simp; with_reducible rfl)
  try simp only [Act.put, List.getElem_toArray, List.getElem_cons_zero, List.getElem_cons_succ, List.setIfInBounds_toArray, List.set_cons_zero, List.set_cons_succ]
  refine upto_step (i := 4) (by kernel_rfl) rfl ?_
  intro K hK
  go_simp
  refine (HLe.out _ (bstep hBr hS.1)).mono ?_
  rintro e wz1 ⟨vl, rfl, ol, hbz1⟩
  obtain ⟨a5, c5, rfl⟩ := owns_form ol
  have V1 := LegsV_of_owns ol
  have hbz1' : Below wr.heap.size wr wz1 := bstep hS.1 hbz1
  have hS3 := And.intro hbz1' (And.intro (cell_keep hbz1 hS.2.1) (And.intro (cell_keep hbz1 hS.2.2.1) (cell_keep hbz1 hS.2.2.2)))
  refine hK _ _ (fun _ => hS3) ?_
  clear hK K hS hbz1
  have hS := hS3
  clear hS3
  try simp only [Act.put, List.getElem_toArray, List.getElem_cons_zero, List.getElem_cons_succ, List.setIfInBounds_toArray, List.set_cons_zero, List.set_cons_succ]
  refine upto_step (i := 5) (by kernel_rfl) rfl ?_
  intro K hK
  go_simp
  refine (HAm.out _ _ (bstep hBr hS.1) V1).mono ?_
  rintro e wz ⟨rfl, hbz⟩
  have hbz' : Below wr.heap.size wr wz := bstep hS.1 hbz
  have hS3 := And.intro hbz' (And.intro (cell_keep hbz hS.2.1) (And.intro (cell_keep hbz hS.2.2.1) (cell_keep hbz hS.2.2.2)))
  refine hK _ _ (fun _ => hS3) ?_
  clear hK K hS hbz
  have hS := hS3
  clear hS3
  try simp only [Act.put, List.getElem_toArray, List.getElem_cons_zero, List.getElem_cons_succ, List.setIfInBounds_toArray, List.set_cons_zero, List.set_cons_succ]
  refine upto_takeN (i := 6) (v := ?_) rfl (by kernel_rfl) (by kernel_rfl) (by kernel_rfl) (by kernel_rfl) (fun _ _ _ h => h) (by rfl) hS ?_ ?_
  rotate_left
  · intro wS hSw
    try dsimp only at hSw
    first | (go_simp; done) | (go_simp; with_reducible rfl)
  try simp only [Act.put, List.getElem_toArray, List.getElem_cons_zero, List.getElem_cons_succ, List.setIfInBounds_toArray, List.set_cons_zero, List.set_cons_succ]
  refine upto_done (by kernel_rfl) ?_
  refine NoPanic.normal ?_
  by_cases hc : cc = 0
  · have hc' : (cc != 0) = false := by simp [hc]
    go_wp2
    go_end0
    exact ⟨.inl ⟨hc, rfl⟩, bstep hBr hS.1⟩
  · have hc' : (cc != 0) = true := by simp [hc]
    go_wp2
    exact ⟨rfl, .inr ⟨hc, rfl⟩, bstep hBr hS.1⟩
end Go.Proofs.YtndghenlapbaaaaGreatDoor

