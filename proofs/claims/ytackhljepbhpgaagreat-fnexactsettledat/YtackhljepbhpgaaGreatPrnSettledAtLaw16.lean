import Derived.BigQuiet
import Derived.Deep.QuietTactic
import Derived.Deep.RegionHeld3
import Derived.Maps.AppendAt
import Derived.Shelf.SortM.Plain
import Derived.Shelf.SortM.SortNone
import Derived.Ground.SlgmProg
import Derived.Test.YtackhljepbhpgaaGreatPrnSettledAtLaw15
import Derived.Shelf.SlicesG.CompactI
import Derived.Ground.SlgnProg
set_option maxHeartbeats 16000000
set_option maxRecDepth 20000
set_option linter.unusedSimpArgs false
set_option linter.unusedVariables false
set_option linter.unusedSectionVars false

namespace Go.Proofs.YtackhljepbhpgaaGreat
open Go.RowKit
variable [DecidableEq Rw] [Inhabited Rw] [DecidableEq Bal] [Inhabited Bal] [DecidableEq Ledg] [Inhabited Ledg] [DecidableEq Leg] [Inhabited Leg] [DecidableEq Cont] [Inhabited Cont] [DecidableEq LedgR] [Inhabited LedgR] [DecidableEq OutcR] [Inhabited OutcR] [DecidableEq Mrk] [Inhabited Mrk] [DecidableEq Shd] [Inhabited Shd] [DecidableEq ShdR] [Inhabited ShdR]
attribute [local go_sem ↓] Go.wp_at_zero Go.wp_at_succ

theorem conts_at {w : World} {v : Value} {xs : List Cont} (hx : contsR.V w v xs) : ∃ a c, v = .slice a xs.length c ∧ xs.length ≤ c ∧ c ≤ maxLen ∧ ∀ k, k < xs.length → ∃ b o p q, a = some ⟨b, o, none⟩ ∧ w.cell? ⟨b, o + k * 2, none⟩ = some (.int .i64 (xs.getD k default).id) ∧ w.cell? ⟨b, o + k * 2 + 1, none⟩ = some (.slice p (xs.getD k default).legs.length q) ∧ contR.V w (.agg #[.int .i64 (xs.getD k default).id, .slice p (xs.getD k default).legs.length q]) (xs.getD k default) := by
 obtain ⟨a, c, rfl, h1, h2, h3⟩ := hx
 refine ⟨a, c, rfl, h1, h2, fun k hk => ?_⟩
 obtain ⟨b, o, u, e, _, p, hv⟩ := h3 k hk
 have hV := hv
 obtain ⟨s, rfl, hc⟩ := hv
 obtain ⟨au, cu, rfl⟩ := legs_form hc
 exact ⟨b, o, au, cu, e, p 0 (by omega), p 1 (by omega), hV⟩
theorem mrkAt_bad {xs : List Mrk} {k : Nat} (h : (inB (xs.getD k default).con 1 1000000000 && inB (xs.getD k default).val 1 2) = false) : mrkAt xs k = 3 := by unfold mrkAt; rw [h]; rfl
theorem mrkAt_zero {xs : List Mrk} (h : (inB (xs.getD 0 default).con 1 1000000000 && inB (xs.getD 0 default).val 1 2) = true) : mrkAt xs 0 = 0 := by unfold mrkAt; rw [if_pos h, if_neg (by omega)]
theorem mrkAt_fall {xs : List Mrk} {k : Nat} (h : (inB (xs.getD (k + 1) default).con 1 1000000000 && inB (xs.getD (k + 1) default).val 1 2) = true) (h2 : (xs.getD (k + 1) default).con ≤ (xs.getD k default).con) : mrkAt xs (k + 1) = 1 := by unfold mrkAt; rw [if_pos h, if_pos ⟨by omega, by rw [Nat.add_sub_cancel]; omega⟩]
theorem mrkAt_rise {xs : List Mrk} {k : Nat} (h : (inB (xs.getD (k + 1) default).con 1 1000000000 && inB (xs.getD (k + 1) default).val 1 2) = true) (h2 : (xs.getD k default).con < (xs.getD (k + 1) default).con) : mrkAt xs (k + 1) = 0 := by unfold mrkAt; rw [if_pos h, if_neg (by rw [Nat.add_sub_cancel]; omega)]
theorem mrkF_hit {xs : List Mrk} {k : Nat} {c : Int} (hk : k < xs.length) (hs : scanI (mrkAt xs) k = 0) (h : mrkAt xs k = c) (hc : c ≠ 0) : mrkF xs = c := by
 unfold mrkF; rw [scanI_hit hs (by rw [h]; exact hc) _ hk, h]
theorem l10Find_any (x : Value) (xs : List Mrk) (c : Int) (w : World) (hx : mrksR.V w x xs) :
  Calls Tryz.prog 40 #[x, .int .i64 c] w fun e w' => e = .returned (.int .i64 (findM c xs)) ∧ Below w.heap.size w w' := by
 obtain ⟨ax, cx, rfl, hcx, hmx, hx⟩ := hx
 unfold maxLen at hmx
 have HS0 : Hid (∀ k, k < xs.length → findM c (xs.drop k) = if (xs.getD k default).con = c then (xs.getD k default).val else findM c (xs.drop (k + 1))) := fun k hk => findM_drop hk
 have HE : Hid (findM c (xs.drop xs.length) = 0) := by show _ = _; rw [List.drop_length]; rfl
 generalize hn' : xs.length = n at *
 clear hn'
 go_enter Tryz.func40, Tryz.ntmps40
 go_wp2
 go_loopw [5] (fun i w' => ∃ k : Nat, k ≤ n ∧ i = .int .i64 k ∧ Hid (findM c xs = findM c (xs.drop k)) ∧ Below w.heap.size w w') (fun i _ => n - (intOf i).toNat)
 case atStart => exact ⟨0, Nat.zero_le _, rfl, rfl, Below.refl _ _⟩
 case round =>
  obtain ⟨k, hk, rfl, HS, hbl⟩ := hrel
  by_cases hlt : k < n
  ·
   obtain ⟨bx, ox, rfl, g1⟩ := hx k hlt
   have h1 := HS0.out k hlt
   obtain ⟨l, hl⟩ : ∃ l, l = xs.getD k default := ⟨_, rfl⟩
   rw [← hl] at g1 h1
   have H1 : Hid (findM c (xs.drop k) = if l.con = c then l.val else findM c (xs.drop (k + 1))) := h1
   clear hl hx h1
   obtain ⟨a1, a2⟩ := mrkCells_below hbl g1
   by_cases he : l.con = c
   ·
    have HC : Hid (findM c xs = l.val) := by show _ = _; rw [HS.out, H1.out, if_pos he]
    have he' : (l.con == c) = true := by simp [he]
    clear H1 HS
    go_wp2; go_ret
    exact ⟨by rw [HC.out]; rfl, qBq⟩
   ·
    have HC : Hid (findM c xs = findM c (xs.drop (k + 1))) := by show _ = _; rw [HS.out, H1.out, if_neg he]
    have he' : (l.con == c) = false := by simp [he]
    clear H1 HS
    go_wp2
    exact ⟨⟨k + 1, by omega, by go_num, HC, qBq⟩, by simp [intOf]; omega⟩
  ·
   have hkn : k = n := by omega
   subst hkn
   have HC : Hid (findM c xs = 0) := by show _ = _; rw [HS.out, HE.out]
   go_wp2; go_ret
   exact ⟨by rw [HC.out]; rfl, qBq⟩
theorem l10Marks_any (x : Value) (xs : List Mrk) (w : World) (hx : mrksR.V w x xs) :
  Calls Tryz.prog 123 #[x] w fun e w' => e = .returned (.int .i64 (mrkF xs)) ∧ Below w.heap.size w w' := by
 obtain ⟨ax, cx, rfl, hcx, hmx, hx⟩ := hx
 unfold maxLen at hmx
 have HH : Hid (∀ k c, k < xs.length → scanI (mrkAt xs) k = 0 → mrkAt xs k = c → c ≠ 0 → mrkF xs = c) := fun k c hk hs h hc => mrkF_hit hk hs h hc
 have HE : Hid (scanI (mrkAt xs) xs.length = 0 → mrkF xs = 0) := fun h => h
 generalize hn' : xs.length = n at *
 clear hn'
 go_enter Tryz.func123, Tryz.ntmps123
 go_wp2
 go_loopw [3] (fun i w' => ∃ k : Nat, k ≤ n ∧ i = .int .i64 k ∧ Hid (scanI (mrkAt xs) k = 0) ∧ Below w.heap.size w w') (fun i _ => n - (intOf i).toNat)
 case atStart => exact ⟨0, Nat.zero_le _, rfl, rfl, Below.refl _ _⟩
 case round =>
  obtain ⟨k, hk, rfl, HS, hbl⟩ := hrel
  by_cases hlt : k < n
  ·
   obtain ⟨bx, ox, rfl, g1⟩ := hx k hlt
   obtain ⟨l, hl⟩ : ∃ l, l = xs.getD k default := ⟨_, rfl⟩
   rw [← hl] at g1
   have HL : Hid (l = xs.getD k default) := hl
   clear hl
   obtain ⟨a1, a2⟩ := mrkCells_below hbl g1
   cases h1 : inB l.con 1 1000000000
   ·
    have HC : Hid (mrkF xs = 3) := HH.out k 3 hlt HS.out (mrkAt_bad (by rw [← HL.out, h1]; rfl)) (by omega)
    clear hx
    go_wp2_with (first | (go_at_call 120; refine (l1Id_any _ _).mono ?_; rintro e w' ⟨rfl, rfl⟩; rw [h1]))
    go_ret
    exact ⟨by rw [HC.out]; rfl, qBq⟩
   cases h2 : inB l.val 1 2
   ·
    have HC : Hid (mrkF xs = 3) := HH.out k 3 hlt HS.out (mrkAt_bad (by rw [← HL.out, h1, h2]; rfl)) (by omega)
    clear hx
    go_wp2_with (first | (go_at_call 120; refine (l1Id_any _ _).mono ?_; rintro e w' ⟨rfl, rfl⟩; rw [h1]) | (go_at_call 75; refine (l1In_any _ _ _ _).mono ?_; rintro e w' ⟨rfl, rfl⟩; rw [h2]))
    go_ret
    exact ⟨by rw [HC.out]; rfl, qBq⟩
   have hok : Hid ((inB (xs.getD k default).con 1 1000000000 && inB (xs.getD k default).val 1 2) = true) := by show _ = _; rw [← HL.out, h1, h2]; rfl
   cases k with
   | zero =>
    have HS2 : Hid (scanI (mrkAt xs) 1 = 0) := scanI_succ HS.out (mrkAt_zero hok.out)
    clear hx
    simp only [Nat.zero_mul, Nat.add_zero] at a1 a2
    go_wp2_with (first | (go_at_call 120; refine (l1Id_any _ _).mono ?_; rintro e w' ⟨rfl, rfl⟩; rw [h1]) | (go_at_call 75; refine (l1In_any _ _ _ _).mono ?_; rintro e w' ⟨rfl, rfl⟩; rw [h2]))
    go_quiet (fail)
    go_wp2
    exact ⟨⟨1, by omega, by go_num, HS2, bdrewN hbl _⟩, by simp [intOf]; omega⟩
   | succ m =>
    obtain ⟨bx', ox', he, g2⟩ := hx m (by omega)
    simp only [Option.some.injEq, Addr.mk.injEq, and_true] at he
    obtain ⟨rfl, rfl⟩ := he
    obtain ⟨l', hl'⟩ : ∃ l', l' = xs.getD m default := ⟨_, rfl⟩
    rw [← hl'] at g2
    have HL' : Hid (l' = xs.getD m default) := hl'
    clear hl' hx
    obtain ⟨a3, a4⟩ := mrkCells_below hbl g2
    have hw1 : IntKind.i64.wrap (((m + 1 : Nat) : Int) - 1) = (m : Int) := by rw [IntKind.wrap_i64]; omega
    have hw2 : (((m + 1 : Nat) : Int) - 1) = (m : Int) := by omega
    have e1 : ((m + 1 : Nat) : Int) < n := by omega
    have e2 : (m : Int) < n := by omega
    have e3 : (0 : Int) ≤ m := by omega
    have e4 : (0 : Int) < ((m + 1 : Nat) : Int) := by omega
    have e5 : (0 : Int) ≤ ((m + 1 : Nat) : Int) := by omega
    have HFa : Hid (l.con ≤ l'.con → mrkF xs = 1) := fun h => HH.out (m + 1) 1 hlt HS.out (mrkAt_fall hok.out (by rw [← HL.out, ← HL'.out]; exact h)) (by omega)
    have HRi : Hid (l'.con < l.con → scanI (mrkAt xs) (m + 1 + 1) = 0) := fun h => scanI_succ HS.out (mrkAt_rise hok.out (by rw [← HL.out, ← HL'.out]; exact h))
    clear hok
    obtain ⟨ii, hii⟩ : ∃ ii : Nat, ii = m + 1 := ⟨_, rfl⟩
    have HII : Hid (ii = m + 1) := hii
    rw [← hii] at a1 a2 hw1 hw2 e1 e4 e5 HRi ⊢
    clear hii HS
    have e6 : decide (0 < ii) = true := decide_eq_true (by have := HII.out; omega)
    by_cases hle : l.con ≤ l'.con
    ·
     have HC := HFa.out hle
     go_wp2_with (first | (go_at_call 120; refine (l1Id_any _ _).mono ?_; rintro e w' ⟨rfl, rfl⟩; rw [h1]) | (go_at_call 75; refine (l1In_any _ _ _ _).mono ?_; rintro e w' ⟨rfl, rfl⟩; rw [h2]))
     go_quiet (fail)
     go_wp2; go_ret
     exact ⟨by rw [HC]; rfl, bdrewN hbl _⟩
    ·
     have HS2 : Hid (scanI (mrkAt xs) (ii + 1) = 0) := HRi.out (by omega)
     go_wp2_with (first | (go_at_call 120; refine (l1Id_any _ _).mono ?_; rintro e w' ⟨rfl, rfl⟩; rw [h1]) | (go_at_call 75; refine (l1In_any _ _ _ _).mono ?_; rintro e w' ⟨rfl, rfl⟩; rw [h2]))
     go_quiet (fail)
     go_wp2
     exact ⟨⟨ii + 1, by omega, by go_num, HS2, bdrewN hbl _⟩, by simp [intOf]; omega⟩
  ·
   have hkn : k = n := by omega
   subst hkn
   have HC := HE.out HS.out
   go_wp2; go_ret
   exact ⟨by rw [HC]; rfl, qBq⟩
theorem equalI_any (x y : Value) (xs ys : List Int) (w : World) (hx : IntsV w x xs) (hy : IntsV w y ys) :
  Calls Tryz.prog 193 #[x, y] w fun e w' => e = .returned (.bool (decide (xs = ys))) ∧ Below w.heap.size w w' := by
 obtain ⟨ax, cx, rfl, hcx, hmx, hx⟩ := hx
 obtain ⟨ay, cy, rfl, hcy, hmy, hy⟩ := hy
 unfold maxLen at hmx hmy
 by_cases hl : xs.length = ys.length
 rotate_left
 ·
  have e : decide (xs = ys) = false := decide_eq_false (fun h => hl (by rw [h]))
  rw [e]
  have hl' : ((xs.length : Int) != (ys.length : Int)) = true := by simp; omega
  clear hx hy
  go_enter Tryz.func193, Tryz.ntmps193
  go_wp2; go_ret
  exact ⟨rfl, qBq⟩
 have HN : Hid (∀ k, k < xs.length → ¬ xs.getD k 0 = ys.getD k 0 → decide (xs = ys) = false) := fun k hk h => decide_eq_false (fun e => h (by rw [e]))
 have HE : Hid ((∀ k, k < xs.length → xs.getD k 0 = ys.getD k 0) → decide (xs = ys) = true) := fun h => decide_eq_true (ints_eq_of hl.symm h)
 rw [← hl] at hcy hy ⊢
 clear hl
 generalize hn' : xs.length = n at *
 clear hn'
 go_enter Tryz.func193, Tryz.ntmps193
 go_wp2
 go_loopw [13] (fun i w' => ∃ k : Nat, k ≤ n ∧ i = .int .i64 k ∧ Hid (∀ j, j < k → xs.getD j 0 = ys.getD j 0) ∧ Below w.heap.size w w') (fun i _ => n - (intOf i).toNat)
 case atStart => exact ⟨0, Nat.zero_le _, rfl, fun j hj => absurd hj (Nat.not_lt_zero _), Below.refl _ _⟩
 case round =>
  obtain ⟨k, hk, rfl, HS, hbl⟩ := hrel
  by_cases hlt : k < n
  ·
   obtain ⟨bx, ox, rfl, g1⟩ := hx k hlt
   obtain ⟨by_, oy, rfl, g2⟩ := hy k hlt
   replace g1 := cK hbl g1
   replace g2 := cK hbl g2
   have h1 := HN.out k hlt
   have H2 : Hid (xs.getD k 0 = ys.getD k 0 → ∀ j, j < k + 1 → xs.getD j 0 = ys.getD j 0) := fun h j hj => by
    by_cases e : j = k
    ·
     rw [e]; exact h
    ·
     exact HS.out j (by omega)
   generalize xs.getD k 0 = q at *
   generalize ys.getD k 0 = q' at *
   have H1 : Hid (¬ q = q' → decide (xs = ys) = false) := h1
   clear h1 hx hy
   have k1 : (k : Int) < n := by omega
   have k2 : (0 : Int) ≤ k := by omega
   by_cases he : q = q'
   ·
    have HC := H2.out he
    have HC' : Hid (∀ j, j < k + 1 → xs.getD j 0 = ys.getD j 0) := HC
    have he' : (q != q') = false := by simp [he]
    clear HC H1 H2 he
    go_wp2
    go_quiet (fail)
    go_wp2
    exact ⟨⟨k + 1, by omega, by go_num, HC', bdrewN hbl _⟩, by simp [intOf]; omega⟩
   ·
    have HC := H1.out he
    have he' : (q != q') = true := by simp [he]
    clear H1 H2 he
    go_wp2
    go_quiet (fail)
    go_wp2; go_ret
    exact ⟨by rw [HC]; rfl, bdrewN hbl _⟩
  ·
   have hkn : k = n := by omega
   subst hkn
   have HC := HE.out HS.out
   go_wp2; go_ret
   exact ⟨by rw [HC]; rfl, qBq⟩
theorem contractsDone_any (x : Value) (d : Shd) (w : World) (hx : shdR.V w x d) (hn : d.done.length ≤ 1000) :
  Calls Tryz.prog 194 #[x] w fun e w' => ∃ v, e = .returned v ∧ w'.ownsRow w.heap.size 2 1 v (doneL d.done).length (intsC (doneL d.done)) ∧ Below w.heap.size w w' := by
 obtain ⟨u1, u2, u3, u4, u5, rfl, h1, h2, h3, h4, h5⟩ := hx
 obtain ⟨a1, c1, rfl⟩ := bals_form h1
 obtain ⟨a2, c2, rfl⟩ := mrks_form h2
 obtain ⟨a3, c3, rfl⟩ := conts_form h3
 obtain ⟨a4, c4, rfl, hc4, hm4, hx4⟩ := h4
 obtain ⟨a5, c5, rfl⟩ := ints_form h5
 unfold maxLen at hm4
 have HX : Hid (∀ i, i < d.done.length → ∃ b o, a4 = some ⟨b, o, none⟩ ∧ mrkCells w b (o + i * 2) (d.done.getD i default)) := hx4
 have HDs : Hid (∀ k, k < d.done.length → doneL (d.done.take (k + 1)) = if (d.done.getD k default).val = 1 then doneL (d.done.take k) ++ [(d.done.getD k default).con] else doneL (d.done.take k)) := fun k hk => doneL_snoc hk
 have HDe : Hid (doneL (d.done.take d.done.length) = doneL d.done) := by show _ = _; rw [List.take_length]
 have HDl : Hid (∀ k, (doneL (d.done.take k)).length ≤ k) := fun k => Nat.le_trans (doneL_le _) (by rw [List.length_take]; omega)
 clear h1 h2 h3 h5 hx4
 generalize d.bals.length = n1 at *
 generalize d.votes.length = n2 at *
 generalize d.held.length = n3 at *
 generalize d.done.length = n4 at *
 generalize d.appl.length = n5 at *
 obtain ⟨i0, hi0, hz0, hzz1, hzz2⟩ := info_parts infoInt
 have HI0 : Hid (Tryz.prog.info? 2 = some i0 ∧ i0.zero = some (.int .i64 0) ∧ i0.size = 1 ∧ i0.bytes = 8) := ⟨hi0, hz0, hzz1, hzz2⟩
 clear hi0 hz0 hzz1 hzz2
 go_enter Tryz.func194, Tryz.ntmps194
 go_wp2
 go_loopw [3, 9] (fun s i w' => ∃ (k m : Nat) (p : Option Addr) (q : Nat), k ≤ n4 ∧ s = .slice p m q ∧ i = .int .i64 k ∧ Hid ((doneL (d.done.take k)).length = m) ∧ Hid (w'.ownsRow w.heap.size 2 1 (.slice p m q) m (intsC (doneL (d.done.take k)))) ∧ Below w.heap.size w w') (fun s i _ => n4 - (intOf i).toNat)
 case atStart => exact ⟨0, 0, none, 0, Nat.zero_le _, rfl, rfl, by show (doneL (d.done.take 0)).length = 0; simp [doneL], by show World.ownsRow _ _ _ _ _ _ _; exact World.ownsRow_nil _ _ _ _, qBq⟩
 case round =>
  obtain ⟨k, m, p, q, hk, rfl, rfl, HM, HO, hbl⟩ := hrel
  by_cases hlt : k < n4
  ·
   obtain ⟨bx, ox, rfl, g1⟩ := HX.out k hlt
   have h1 := HDs.out k hlt
   have hl := HDl.out k
   obtain ⟨l, hl'⟩ : ∃ l, l = d.done.getD k default := ⟨_, rfl⟩
   rw [← hl'] at g1 h1
   have H1 : Hid (doneL (d.done.take (k + 1)) = if l.val = 1 then doneL (d.done.take k) ++ [l.con] else doneL (d.done.take k)) := h1
   clear hl' h1
   obtain ⟨g2, g3⟩ := mrkCells_below hbl g1
   have zb : bx < wr.heap.size := wL wr _ g2
   have hmk : m ≤ k := by rw [← HM.out]; exact hl
   clear hl g1
   by_cases he : l.val = 1
   ·
    have he' : (l.val == 1) = true := by simp [he]
    have HD : Hid (doneL (d.done.take (k + 1)) = doneL (d.done.take k) ++ [l.con]) := by show _ = _; rw [H1.out, if_pos he]
    clear H1
    rw [he] at g3
    have hobl : ∀ b', (Value.slice p m q).ownBlock = some b' → w.heap.size ≤ b' ∧ b' < wr.heap.size := fun b' h => HO.out.lt b' h
    have HOl : Hid (∀ b', (Value.slice p m q).ownBlock = some b' → w.heap.size ≤ b' ∧ b' < wr.heap.size) := hobl
    clear hobl
    go_wp2_with (at_builtin; refine wpList_append_own_at _ rfl _ _ 72 rfl w.heap.size 2 i0 _ 1 8 Tryz.underlying72 HI0.out.1 HI0.out.2.1 HI0.out.2.2.1 HI0.out.2.2.2 rfl (by decide) _ m (intsC (doneL (d.done.take k))) rfl (owns_below HO.out (bA (bA (Below.refl _ _) _) _)) ⟨wr.heap.size + 1, 0, none⟩ 1 1 [.int .i64 l.con] rfl rfl ?c1 ?c2 ?c3 ?c4 ?c5 ?_)
    case c1 =>
     intro j u hj
     match j, hj with
     | 0, hj => simp at hj; subst hj; simp [Addr.add, go_sem]
     | j + 1, hj => simp at hj
    case c2 =>
     intro u hu
     rw [List.mem_singleton] at hu
     rw [hu]
     rfl
    case c3 => unfold maxLen; omega
    case c4 => omega
    case c5 => have := hbl.size; simp; omega
    intro v6 w6 o6 g6 _ l6
    obtain ⟨a6, c6, rfl⟩ := owns_form o6
    have hB6 : Below w.heap.size w w6 := ((bA (bA hbl _) _)).grown g6 (by have := hbl.size; simp; omega) (fun b' h => (HOl.out b' h).1)
    have HO6 : Hid (w6.ownsRow w.heap.size 2 1 (.slice a6 (m + 1) c6) (m + 1) (intsC (doneL (d.done.take (k + 1))))) := by
     show World.ownsRow _ _ _ _ _ _ _
     rw [HD.out]
     have e : intsC (doneL (d.done.take k) ++ [l.con]) = intsC (doneL (d.done.take k)) ++ [.int .i64 l.con] := by simp [intsC]
     rw [e]
     exact o6
    have HM6 : Hid ((doneL (d.done.take (k + 1))).length = m + 1) := by show _ = _; rw [HD.out, List.length_append, HM.out]; rfl
    clear o6 g6 l6
    go_wp2
    exact ⟨⟨k + 1, m + 1, a6, c6, by omega, rfl, by go_num, HM6, HO6, hB6⟩, by simp [intOf]; omega⟩
   ·
    have he' : (l.val == 1) = false := by simp [he]
    have HD : Hid (doneL (d.done.take (k + 1)) = doneL (d.done.take k)) := by show _ = _; rw [H1.out, if_neg he]
    have HM6 : Hid ((doneL (d.done.take (k + 1))).length = m) := by show _ = _; rw [HD.out, HM.out]
    clear H1
    go_wp2
    refine ⟨⟨k + 1, m, p, q, by omega, rfl, by go_num, HM6, ?_, qBq⟩, by simp [intOf]; omega⟩
    show World.ownsRow _ _ _ _ _ _ _
    rw [HD.out]
    exact owns_below HO.out (qBq)
  ·
   have hkn : k = n4 := by omega
   subst hkn
   have ho := HO.out
   have hm := HM.out
   rw [HDe.out] at ho hm
   have HOe : Hid (wr.ownsRow w.heap.size 2 1 (.slice p m q) m (intsC (doneL d.done))) := ho
   have HMe : Hid ((doneL d.done).length = m) := hm
   clear ho hm HO HM
   go_wp2; go_ret
   exact ⟨_, rfl, by rw [HMe.out]; exact HOe.out, qBq⟩
end Go.Proofs.YtackhljepbhpgaaGreat

namespace Go.Proofs.YtackhljepbhpgaaGreat
open Go.Shelf
def Tryz.sortI_ren : Go.Shelf.Ren := ⟨fun | 5 => 206 | 8 => 228 | 7 => 227 | 19 => 243 | 20 => 244 | 10 => 234 | 11 => 235 | 12 => 236 | 13 => 237 | 14 => 238 | 15 => 239 | 16 => 240 | 17 => 241 | 18 => 242 | 30 => 247 | 31 => 248 | 32 => 249 | 33 => 250 | 34 => 251 | 35 => 218 | 40 => 252 | n => n, fun | 23 => 72 | 25 => 2 | 3 => 3 | 32 => 283 | 22 => 72 | 0 => 0 | 44 => 294 | 46 => 296 | 4 => 4 | 36 => 288 | 35 => 287 | 41 => 239 | 5 => 5 | 9 => 9 | 53 => 299 | 57 => 303 | 63 => 305 | 64 => 306 | n => n, fun | n => n⟩
theorem Tryz.sortI : Go.Proofs.SlLaysM.n5 Tryz.prog Tryz.sortI_ren := {
 mixed := by kernel_rfl
 f5 := ⟨Tryz.f206.name, by decide, Tryz.func206.trans (congrArg some (by kernel_rfl))⟩
 f7 := ⟨Tryz.f227.name, by decide, Tryz.func227.trans (congrArg some (by kernel_rfl))⟩
 f8 := Tryz.func228.trans (congrArg some (by kernel_rfl))
 f10 := ⟨Tryz.f234.name, by decide, Tryz.func234.trans (congrArg some (by kernel_rfl))⟩
 f11 := ⟨Tryz.f235.name, by decide, Tryz.func235.trans (congrArg some (by kernel_rfl))⟩
 f12 := ⟨Tryz.f236.name, by decide, Tryz.func236.trans (congrArg some (by kernel_rfl))⟩
 f13 := ⟨Tryz.f237.name, by decide, Tryz.func237.trans (congrArg some (by kernel_rfl))⟩
 f14 := ⟨Tryz.f238.name, by decide, Tryz.func238.trans (congrArg some (by kernel_rfl))⟩
 f15 := ⟨Tryz.f239.name, by decide, Tryz.func239.trans (congrArg some (by kernel_rfl))⟩
 f16 := ⟨Tryz.f240.name, by decide, Tryz.func240.trans (congrArg some (by kernel_rfl))⟩
 f17 := ⟨Tryz.f241.name, by decide, Tryz.func241.trans (congrArg some (by kernel_rfl))⟩
 f18 := ⟨Tryz.f242.name, by decide, Tryz.func242.trans (congrArg some (by kernel_rfl))⟩
 f19 := Tryz.func243.trans (congrArg some (by kernel_rfl))
 f20 := Tryz.func244.trans (congrArg some (by kernel_rfl))
 f30 := ⟨Tryz.f247.name, by decide, Tryz.func247.trans (congrArg some (by kernel_rfl))⟩
 f31 := Tryz.func248.trans (congrArg some (by kernel_rfl))
 f32 := Tryz.func249.trans (congrArg some (by kernel_rfl))
 f33 := ⟨Tryz.f250.name, by decide, Tryz.func250.trans (congrArg some (by kernel_rfl))⟩
 f34 := ⟨Tryz.f251.name, by decide, Tryz.func251.trans (congrArg some (by kernel_rfl))⟩
 f35 := ⟨Tryz.f218.name, by decide, Tryz.func218.trans (congrArg some (by kernel_rfl))⟩
 f40 := ⟨Tryz.f252.name, by decide, Tryz.func252.trans (congrArg some (by kernel_rfl))⟩
 t0 := Tryz.underlying0
 a0 := Tryz.isAgg0
 z0 := Tryz.sizeOf0
 v0 := Tryz.zeroValue0
 t3 := Tryz.underlying3
 a3 := Tryz.isAgg3
 z3 := Tryz.sizeOf3
 v3 := Tryz.zeroValue3
 t4 := Tryz.underlying4
 a4 := Tryz.isAgg4
 z4 := Tryz.sizeOf4
 v4 := Tryz.zeroValue4
 t5 := Tryz.underlying5
 a5 := Tryz.isAgg5
 z5 := Tryz.sizeOf5
 v5 := Tryz.zeroValue5
 t9 := Tryz.underlying9
 a9 := Tryz.isAgg9
 z9 := Tryz.sizeOf9
 v9 := Tryz.zeroValue9
 t22 := Tryz.underlying72
 a22 := Tryz.isAgg72
 z22 := Tryz.sizeOf72
 v22 := Tryz.zeroValue72
 t23 := Tryz.underlying72
 a23 := Tryz.isAgg72
 z23 := Tryz.sizeOf72
 v23 := Tryz.zeroValue72
 t25 := Tryz.underlying2
 a25 := Tryz.isAgg2
 z25 := Tryz.sizeOf2
 v25 := Tryz.zeroValue2
 t32 := Tryz.underlying283
 a32 := Tryz.isAgg283
 z32 := Tryz.sizeOf283
 v32 := Tryz.zeroValue283
 t35 := Tryz.underlying287
 a35 := Tryz.isAgg287
 z35 := Tryz.sizeOf287
 v35 := Tryz.zeroValue287
 t36 := Tryz.underlying288
 a36 := Tryz.isAgg288
 z36 := Tryz.sizeOf288
 v36 := Tryz.zeroValue288
 t41 := Tryz.underlying239
 a41 := Tryz.isAgg239
 z41 := Tryz.sizeOf239
 v41 := Tryz.zeroValue239
 t44 := Tryz.underlying294
 a44 := Tryz.isAgg294
 z44 := Tryz.sizeOf294
 v44 := Tryz.zeroValue294
 t46 := Tryz.underlying296
 a46 := Tryz.isAgg296
 z46 := Tryz.sizeOf296
 v46 := Tryz.zeroValue296
 t53 := Tryz.underlying299
 a53 := Tryz.isAgg299
 z53 := Tryz.sizeOf299
 v53 := Tryz.zeroValue299
 t57 := Tryz.underlying303
 a57 := Tryz.isAgg303
 z57 := Tryz.sizeOf303
 v57 := Tryz.zeroValue303
 t63 := Tryz.underlying305
 a63 := Tryz.isAgg305
 z63 := Tryz.sizeOf305
 v63 := Tryz.zeroValue305
 t64 := Tryz.underlying306
 a64 := Tryz.isAgg306
 z64 := Tryz.sizeOf306
 v64 := Tryz.zeroValue306 }
end Go.Proofs.YtackhljepbhpgaaGreat

namespace Go.Proofs.YtackhljepbhpgaaGreat
open Go.RowKit Go.Sort Go.Shelf
variable [DecidableEq Leg] [Inhabited Leg] [DecidableEq Rw] [Inhabited Rw] [DecidableEq Bal] [Inhabited Bal] [DecidableEq Ledg] [Inhabited Ledg] [DecidableEq Cont] [Inhabited Cont] [DecidableEq LedgR] [Inhabited LedgR] [DecidableEq OutcR] [Inhabited OutcR] [DecidableEq Mrk] [Inhabited Mrk] [DecidableEq Shd] [Inhabited Shd] [DecidableEq ShdR] [Inhabited ShdR]
attribute [local go_sem ↓] Go.wp_at_zero Go.wp_at_succ

theorem holdsQ {w : World} {g : Nat} {cur : Array Value} {e : TypeId} {ss : List Int} (hb : w.heap[g]? = some (.cells cur e (0, 0))) (ht : cur.toList.take ss.length = ss.map (Value.int .i64)) : Go.Sort.Holds (Value.int .i64) w g 0 ss.toArray := by
 intro j hj
 have hj' : j < ss.length := by simpa using hj
 refine ⟨?_, by simp [World.frozen?, hb]⟩
 have h1 : (cur.toList.take ss.length)[j]? = (ss.map (Value.int .i64))[j]? := by rw [ht]
 rw [List.getElem?_take_of_lt hj'] at h1
 simp only [World.cell?, hb, Nat.zero_add]
 rw [← Array.getElem?_toList, h1]
 simp [hj']
theorem heapQ {w : World} {g n : Nat} {os : Array Obj} {cur : Array Value} {e : TypeId} {fr : Nat × Nat} (d : Array Int) (hb : w.heap[g]? = some (.cells cur e fr)) :
  (grow (putRow (Value.int .i64) (Sort.ahead w n) g 0 d) os).heap[g]? = some (.cells (putCells (Value.int .i64) 0 d cur) e fr) := by
 have hg : g < w.heap.size := (Array.getElem?_eq_some_iff.1 hb).1
 rw [heap_grow_old _ _ (by simpa using hg)]
 simp [putRow, mapBlock, Sort.ahead, Array.getElem?_modify, hb, onCells]
theorem grownQ {w : World} {g n : Nat} {os : Array Obj} (d : Array Int) : w.grownBy (grow (putRow (Value.int .i64) (Sort.ahead w n) g 0 d) os) (some g) := by
 refine ⟨rfl, rfl, rfl, by simp, fun k hk hne => ?_⟩
 rw [heap_grow_old _ _ (by simpa using hk)]
 have : g ≠ k := fun e => hne (by rw [e])
 simp [putRow, mapBlock, Sort.ahead, Array.getElem?_modify, this]
theorem takeQ (cur : Array Value) (ts : List Int) (h : ts.length ≤ cur.size) : (putCells (Value.int .i64) 0 ts.toArray cur).toList.take ts.length = ts.map (Value.int .i64) := by
 apply List.ext_getElem?
 intro j
 by_cases hj : j < ts.length
 ·
  rw [List.getElem?_take_of_lt hj, Array.getElem?_toList]
  simp [putCells, hj, show j < cur.size by omega]
 ·
  rw [List.getElem?_take_eq_none (by omega), List.getElem?_eq_none (by simp; omega)]
theorem ownsQ {w : World} {base g cap n : Nat} {e : TypeId} {os : Array Obj} {cur : Array Value} {ss ts : List Int} (hl : ts.length = ss.length) (hbase : base ≤ g) (hb : w.heap[g]? = some (.cells cur e (0, 0)))
  (h1 : ss.length ≤ cap) (h2 : cap ≤ maxLen) (h3 : cur.size = cap * 1) :
  (grow (putRow (Value.int .i64) (Sort.ahead w n) g 0 ts.toArray) os).ownsRow base e 1 (.slice (some ⟨g, 0, none⟩) ss.length cap) ss.length (ts.map (Value.int .i64)) :=
 ⟨by simp [hl], .inr ⟨g, cap, _, rfl, hbase, heapQ _ hb, h1, h2, by simp [putCells, h3], by rw [Nat.mul_one, ← hl]; exact takeQ cur ts (by omega)⟩⟩
def sortI (xs : List Int) : List Int := xs.mergeSort (fun x y => decide (x ≤ y))
theorem sortedQ_any (a : Option Addr) (n c : Nat) (xs : List Int) (w : World) (hx : IntsV w (.slice a n c) xs) (Bs : Nat) (hB : w.cell? ⟨Bs, 0, none⟩ = some (.slice a n c)) (hl : xs.length ≤ 1048576) :
  Calls Tryz.prog 157 #[.func (.func 207) #[] #[.pointer (some ⟨Bs, 0, none⟩)]] w fun e w' => ∃ v, e = .returned v ∧ w'.ownsRow w.heap.size 2 1 v (sortI xs).length (intsC (sortI xs)) ∧ Go.RowKit.Below w.heap.size w w' := by
 have eg := enters_of Tryz.func207 (by kernel_rfl) rfl
 have hc := collectQ_any 207 #[.pointer (some ⟨Bs, 0, none⟩)] _ _ _ w eg (valuesQ_seq Bs _ xs w hB hx) (fun b h => h) (fun ys h => by have := h.length_le; omega)
 clear eg hx hB
 go_enter Tryz.func157, Tryz.ntmps157
 go_wp2_with fail
 refine hc.mono ?_
 rintro e w1 ⟨v, ys, rfl, rfl, ho, hb⟩
 clear hc
 have hlen : (sortI ys).length = ys.length := by unfold sortI; exact (List.mergeSort_perm _ _).length_eq
 rcases ho.2 with ⟨rfl, hn⟩ | ⟨g, cap, cur, rfl, hbg, hg, hnc, hcm, hcs, htake⟩
 ·
  have hx : ys = [] := List.eq_nil_of_length_eq_zero hn
  subst hx
  go_wp2_with fail
  refine (AnyM.slices_Sort_int_none Tryz.sortI none 0 w1).mono ?_
  rintro e w2 ⟨rfl, hw2⟩
  obtain rfl := hw2.symm
  have e0 : sortI [] = [] := by unfold sortI; simp
  go_wp2; go_ret
  exact ⟨_, rfl, by rw [e0]; exact ho, hb⟩
 ·
  have hgl : g < w1.heap.size := (Array.getElem?_eq_some_iff.1 hg).1
  have hcon := AnyM.slices_Sort_int Tryz.sortI g 0 cap ys w1 (holdsQ hg (by rw [Nat.mul_one] at htake; exact htake)) hgl (by omega)
  have HOw : Hid (∀ k os, (grow (putRow (Value.int .i64) (Sort.ahead w1 k) g 0 (ys.mergeSort fun x y => decide (x ≤ y)).toArray) os).ownsRow w.heap.size 2 1 (.slice (some ⟨g, 0, none⟩) ys.length cap) (sortI ys).length (intsC (sortI ys))) := fun k os => by
   have h := ownsQ (w := w1) (base := w.heap.size) (g := g) (cap := cap) (n := k) (os := os) (ss := ys) (ts := sortI ys) hlen hbg hg hnc hcm hcs
   rw [hlen]
   exact h
  have HBl : Hid (∀ k os, Go.RowKit.Below w.heap.size w (grow (putRow (Value.int .i64) (Sort.ahead w1 k) g 0 (ys.mergeSort fun x y => decide (x ≤ y)).toArray) os)) := fun k os => hb.grown (grownQ _) hb.size (fun b e => by cases e; exact hbg)
  change Calls Tryz.prog 206 _ _ _ at hcon
  obtain ⟨m, hm⟩ : ∃ m, m = ys.length := ⟨_, rfl⟩
  rw [← hm] at hcon HOw ⊢
  clear hm ho hlen htake hnc
  go_wp2_with fail
  refine hcon.mono ?_
  rintro e w2 ⟨rfl, k, os, hw2⟩
  have o2 := HOw.out k os
  have b2 := HBl.out k os
  rw [← hw2] at o2 b2
  have HO2 : Hid (w2.ownsRow w.heap.size 2 1 (.slice (some ⟨g, 0, none⟩) m cap) (sortI ys).length (intsC (sortI ys))) := o2
  clear hcon hw2 o2 HOw HBl
  go_wp2; go_ret
  exact ⟨_, rfl, HO2.out, b2⟩
end Go.Proofs.YtackhljepbhpgaaGreat

namespace Go.Proofs.YtackhljepbhpgaaGreat
open Go.Shelf
def Tryz.cmpI_ren : Go.Shelf.Ren := ⟨fun | 43 => 156 | n => n, fun | 22 => 72 | 23 => 2 | 3 => 3 | 4 => 4 | 0 => 0 | n => n, fun | n => n⟩
theorem Tryz.cmpI : Go.Proofs.SlLaysN.n43 Tryz.prog Tryz.cmpI_ren := {
 mixed := by kernel_rfl
 f43 := ⟨Tryz.f156.name, by decide, Tryz.func156.trans (congrArg some (by kernel_rfl))⟩
 t0 := Tryz.underlying0
 a0 := Tryz.isAgg0
 z0 := Tryz.sizeOf0
 v0 := Tryz.zeroValue0
 t3 := Tryz.underlying3
 a3 := Tryz.isAgg3
 z3 := Tryz.sizeOf3
 v3 := Tryz.zeroValue3
 t4 := Tryz.underlying4
 a4 := Tryz.isAgg4
 z4 := Tryz.sizeOf4
 v4 := Tryz.zeroValue4
 t22 := Tryz.underlying72
 a22 := Tryz.isAgg72
 z22 := Tryz.sizeOf72
 v22 := Tryz.zeroValue72
 t23 := Tryz.underlying2
 a23 := Tryz.isAgg2
 z23 := Tryz.sizeOf2
 v23 := Tryz.zeroValue2
 i23 := by kernel_rfl }
end Go.Proofs.YtackhljepbhpgaaGreat

namespace Go.Proofs.YtackhljepbhpgaaGreat
open Go.RowKit Go.Sort Go.Shelf
variable [DecidableEq Leg] [Inhabited Leg] [DecidableEq Rw] [Inhabited Rw] [DecidableEq Bal] [Inhabited Bal] [DecidableEq Ledg] [Inhabited Ledg] [DecidableEq Cont] [Inhabited Cont] [DecidableEq LedgR] [Inhabited LedgR] [DecidableEq OutcR] [Inhabited OutcR] [DecidableEq Mrk] [Inhabited Mrk] [DecidableEq Shd] [Inhabited Shd] [DecidableEq ShdR] [Inhabited ShdR] [DecidableEq Vot] [Inhabited Vot] [DecidableEq Slt] [Inhabited Slt] [DecidableEq Acc] [Inhabited Acc] [DecidableEq Trr] [Inhabited Trr] [DecidableEq Hrd] [Inhabited Hrd] [DecidableEq Ldr] [Inhabited Ldr] [DecidableEq Msg] [Inhabited Msg] [DecidableEq Clu] [Inhabited Clu] [DecidableEq SltR] [Inhabited SltR] [DecidableEq AccR] [Inhabited AccR] [DecidableEq AccsR] [Inhabited AccsR] [DecidableEq SltsR] [Inhabited SltsR]
attribute [local go_sem ↓] Go.wp_at_zero Go.wp_at_succ

theorem grow_nil (w : World) : grow w #[] = w := by cases w; simp [grow]
theorem compactQ_any (v : Value) (ys : List Int) (w : World) (base : Nat) (ho : w.ownsRow base 2 1 v ys.length (intsC ys)) (hbase : base ≤ w.heap.size) (hl : ys.length ≤ 1048576) :
  Calls Tryz.prog 156 #[v] w fun e w' => (∃ a c, e = .returned (.slice a (Lib.compact ys).length c)) ∧ Below base w w' := by
 rcases ho.2 with ⟨rfl, hn⟩ | ⟨g, cap, cur, rfl, hbg, hg, hnc, hcm, hcs, htake⟩
 ·
  have hy : ys = [] := List.eq_nil_of_length_eq_zero hn
  subst hy
  have h := AnyG.slices_Compact_int_empty Tryz.cmpI none 0 w
  change Calls Tryz.prog 156 _ _ _ at h
  refine h.mono ?_
  rintro e w' ⟨rfl, hw⟩
  obtain rfl := hw.symm
  exact ⟨⟨_, _, rfl⟩, Below.refl _ _⟩
 ·
  have h := AnyG.slices_Compact_int Tryz.cmpI g 0 cap ys w (holdsQ hg (by rw [Nat.mul_one] at htake; exact htake)) (by omega) hnc
  change Calls Tryz.prog 156 _ _ _ at h
  refine h.mono ?_
  rintro e w' ⟨rfl, q, hw⟩
  refine ⟨⟨_, _, rfl⟩, ?_⟩
  have hgr := grownQ (w := w) (g := g) (n := q) (os := #[]) (Lib.compact ys ++ List.replicate (ys.length - (Lib.compact ys).length) 0).toArray
  have e0 : grow (putRow (Value.int .i64) (Sort.ahead w q) g 0 (Lib.compact ys ++ List.replicate (ys.length - (Lib.compact ys).length) 0).toArray) #[] = w' := by rw [hw]; exact grow_nil _
  rw [e0] at hgr
  exact (Below.refl _ _).grown hgr hbase (fun b e => by cases e; exact hbg)
theorem compact_le (zs : List Int) : (Lib.compact zs).length ≤ zs.length := by
 unfold Lib.compact Lib.compactUpTo
 rw [List.length_map]
 exact Nat.le_trans (List.length_filter_le _ _) (by simp)
theorem compact_lt {zs : List Int} {j : Nat} (hj : j < zs.length) (h : Lib.keeps zs.toArray j = false) : (Lib.compact zs).length < zs.length := by
 unfold Lib.compact Lib.compactUpTo
 rw [List.length_map]
 have := List.length_filter_lt_length_iff_exists (l := List.range zs.length) (p := Lib.keeps zs.toArray)
 rw [List.length_range] at this
 exact this.2 ⟨j, by simp [hj], by rw [h]; simp⟩
theorem keeps_iff {zs : List Int} {j : Nat} (hj : j + 1 < zs.length) : Lib.keeps zs.toArray (j + 1) = true ↔ zs.getD (j + 1) 0 ≠ zs.getD j 0 := by
 unfold Lib.keeps
 rw [decide_eq_true_iff]
 have e1 : zs.toArray[j + 1]! = zs.getD (j + 1) 0 := by simp [List.getD, hj]
 have e2 : zs.toArray[j + 1 - 1]! = zs.getD j 0 := by simp [List.getD, show j < zs.length by omega]
 rw [e1, e2]
 simp
theorem rises_of {zs : List Int} (hs : ∀ i j, i < j → j < zs.length → zs.getD i 0 ≤ zs.getD j 0) (ha : ∀ j, j + 1 < zs.length → zs.getD (j + 1) 0 ≠ zs.getD j 0) : ∀ j i, i < j → j < zs.length → zs.getD i 0 < zs.getD j 0
 | 0, i, h, _ => absurd h (Nat.not_lt_zero _)
 | j + 1, i, h, hl => by
  have h1 := ha j hl
  have h2 := hs j (j + 1) (by omega) hl
  by_cases e : i = j
  ·
   rw [e]; omega
  ·
   have := rises_of hs ha j i (by omega) (by omega)
   omega
theorem sortI_le (xs : List Int) : ∀ i j, i < j → j < (sortI xs).length → (sortI xs).getD i 0 ≤ (sortI xs).getD j 0 := by
 intro i j hij hj
 have h : (sortI xs).Pairwise (fun a b => decide (a ≤ b) = true) := List.pairwise_mergeSort (le := fun x y => decide (x ≤ y)) (fun a b c h1 h2 => by simp at h1 h2 ⊢; omega) (fun a b => by simp; omega) xs
 have := List.pairwise_iff_getElem.1 h i j (by omega) hj hij
 simpa [List.getD, hj, show i < (sortI xs).length by omega] using this
theorem compact_dup (xs : List Int) : (Lib.compact (sortI xs)).length < xs.length ↔ dupB xs = true := by
 have hp : (sortI xs).Perm xs := List.mergeSort_perm _ _
 have hlen := hp.length_eq
 unfold dupB
 rw [decide_eq_true_iff, ← hlen, ← hp.nodup_iff]
 constructor
 ·
  intro h hn
  have hall : ∀ j, j < (sortI xs).length → Lib.keeps (sortI xs).toArray j = true := by
   intro j hj
   cases j with
   | zero => exact Lib.keeps_lt_one _ 0 (by omega)
   | succ j =>
    rw [keeps_iff hj]
    intro e
    have h2 := List.pairwise_iff_getElem.1 hn j (j + 1) (by omega) hj (by omega)
    apply h2
    simpa [List.getD, hj, show j < (sortI xs).length by omega] using e.symm
  rw [Lib.compact_all _ hall] at h
  omega
 ·
  intro hn
  apply Classical.byContradiction
  intro hc
  have ha : ∀ j, j + 1 < (sortI xs).length → (sortI xs).getD (j + 1) 0 ≠ (sortI xs).getD j 0 := by
   intro j hj
   rw [← keeps_iff hj]
   cases hk : Lib.keeps (sortI xs).toArray (j + 1) with
   | true => rfl
   | false => exact absurd (compact_lt hj hk) hc
  apply hn
  rw [List.Nodup, List.pairwise_iff_getElem]
  intro i j hi hj hij
  have := rises_of (sortI_le xs) ha j i hij hj
  simp [List.getD, hj, hi] at this
  omega
theorem sortI_len (xs : List Int) : (sortI xs).length = xs.length := (List.mergeSort_perm _ _).length_eq
end Go.Proofs.YtackhljepbhpgaaGreat

namespace Go.Proofs.YtackhljepbhpgaaGreat
open Go.RowKit
variable [DecidableEq Leg] [Inhabited Leg] [DecidableEq Cont] [Inhabited Cont] [DecidableEq Bal] [Inhabited Bal] [DecidableEq Mrk] [Inhabited Mrk] [DecidableEq Shd] [Inhabited Shd] [DecidableEq Vot] [Inhabited Vot] [DecidableEq Slt] [Inhabited Slt] [DecidableEq Acc] [Inhabited Acc] [DecidableEq Trr] [Inhabited Trr] [DecidableEq Hrd] [Inhabited Hrd] [DecidableEq Ldr] [Inhabited Ldr] [DecidableEq Msg] [Inhabited Msg] [DecidableEq Clu] [Inhabited Clu] [DecidableEq Ledg] [Inhabited Ledg] [DecidableEq SltR] [Inhabited SltR] [DecidableEq AccR] [Inhabited AccR] [DecidableEq AccsR] [Inhabited AccsR] [DecidableEq SltsR] [Inhabited SltsR] [DecidableEq Rw] [Inhabited Rw] [DecidableEq LedgR] [Inhabited LedgR] [DecidableEq OutcR] [Inhabited OutcR] [DecidableEq ShdR] [Inhabited ShdR]
attribute [local go_sem ↓] Go.wp_at_zero Go.wp_at_succ

def tryD (c : Clu) (t : Trr) (bh : Bool) : Int := if hasL c t.con t.sh = true then (if inB t.bal 1 1000 = true ∧ inB t.val 0 2 = true then (if bh = true ∧ t.olds.length = t.frm.length then orF (scanI (oldAt c.accs.length t) t.frm.length) (if dupB t.frm = true then 7 else 0) else 1) else 3) else 4
theorem tryAt_eq (c : Clu) (ts : List Trr) (k : Nat) : tryAt c ts k = tryD c (ts.getD k default) (decide (k = 0) || decide (cmpT (ts.getD (k - 1) default) (ts.getD k default) < 0)) := by
 unfold tryAt tryD
 simp only [Bool.or_eq_true, decide_eq_true_eq]
theorem vots_atF {w : World} {a : Option Addr} {n c : Nat} {xs : List Vot} (hx : votsR.V w (.slice a n c) xs) : xs.length = n ∧ n ≤ c ∧ c ≤ maxLen ∧ ∀ k, k < n → ∃ b o, a = some ⟨b, o, none⟩ ∧ w.cell? ⟨b, o + k * 2, none⟩ = some (.int .i64 (xs.getD k default).bal) ∧ w.cell? ⟨b, o + k * 2 + 1, none⟩ = some (.int .i64 (xs.getD k default).val) := by
 obtain ⟨a', c', e, h1, h2, h3⟩ := hx
 simp only [Value.slice.injEq] at e
 obtain ⟨rfl, rfl, rfl⟩ := e
 exact ⟨rfl, h1, h2, fun k hk => h3 k hk⟩
theorem ints_atF {w : World} {a : Option Addr} {n c : Nat} {xs : List Int} (hx : intsR.V w (.slice a n c) xs) : xs.length = n ∧ n ≤ c ∧ c ≤ maxLen ∧ ∀ k, k < n → ∃ b o, a = some ⟨b, o, none⟩ ∧ w.cell? ⟨b, o + k, none⟩ = some (.int .i64 (xs.getD k 0)) := by
 obtain ⟨a', c', e, h1, h2, h3⟩ := hx
 simp only [Value.slice.injEq] at e
 obtain ⟨rfl, rfl, rfl⟩ := e
 exact ⟨rfl, h1, h2, fun k hk => h3 k hk⟩
theorem tryF_any (x : Value) (c : Clu) (t y : Trr) (item u' v' : Value) (a : Option Addr) (k cc : Nat) (w : World) (hx : cluR.V w x c) (hi : trrR.V w item t) (hm : t.frm.length ≤ 1048576) (hk : k ≤ 9223372036854775807) (h : ∀ p, k = p + 1 → ∃ b o, a = some ⟨b, o, none⟩ ∧ w.cell? ⟨b, o + p * 6, none⟩ = some (.int .i64 y.con) ∧ w.cell? ⟨b, o + p * 6 + 1, none⟩ = some (.int .i64 y.sh) ∧ w.cell? ⟨b, o + p * 6 + 2, none⟩ = some (.int .i64 y.bal) ∧ w.cell? ⟨b, o + p * 6 + 3, none⟩ = some (.int .i64 y.val) ∧ w.cell? ⟨b, o + p * 6 + 4, none⟩ = some (u') ∧ w.cell? ⟨b, o + p * 6 + 5, none⟩ = some (v')) :
  Calls Tryz.prog 103 #[x, .slice a k cc, item] w fun e w' => e = .returned (.int .i64 (tryD c t (decide (k = 0) || decide (cmpT y t < 0)))) ∧ Below w.heap.size w w' := by
 have HP : Hid (∀ W, Below w.heap.size w W → Calls Tryz.prog 100 #[x, .int .i64 t.con, .int .i64 t.sh] W fun e w' => e = .returned (.bool (hasL c t.con t.sh)) ∧ Below W.heap.size W w') := fun W hW => hasPart_any x c _ _ W (cluR.below hx hW)
 obtain ⟨u, v, rfl, hu, hv⟩ := hi
 have HB : Hid (∀ W, Below w.heap.size w W → Calls Tryz.prog 152 #[.agg #[.int .i64 t.con, .int .i64 t.sh, .int .i64 t.bal, .int .i64 t.val, u, v], .slice a k cc, .func (.func 153) #[] #[]] W fun e w' => e = .returned (.bool (decide (k = 0) || decide (cmpT y t < 0))) ∧ Below W.heap.size W w') := fun W hW => behindT_any t y u v u' v' a k cc W hk (fun p hp => by
  obtain ⟨b, o, h0, h1, h2, h3, h4, h5, h6⟩ := h p hp
  exact ⟨b, o, h0, cK hW h1, cK hW h2, cK hW h3, cK hW h4, cK hW h5, cK hW h6⟩)
 clear h
 have HIv : Hid (∀ W, Below w.heap.size w W → IntsV W u t.frm) := fun W hW => intsR.below hu hW
 obtain ⟨p, q, rfl⟩ := ints_form hu
 obtain ⟨p', q', rfl⟩ := vots_form hv
 obtain ⟨_, hnu, hmu, HU⟩ := ints_atF hu
 obtain ⟨_, hnv, hmv, HW⟩ := vots_atF hv
 unfold maxLen at hmu hmv
 have HU' : Hid _ := HU
 have HW' : Hid _ := HW
 clear HU HW hu hv
 obtain ⟨a0, a1, a2, a3, a4, c0, c1, c2, c3, c4, n0, n1, n2, n3, n4, rfl, e0, e1, e2, e3, e4, L0, L1, L2, L3, L4⟩ := clu_formN hx
 clear hx
 have HD : Hid (tryD c t (decide (k = 0) || decide (cmpT y t < 0)) = if hasL c t.con t.sh = true then (if inB t.bal 1 1000 = true ∧ inB t.val 0 2 = true then (if (decide (k = 0) || decide (cmpT y t < 0)) = true ∧ t.olds.length = t.frm.length then orF (scanI (oldAt n2 t) t.frm.length) (if dupB t.frm = true then 7 else 0) else 1) else 3) else 4) := by show _ = _; unfold tryD; rw [e2]
 clear e0 e1 e2 e3 e4 L0 L1 L3 L4
 have HDu : Hid ((Lib.compact (sortI t.frm)).length < t.frm.length ↔ dupB t.frm = true) := compact_dup t.frm
 have HLe : Hid ((Lib.compact (sortI t.frm)).length ≤ 1048576) := by show _ ≤ _; have h1 := compact_le (sortI t.frm); rw [sortI_len] at h1; omega
 have HSl : Hid ((sortI t.frm).length = t.frm.length) := sortI_len _
 generalize tryD c t (decide (k = 0) || decide (cmpT y t < 0)) = R at *
 generalize (decide (k = 0) || decide (cmpT y t < 0)) = bh at *
 generalize hasL c t.con t.sh = hl at *
 obtain ⟨m, hm0⟩ : ∃ m, m = t.frm.length := ⟨_, rfl⟩
 have HM : Hid (m = t.frm.length) := hm0
 obtain ⟨m', hm1⟩ : ∃ m', m' = t.olds.length := ⟨_, rfl⟩
 rw [← hm0] at hnu HU' HD HDu HSl hm ⊢
 rw [← hm1] at hnv HW' HD ⊢
 rw [← hm0, ← hm1] at HB
 clear hm0 hm1
 go_enter Tryz.func103, Tryz.ntmps103
 go_wp2_with fail
 refine (HP.out _ (qBq)).mono ?_
 rintro e w1 ⟨rfl, hb1⟩
 have hB1 : Below w.heap.size w w1 := qBq
 have y2 : w1.cell? ⟨w.heap.size, 2, none⟩ = some (.slice a2 n2 c2) := cK hb1 (by simp [go_sem])
 have t0 : w1.cell? ⟨w.heap.size + 1, 0, none⟩ = some (.int .i64 t.con) := cK hb1 (by simp [go_sem])
 have t1 : w1.cell? ⟨w.heap.size + 1, 1, none⟩ = some (.int .i64 t.sh) := cK hb1 (by simp [go_sem])
 have t2 : w1.cell? ⟨w.heap.size + 1, 2, none⟩ = some (.int .i64 t.bal) := cK hb1 (by simp [go_sem])
 have t3 : w1.cell? ⟨w.heap.size + 1, 3, none⟩ = some (.int .i64 t.val) := cK hb1 (by simp [go_sem])
 have t4 : w1.cell? ⟨w.heap.size + 1, 4, none⟩ = some (.slice p m q) := cK hb1 (by simp [go_sem])
 have t5 : w1.cell? ⟨w.heap.size + 1, 5, none⟩ = some (.slice p' m' q') := cK hb1 (by simp [go_sem])
 have zt : w.heap.size + 1 < w1.heap.size := wL w1 _ t0
 clear hb1 HP
 cases hl
 ·
  have HC : Hid (R = 4) := by show _ = _; rw [HD.out]; rfl
  clear HD
  go_wp2; go_ret
  exact ⟨by rw [HC.out]; rfl, hB1⟩
 have HD2 : Hid (R = if inB t.bal 1 1000 = true ∧ inB t.val 0 2 = true then (if bh = true ∧ m' = m then orF (scanI (oldAt n2 t) m) (if dupB t.frm = true then 7 else 0) else 1) else 3) := by show _ = _; rw [HD.out, if_pos rfl]
 clear HD
 cases hb : inB t.bal 1 1000
 ·
  have HC : Hid (R = 3) := by show _ = _; rw [HD2.out, if_neg (fun h => by rw [hb] at h; cases h.1)]
  clear HD2
  go_wp2_with (first | (go_at_call 101; refine (within_any _ _ _ _).mono ?_; rintro e w' ⟨rfl, hw⟩; obtain rfl := hw.symm; rw [hb]))
  go_ret
  exact ⟨by rw [HC.out]; rfl, hB1⟩
 cases hv : inB t.val 0 2
 ·
  have HC : Hid (R = 3) := by show _ = _; rw [HD2.out, if_neg (fun h => by rw [hv] at h; cases h.2)]
  clear HD2
  go_wp2_with (first | (go_at_call 101; refine (within_any _ _ _ _).mono ?_; rintro e w' ⟨rfl, hw⟩; obtain rfl := hw.symm; first | rw [hb] | rw [hv]))
  go_ret
  exact ⟨by rw [HC.out]; rfl, hB1⟩
 have HD3 : Hid (R = if bh = true ∧ m' = m then orF (scanI (oldAt n2 t) m) (if dupB t.frm = true then 7 else 0) else 1) := by show _ = _; rw [HD2.out, if_pos ⟨hb, hv⟩]
 clear HD2
 go_wp2_with (first | (go_at_call 101; refine (within_any _ _ _ _).mono ?_; rintro e w' ⟨rfl, hw⟩; obtain rfl := hw.symm; first | rw [hb] | rw [hv]))
 refine (HB.out _ (qBq)).mono ?_
 rintro e w2 ⟨rfl, hb2⟩
 have hB2 : Below w.heap.size w w2 := bS (qBq) hb2
 replace y2 := cK hb2 (cK (qBq) y2)
 replace t0 := cK hb2 (cK (qBq) t0)
 replace t1 := cK hb2 (cK (qBq) t1)
 replace t2 := cK hb2 (cK (qBq) t2)
 replace t3 := cK hb2 (cK (qBq) t3)
 replace t4 := cK hb2 (cK (qBq) t4)
 replace t5 := cK hb2 (cK (qBq) t5)
 replace zt : w.heap.size + 1 < w2.heap.size := wL w2 _ t0
 clear hb2 HB hB1 hb hv
 cases bh
 ·
  have HC : Hid (R = 1) := by show _ = _; rw [HD3.out, if_neg (fun h => by cases h.1)]
  clear HD3
  go_wp2; go_ret
  exact ⟨by rw [HC.out]; rfl, hB2⟩
 by_cases hmm : m' = m
 rotate_left
 ·
  have HC : Hid (R = 1) := by show _ = _; rw [HD3.out, if_neg (fun h => hmm h.2)]
  have hmm' : ((m' : Int) != (m : Int)) = true := by simp; omega
  clear HD3
  go_wp2; go_ret
  exact ⟨by rw [HC.out]; rfl, hB2⟩
 have HD4 : Hid (R = orF (scanI (oldAt n2 t) m) (if dupB t.frm = true then 7 else 0)) := by show _ = _; rw [HD3.out, if_pos ⟨rfl, hmm⟩]
 clear HD3
 subst hmm
 have H1 : Hid (∀ i, i < m' → scanI (oldAt n2 t) i = 0 → ¬ oldAt n2 t i = 0 → R = oldAt n2 t i) := fun i hi hs h0 => by
  have e := scanI_hit hs h0 m' hi
  show _ = _
  rw [HD4.out, e, orF_n h0]
 have H2 : Hid (scanI (oldAt n2 t) m' = 0 → R = if dupB t.frm = true then 7 else 0) := fun h => by show _ = _; rw [HD4.out, orF_z h]
 clear HD4
 go_wp2
 go_loopw [42] (fun i w' => ∃ k : Nat, k ≤ m' ∧ i = .int .i64 k ∧ Hid (scanI (oldAt n2 t) k = 0) ∧ Below w2.heap.size w2 w') (fun i _ => m' - (intOf i).toNat)
 case atStart => exact ⟨0, Nat.zero_le _, rfl, rfl, Below.refl _ _⟩
 case round =>
  obtain ⟨i, hi, rfl, HS, hbl⟩ := hrel
  have hblw := bS hB2 hbl
  replace y2 := cK hbl y2
  replace t0 := cK hbl t0
  replace t1 := cK hbl t1
  replace t2 := cK hbl t2
  replace t3 := cK hbl t3
  replace t4 := cK hbl t4
  replace t5 := cK hbl t5
  replace zt : w.heap.size + 1 < wr.heap.size := wL wr _ t0
  by_cases hlt : i < m'
  ·
   obtain ⟨b, o, rfl, g0⟩ := HU'.out i hlt
   obtain ⟨b', o', rfl, k0, k1⟩ := HW'.out i hlt
   have HD5 : Hid (oldAt n2 t i = if inB (t.frm.getD i 0) 0 ((n2 : Int) - 1) = true ∧ oldB (t.olds.getD i default).bal (t.olds.getD i default).val = true then 0 else 3) := rfl
   have HH : Hid (¬ oldAt n2 t i = 0 → R = oldAt n2 t i) := fun h => H1.out i hlt HS.out h
   have HZ : Hid (oldAt n2 t i = 0 → scanI (oldAt n2 t) (i + 1) = 0) := fun h => scanI_succ HS.out h
   replace g0 := cK hblw g0
   replace k0 := cK hblw k0
   replace k1 := cK hblw k1
   generalize oldAt n2 t i = z at *
   generalize t.frm.getD i 0 = fr at *
   generalize (t.olds.getD i default).bal = ob at *
   generalize (t.olds.getD i default).val = ov at *
   have zb : b < wr.heap.size := wL wr _ g0
   have zb' : b' < wr.heap.size := wL wr _ k0
   have hti : (i : Int) < (m' : Int) := by omega
   have hi0 : (0 : Int) ≤ (i : Int) := by omega
   cases hp : inB fr 0 ((n2 : Int) - 1)
   ·
    have hz : z = 3 := by rw [HD5.out, if_neg (fun h => by rw [hp] at h; cases h.1)]
    have HC : Hid (R = 3) := by show _ = _; rw [← hz]; exact HH.out (by rw [hz]; omega)
    clear HH HZ HD5 hz
    go_wp2_with (first | (go_at_call 154; refine (placeA_any _ _ _ _ _ L2).mono ?_; rintro e w' ⟨rfl, hw⟩; obtain rfl := hw.symm; rw [hp]))
    go_ret
    exact ⟨by rw [HC.out]; rfl, qBq⟩
   go_wp2_with (first | (go_at_call 154; refine (placeA_any _ _ _ _ _ L2).mono ?_; rintro e w' ⟨rfl, hw⟩; obtain rfl := hw.symm; rw [hp]))
   refine (isOld_any _ _ _).mono ?_
   rintro e w3 ⟨rfl, hb3⟩
   have hB3 : Below w2.heap.size w2 w3 := bS (qBq) hb3
   clear hb3
   cases ho : oldB ob ov
   ·
    have hz : z = 3 := by rw [HD5.out, if_neg (fun h => by rw [ho] at h; cases h.2)]
    have HC : Hid (R = 3) := by show _ = _; rw [← hz]; exact HH.out (by rw [hz]; omega)
    have hB4 := bS hB2 hB3
    clear HH HZ HD5 hz
    go_wp2; go_ret
    exact ⟨by rw [HC.out]; rfl, hB4⟩
   ·
    have hz : z = 0 := by rw [HD5.out, if_pos ⟨hp, ho⟩]
    have HQ : Hid _ := HZ.out hz
    clear HH HZ HD5 hz
    go_wp2
    exact ⟨⟨i + 1, by omega, by go_num, HQ, hB3⟩, by simp [intOf]; omega⟩
  ·
   obtain rfl : i = m' := by omega
   have hti : ¬ (i : Int) < (i : Int) := by omega
   have HR : Hid (R = if dupB t.frm = true then 7 else 0) := H2.out HS.out
   have HI2 : Hid (∀ W, Below wr.heap.size wr W → IntsV W (.slice p i q) t.frm) := fun W hW => by
    have := HIv.out W (bS hblw hW)
    rw [← HM.out] at this
    exact this
   clear H1 H2 HU' HW' HIv
   go_wp2
   refine wp_region_noPanic ?_
   refine region_upto (fun W => W.cell? ⟨w.heap.size + 1, 0, none⟩ = some (.int .i64 t.con) ∧ W.cell? ⟨w.heap.size + 1, 1, none⟩ = some (.int .i64 t.sh) ∧ W.cell? ⟨w.heap.size + 1, 2, none⟩ = some (.int .i64 t.bal) ∧ W.cell? ⟨w.heap.size + 1, 3, none⟩ = some (.int .i64 t.val) ∧ W.cell? ⟨w.heap.size + 1, 4, none⟩ = some (.slice p i q) ∧ W.cell? ⟨w.heap.size + 1, 5, none⟩ = some (.slice p' i q')) 10 (by kernel_rfl) ⟨cK (qBq) t0, cK (qBq) t1, cK (qBq) t2, cK (qBq) t3, cK (qBq) t4, cK (qBq) t5⟩ (fun hS => ?_)
   refine tM 0 rfl hS ?_; try simp only [jX]
   refine tM 1 rfl hS ?_; try simp only [jX]
   refine tM 6 rfl hS ?_; try simp only [jX]
   refine tM 7 rfl hS ?_; try simp only [jX]
   refine tM 8 rfl hS ?_; try simp only [jX]
   refine uS 2 rfl (fun K hK => ?_)
   go_simp
   refine (valuesQ_any _ _ _ _).mono ?_
   rintro e w3 ⟨rfl, hw3⟩
   have hcv : w3.cell? ⟨wr.drew.heap.size, 0, none⟩ = some (.slice p i q) := by rw [hw3]; simp [go_sem]
   have hb3 : Below wr.drew.heap.size wr.drew w3 := by rw [hw3]; (repeat (first | exact bR _ _ | assumption | refine bD ?_ | refine bA ?_ _ | refine bset ?_ (by simp; omega) _ | refine bset ?_ (by simp) _ | refine bS ?_ (by assumption)))
   clear hw3
   have hB3 : Below wr.heap.size wr w3 := bS (qBq) hb3
   have hS3 := And.intro (cK hb3 hS.1) (And.intro (cK hb3 hS.2.1) (And.intro (cK hb3 hS.2.2.1) (And.intro (cK hb3 hS.2.2.2.1) (And.intro (cK hb3 hS.2.2.2.2.1) (cK hb3 hS.2.2.2.2.2)))))
   clear hb3
   refine hK _ _ (fun _ => hS3) ?_
   clear hK K
   try simp only [jX]
   refine uS 3 rfl (fun K hK => ?_)
   go_simp
   refine (sortedQ_any p i q t.frm w3 (HI2.out w3 hB3) _ (by simpa using hcv) (by rw [← HM.out]; exact hm)).mono ?_
   rintro e w4 ⟨v4, rfl, ho4, hb4⟩
   have hB4 : Below wr.heap.size wr w4 := bS hB3 hb4
   have hS4 := And.intro (cK hb4 hS3.1) (And.intro (cK hb4 hS3.2.1) (And.intro (cK hb4 hS3.2.2.1) (And.intro (cK hb4 hS3.2.2.2.1) (And.intro (cK hb4 hS3.2.2.2.2.1) (cK hb4 hS3.2.2.2.2.2)))))
   have hz4 := hb4.size
   clear hb4
   refine hK _ _ (fun _ => hS4) ?_
   clear hK K
   try simp only [jX]
   refine uS 4 rfl (fun K hK => ?_)
   go_simp
   refine (compactQ_any v4 (sortI t.frm) w4 w3.heap.size ho4 hz4 (by rw [HSl.out]; exact hm)).mono ?_
   rintro e w5 ⟨⟨a5, c5, rfl⟩, hb5⟩
   have hB5 : Below wr.heap.size wr w5 := hB4.trans (hb5.mono hB3.size)
   have hS5 : (fun W => W.cell? ⟨w.heap.size + 1, 0, none⟩ = some (.int .i64 t.con) ∧ W.cell? ⟨w.heap.size + 1, 1, none⟩ = some (.int .i64 t.sh) ∧ W.cell? ⟨w.heap.size + 1, 2, none⟩ = some (.int .i64 t.bal) ∧ W.cell? ⟨w.heap.size + 1, 3, none⟩ = some (.int .i64 t.val) ∧ W.cell? ⟨w.heap.size + 1, 4, none⟩ = some (.slice p i q) ∧ W.cell? ⟨w.heap.size + 1, 5, none⟩ = some (.slice p' i q')) w5 := ⟨(cK hB5 t0), (cK hB5 t1), (cK hB5 t2), (cK hB5 t3), (cK hB5 t4), (cK hB5 t5)⟩
   clear hb5 ho4 hz4
   refine hK _ _ (fun _ => hS5) ?_
   clear hK K
   try simp only [jX]
   have hBw := bS hblw hB5
   have hle := HLe.out
   have HDu' : Hid ((Lib.compact (sortI t.frm)).length < i ↔ dupB t.frm = true) := HDu.out
   clear HDu HLe HSl
   generalize (Lib.compact (sortI t.frm)).length = d at *
   by_cases hd : d < i
   ·
    have HC : Hid (R = 7) := by show _ = _; rw [HR.out, if_pos (HDu'.out.1 hd)]
    have hd' : (d : Int) < (i : Int) := by omega
    refine tM 5 rfl hS5 ?_; try simp only [jX]
    refine tM 9 (v := (.bool true)) rfl hS5 ?_; try simp only [jX]
    refine dN (NoPanic.normal ?_)
    go_wp2; go_ret
    exact ⟨by rw [HC.out]; rfl, hBw⟩
   ·
    have HC : Hid (R = 0) := by show _ = _; rw [HR.out, if_neg (fun h => hd (HDu'.out.2 h))]
    have hd' : ¬ (d : Int) < (i : Int) := by omega
    refine tM 5 rfl hS5 ?_; try simp only [jX]
    refine tM 9 (v := (.bool false)) rfl hS5 ?_; try simp only [jX]
    refine dN (NoPanic.normal ?_)
    go_wp2; go_ret
    exact ⟨by rw [HC.out]; rfl, hBw⟩
theorem triesF_any (x : Value) (c : Clu) (w : World) (hx : cluR.V w x c)
  (hneed : ∀ k, k < c.ldrs.length → ∀ i, i < (c.ldrs.getD k default).tries.length → ((c.ldrs.getD k default).tries.getD i default).frm.length ≤ 1048576) :
  Calls Tryz.prog 51 #[x] w fun e w' => e = .returned (.int .i64 (trysF c)) ∧ Below w.heap.size w w' := by
 have HV : Hid (∀ W, Below w.heap.size w W → cluR.V W x c) := fun W hW => cluR.below hx hW
 have hx' := hx
 obtain ⟨a0, a1, a2, a3, a4, c0, c1, c2, c3, c4, n0, n1, n2, n3, n4, rfl, e0, e1, e2, e3, e4, L0, L1, L2, L3, L4⟩ := clu_formN hx
 obtain ⟨u1, u2, u3, u4, u5, eq, h1, h2, h3, h4, h5⟩ := hx'
 simp only [Value.agg.injEq, Array.mk.injEq, List.cons.injEq, and_true] at eq
 obtain ⟨rfl, rfl, rfl, rfl, rfl⟩ := eq
 obtain ⟨_, hnc, hmc, HA⟩ := ldrs_at h4
 unfold maxLen at hmc
 have HX : Hid _ := HA
 clear HA h1 h2 h3 h4 h5 hx
 have H1 : Hid (∀ k, k < n3 → scanI (fun k => triesF c (c.ldrs.getD k default)) k = 0 → ¬ triesF c (c.ldrs.getD k default) = 0 → trysF c = triesF c (c.ldrs.getD k default)) := fun k hk hs h0 => by unfold trysF; exact scanI_hit (f := fun k => triesF c (c.ldrs.getD k default)) hs h0 _ (by rw [e3]; exact hk)
 have H2 : Hid (scanI (fun k => triesF c (c.ldrs.getD k default)) n3 = 0 → trysF c = 0) := fun h => by unfold trysF; rw [e3]; exact h
 have HN : Hid _ := hneed
 clear hneed
 rw [e3] at HN
 clear e0 e1 e2 e3 e4 L0 L1 L2 L4
 generalize trysF c = R at *
 go_enter Tryz.func51, Tryz.ntmps51
 go_wp2
 go_loopw [9] (fun i w' => ∃ k : Nat, k ≤ n3 ∧ i = .int .i64 k ∧ Hid (scanI (fun k => triesF c (c.ldrs.getD k default)) k = 0) ∧ (w'.cell? ⟨w.heap.size, 0, none⟩ = some (.slice a0 n0 c0) ∧ w'.cell? ⟨w.heap.size, 1, none⟩ = some (.slice a1 n1 c1) ∧ w'.cell? ⟨w.heap.size, 2, none⟩ = some (.slice a2 n2 c2) ∧ w'.cell? ⟨w.heap.size, 3, none⟩ = some (.slice a3 n3 c3) ∧ w'.cell? ⟨w.heap.size, 4, none⟩ = some (.slice a4 n4 c4)) ∧ Below w.heap.size w w') (fun i _ => n3 - (intOf i).toNat)
 case atStart => exact ⟨0, Nat.zero_le _, rfl, rfl, ⟨by simp [go_sem], by simp [go_sem], by simp [go_sem], by simp [go_sem], by simp [go_sem]⟩, qBq⟩
 case round =>
  obtain ⟨k, hk, rfl, HS, ⟨y0, y1, y2, y3, y4⟩, hbl⟩ := hrel
  have zq : w.heap.size < wr.heap.size := wL wr _ y0
  by_cases hlt : k < n3
  ·
   have HA := HX.out k hlt
   have HNk := HN.out k hlt
   have HH : Hid (¬ triesF c (c.ldrs.getD k default) = 0 → R = triesF c (c.ldrs.getD k default)) := fun h => H1.out k hlt HS.out h
   have HZ : Hid (triesF c (c.ldrs.getD k default) = 0 → scanI (fun k => triesF c (c.ldrs.getD k default)) (k + 1) = 0) := fun h => scanI_succ (f := fun k => triesF c (c.ldrs.getD k default)) HS.out h
   obtain ⟨l, hl0⟩ : ∃ l, l = c.ldrs.getD k default := ⟨_, rfl⟩
   rw [← hl0] at HA HH HZ HNk
   clear hl0
   obtain ⟨b, o, p, q, p', q', rfl, g0, g1, g2, ht, hh⟩ := HA
   have HF : Hid (∀ W, Below w.heap.size w W → Calls Tryz.prog 102 #[.agg #[.slice a0 n0 c0, .slice a1 n1 c1, .slice a2 n2 c2, .slice (some ⟨b, o, none⟩) n3 c3, .slice a4 n4 c4], .slice p l.tries.length q, .func (.func 103) #[] #[]] W fun e w' => e = .returned (.int .i64 (triesF c l)) ∧ Below W.heap.size W w') := fun W hW => by
    have HX2 : Hid _ := (trys_at ht).2.2.2
    have hmx := (trys_at ht).2.2.1
    have hnx := (trys_at ht).2.1
    unfold maxLen at hmx
    exact firstT_any _ c 103 (tryAt c l.tries) p _ q l.tries W (HV.out W hW) (enters_of Tryz.func103 (by kernel_rfl) rfl) (trysR.below ht hW) rfl (fun k hk W' item hW' hi => by
     rw [tryAt_eq]
     by_cases hk0 : k = 0
     ·
      exact tryF_any _ c _ _ item (.int .i64 0) (.int .i64 0) p k q W' (HV.out W' (bS hW hW')) hi (HNk k hk) (by omega) (fun p hp => by omega)
     ·
      obtain ⟨b, o, _, _, _, _, ha, k0, k1, k2, k3, k4, k5, _, _⟩ := HX2.out (k - 1) (by omega)
      exact tryF_any _ c _ _ item _ _ p k q W' (HV.out W' (bS hW hW')) hi (HNk k hk) (by omega) (fun p hp => ⟨b, o, ha, cK (bS hW hW') (by rw [show p = k - 1 by omega]; exact k0), cK (bS hW hW') (by rw [show p = k - 1 by omega]; exact k1), cK (bS hW hW') (by rw [show p = k - 1 by omega]; exact k2), cK (bS hW hW') (by rw [show p = k - 1 by omega]; exact k3), cK (bS hW hW') (by rw [show p = k - 1 by omega]; exact k4), cK (bS hW hW') (by rw [show p = k - 1 by omega]; exact k5)⟩))
   clear ht hh
   replace g0 := cK hbl g0
   replace g1 := cK hbl g1
   replace g2 := cK hbl g2
   have zb : b < wr.heap.size := wL wr _ g0
   have hti : (k : Int) < (n3 : Int) := by omega
   generalize triesF c l = z at *
   generalize l.count = ct at *
   generalize l.tries.length = mt at *
   generalize l.known.length = mk at *
   go_wp2_with fail
   refine (HF.out _ (qBq)).mono ?_
   rintro e w1 ⟨rfl, hb1⟩
   have hB1 : Below w.heap.size w w1 := bS (qBq) hb1
   have Y1 := And.intro (cK hb1 (cK (qBq) y0)) (And.intro (cK hb1 (cK (qBq) y1)) (And.intro (cK hb1 (cK (qBq) y2)) (And.intro (cK hb1 (cK (qBq) y3)) (cK hb1 (cK (qBq) y4)))))
   clear hb1 HF g0 g1 g2
   by_cases hz : z = 0
   ·
    have HQ : Hid _ := HZ.out hz
    subst hz
    clear HH HZ
    go_wp2
    exact ⟨⟨k + 1, by omega, by go_num, HQ, Y1, hB1⟩, by simp [intOf]; omega⟩
   ·
    have HC : Hid _ := HH.out hz
    have hz' : (z != 0) = true := by simp [hz]
    clear HH HZ
    go_wp2; go_ret
    exact ⟨by rw [HC.out]; rfl, hB1⟩
  ·
   obtain rfl : k = n3 := by omega
   have hti : ¬ (k : Int) < (k : Int) := by omega
   have HC : Hid (R = 0) := H2.out HS.out
   go_wp2; go_ret
   exact ⟨by rw [HC.out]; rfl, hbl⟩
end Go.Proofs.YtackhljepbhpgaaGreat

namespace Go.Proofs.YtackhljepbhpgaaGreat
open Go.RowKit

theorem upto_skipU {P : Program} {ops : Array Oper} {Q : Exit → Act → World → Prop} {md : Region.Mode} {S : World → Prop} {t : Nat} {i : Nat} {oi : Oper} {f : Nat} {listed : Array Bool} {a : Act} {w : World} (hi : ops[i]? = some oi) (hsel : Region.noSelect ops = true) (ht : ops[t]? = none)
  (hf : Region.free md ops listed i = true) (hr : (Region.ready md ops listed).contains i = true) (hQ : ∀ c a w, Q (.panic c) (a.put oi.dst undef) w → Q (.panic c) a w)
  (hwd : Region.wanted oi (yielded ops a.tmps) = false) (hS : S w)
  (h : wpUpto P md ops Q S t f (listed.setIfInBounds i true) (a.put oi.dst undef) w) : wpUpto P md ops Q S t (f + 1) listed a w :=
 upto_firstN hi hsel ht hQ f listed a w (Region.free_spec hi hf) (by simpa using hr) (Or.inr ⟨hwd, rfl⟩) hS h
theorem sU {P : Program} {ops : Array Oper} {Q : Exit → Act → World → Prop} {md : Region.Mode} {S : World → Prop} {t : Nat} (i : Nat) {oi : Oper} {f : Nat} {listed : Array Bool} {a : Act} {w : World} (hi : ops[i]? = some oi) (hS : S w) (h : wpUpto P md ops Q S t f (listed.setIfInBounds i true) (a.put oi.dst undef) w) (hb : (Region.noSelect ops && (ops[t]?).isNone && Region.free md ops listed i && (Region.ready md ops listed).contains i) = true := by kernel_rfl) (hQ : ∀ c a w, Q (.panic c) (a.put oi.dst undef) w → Q (.panic c) a w := by exact fun _ _ _ h => h) (hwd : Region.wanted oi (yielded ops a.tmps) = false := by rfl) : wpUpto P md ops Q S t (f + 1) listed a w := by
 simp only [Bool.and_eq_true] at hb
 exact upto_skipU hi hb.1.1.1 (by simpa using hb.1.1.2) hb.1.2 hb.2 hQ hwd hS h
end Go.Proofs.YtackhljepbhpgaaGreat

