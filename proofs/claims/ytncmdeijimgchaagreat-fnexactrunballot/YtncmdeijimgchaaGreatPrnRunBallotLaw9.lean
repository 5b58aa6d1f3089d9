import Derived.Test.YtncmdeijimgchaaGreatPrnRunBallotLaw7
import Derived.Test.YtncmdeijimgchaaGreatPrnRunBallotLaw8
import Derived.BigQuiet
import Derived.Deep.QuietTactic
import Derived.Deep.RegionHeld3
import Derived.Test.YtncmdeijimgchaaGreatPrnRunBallotLaw4
import Derived.Test.YtncmdeijimgchaaGreatPrnRunBallotLaw3
import Derived.Shelf.Abstract
import Derived.Laws.CopyRow
import Derived.Laws.Externs
import Derived.Lib.Overlaps
import Derived.Lib.AppendZerosOnto
import Derived.Deep.RegionLaw
import Derived.Maps.AppendAt

/-
  AcceptorFault, the program's.
-/
set_option linter.unusedSimpArgs false
set_option linter.unusedVariables false
namespace Go.Proofs.YtncmdeijimgchaaGreat
open Go.RowKit
set_option linter.unusedSectionVars false
variable [DecidableEq Vot] [Inhabited Vot] [DecidableEq Slt] [Inhabited Slt] [DecidableEq SltR] [Inhabited SltR] [DecidableEq Bal] [Inhabited Bal] [DecidableEq Ledg] [Inhabited Ledg] [DecidableEq Leg] [Inhabited Leg] [DecidableEq Acc] [Inhabited Acc] [DecidableEq AccR] [Inhabited AccR] [DecidableEq AccsR] [Inhabited AccsR] [DecidableEq SltsR] [Inhabited SltsR]
attribute [local go_sem ↓] Go.wp_at_zero Go.wp_at_succ

set_option maxRecDepth 20000 in
set_option maxHeartbeats 8000000 in
theorem implAccF_any (x : Value) (d : Acc) (w : World) (hx : accR.V w x d) :
    Calls Tryz.prog 85 #[x] w fun e w' => e = .returned (.int .i64 (accF d.slots)) ∧ Below w.heap.size w w' := by
  obtain ⟨u1, rfl, hx⟩ := hx
  obtain ⟨ax, cx, rfl, hcx, hmx, hx⟩ := hx
  unfold maxLen at hmx
  obtain ⟨xs⟩ := d
  dsimp only at hx hcx ⊢
  obtain ⟨n, hn'⟩ : ∃ n, n = xs.length := ⟨_, rfl⟩
  have HN : Hid (xs.length = n) := hn'.symm
  rw [← hn'] at hcx hx ⊢
  clear hn'
  by_cases h6 : 60 < n
  · have HC : Hid (accF xs = 2) := accF_many (by rw [HN.out]; exact h6)
    have h6' : (60 : Int) < n := by omega
    clear hx
    go_enter Tryz.func85, Tryz.ntmps85
    go_wp2
    go_ret
    exact ⟨by rw [HC.out]; rfl, by (repeat (first | exact Below.refl _ _ | assumption | refine Below.drew ?_ | refine balloc ?_ _ | refine bset ?_ (by simp; omega) _ | refine bset ?_ (by simp) _ | refine bstep ?_ (by assumption)))⟩
  have h6' : ¬ (60 : Int) < n := by omega
  have HH : Hid (∀ k c, k < n → scanI (accAt xs) k = 0 → accAt xs k = c → ¬ c = 0 → accF xs = c) := fun k c hk hs hc h0 => accF_hit (by rw [HN.out]; exact h6) (by rw [HN.out]; exact hk) hs hc h0
  have HE : Hid (scanI (accAt xs) n = 0 → accF xs = 0) := fun hs => accF_end (by rw [HN.out]; exact h6) (by rw [HN.out]; exact hs)
  clear h6
  go_enter Tryz.func85, Tryz.ntmps85
  go_wp2
  go_loopw [13] (fun i w' => ∃ k : Nat, k ≤ n ∧ i = .int .i64 k ∧ scanI (accAt xs) k = 0 ∧ w'.cell? ⟨w.heap.size, 0, none⟩ = some (.slice ax n cx) ∧ Below w.heap.size w w') (fun i _ => n - (intOf i).toNat)
  case atStart => exact ⟨0, Nat.zero_le _, rfl, rfl, by simp [go_sem], by (repeat (first | exact Below.refl _ _ | assumption | refine Below.drew ?_ | refine balloc ?_ _ | refine bset ?_ (by simp; omega) _ | refine bset ?_ (by simp) _ | refine bstep ?_ (by assumption)))⟩
  case round =>
    obtain ⟨k, hk, rfl, hs, hq, hbl⟩ := hrel
    have HS : Hid (scanI (accAt xs) k = 0) := hs
    clear hs
    by_cases hlt : k < n
    · obtain ⟨bxa, oxa, ua, rfl, _, pa, hva⟩ := hx k (by omega)
      obtain ⟨l, hla⟩ : ∃ l, l = xs.getD k default := ⟨_, rfl⟩
      rw [← hla] at hva
      have HLa : Hid (l = xs.getD k default) := hla
      clear hla
      have hVa := hva
      obtain ⟨sa, rfl, hca⟩ := hva
      obtain ⟨aua, cua, rfl⟩ := vots_form hca
      clear hca
      have ga0 : w.cell? ⟨bxa, oxa + k * 6, none⟩ = some (.int .i64 l.con) := pa 0 (by omega)
      have ga1 : w.cell? ⟨bxa, oxa + k * 6 + 1, none⟩ = some (.int .i64 l.sh) := pa 1 (by omega)
      have ga2 : w.cell? ⟨bxa, oxa + k * 6 + 2, none⟩ = some (.int .i64 l.pr) := pa 2 (by omega)
      have ga3 : w.cell? ⟨bxa, oxa + k * 6 + 3, none⟩ = some (.int .i64 l.lb) := pa 3 (by omega)
      have ga4 : w.cell? ⟨bxa, oxa + k * 6 + 4, none⟩ = some (.int .i64 l.lv) := pa 4 (by omega)
      have ga5 : w.cell? ⟨bxa, oxa + k * 6 + 5, none⟩ = some (.slice aua l.cast.length cua) := pa 5 (by omega)
      clear pa
      have HF : Hid (∀ W, Below w.heap.size w W → Calls Tryz.prog 109 #[.agg #[.int .i64 l.con, .int .i64 l.sh, .int .i64 l.pr, .int .i64 l.lb, .int .i64 l.lv, .slice aua l.cast.length cua]] W fun e w' => e = .returned (.int .i64 (sltFault l)) ∧ Below W.heap.size W w') := fun W h => implSlotF_any _ l W (sltR.below hVa h)
      clear hVa
      have hX : Hid (∀ i, i < n → ∃ b o u, some (⟨bxa, oxa, none⟩ : Addr) = some ⟨b, o, none⟩ ∧ (lvSlt u).length = 6 ∧ (∀ j, j < 6 → w.cell? ⟨b, o + i * 6 + j, none⟩ = (lvSlt u)[j]?) ∧ sltR.V w u (xs.getD i default)) := hx
      clear hx
      replace ga0 := cell_keep hbl ga0
      replace ga1 := cell_keep hbl ga1
      replace ga2 := cell_keep hbl ga2
      replace ga3 := cell_keep hbl ga3
      replace ga4 := cell_keep hbl ga4
      replace ga5 := cell_keep hbl ga5
      have zb : bxa < wr.heap.size := World.block_lt_of_cell? wr _ ga0
      have zq : w.heap.size < wr.heap.size := World.block_lt_of_cell? wr _ hq
      go_wp2_with fail
      refine (HF.out _ (by (repeat (first | exact Below.refl _ _ | assumption | refine Below.drew ?_ | refine balloc ?_ _ | refine bset ?_ (by simp; omega) _ | refine bset ?_ (by simp) _ | refine bstep ?_ (by assumption))))).mono ?_
      rintro e w1 ⟨rfl, hb1⟩
      have hB1 : Below w.heap.size w w1 := bstep (by (repeat (first | exact Below.refl _ _ | assumption | refine Below.drew ?_ | refine balloc ?_ _ | refine bset ?_ (by simp; omega) _ | refine bset ?_ (by simp) _ | refine bstep ?_ (by assumption)))) hb1
      have hq1 : w1.cell? ⟨w.heap.size, 0, none⟩ = some (.slice (some ⟨bxa, oxa, none⟩) n cx) := cell_keep hb1 (by simp [go_sem, hq, zq])
      have s0 : w1.cell? ⟨wr.heap.size, 0, none⟩ = some (.int .i64 l.con) := cell_keep hb1 (by simp [go_sem])
      have s1 : w1.cell? ⟨wr.heap.size, 1, none⟩ = some (.int .i64 l.sh) := cell_keep hb1 (by simp [go_sem])
      have s2 : w1.cell? ⟨wr.heap.size, 2, none⟩ = some (.int .i64 l.pr) := cell_keep hb1 (by simp [go_sem])
      have s3 : w1.cell? ⟨wr.heap.size, 3, none⟩ = some (.int .i64 l.lb) := cell_keep hb1 (by simp [go_sem])
      have s4 : w1.cell? ⟨wr.heap.size, 4, none⟩ = some (.int .i64 l.lv) := cell_keep hb1 (by simp [go_sem])
      have s5 : w1.cell? ⟨wr.heap.size, 5, none⟩ = some (.slice aua l.cast.length cua) := cell_keep hb1 (by simp [go_sem])
      replace ga0 := cell_keep hb1 (cell_keep (by (repeat (first | exact Below.refl _ _ | assumption | refine Below.drew ?_ | refine balloc ?_ _ | refine bset ?_ (by simp; omega) _ | refine bset ?_ (by simp) _ | refine bstep ?_ (by assumption)))) ga0)
      replace ga1 := cell_keep hb1 (cell_keep (by (repeat (first | exact Below.refl _ _ | assumption | refine Below.drew ?_ | refine balloc ?_ _ | refine bset ?_ (by simp; omega) _ | refine bset ?_ (by simp) _ | refine bstep ?_ (by assumption)))) ga1)
      replace ga2 := cell_keep hb1 (cell_keep (by (repeat (first | exact Below.refl _ _ | assumption | refine Below.drew ?_ | refine balloc ?_ _ | refine bset ?_ (by simp; omega) _ | refine bset ?_ (by simp) _ | refine bstep ?_ (by assumption)))) ga2)
      replace ga3 := cell_keep hb1 (cell_keep (by (repeat (first | exact Below.refl _ _ | assumption | refine Below.drew ?_ | refine balloc ?_ _ | refine bset ?_ (by simp; omega) _ | refine bset ?_ (by simp) _ | refine bstep ?_ (by assumption)))) ga3)
      replace ga4 := cell_keep hb1 (cell_keep (by (repeat (first | exact Below.refl _ _ | assumption | refine Below.drew ?_ | refine balloc ?_ _ | refine bset ?_ (by simp; omega) _ | refine bset ?_ (by simp) _ | refine bstep ?_ (by assumption)))) ga4)
      replace ga5 := cell_keep hb1 (cell_keep (by (repeat (first | exact Below.refl _ _ | assumption | refine Below.drew ?_ | refine balloc ?_ _ | refine bset ?_ (by simp; omega) _ | refine bset ?_ (by simp) _ | refine bstep ?_ (by assumption)))) ga5)
      clear hb1 hq
      have HX : Hid (accAt xs k = if sltFault l = 0 then (if k = 0 then 0 else if aheadS (xs.getD (k - 1) default) l = true then 0 else 1) else sltFault l) := by show _ = _; unfold accAt; rw [← HLa.out]
      by_cases hf : sltFault l = 0
      · rw [hf]
        have HX2 : Hid (accAt xs k = if k = 0 then 0 else if aheadS (xs.getD (k - 1) default) l = true then 0 else 1) := by show _ = _; rw [HX.out, if_pos hf]
        clear hf HX
        cases k with
        | zero =>
          have H0 : Hid (accAt xs 0 = 0) := by show _ = _; rw [HX2.out, if_pos rfl]
          clear HX2
          clear ga0 ga1 ga2 ga3 ga4 ga5 hX
          go_wp2
          go_quiet (fail)
          go_wp2
          exact ⟨⟨1, by omega, by go_num, scanI_succ HS.out H0.out, cell_keep (bdrewN (Below.refl _ _) _) hq1, bdrewN hB1 _⟩, by simp [intOf]; omega⟩
        | succ p =>
          have hx := hX.out
          clear hX
          have hxz := hx p (by omega)
          obtain ⟨bxz, oxz, uz, hez, _, pz, hvz⟩ := hxz
          simp only [Option.some.injEq, Addr.mk.injEq, and_true] at hez
          obtain ⟨rfl, rfl⟩ := hez
          obtain ⟨z, hlz⟩ : ∃ l, l = xs.getD p default := ⟨_, rfl⟩
          rw [← hlz] at hvz
          have HLz : Hid (z = xs.getD p default) := hlz
          clear hlz
          have hVz := hvz
          obtain ⟨sz, rfl, hcz⟩ := hvz
          obtain ⟨auz, cuz, rfl⟩ := vots_form hcz
          clear hcz
          have gz0 : w.cell? ⟨bxa, oxa + p * 6, none⟩ = some (.int .i64 z.con) := pz 0 (by omega)
          have gz1 : w.cell? ⟨bxa, oxa + p * 6 + 1, none⟩ = some (.int .i64 z.sh) := pz 1 (by omega)
          have gz2 : w.cell? ⟨bxa, oxa + p * 6 + 2, none⟩ = some (.int .i64 z.pr) := pz 2 (by omega)
          have gz3 : w.cell? ⟨bxa, oxa + p * 6 + 3, none⟩ = some (.int .i64 z.lb) := pz 3 (by omega)
          have gz4 : w.cell? ⟨bxa, oxa + p * 6 + 4, none⟩ = some (.int .i64 z.lv) := pz 4 (by omega)
          have gz5 : w.cell? ⟨bxa, oxa + p * 6 + 5, none⟩ = some (.slice auz z.cast.length cuz) := pz 5 (by omega)
          clear pz
          clear hx hVz
          replace gz0 := cell_keep hB1 gz0
          replace gz1 := cell_keep hB1 gz1
          replace gz2 := cell_keep hB1 gz2
          replace gz3 := cell_keep hB1 gz3
          replace gz4 := cell_keep hB1 gz4
          replace gz5 := cell_keep hB1 gz5
          have i1 : (p : Int) < (n : Int) := by omega
          have i2 : ((p + 1 : Nat) : Int) < (n : Int) := by omega
          have i3 : (0 : Int) < ((p + 1 : Nat) : Int) := by omega
          have i4 : decide (0 < p + 1) = true := decide_eq_true (by omega)
          have i5 : IntKind.i64.wrap (((p + 1 : Nat) : Int) - 1) = (p : Int) := by rw [IntKind.wrap_i64]; omega
          have i6 : (0 : Int) ≤ ((p + 1 : Nat) : Int) := by omega
          have i7 : (0 : Int) ≤ (p : Int) := by omega
          have i8 : (p : Int) + 1 < (n : Int) := by omega
          have i9 : (0 : Int) ≤ (p : Int) + 1 := by omega
          have i10 : ((p : Int) + 1).toNat = p + 1 := by omega
          have w1' : IntKind.i64.wrap (p : Int) = p := wrapId (by omega) (by omega)
          have HX3 : Hid (accAt xs (p + 1) = if aheadS z l = true then 0 else 1) := by show _ = _; rw [HX2.out, if_neg (by omega), Nat.add_sub_cancel, ← HLz.out]
          clear HX2
          obtain ⟨u, hu⟩ : ∃ u : Value, u = .slice aua l.cast.length cua := ⟨_, rfl⟩
          obtain ⟨u', hu'⟩ : ∃ u : Value, u = .slice auz z.cast.length cuz := ⟨_, rfl⟩
          have rA : w1.cell? ⟨wr.heap.size, 0, none⟩ = some (.int .i64 l.con) ∧ w1.cell? ⟨wr.heap.size, 0 + 1, none⟩ = some (.int .i64 l.sh) ∧ w1.cell? ⟨wr.heap.size, 0 + 2, none⟩ = some (.int .i64 l.pr) ∧ w1.cell? ⟨wr.heap.size, 0 + 3, none⟩ = some (.int .i64 l.lb) ∧ w1.cell? ⟨wr.heap.size, 0 + 4, none⟩ = some (.int .i64 l.lv) ∧ w1.cell? ⟨wr.heap.size, 0 + 5, none⟩ = some (.slice aua l.cast.length cua) := ⟨s0, s1, s2, s3, s4, s5⟩
          have rZ : w1.cell? ⟨bxa, oxa + p * 6, none⟩ = some (.int .i64 z.con) ∧ w1.cell? ⟨bxa, oxa + p * 6 + 1, none⟩ = some (.int .i64 z.sh) ∧ w1.cell? ⟨bxa, oxa + p * 6 + 2, none⟩ = some (.int .i64 z.pr) ∧ w1.cell? ⟨bxa, oxa + p * 6 + 3, none⟩ = some (.int .i64 z.lb) ∧ w1.cell? ⟨bxa, oxa + p * 6 + 4, none⟩ = some (.int .i64 z.lv) ∧ w1.cell? ⟨bxa, oxa + p * 6 + 5, none⟩ = some (.slice auz z.cast.length cuz) := ⟨gz0, gz1, gz2, gz3, gz4, gz5⟩
          clear ga0 gz0 s0 ga1 gz1 s1 ga2 gz2 s2 ga3 gz3 s3 ga4 gz4 s4 ga5 gz5 s5 hu hu'
          cases hah : aheadS z l
          · have hah' : aheadS z l = false := hah
            have hge : decide (0 ≤ cmpS z l) = true := by unfold aheadS at hah; have h' := of_decide_eq_false hah; exact decide_eq_true (by omega)
            have hg2 : 0 ≤ cmpS z l := of_decide_eq_true hge
            have HAH : Hid (aheadS z l = false) := hah'
            clear hah'
            go_wp2
            go_region_held3 (fun W => Below w1.heap.size w1 W ∧ (W.cell? ⟨wr.heap.size, 0, none⟩ = some (.int .i64 l.con) ∧ W.cell? ⟨wr.heap.size, 0 + 1, none⟩ = some (.int .i64 l.sh) ∧ W.cell? ⟨wr.heap.size, 0 + 2, none⟩ = some (.int .i64 l.pr) ∧ W.cell? ⟨wr.heap.size, 0 + 3, none⟩ = some (.int .i64 l.lb) ∧ W.cell? ⟨wr.heap.size, 0 + 4, none⟩ = some (.int .i64 l.lv) ∧ W.cell? ⟨wr.heap.size, 0 + 5, none⟩ = some (.slice aua l.cast.length cua)) ∧ (W.cell? ⟨bxa, oxa + p * 6, none⟩ = some (.int .i64 z.con) ∧ W.cell? ⟨bxa, oxa + p * 6 + 1, none⟩ = some (.int .i64 z.sh) ∧ W.cell? ⟨bxa, oxa + p * 6 + 2, none⟩ = some (.int .i64 z.pr) ∧ W.cell? ⟨bxa, oxa + p * 6 + 3, none⟩ = some (.int .i64 z.lb) ∧ W.cell? ⟨bxa, oxa + p * 6 + 4, none⟩ = some (.int .i64 z.lv) ∧ W.cell? ⟨bxa, oxa + p * 6 + 5, none⟩ = some (.slice auz z.cast.length cuz)) ∧ W.cell? ⟨w.heap.size, 0, none⟩ = some (.slice (some ⟨bxa, oxa, none⟩) n cx)) ((refine sltKeep3 ?_ rA rZ hq1; repeat (first | exact Below.refl _ _ | assumption | refine Below.drew ?_ | refine balloc ?_ _ | refine bstep ?_ (by assumption)))) (first | (go_at_call 110; refine (compareSlots_any z l _ _ _).mono ?_; rintro e wa ⟨rfl, hb2⟩))
            rename_i hH
            have hB2 := bstep hB1 hH.1
            have hq2 := hH.2.2.2
            clear hH
            have HC : Hid (accF xs = 1) := HH.out (p + 1) 1 hlt HS.out (by rw [HX3.out, HAH.out]; rfl) (by omega)
            go_wp2
            go_ret
            exact ⟨by rw [HC.out]; rfl, hB2⟩
          · have hah' : aheadS z l = true := hah
            have hge : decide (0 ≤ cmpS z l) = false := by unfold aheadS at hah; have h' := of_decide_eq_true hah; exact decide_eq_false (by omega)
            have hg2 : ¬ 0 ≤ cmpS z l := of_decide_eq_false hge
            have HAH : Hid (aheadS z l = true) := hah'
            clear hah'
            go_wp2
            go_region_held3 (fun W => Below w1.heap.size w1 W ∧ (W.cell? ⟨wr.heap.size, 0, none⟩ = some (.int .i64 l.con) ∧ W.cell? ⟨wr.heap.size, 0 + 1, none⟩ = some (.int .i64 l.sh) ∧ W.cell? ⟨wr.heap.size, 0 + 2, none⟩ = some (.int .i64 l.pr) ∧ W.cell? ⟨wr.heap.size, 0 + 3, none⟩ = some (.int .i64 l.lb) ∧ W.cell? ⟨wr.heap.size, 0 + 4, none⟩ = some (.int .i64 l.lv) ∧ W.cell? ⟨wr.heap.size, 0 + 5, none⟩ = some (.slice aua l.cast.length cua)) ∧ (W.cell? ⟨bxa, oxa + p * 6, none⟩ = some (.int .i64 z.con) ∧ W.cell? ⟨bxa, oxa + p * 6 + 1, none⟩ = some (.int .i64 z.sh) ∧ W.cell? ⟨bxa, oxa + p * 6 + 2, none⟩ = some (.int .i64 z.pr) ∧ W.cell? ⟨bxa, oxa + p * 6 + 3, none⟩ = some (.int .i64 z.lb) ∧ W.cell? ⟨bxa, oxa + p * 6 + 4, none⟩ = some (.int .i64 z.lv) ∧ W.cell? ⟨bxa, oxa + p * 6 + 5, none⟩ = some (.slice auz z.cast.length cuz)) ∧ W.cell? ⟨w.heap.size, 0, none⟩ = some (.slice (some ⟨bxa, oxa, none⟩) n cx)) ((refine sltKeep3 ?_ rA rZ hq1; repeat (first | exact Below.refl _ _ | assumption | refine Below.drew ?_ | refine balloc ?_ _ | refine bstep ?_ (by assumption)))) (first | (go_at_call 110; refine (compareSlots_any z l _ _ _).mono ?_; rintro e wa ⟨rfl, hb2⟩))
            rename_i hH
            have hB2 := bstep hB1 hH.1
            have hq2 := hH.2.2.2
            clear hH
            have H0 : Hid (accAt xs (p + 1) = 0) := by show _ = _; rw [HX3.out, HAH.out]; rfl
            go_wp2
            exact ⟨⟨p + 1 + 1, by omega, by go_num, scanI_succ HS.out H0.out, hq2, hB2⟩, by simp [intOf]; omega⟩
      · have HC : Hid (accF xs = sltFault l) := HH.out k _ hlt HS.out (by rw [HX.out, if_neg hf]) hf
        clear HX hX
        generalize sltFault l = c at *
        go_wp2
        go_ret
        exact ⟨by rw [HC.out]; rfl, hB1⟩
    · have hkn : k = n := by omega
      subst hkn
      have HC : Hid (accF xs = 0) := HE.out HS.out
      go_wp2
      go_ret
      exact ⟨by rw [HC.out]; rfl, by (repeat (first | exact Below.refl _ _ | assumption | refine Below.drew ?_ | refine balloc ?_ _ | refine bset ?_ (by simp; omega) _ | refine bset ?_ (by simp) _ | refine bstep ?_ (by assumption)))⟩
end Go.Proofs.YtncmdeijimgchaaGreat

/-
  slices.Insert of one slot into slots that own their memory.
-/
namespace Go.Proofs.YtncmdeijimgchaaGreat
open Go.RowKit Go.Shelf
set_option linter.unusedSectionVars false
variable [DecidableEq Vot] [Inhabited Vot] [DecidableEq Slt] [Inhabited Slt] [DecidableEq Bal] [Inhabited Bal] [DecidableEq Ledg] [Inhabited Ledg] [DecidableEq Leg] [Inhabited Leg]
set_option linter.unusedVariables false
set_option linter.unusedSimpArgs false

theorem run_copyS (w : World) (dT sT ty elem : TypeId) (sz g o dLen dCap : Nat) (a : Addr) (sLen sCap m : Nat) (cur : Array Value) (t : TypeId) (cs : List Value)
    (hu : Tryz.prog.underlying dT = some (.slice elem)) (hs : (Tryz.prog.info? elem).map (·.size) = some sz)
    (hg : w.heap[g]? = some (.cells cur t (0, 0))) (hm : Nat.min sLen dLen = m) (hn : cs.length = m * sz)
    (hsrc : ∀ j v, cs[j]? = some v → w.cell? (a.add j) = some v) (hfit : o + cs.length ≤ cur.size) (h1 : ∀ v ∈ cs, v.oneCell' = true) :
    (Builtin.copy_ #[dT, sT] ty #[.slice (some ⟨g, o, none⟩) dLen dCap, .slice (some a) sLen sCap]).run Tryz.prog w =
      .ok (goInt m) (w.setRow g (cur.toList.take o ++ cs ++ cur.toList.drop (o + cs.length)).toArray) := by
  have hl := run_loadCells_list (P := Tryz.prog) w a cs hsrc
  have hst := run_storeCells_at Tryz.prog g o t cs 0 cur w hg (by simpa using hfit) h1
  cases hq : Tryz.prog.info? elem with
  | none => simp [hq] at hs
  | some i =>
    have hi : i.size = sz := by simpa [hq] using hs
    rw [hn] at hl
    simp [Builtin.copy_, run_underlying hu, Builtin.lenOf, Builtin.firstCells, sizeOf, typeInfo, hq, hi, hm, hl, hst]
theorem wpl_copyS (w : World) {ops : Array Oper} {rest : List Oper} {o : Oper} {a : Act} {Q : Exit → Act → World → Prop} (hgd : o.guard = none) (d s : Operand) (t t' : TypeId)
    (ho : o.op = .call { callee := .builtin .copy, args := #[d, s], argTypes := #[t, t'] }) (v u : Value) (hd : a.eval d = v) (hs : a.eval s = u) {v' : Value} {w' : World}
    (hr : (Builtin.copy_ #[t, t'] o.type #[v, u]).run Tryz.prog w = .ok v' w') (h : wpList Tryz.prog ops Q rest (a.put o.dst v') w') : wpList Tryz.prog ops Q (o :: rest) a w := by
  refine wpList_plain hgd fun K hK => ?_
  unfold Oper.wp execOp
  simp only [ho, resolve, invoke, builtin, Sem.run_bind, Sem.run_pure, Result.andThen_ok, List.map_toArray, List.map_cons, List.map_nil, hd, hs, hr]
  exact hK _ _ h
theorem step_copyS {ops : Array Oper} {o : Oper} {a : Act} {w : World} {K : Act → World → Prop} {Q : Exit → Act → World → Prop} {E : Prop} (hgd : o.guard = none) (d s : Operand) (t t' : TypeId)
    (ho : o.op = .call { callee := .builtin .copy, args := #[d, s], argTypes := #[t, t'] }) (v u : Value) (hd : a.eval d = v) (hs : a.eval s = u) {v' : Value} {w' : World}
    (hr : (Builtin.copy_ #[t, t'] o.type #[v, u]).run Tryz.prog w = .ok v' w') (hK : K (a.put o.dst v') w') :
    if Region.wanted o (yielded ops a.tmps) = true then Oper.wp Tryz.prog o a w K Q else E := by
  have hw : Region.wanted o (yielded ops a.tmps) = true := by simp [Region.wanted, hgd]
  rw [if_pos hw]
  unfold Oper.wp execOp
  simp only [ho, resolve, invoke, builtin, Sem.run_bind, Sem.run_pure, Result.andThen_ok, List.map_toArray, List.map_cons, List.map_nil, hd, hs, hr]
  exact hK
theorem mod_setRowS (w : World) (g : Nat) (cs : Array Value) : Mod (fun b => b = g) w (w.setRow g cs) :=
  ⟨rfl, rfl, rfl, by simp [World.setRow], fun k _ hn => setRow_other w g k cs hn⟩
theorem addr_addS (b o j : Nat) : (⟨b, o, none⟩ : Addr).add j = ⟨b, o + j, none⟩ := by
  by_cases hj0 : j = 0
  · subst hj0; simp [Addr.add]
  · simp [Addr.add, hj0]
theorem cell_rowS {w : World} {g j : Nat} {cur : Array Value} {t : TypeId} {fr : Nat × Nat} {v : Value} (hg : w.heap[g]? = some (.cells cur t fr)) (h : cur.toList[j]? = some v) : w.cell? ⟨g, j, none⟩ = some v := by
  have : cur[j]? = some v := by rw [← Array.getElem?_toList]; exact h
  simp [World.cell?, hg, this]
theorem heap_newS (w : World) (o : Obj) : (w.alloc o).heap[w.heap.size]? = some o := by
  show (w.heap.push o)[w.heap.size]? = some o
  simp [Array.getElem?_push]
theorem shift_rowS {cur cs vs : List Value} {k m : Nat} (hk : k ≤ cs.length) (hc : cur.take cs.length = cs) (hl : cs.length + m ≤ cur.length) (hv : vs.length = m) :
    ((((cur.take (k + m) ++ cs.drop k ++ cur.drop (k + m + (cs.drop k).length)).take k ++ vs ++ (cur.take (k + m) ++ cs.drop k ++ cur.drop (k + m + (cs.drop k).length)).drop (k + vs.length)).length = cur.length) ∧
    ((cur.take (k + m) ++ cs.drop k ++ cur.drop (k + m + (cs.drop k).length)).take k ++ vs ++ (cur.take (k + m) ++ cs.drop k ++ cur.drop (k + m + (cs.drop k).length)).drop (k + vs.length)).take (cs.length + m) = cs.take k ++ vs ++ cs.drop k) := by
  subst hv
  have h1 : (cur.take (k + vs.length) ++ cs.drop k ++ cur.drop (k + vs.length + (cs.drop k).length)).take k = cs.take k := by
    rw [List.append_assoc, List.take_append_of_le_length (by rw [List.length_take]; omega), List.take_take]
    conv => rhs; rw [← hc, List.take_take]
    congr 1
    omega
  have h2 : (cur.take (k + vs.length) ++ cs.drop k ++ cur.drop (k + vs.length + (cs.drop k).length)).drop (k + vs.length) = cs.drop k ++ cur.drop (k + vs.length + (cs.drop k).length) := by
    rw [List.append_assoc, List.drop_append_of_le_length (by rw [List.length_take]; omega), List.drop_take]
    simp
  rw [h1, h2]
  have hd : (cs.drop k).length = cs.length - k := List.length_drop ..
  constructor
  · simp only [List.length_append, List.length_take, List.length_drop]
    omega
  · rw [← List.append_assoc, List.take_append_of_le_length (by simp only [List.length_append, List.length_take, List.length_drop]; omega), List.take_of_length_le (by simp only [List.length_append, List.length_take, List.length_drop]; omega)]
set_option maxHeartbeats 4000000 in
set_option maxRecDepth 100000 in
theorem insertS_shift (g n c i vb : Nat) (cs vs : List Value) (cur : Array Value) (w : World) (hg : w.heap[g]? = some (.cells cur 76 (0, 0))) (hi : i < n) (hroom : n + 1 ≤ c) (hc63 : c ≤ 9223372036854775807) (hvb : vb ≠ g)
    (hcur : cur.size = c * 6) (hcl : cs.length = n * 6) (ht : cur.toList.take (n * 6) = cs) (hvl : vs.length = 6) (hv : w.heap[vb]? = some (.cells vs.toArray 76 (0, 0))) (h1c : ∀ v ∈ cs, v.oneCell' = true) (h1v : ∀ v ∈ vs, v.oneCell' = true) :
    Calls Tryz.prog 123 #[.slice (some ⟨g, 0, none⟩) n c, .int .i64 i, .slice (some ⟨vb, 0, none⟩) 1 1] w fun e w' =>
      e = .returned (.slice (some ⟨g, 0, none⟩) (n + 1) c) ∧ ∃ cur' : Array Value, w'.heap[g]? = some (.cells cur' 76 (0, 0)) ∧ cur'.size = c * 6 ∧ cur'.toList.take ((n + 1) * 6) = cs.take (i * 6) ++ vs ++ cs.drop (i * 6) ∧ Mod (fun b => b = g) w w' := by
  have hz2 : ¬ ((i : Int) = (n : Int)) := by omega
  have hsz : (Tryz.prog.info? 76).map (·.size) = some 6 := by
    obtain ⟨i0, hi0, _, h1, _⟩ := info_parts infoSlts
    rw [hi0]; simp [h1]
  have hzz : ∀ w, (Go.sizeOf 76).run Tryz.prog w = .ok 6 w := fun w => by
    obtain ⟨i0, hi0, _, h1, _⟩ := info_parts infoSlts
    simp [sizeOf, typeInfo, hi0, h1]
  have hov : ∀ lb cb, (callFunc 136 #[.slice (some ⟨vb, 0, none⟩) 1 1, .slice (some ⟨g, (i + 1) * 6, none⟩) lb cb]).run Tryz.prog w = .ok (.value (.bool false)) w := fun lb cb => by
    rw [run_callFunc_extern Tryz.func136 (by kernel_rfl) (by kernel_rfl) (by kernel_rfl) (e := Extern.SlicesOverlaps.overlaps #[56, 56] #[4]) (by kernel_rfl),
      Lib.run_overlaps_apart w 56 4 76 Tryz.underlying56 6 hzz ⟨vb, 0, none⟩ ⟨g, (i + 1) * 6, none⟩ 1 1 lb cb hvb 76 76 6 (c * 6) (by simp [World.shape?, hv, hvl]) (by simp [World.shape?, hg, hcur]) (by omega) (by simp [World.frozen?, hv]) (by simp [World.frozen?, hv])]
    rfl
  have hdl : (cs.drop (i * 6)).length = (n - i) * 6 := by rw [List.length_drop, hcl]; omega
  have hb1 : (0 : Int) ≤ (i : Int) + 1 := by omega
  have hw1 : IntKind.i64.wrap ((i : Int) + 1) = (i : Int) + 1 := by rw [IntKind.wrap_i64]; omega
  have htn : ((i : Int) + 1).toNat = i + 1 := by omega
  have hin : i ≤ n := by omega
  have hb2 : ¬ (c = i + 1) := by omega
  have hb3 : (i : Int) ≤ (n : Int) + 1 := by omega
  have hb4 : ¬ (c = i) := by omega
  obtain ⟨A1, hA1⟩ : ∃ A1 : Array Value, A1 = (cur.toList.take ((i + 1) * 6) ++ cs.drop (i * 6) ++ cur.toList.drop ((i + 1) * 6 + (cs.drop (i * 6)).length)).toArray := ⟨_, rfl⟩
  have hcp1 : ∀ ty dl dc sl sc, dl = n - i → sl = n + 1 - i → (Builtin.copy_ #[56, 56] ty #[.slice (some ⟨g, (i + 1) * 6, none⟩) dl dc, .slice (some ⟨g, i * 6, none⟩) sl sc]).run Tryz.prog w.drew = .ok (goInt ((n - i : Nat) : Int)) (w.drew.setRow g A1) := fun ty dl dc sl sc e1 e2 => by
    rw [hA1]
    refine run_copyS w.drew _ _ ty 76 6 g ((i + 1) * 6) dl dc ⟨g, i * 6, none⟩ sl sc (n - i) cur 76 (cs.drop (i * 6)) Tryz.underlying56 hsz hg (by simp only [Nat.min_def]; split <;> omega) hdl (fun j v hj => ?_) (by rw [hdl, hcur]; omega) (fun v hv => h1c v (List.mem_of_mem_drop hv))
    rw [addr_addS]
    refine cell_rowS hg ?_
    rw [List.getElem?_drop, ← ht, List.getElem?_take] at hj
    split at hj
    · exact hj
    · cases hj
  have hA1s : A1.size = c * 6 := by
    rw [hA1]
    simp only [List.size_toArray, List.length_append, List.length_take, List.length_drop, Array.length_toList]
    rw [hcl]
    omega
  have hg1 : (w.drew.setRow g A1).heap[g]? = some (.cells A1 76 (0, 0)) := setRow_heap w.drew g cur A1 _ _ hg
  have hv1 : (w.drew.setRow g A1).heap[vb]? = some (.cells vs.toArray 76 (0, 0)) := (setRow_other w.drew g vb A1 hvb).trans hv
  obtain ⟨W1, hW1⟩ : ∃ W1, W1 = w.drew.setRow g A1 := ⟨_, rfl⟩
  rw [← hW1] at hg1 hv1 hcp1
  have hm1 : Mod (fun b => b = g) w W1 := by
    rw [hW1]
    exact (Mod.of_below (Below.drew (Below.refl _ _))).trans (mod_setRowS _ _ _)
  obtain ⟨A2, hA2⟩ : ∃ A2 : Array Value, A2 = (A1.toList.take (i * 6) ++ vs ++ A1.toList.drop (i * 6 + vs.length)).toArray := ⟨_, rfl⟩
  have hcp2 : ∀ (W : World), W.heap[g]? = some (.cells A1 76 (0, 0)) → W.heap[vb]? = some (.cells vs.toArray 76 (0, 0)) → ∀ ty dc, (Builtin.copy_ #[56, 56] ty #[.slice (some ⟨g, i * 6, none⟩) (n + 1 - i) dc, .slice (some ⟨vb, 0, none⟩) 1 1]).run Tryz.prog W = .ok (goInt 1) (W.setRow g A2) := fun W hW1 hW2 ty dc => by
    rw [hA2]
    refine run_copyS W _ _ ty 76 6 g (i * 6) (n + 1 - i) dc ⟨vb, 0, none⟩ 1 1 1 A1 76 vs Tryz.underlying56 hsz hW1 (by simp only [Nat.min_def]; split <;> omega) (by omega) (fun j v hj => ?_) (by rw [hvl, hA1s]; omega) h1v
    rw [addr_addS]
    exact cell_rowS hW2 (by simpa using hj)
  have hfin : A2.size = c * 6 ∧ A2.toList.take ((n + 1) * 6) = cs.take (i * 6) ++ vs ++ cs.drop (i * 6) := by
    have h := shift_rowS (cur := cur.toList) (cs := cs) (vs := vs) (k := i * 6) (m := 6) (by rw [hcl]; omega) (by rw [hcl]; exact ht) (by rw [hcl, Array.length_toList, hcur]; omega) hvl
    rw [hA2, hA1]
    rw [show (i + 1) * 6 = i * 6 + 6 by omega, show (n + 1) * 6 = cs.length + 6 by rw [hcl]; omega]
    refine ⟨?_, h.2⟩
    rw [List.size_toArray]
    have h1 := h.1
    have h2 : cur.toList.length = c * 6 := by rw [Array.length_toList, hcur]
    rw [h2] at h1
    exact h1
  clear hA1 hA2 hW1
  have HF : Hid (A2.size = c * 6 ∧ A2.toList.take ((n + 1) * 6) = cs.take (i * 6) ++ vs ++ cs.drop (i * 6)) := hfin
  clear hfin
  go_enter Tryz.func123, Tryz.ntmps123
  go_wp2_with (simp only [hov])
  go_region_law (refine step_copyS rfl (.tmp 73) (.tmp 76) 56 56 rfl _ _ (by simp [Act.eval, Act.put]) (by simp [Act.eval, Act.put]) (hcp1 _ _ _ _ _ (by omega) (by omega)) ?_)
  go_wp2_with (at_builtin; refine wpl_copyS _ rfl _ _ 56 56 rfl _ _ rfl rfl (hcp2 _ hg1 hv1 _ _) ?_)
  go_ret
  refine ⟨rfl, A2, setRow_heap _ g A1 A2 _ _ hg1, HF.out.1, HF.out.2, hm1.trans (mod_setRowS _ _ _)⟩
end Go.Proofs.YtncmdeijimgchaaGreat

/-
  slices.Insert at the end.
-/
namespace Go.Proofs.YtncmdeijimgchaaGreat
open Go.RowKit Go.Shelf
set_option linter.unusedSectionVars false
variable [DecidableEq Vot] [Inhabited Vot] [DecidableEq Slt] [Inhabited Slt] [DecidableEq Bal] [Inhabited Bal] [DecidableEq Ledg] [Inhabited Ledg] [DecidableEq Leg] [Inhabited Leg]
set_option linter.unusedVariables false
set_option linter.unusedSimpArgs false

set_option maxHeartbeats 4000000 in
set_option maxRecDepth 100000 in
theorem insertS_end (base : Nat) (v : Value) (n vb : Nat) (cs vs : List Value) (w : World) (hown : w.ownsRow base 76 6 v n cs) (hn : n ≤ 1048576) (hbase : base ≤ w.heap.size)
    (hvl : vs.length = 6) (hv : w.heap[vb]? = some (.cells vs.toArray 76 (0, 0))) (h1v : ∀ v ∈ vs, v.oneCell' = true) :
    Calls Tryz.prog 123 #[v, .int .i64 n, .slice (some ⟨vb, 0, none⟩) 1 1] w fun e w' =>
      ∃ v', e = .returned v' ∧ w'.ownsRow base 76 6 v' (n + 1) (cs ++ vs) ∧ w.grownBy w' v.ownBlock ∧ (v'.ownBlock = v.ownBlock ∨ v'.ownBlock = some w.heap.size) := by
  obtain ⟨i0, hi, hz0, hz1, hz2⟩ := info_parts infoSlts
  have HV : Hid (∀ j u, vs[j]? = some u → w.cell? ((⟨vb, 0, none⟩ : Addr).add j) = some u) := fun j u hj => by
    rw [addr_addS]
    exact cell_rowS hv (by simpa using hj)
  obtain ⟨a, c, rfl⟩ := owns_form hown
  have hnc : n ≤ c := by
    rcases hown.2 with ⟨_, h⟩ | ⟨g, cap, cur, h, _, _, h2, _⟩
    · omega
    · simp only [Value.slice.injEq] at h; omega
  have hcm : c ≤ 9223372036854775807 := by
    rcases hown.2 with ⟨h, _⟩ | ⟨g, cap, cur, h, _, _, h2, h3, _⟩
    · simp only [Value.slice.injEq] at h; omega
    · simp only [Value.slice.injEq] at h; unfold maxLen at h3; omega
  rcases Nat.eq_or_lt_of_le hnc with rfl | h0
  all_goals
    try (have hck : ¬ c = n := by omega)
    go_enter Tryz.func123, Tryz.ntmps123
    go_wp2_with (at_builtin; refine wpList_append_own_at w rfl (.tmp 23) (.tmp 24) 56 rfl base 76 i0 _ 6 64 Tryz.underlying56 hi hz0 hz1 hz2 rfl (by decide) _ n cs rfl hown ⟨vb, 0, none⟩ 1 1 vs rfl hvl HV.out h1v ?_ ?_ hbase ?_)
    · unfold maxLen; omega
    · omega
    intro v' w' h1 h2 h3 h4
    obtain ⟨a', c', rfl⟩ := owns_form h1
    go_wp2
    go_ret
    exact ⟨_, rfl, h1, h2, h4⟩
end Go.Proofs.YtncmdeijimgchaaGreat

/-
  slices.Insert where there is no room.
-/
namespace Go.Proofs.YtncmdeijimgchaaGreat
open Go.RowKit Go.Shelf
set_option linter.unusedSectionVars false
variable [DecidableEq Vot] [Inhabited Vot] [DecidableEq Slt] [Inhabited Slt] [DecidableEq Bal] [Inhabited Bal] [DecidableEq Ledg] [Inhabited Ledg] [DecidableEq Leg] [Inhabited Leg]
set_option linter.unusedVariables false
set_option linter.unusedSimpArgs false

set_option maxHeartbeats 4000000 in
set_option maxRecDepth 100000 in
theorem insertS_grow (g n c i vb : Nat) (cs vs : List Value) (w : World) (hi : i < n) (hnc : n ≤ c) (hroom : c < n + 1) (hbig : n ≤ 1048576)
    (hcl : cs.length = n * 6) (hcs : ∀ j v, cs[j]? = some v → w.cell? ⟨g, j, none⟩ = some v) (hvl : vs.length = 6) (hv : w.heap[vb]? = some (.cells vs.toArray 76 (0, 0))) (h1c : ∀ v ∈ cs, v.oneCell' = true) (h1v : ∀ v ∈ vs, v.oneCell' = true) :
    Calls Tryz.prog 123 #[.slice (some ⟨g, 0, none⟩) n c, .int .i64 i, .slice (some ⟨vb, 0, none⟩) 1 1] w fun e w' =>
      ∃ G, e = .returned (.slice (some ⟨w.heap.size, 0, none⟩) (n + 1) G) ∧ ∃ cur' : Array Value, w'.heap[w.heap.size]? = some (.cells cur' 76 (0, 0)) ∧ n + 1 ≤ G ∧ G ≤ maxLen ∧ cur'.size = G * 6 ∧ cur'.toList.take ((n + 1) * 6) = cs.take (i * 6) ++ vs ++ cs.drop (i * 6) ∧ Mod (fun _ => False) w w' := by
  obtain ⟨i0, hi0, hz0, hzs, hzb⟩ := info_parts infoSlts
  have hsz : (Tryz.prog.info? 76).map (·.size) = some 6 := by rw [hi0]; simp [hzs]
  have hz2 : ¬ ((i : Int) = (n : Int)) := by omega
  have hz3 : (c : Int) < (n : Int) + 1 := by omega
  have hgw : g < w.heap.size := World.block_lt_of_cell? w ⟨g, 0, none⟩ (hcs 0 _ (List.getElem?_eq_getElem (by omega)))
  have hvw : vb < w.heap.size := (Array.getElem?_eq_some_iff.1 hv).1
  have hkk : (n : Int) + 1 - (i : Int) = ((n + 1 - i : Nat) : Int) := by omega
  have hik : i + (n + 1 - i) = n + 1 := by omega
  obtain ⟨Z, hZ⟩ : ∃ Z : Value, Z = .agg #[.int .i64 0, .int .i64 0, .int .i64 0, .int .i64 0, .int .i64 0, .slice none 0 0] := ⟨_, rfl⟩
  rw [← hZ] at hz0
  have hZs : Z.cells.size = 6 := by rw [hZ]; rfl
  have hold : (Builtin.firstCells i0.size i (.slice (some ⟨g, 0, none⟩) i c)).run Tryz.prog w.drew = .ok (cs.take (i * 6)).toArray w.drew := by
    rw [hzs]
    exact run_firstCells_some w.drew 6 i ⟨g, 0, none⟩ i c (cs.take (i * 6)) (by rw [List.length_take]; omega) (fun j v hj => by
      rw [addr_addS, Nat.zero_add]
      rw [List.getElem?_take] at hj
      split at hj
      · exact hcs j v hj
      · cases hj)
  have hrz : ∀ ty, (Builtin.append_ #[56, 3] ty #[.slice (some ⟨g, 0, none⟩) i c, .int .i64 ((n : Int) + 1 - (i : Int))]).run Tryz.prog w =
      .ok (.slice (some ⟨w.heap.size, 0, none⟩) (n + 1) (grownCap w (n + 1) c 76)) (w.drew.alloc (.cells ((cs.take (i * 6)).toArray ++ Builtin.zeroCells Z.cells (n + 1 - i) ++ Builtin.zeroCells Z.cells (grownCap w (n + 1) c 76 - (n + 1))) 76)) := fun ty => by
    have h := Lib.run_append_grow_zeros w 56 3 ty 76 i0 _ .i64 .i64 Tryz.underlying56 Tryz.underlying3 hi0 hz0 (some ⟨g, 0, none⟩) i c (cs.take (i * 6)) hold (n + 1 - i) (by omega) (by omega) (by omega) (by omega) (by rw [hzb]; omega) (by rw [hzb, hik]; exact growslice_fits hroom (by omega))
    rw [hik] at h
    rw [hkk]
    exact h
  obtain ⟨G, hG⟩ : ∃ G, G = grownCap w (n + 1) c 76 := ⟨_, rfl⟩
  obtain ⟨ROW, hROW⟩ : ∃ ROW : Array Value, ROW = (cs.take (i * 6)).toArray ++ Builtin.zeroCells Z.cells (n + 1 - i) ++ Builtin.zeroCells Z.cells (G - (n + 1)) := ⟨_, rfl⟩
  rw [← hG] at hrz
  rw [← hROW] at hrz
  have hGn : n + 1 ≤ G := by rw [hG]; exact grownCap_ge w _ _ _
  have hGm : G ≤ maxLen := by
    rw [hG]
    exact grownCap_le_maxLen w (n + 1) c 76 (by unfold maxLen; omega)
  have hRl : ROW.size = G * 6 := by
    rw [hROW]
    simp [Builtin.zeroCells, hZs, List.length_take, hcl]
    omega
  have hR1 : ROW.toList.take (i * 6) = cs.take (i * 6) := by
    rw [hROW]
    simp only [Array.toList_append, List.append_assoc]
    rw [List.take_append_of_le_length (by simp [hcl]; omega)]
    rw [List.take_of_length_le (by simp; omega)]
  obtain ⟨W1, hW1⟩ : ∃ W1, W1 = w.drew.alloc (.cells ROW 76) := ⟨_, rfl⟩
  rw [← hW1] at hrz
  have hg1 : W1.heap[w.heap.size]? = some (.cells ROW 76 (0, 0)) := by rw [hW1]; exact heap_newS w.drew _
  have hm1 : Mod (fun b => b = w.heap.size) w W1 := by
    rw [hW1]
    exact (Mod.of_below (Below.drew (Below.refl _ _))).trans ((Mod.refl _ _).alloc _)
  have hv1 : W1.heap[vb]? = some (.cells vs.toArray 76 (0, 0)) := (hm1.block vb hvw (by omega)).trans hv
  have hcs1 : ∀ j v, cs[j]? = some v → W1.cell? ⟨g, j, none⟩ = some v := fun j v hj => hm1.cell (hcs j v hj) (by dsimp only; omega)
  obtain ⟨A1, hA1⟩ : ∃ A1 : Array Value, A1 = (ROW.toList.take (i * 6) ++ vs ++ ROW.toList.drop (i * 6 + vs.length)).toArray := ⟨_, rfl⟩
  have hcpA : ∀ (W : World), W.heap[w.heap.size]? = some (.cells ROW 76 (0, 0)) → W.heap[vb]? = some (.cells vs.toArray 76 (0, 0)) → ∀ ty dc, (Builtin.copy_ #[56, 56] ty #[.slice (some ⟨w.heap.size, i * 6, none⟩) (n + 1 - i) dc, .slice (some ⟨vb, 0, none⟩) 1 1]).run Tryz.prog W = .ok (goInt 1) (W.setRow w.heap.size A1) := fun W hWa hWb ty dc => by
    rw [hA1]
    refine run_copyS W _ _ ty 76 6 w.heap.size (i * 6) (n + 1 - i) dc ⟨vb, 0, none⟩ 1 1 1 ROW 76 vs Tryz.underlying56 hsz hWa (by simp only [Nat.min_def]; split <;> omega) (by omega) (fun j v hj => ?_) (by rw [hvl, hRl]; omega) h1v
    rw [addr_addS]
    exact cell_rowS hWb (by simpa using hj)
  have hA1s : A1.size = G * 6 := by
    rw [hA1]
    simp only [List.size_toArray, List.length_append, List.length_take, List.length_drop, Array.length_toList]
    rw [hRl, hvl]
    omega
  have hdl : (cs.drop (i * 6)).length = (n - i) * 6 := by rw [List.length_drop, hcl]; omega
  obtain ⟨A2, hA2⟩ : ∃ A2 : Array Value, A2 = (A1.toList.take ((i + 1) * 6) ++ cs.drop (i * 6) ++ A1.toList.drop ((i + 1) * 6 + (cs.drop (i * 6)).length)).toArray := ⟨_, rfl⟩
  have hcpB : ∀ (W : World), W.heap[w.heap.size]? = some (.cells A1 76 (0, 0)) → (∀ j v, cs[j]? = some v → W.cell? ⟨g, j, none⟩ = some v) → ∀ ty dl dc sl sc, dl = n - i → sl = n - i → (Builtin.copy_ #[56, 56] ty #[.slice (some ⟨w.heap.size, (i + 1) * 6, none⟩) dl dc, .slice (some ⟨g, i * 6, none⟩) sl sc]).run Tryz.prog W = .ok (goInt ((n - i : Nat) : Int)) (W.setRow w.heap.size A2) := fun W hWa hWc ty dl dc sl sc e1 e2 => by
    rw [hA2]
    refine run_copyS W _ _ ty 76 6 w.heap.size ((i + 1) * 6) dl dc ⟨g, i * 6, none⟩ sl sc (n - i) A1 76 (cs.drop (i * 6)) Tryz.underlying56 hsz hWa (by simp only [Nat.min_def]; split <;> omega) hdl (fun j v hj => ?_) (by rw [hdl, hA1s]; omega) (fun v hv => h1c v (List.mem_of_mem_drop hv))
    rw [addr_addS]
    rw [List.getElem?_drop] at hj
    exact hWc _ v hj
  have hfin : A2.size = G * 6 ∧ A2.toList.take ((n + 1) * 6) = cs.take (i * 6) ++ vs ++ cs.drop (i * 6) := by
    have hA1t : A1.toList.take ((i + 1) * 6) = cs.take (i * 6) ++ vs := by
      rw [hA1, hR1]
      simp only []
      rw [List.take_append_of_le_length (by simp only [List.length_append, List.length_take, hcl, hvl]; omega), List.take_of_length_le (by simp only [List.length_append, List.length_take, hcl, hvl]; omega)]
    constructor
    · rw [hA2]
      simp only [List.size_toArray, List.length_append, List.length_take, List.length_drop, Array.length_toList]
      rw [hA1s, hcl]
      omega
    · rw [hA2, hA1t]
      simp only []
      rw [List.take_append_of_le_length (by simp only [List.length_append, List.length_take, List.length_drop, hcl, hvl]; omega), List.take_of_length_le (by simp only [List.length_append, List.length_take, List.length_drop, hcl, hvl]; omega)]
  have HF : Hid (A2.size = G * 6 ∧ A2.toList.take ((n + 1) * 6) = cs.take (i * 6) ++ vs ++ cs.drop (i * 6)) := hfin
  have HG : Hid (n + 1 ≤ G ∧ G ≤ maxLen) := ⟨hGn, hGm⟩
  have HM : Hid (Mod (fun b => b = w.heap.size) w W1) := hm1
  have hG63 : G ≤ 9223372036854775807 := by unfold maxLen at hGm; omega
  clear hfin hA1 hA2 hW1 hROW hG hold hRl hR1 hGm hm1 hkk hik hi0 hz0 hZ hZs hzs hzb
  have hGi : ¬ (G = i) := by omega
  have hGim : ¬ (G = i + 1) := by omega
  have hci : ¬ (c = i) := by omega
  have hw1 : IntKind.i64.wrap ((i : Int) + 1) = (i : Int) + 1 := by rw [IntKind.wrap_i64]; omega
  have htn : ((i : Int) + 1).toNat = i + 1 := by omega
  have hb1 : (0 : Int) ≤ (i : Int) + 1 := by omega
  have hin : i ≤ n := by omega
  have hb3 : (i : Int) ≤ (n : Int) := by omega
  have hb5 : (i : Int) ≤ (n : Int) + 1 := by omega
  have hb6 : (i : Int) + 1 ≤ (n : Int) + 1 := by omega
  obtain ⟨N, hN⟩ : ∃ N, N = w.heap.size := ⟨_, rfl⟩
  rw [← hN] at hrz hg1 hcpA hcpB ⊢
  have HN : Hid (N = w.heap.size) := hN
  clear hN
  have hg2 : (W1.setRow N A1).heap[N]? = some (.cells A1 76 (0, 0)) := setRow_heap W1 N ROW A1 _ _ hg1
  have hcs2 : ∀ j v, cs[j]? = some v → (W1.setRow N A1).cell? ⟨g, j, none⟩ = some v := fun j v hj => (mod_setRowS W1 N A1).cell (hcs1 j v hj) (by dsimp only; have := HN.out; omega)
  obtain ⟨W2, hW2⟩ : ∃ W2, W2 = W1.setRow N A1 := ⟨_, rfl⟩
  rw [← hW2] at hg2 hcs2
  have HM2 : Hid (Mod (fun b => b = N) w W2) := by
    rw [Hid, hW2, HN.out]
    exact HM.out.trans (mod_setRowS _ _ _)
  have hcpA' := hcpA W1 hg1 hv1
  rw [← hW2] at hcpA'
  clear hW2 hcpA
  have hcpB' := hcpB W2.drew hg2 hcs2
  clear hcpB
  have hg3 : (W2.drew.setRow N A2).heap[N]? = some (.cells A2 76 (0, 0)) := setRow_heap W2.drew N A1 A2 _ _ hg2
  obtain ⟨W3, hW3⟩ : ∃ W3, W3 = W2.drew.setRow N A2 := ⟨_, rfl⟩
  rw [← hW3] at hg3 hcpB'
  have HM3 : Hid (Mod (fun _ => False) w W3) := by
    have h : Mod (fun b => b = N) w W3 := by
      rw [hW3]
      exact (HM2.out.trans (Mod.of_below (Below.drew (Below.refl _ _)))).trans (mod_setRowS _ _ _)
    exact ⟨h.os, h.tape, h.output, h.size, fun k hk _ => h.block k hk (by have := HN.out; omega)⟩
  clear hW3
  go_enter Tryz.func123, Tryz.ntmps123
  go_wp2_with (first
    | (at_builtin; refine Lib.wpList_append_run _ rfl _ _ _ _ rfl _ _ rfl rfl _ _ (hrz _) ?_)
    | (at_builtin; refine wpl_copyS _ rfl _ _ 56 56 rfl _ _ rfl rfl (hcpA' _ _) ?_))
  go_region_law (refine step_copyS rfl (.tmp 50) (.tmp 53) 56 56 rfl _ _ (by simp [Act.eval, Act.put]) (by simp [Act.eval, Act.put]) (hcpB' _ _ _ _ _ (by omega) (by omega)) ?_)
  go_wp2
  go_ret
  exact ⟨G, rfl, A2, hg3, HG.out.1, HG.out.2, HF.out.1, HF.out.2, HM3.out⟩
end Go.Proofs.YtncmdeijimgchaaGreat

