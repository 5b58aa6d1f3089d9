import Derived.Test.YtncmdeijimgchaaPrnPromiseAtLaw12
import Derived.Test.YtncmdeijimgchaaPrnPromiseAtLaw11
import Derived.BigQuiet
import Derived.Deep.QuietTactic
import Derived.Deep.RegionHeld3
import Derived.Test.YtncmdeijimgchaaPrnPromiseAtLaw14
import Derived.Test.YtncmdeijimgchaaPrnPromiseAtLaw13
import Derived.Test.YtncmdeijimgchaaPrnPromiseAtLaw10
import Derived.Deep.AppendLies

/-
  AcceptorFault, the program's.
-/
set_option linter.unusedSimpArgs false
set_option linter.unusedVariables false
namespace Go.Proofs.Ytncmdeijimgchaa
open Go.RowKit
set_option linter.unusedSectionVars false
variable [DecidableEq Vot] [Inhabited Vot] [DecidableEq Slt] [Inhabited Slt] [DecidableEq SltR] [Inhabited SltR] [DecidableEq Bal] [Inhabited Bal] [DecidableEq Ledg] [Inhabited Ledg] [DecidableEq Leg] [Inhabited Leg] [DecidableEq Acc] [Inhabited Acc] [DecidableEq AccR] [Inhabited AccR] [DecidableEq AccsR] [Inhabited AccsR] [DecidableEq SltsR] [Inhabited SltsR]
attribute [local go_sem ↓] Go.wp_at_zero Go.wp_at_succ

set_option maxRecDepth 20000 in
set_option maxHeartbeats 8000000 in
theorem implAccF_any (x : Value) (d : Acc) (w : World) (hx : accR.V w x d) :
    Calls Try.prog 93 #[x] w fun e w' => e = .returned (.int .i64 (accF d.slots)) ∧ Below w.heap.size w w' := by
  obtain ⟨u1, rfl, hx⟩ := hx
  obtain ⟨ax, cx, rfl, hcx, hmx, hx⟩ := hx
  unfold maxLen at hmx
  obtain ⟨xs⟩ := d
  dsimp only at hx hcx ⊢
  obtain ⟨n, hn'⟩ : ∃ n, n = xs.length := ⟨_, rfl⟩
  have HN : Hid (xs.length = n) := hn'.symm
  rw [← hn'] at hcx hx ⊢
  clear hn'
  by_cases h6 : 60 < n
  · have HC : Hid (accF xs = 2) := accF_many (by rw [HN.out]; exact h6)
    have h6' : (60 : Int) < n := by omega
    clear hx
    go_enter Try.func93, Try.ntmps93
    go_wp2
    go_ret
    exact ⟨by rw [HC.out]; rfl, by (repeat (first | exact Below.refl _ _ | assumption | refine Below.drew ?_ | refine balloc ?_ _ | refine bset ?_ (by simp; omega) _ | refine bset ?_ (by simp) _ | refine bstep ?_ (by assumption)))⟩
  have h6' : ¬ (60 : Int) < n := by omega
  have HH : Hid (∀ k c, k < n → scanI (accAt xs) k = 0 → accAt xs k = c → ¬ c = 0 → accF xs = c) := fun k c hk hs hc h0 => accF_hit (by rw [HN.out]; exact h6) (by rw [HN.out]; exact hk) hs hc h0
  have HE : Hid (scanI (accAt xs) n = 0 → accF xs = 0) := fun hs => accF_end (by rw [HN.out]; exact h6) (by rw [HN.out]; exact hs)
  clear h6
  go_enter Try.func93, Try.ntmps93
  go_wp2
  go_loopw [13] (fun i w' => ∃ k : Nat, k ≤ n ∧ i = .int .i64 k ∧ scanI (accAt xs) k = 0 ∧ w'.cell? ⟨w.heap.size, 0, none⟩ = some (.slice ax n cx) ∧ Below w.heap.size w w') (fun i _ => n - (intOf i).toNat)
  case atStart => exact ⟨0, Nat.zero_le _, rfl, rfl, by simp [go_sem], by (repeat (first | exact Below.refl _ _ | assumption | refine Below.drew ?_ | refine balloc ?_ _ | refine bset ?_ (by simp; omega) _ | refine bset ?_ (by simp) _ | refine bstep ?_ (by assumption)))⟩
  case round =>
    obtain ⟨k, hk, rfl, hs, hq, hbl⟩ := hrel
    have HS : Hid (scanI (accAt xs) k = 0) := hs
    clear hs
    by_cases hlt : k < n
    · obtain ⟨bxa, oxa, ua, rfl, _, pa, hva⟩ := hx k (by omega)
      obtain ⟨l, hla⟩ : ∃ l, l = xs.getD k default := ⟨_, rfl⟩
      rw [← hla] at hva
      have HLa : Hid (l = xs.getD k default) := hla
      clear hla
      have hVa := hva
      obtain ⟨sa, rfl, hca⟩ := hva
      obtain ⟨aua, cua, rfl⟩ := vots_form hca
      clear hca
      have ga0 : w.cell? ⟨bxa, oxa + k * 6, none⟩ = some (.int .i64 l.con) := pa 0 (by omega)
      have ga1 : w.cell? ⟨bxa, oxa + k * 6 + 1, none⟩ = some (.int .i64 l.sh) := pa 1 (by omega)
      have ga2 : w.cell? ⟨bxa, oxa + k * 6 + 2, none⟩ = some (.int .i64 l.pr) := pa 2 (by omega)
      have ga3 : w.cell? ⟨bxa, oxa + k * 6 + 3, none⟩ = some (.int .i64 l.lb) := pa 3 (by omega)
      have ga4 : w.cell? ⟨bxa, oxa + k * 6 + 4, none⟩ = some (.int .i64 l.lv) := pa 4 (by omega)
      have ga5 : w.cell? ⟨bxa, oxa + k * 6 + 5, none⟩ = some (.slice aua l.cast.length cua) := pa 5 (by omega)
      clear pa
      have HF : Hid (∀ W, Below w.heap.size w W → Calls Try.prog 133 #[.agg #[.int .i64 l.con, .int .i64 l.sh, .int .i64 l.pr, .int .i64 l.lb, .int .i64 l.lv, .slice aua l.cast.length cua]] W fun e w' => e = .returned (.int .i64 (sltFault l)) ∧ Below W.heap.size W w') := fun W h => implSlotF_any _ l W (sltR.below hVa h)
      clear hVa
      have hX : Hid (∀ i, i < n → ∃ b o u, some (⟨bxa, oxa, none⟩ : Addr) = some ⟨b, o, none⟩ ∧ (lvSlt u).length = 6 ∧ (∀ j, j < 6 → w.cell? ⟨b, o + i * 6 + j, none⟩ = (lvSlt u)[j]?) ∧ sltR.V w u (xs.getD i default)) := hx
      clear hx
      replace ga0 := cell_keep hbl ga0
      replace ga1 := cell_keep hbl ga1
      replace ga2 := cell_keep hbl ga2
      replace ga3 := cell_keep hbl ga3
      replace ga4 := cell_keep hbl ga4
      replace ga5 := cell_keep hbl ga5
      have zb : bxa < wr.heap.size := World.block_lt_of_cell? wr _ ga0
      have zq : w.heap.size < wr.heap.size := World.block_lt_of_cell? wr _ hq
      go_wp2_with fail
      refine (HF.out _ (by (repeat (first | exact Below.refl _ _ | assumption | refine Below.drew ?_ | refine balloc ?_ _ | refine bset ?_ (by simp; omega) _ | refine bset ?_ (by simp) _ | refine bstep ?_ (by assumption))))).mono ?_
      rintro e w1 ⟨rfl, hb1⟩
      have hB1 : Below w.heap.size w w1 := bstep (by (repeat (first | exact Below.refl _ _ | assumption | refine Below.drew ?_ | refine balloc ?_ _ | refine bset ?_ (by simp; omega) _ | refine bset ?_ (by simp) _ | refine bstep ?_ (by assumption)))) hb1
      have hq1 : w1.cell? ⟨w.heap.size, 0, none⟩ = some (.slice (some ⟨bxa, oxa, none⟩) n cx) := cell_keep hb1 (by simp [go_sem, hq, zq])
      have s0 : w1.cell? ⟨wr.heap.size, 0, none⟩ = some (.int .i64 l.con) := cell_keep hb1 (by simp [go_sem])
      have s1 : w1.cell? ⟨wr.heap.size, 1, none⟩ = some (.int .i64 l.sh) := cell_keep hb1 (by simp [go_sem])
      have s2 : w1.cell? ⟨wr.heap.size, 2, none⟩ = some (.int .i64 l.pr) := cell_keep hb1 (by simp [go_sem])
      have s3 : w1.cell? ⟨wr.heap.size, 3, none⟩ = some (.int .i64 l.lb) := cell_keep hb1 (by simp [go_sem])
      have s4 : w1.cell? ⟨wr.heap.size, 4, none⟩ = some (.int .i64 l.lv) := cell_keep hb1 (by simp [go_sem])
      have s5 : w1.cell? ⟨wr.heap.size, 5, none⟩ = some (.slice aua l.cast.length cua) := cell_keep hb1 (by simp [go_sem])
      replace ga0 := cell_keep hb1 (cell_keep (by (repeat (first | exact Below.refl _ _ | assumption | refine Below.drew ?_ | refine balloc ?_ _ | refine bset ?_ (by simp; omega) _ | refine bset ?_ (by simp) _ | refine bstep ?_ (by assumption)))) ga0)
      replace ga1 := cell_keep hb1 (cell_keep (by (repeat (first | exact Below.refl _ _ | assumption | refine Below.drew ?_ | refine balloc ?_ _ | refine bset ?_ (by simp; omega) _ | refine bset ?_ (by simp) _ | refine bstep ?_ (by assumption)))) ga1)
      replace ga2 := cell_keep hb1 (cell_keep (by (repeat (first | exact Below.refl _ _ | assumption | refine Below.drew ?_ | refine balloc ?_ _ | refine bset ?_ (by simp; omega) _ | refine bset ?_ (by simp) _ | refine bstep ?_ (by assumption)))) ga2)
      replace ga3 := cell_keep hb1 (cell_keep (by (repeat (first | exact Below.refl _ _ | assumption | refine Below.drew ?_ | refine balloc ?_ _ | refine bset ?_ (by simp; omega) _ | refine bset ?_ (by simp) _ | refine bstep ?_ (by assumption)))) ga3)
      replace ga4 := cell_keep hb1 (cell_keep (by (repeat (first | exact Below.refl _ _ | assumption | refine Below.drew ?_ | refine balloc ?_ _ | refine bset ?_ (by simp; omega) _ | refine bset ?_ (by simp) _ | refine bstep ?_ (by assumption)))) ga4)
      replace ga5 := cell_keep hb1 (cell_keep (by (repeat (first | exact Below.refl _ _ | assumption | refine Below.drew ?_ | refine balloc ?_ _ | refine bset ?_ (by simp; omega) _ | refine bset ?_ (by simp) _ | refine bstep ?_ (by assumption)))) ga5)
      clear hb1 hq
      have HX : Hid (accAt xs k = if sltFault l = 0 then (if k = 0 then 0 else if aheadS (xs.getD (k - 1) default) l = true then 0 else 1) else sltFault l) := by show _ = _; unfold accAt; rw [← HLa.out]
      by_cases hf : sltFault l = 0
      · rw [hf]
        have HX2 : Hid (accAt xs k = if k = 0 then 0 else if aheadS (xs.getD (k - 1) default) l = true then 0 else 1) := by show _ = _; rw [HX.out, if_pos hf]
        clear hf HX
        cases k with
        | zero =>
          have H0 : Hid (accAt xs 0 = 0) := by show _ = _; rw [HX2.out, if_pos rfl]
          clear HX2
          clear ga0 ga1 ga2 ga3 ga4 ga5 hX
          go_wp2
          go_quiet (fail)
          go_wp2
          exact ⟨⟨1, by omega, by go_num, scanI_succ HS.out H0.out, cell_keep (bdrewN (Below.refl _ _) _) hq1, bdrewN hB1 _⟩, by simp [intOf]; omega⟩
        | succ p =>
          have hx := hX.out
          clear hX
          have hxz := hx p (by omega)
          obtain ⟨bxz, oxz, uz, hez, _, pz, hvz⟩ := hxz
          simp only [Option.some.injEq, Addr.mk.injEq, and_true] at hez
          obtain ⟨rfl, rfl⟩ := hez
          obtain ⟨z, hlz⟩ : ∃ l, l = xs.getD p default := ⟨_, rfl⟩
          rw [← hlz] at hvz
          have HLz : Hid (z = xs.getD p default) := hlz
          clear hlz
          have hVz := hvz
          obtain ⟨sz, rfl, hcz⟩ := hvz
          obtain ⟨auz, cuz, rfl⟩ := vots_form hcz
          clear hcz
          have gz0 : w.cell? ⟨bxa, oxa + p * 6, none⟩ = some (.int .i64 z.con) := pz 0 (by omega)
          have gz1 : w.cell? ⟨bxa, oxa + p * 6 + 1, none⟩ = some (.int .i64 z.sh) := pz 1 (by omega)
          have gz2 : w.cell? ⟨bxa, oxa + p * 6 + 2, none⟩ = some (.int .i64 z.pr) := pz 2 (by omega)
          have gz3 : w.cell? ⟨bxa, oxa + p * 6 + 3, none⟩ = some (.int .i64 z.lb) := pz 3 (by omega)
          have gz4 : w.cell? ⟨bxa, oxa + p * 6 + 4, none⟩ = some (.int .i64 z.lv) := pz 4 (by omega)
          have gz5 : w.cell? ⟨bxa, oxa + p * 6 + 5, none⟩ = some (.slice auz z.cast.length cuz) := pz 5 (by omega)
          clear pz
          clear hx hVz
          replace gz0 := cell_keep hB1 gz0
          replace gz1 := cell_keep hB1 gz1
          replace gz2 := cell_keep hB1 gz2
          replace gz3 := cell_keep hB1 gz3
          replace gz4 := cell_keep hB1 gz4
          replace gz5 := cell_keep hB1 gz5
          have i1 : (p : Int) < (n : Int) := by omega
          have i2 : ((p + 1 : Nat) : Int) < (n : Int) := by omega
          have i3 : (0 : Int) < ((p + 1 : Nat) : Int) := by omega
          have i4 : decide (0 < p + 1) = true := decide_eq_true (by omega)
          have i5 : IntKind.i64.wrap (((p + 1 : Nat) : Int) - 1) = (p : Int) := by rw [IntKind.wrap_i64]; omega
          have i6 : (0 : Int) ≤ ((p + 1 : Nat) : Int) := by omega
          have i7 : (0 : Int) ≤ (p : Int) := by omega
          have i8 : (p : Int) + 1 < (n : Int) := by omega
          have i9 : (0 : Int) ≤ (p : Int) + 1 := by omega
          have i10 : ((p : Int) + 1).toNat = p + 1 := by omega
          have w1' : IntKind.i64.wrap (p : Int) = p := wrapId (by omega) (by omega)
          have HX3 : Hid (accAt xs (p + 1) = if aheadS z l = true then 0 else 1) := by show _ = _; rw [HX2.out, if_neg (by omega), Nat.add_sub_cancel, ← HLz.out]
          clear HX2
          obtain ⟨u, hu⟩ : ∃ u : Value, u = .slice aua l.cast.length cua := ⟨_, rfl⟩
          obtain ⟨u', hu'⟩ : ∃ u : Value, u = .slice auz z.cast.length cuz := ⟨_, rfl⟩
          have rA : w1.cell? ⟨wr.heap.size, 0, none⟩ = some (.int .i64 l.con) ∧ w1.cell? ⟨wr.heap.size, 0 + 1, none⟩ = some (.int .i64 l.sh) ∧ w1.cell? ⟨wr.heap.size, 0 + 2, none⟩ = some (.int .i64 l.pr) ∧ w1.cell? ⟨wr.heap.size, 0 + 3, none⟩ = some (.int .i64 l.lb) ∧ w1.cell? ⟨wr.heap.size, 0 + 4, none⟩ = some (.int .i64 l.lv) ∧ w1.cell? ⟨wr.heap.size, 0 + 5, none⟩ = some (.slice aua l.cast.length cua) := ⟨s0, s1, s2, s3, s4, s5⟩
          have rZ : w1.cell? ⟨bxa, oxa + p * 6, none⟩ = some (.int .i64 z.con) ∧ w1.cell? ⟨bxa, oxa + p * 6 + 1, none⟩ = some (.int .i64 z.sh) ∧ w1.cell? ⟨bxa, oxa + p * 6 + 2, none⟩ = some (.int .i64 z.pr) ∧ w1.cell? ⟨bxa, oxa + p * 6 + 3, none⟩ = some (.int .i64 z.lb) ∧ w1.cell? ⟨bxa, oxa + p * 6 + 4, none⟩ = some (.int .i64 z.lv) ∧ w1.cell? ⟨bxa, oxa + p * 6 + 5, none⟩ = some (.slice auz z.cast.length cuz) := ⟨gz0, gz1, gz2, gz3, gz4, gz5⟩
          clear ga0 gz0 s0 ga1 gz1 s1 ga2 gz2 s2 ga3 gz3 s3 ga4 gz4 s4 ga5 gz5 s5 hu hu'
          cases hah : aheadS z l
          · have hah' : aheadS z l = false := hah
            have hge : decide (0 ≤ cmpS z l) = true := by unfold aheadS at hah; have h' := of_decide_eq_false hah; exact decide_eq_true (by omega)
            have hg2 : 0 ≤ cmpS z l := of_decide_eq_true hge
            have HAH : Hid (aheadS z l = false) := hah'
            clear hah'
            go_wp2
            go_region_held3 (fun W => Below w1.heap.size w1 W ∧ (W.cell? ⟨wr.heap.size, 0, none⟩ = some (.int .i64 l.con) ∧ W.cell? ⟨wr.heap.size, 0 + 1, none⟩ = some (.int .i64 l.sh) ∧ W.cell? ⟨wr.heap.size, 0 + 2, none⟩ = some (.int .i64 l.pr) ∧ W.cell? ⟨wr.heap.size, 0 + 3, none⟩ = some (.int .i64 l.lb) ∧ W.cell? ⟨wr.heap.size, 0 + 4, none⟩ = some (.int .i64 l.lv) ∧ W.cell? ⟨wr.heap.size, 0 + 5, none⟩ = some (.slice aua l.cast.length cua)) ∧ (W.cell? ⟨bxa, oxa + p * 6, none⟩ = some (.int .i64 z.con) ∧ W.cell? ⟨bxa, oxa + p * 6 + 1, none⟩ = some (.int .i64 z.sh) ∧ W.cell? ⟨bxa, oxa + p * 6 + 2, none⟩ = some (.int .i64 z.pr) ∧ W.cell? ⟨bxa, oxa + p * 6 + 3, none⟩ = some (.int .i64 z.lb) ∧ W.cell? ⟨bxa, oxa + p * 6 + 4, none⟩ = some (.int .i64 z.lv) ∧ W.cell? ⟨bxa, oxa + p * 6 + 5, none⟩ = some (.slice auz z.cast.length cuz)) ∧ W.cell? ⟨w.heap.size, 0, none⟩ = some (.slice (some ⟨bxa, oxa, none⟩) n cx)) ((refine sltKeep3 ?_ rA rZ hq1; repeat (first | exact Below.refl _ _ | assumption | refine Below.drew ?_ | refine balloc ?_ _ | refine bstep ?_ (by assumption)))) (first | (go_at_call 134; refine (compareSlots_any z l _ _ _).mono ?_; rintro e wa ⟨rfl, hb2⟩))
            rename_i hH
            have hB2 := bstep hB1 hH.1
            have hq2 := hH.2.2.2
            clear hH
            have HC : Hid (accF xs = 1) := HH.out (p + 1) 1 hlt HS.out (by rw [HX3.out, HAH.out]; rfl) (by omega)
            go_wp2
            go_ret
            exact ⟨by rw [HC.out]; rfl, hB2⟩
          · have hah' : aheadS z l = true := hah
            have hge : decide (0 ≤ cmpS z l) = false := by unfold aheadS at hah; have h' := of_decide_eq_true hah; exact decide_eq_false (by omega)
            have hg2 : ¬ 0 ≤ cmpS z l := of_decide_eq_false hge
            have HAH : Hid (aheadS z l = true) := hah'
            clear hah'
            go_wp2
            go_region_held3 (fun W => Below w1.heap.size w1 W ∧ (W.cell? ⟨wr.heap.size, 0, none⟩ = some (.int .i64 l.con) ∧ W.cell? ⟨wr.heap.size, 0 + 1, none⟩ = some (.int .i64 l.sh) ∧ W.cell? ⟨wr.heap.size, 0 + 2, none⟩ = some (.int .i64 l.pr) ∧ W.cell? ⟨wr.heap.size, 0 + 3, none⟩ = some (.int .i64 l.lb) ∧ W.cell? ⟨wr.heap.size, 0 + 4, none⟩ = some (.int .i64 l.lv) ∧ W.cell? ⟨wr.heap.size, 0 + 5, none⟩ = some (.slice aua l.cast.length cua)) ∧ (W.cell? ⟨bxa, oxa + p * 6, none⟩ = some (.int .i64 z.con) ∧ W.cell? ⟨bxa, oxa + p * 6 + 1, none⟩ = some (.int .i64 z.sh) ∧ W.cell? ⟨bxa, oxa + p * 6 + 2, none⟩ = some (.int .i64 z.pr) ∧ W.cell? ⟨bxa, oxa + p * 6 + 3, none⟩ = some (.int .i64 z.lb) ∧ W.cell? ⟨bxa, oxa + p * 6 + 4, none⟩ = some (.int .i64 z.lv) ∧ W.cell? ⟨bxa, oxa + p * 6 + 5, none⟩ = some (.slice auz z.cast.length cuz)) ∧ W.cell? ⟨w.heap.size, 0, none⟩ = some (.slice (some ⟨bxa, oxa, none⟩) n cx)) ((refine sltKeep3 ?_ rA rZ hq1; repeat (first | exact Below.refl _ _ | assumption | refine Below.drew ?_ | refine balloc ?_ _ | refine bstep ?_ (by assumption)))) (first | (go_at_call 134; refine (compareSlots_any z l _ _ _).mono ?_; rintro e wa ⟨rfl, hb2⟩))
            rename_i hH
            have hB2 := bstep hB1 hH.1
            have hq2 := hH.2.2.2
            clear hH
            have H0 : Hid (accAt xs (p + 1) = 0) := by show _ = _; rw [HX3.out, HAH.out]; rfl
            go_wp2
            exact ⟨⟨p + 1 + 1, by omega, by go_num, scanI_succ HS.out H0.out, hq2, hB2⟩, by simp [intOf]; omega⟩
      · have HC : Hid (accF xs = sltFault l) := HH.out k _ hlt HS.out (by rw [HX.out, if_neg hf]) hf
        clear HX hX
        generalize sltFault l = c at *
        go_wp2
        go_ret
        exact ⟨by rw [HC.out]; rfl, hB1⟩
    · have hkn : k = n := by omega
      subst hkn
      have HC : Hid (accF xs = 0) := HE.out HS.out
      go_wp2
      go_ret
      exact ⟨by rw [HC.out]; rfl, by (repeat (first | exact Below.refl _ _ | assumption | refine Below.drew ?_ | refine balloc ?_ _ | refine bset ?_ (by simp; omega) _ | refine bset ?_ (by simp) _ | refine bstep ?_ (by assumption)))⟩
end Go.Proofs.Ytncmdeijimgchaa

/-
  askAt, the program's.
-/
set_option linter.unusedSimpArgs false
set_option linter.unusedVariables false
namespace Go.Proofs.Ytncmdeijimgchaa
open Go.RowKit
set_option linter.unusedSectionVars false
variable [DecidableEq Vot] [Inhabited Vot] [DecidableEq Slt] [Inhabited Slt] [DecidableEq Bal] [Inhabited Bal] [DecidableEq Ledg] [Inhabited Ledg] [DecidableEq Leg] [Inhabited Leg] [DecidableEq Acc] [Inhabited Acc] [DecidableEq SltR] [Inhabited SltR] [DecidableEq AccR] [Inhabited AccR] [DecidableEq AccsR] [Inhabited AccsR] [DecidableEq SltsR] [Inhabited SltsR]
attribute [local go_sem ↓] Go.wp_at_zero Go.wp_at_succ

set_option maxRecDepth 20000 in
set_option maxHeartbeats 4000000 in
theorem askAt_u (ans : Slt → SltR) (qv : Value) (hans : ∀ (W : World) (x : Value) (d : Slt), sltR.V W x d → sltFault d = 0 → Calls Try.prog 107 #[x, qv] W fun e w' => ∃ v F, e = .returned v ∧ sltRR.O w' W.heap.size F v (ans d) ∧ Below W.heap.size W w')
    (x : Value) (d : Acc) (c s : Int) (w : World) (hx : accR.V w x d) :
    Calls Try.prog 70 #[x, .int .i64 c, .int .i64 s, qv] w (AskE (askD ans d.slots c s) w) := by
  have hX := hx
  obtain ⟨u1, rfl, hx⟩ := hx
  obtain ⟨xs⟩ := d
  dsimp only at hx hX ⊢
  have HAF : Hid (∀ W, Below w.heap.size w W → Calls Try.prog 93 #[.agg #[u1]] W fun e w' => e = .returned (.int .i64 (accF xs)) ∧ Below W.heap.size W w') := fun W hW => implAccF_any _ ⟨xs⟩ W (accR.below hX hW)
  have HSo : Hid (∀ W y q, Below w.heap.size w W → AccOk xs → sltR.V W y q → Calls Try.prog 95 #[.agg #[u1], y] W fun e w' => ∃ v, e = .returned v ∧ sltR.V w' v (slotO xs q) ∧ Below W.heap.size W w') := fun W y q hW hok hy => slotOr_any _ y ⟨xs⟩ q W (accR.below hX hW) hy hok
  have HWs : Hid (∀ W r p q base F, Below w.heap.size w W → AccOk xs → sltR.O W base F (.agg #[.int .i64 r.con, .int .i64 r.sh, .int .i64 r.pr, .int .i64 r.lb, .int .i64 r.lv, .slice p r.cast.length q]) r → base ≤ W.heap.size → Calls Try.prog 108 #[.agg #[u1], .agg #[.int .i64 r.con, .int .i64 r.sh, .int .i64 r.pr, .int .i64 r.lb, .int .i64 r.lv, .slice p r.cast.length q]] W fun e w' => ∃ v F, e = .returned v ∧ accR.O w' base F v ⟨putS xs r⟩ ∧ Below W.heap.size W w') := fun W r p q base F hW hok hu hb => withSlot_u _ ⟨xs⟩ r p q base F W (accR.below hX hW) hok hu hb (accOk_cast hok)
  have HAns : Hid (∀ (W : World) (x : Value) (d : Slt), sltR.V W x d → sltFault d = 0 → Calls Try.prog 107 #[x, qv] W fun e w' => ∃ v F, e = .returned v ∧ sltRR.O w' W.heap.size F v (ans d) ∧ Below W.heap.size W w') := hans
  clear hX hans
  obtain ⟨au, cu, rfl⟩ := slts_form hx
  clear hx
  generalize xs.length = n at *
  go_enter Try.func70, Try.ntmps70
  go_wp2_with fail
  refine (HAF.out _ (by (repeat (first | exact Below.refl _ _ | assumption | refine Below.drew ?_ | refine balloc ?_ _ | refine bset ?_ (by simp; omega) _ | refine bset ?_ (by simp) _ | refine bstep ?_ (by assumption))))).mono ?_
  rintro e w1 ⟨rfl, hb1⟩
  have hB1 : Below w.heap.size w w1 := by (repeat (first | exact Below.refl _ _ | assumption | refine Below.drew ?_ | refine balloc ?_ _ | refine bset ?_ (by simp; omega) _ | refine bset ?_ (by simp) _ | refine bstep ?_ (by assumption)))
  have hz1 := hb1.size
  simp at hz1
  obtain ⟨c1, f1⟩ := bcell hb1
  have y0 : w1.cell? ⟨w.heap.size, 0, none⟩ = some (.slice au n cu) := cell_keep hb1 (by simp [go_sem])
  have r0 : w1.cell? ⟨w.heap.size + 1, 0, none⟩ = some (.int .i64 0) := cell_keep hb1 (by simp [go_sem])
  have r1 : w1.cell? ⟨w.heap.size + 1, 1, none⟩ = some (.int .i64 0) := cell_keep hb1 (by simp [go_sem])
  have r2 : w1.cell? ⟨w.heap.size + 1, 2, none⟩ = some (.int .i64 0) := cell_keep hb1 (by simp [go_sem])
  have r3 : w1.cell? ⟨w.heap.size + 1, 3, none⟩ = some (.slice none 0 0) := cell_keep hb1 (by simp [go_sem])
  have rf : ∀ o, w1.frozen? ⟨w.heap.size + 1, o, none⟩ = false := fun o => by rw [f1 _ _ (by simp; try omega)]; simp [go_sem]
  clear hb1 c1 f1 HAF
  by_cases hf : accF xs = 0
  rotate_left
  · have HC : Hid (askD ans xs c s = errA (accF xs)) := by show _ = _; unfold askD; rw [if_neg hf]
    clear HSo HWs HAns
    generalize accF xs = k at *
    go_wp2
    refine bodyPost_ret (v := .agg #[.int .i64 k, .int .i64 0, .int .i64 0, .slice none 0 0]) (by simp [results, Try.results70, go_sem, r0, r1, r2, r3, rf]) rfl (askE_err HC.out (by (repeat (first | refine bset ?_ (by simp; omega) _ | refine bset ?_ (by simp) _ | refine balloc ?_ _ | assumption))))
  rw [hf]
  have HOK : Hid (AccOk xs) := accOk_of hf
  have HF : Hid (accF xs = 0) := hf
  clear hf
  cases hid : idOk c s
  · have HC : Hid (askD ans xs c s = errA 3) := by show _ = _; unfold askD; rw [if_pos HF.out, hid]; rfl
    have HNw : Hid (∀ W, Calls Try.prog 55 #[.int .i64 c, .int .i64 s] W (NewB W)) := fun W => implNew_bad c s W hid
    clear HSo HWs HAns hid
    go_wp2_with fail
    refine (HNw.out _).mono ?_
    rintro e w2 ⟨rfl, hb2⟩
    have hB2 : Below w.heap.size w w2 := bstep hB1 hb2
    have hz2 := hb2.size
    replace y0 := cell_keep hb2 y0
    replace r0 := cell_keep hb2 r0
    replace r1 := cell_keep hb2 r1
    replace r2 := cell_keep hb2 r2
    replace r3 := cell_keep hb2 r3
    replace rf : ∀ o, w2.frozen? ⟨w.heap.size + 1, o, none⟩ = false := fun o => by rw [(bcell hb2).2 _ _ (by omega)]; exact rf o
    clear hb2
    have zr : w.heap.size + 1 < w2.heap.size := World.block_lt_of_cell? w2 _ r0
    go_wp2
    refine bodyPost_ret (v := .agg #[.int .i64 3, .int .i64 0, .int .i64 0, .slice none 0 0]) (by simp [results, Try.results70, go_sem, r0, r1, r2, r3, rf, zr, Nat.ne_of_lt zr]) rfl (askE_err HC.out (by (repeat (first | refine bset ?_ (by simp; omega) _ | refine bset ?_ (by simp) _ | refine balloc ?_ _ | assumption))))
  have HD : Hid (∀ r, ans (slotO xs (freS c s)) = r → askD ans xs c s = toldD xs r) := fun r h => by unfold askD; rw [if_pos HF.out, hid, if_pos rfl, h]
  have HSF : Hid (sltFault (slotO xs (freS c s)) = 0) := slotO_ok HOK.out hid
  have HNw : Hid (∀ W, Calls Try.prog 55 #[.int .i64 c, .int .i64 s] W (NewE c s W)) := fun W => implNew_ok c s W hid
  clear hid HF
  go_wp2_with fail
  refine (HNw.out _).mono ?_
  rintro e w2 ⟨p2, q2, F2, rfl, o2, hb2⟩
  have hB2 : Below w.heap.size w w2 := bstep hB1 hb2
  have hz2 := hb2.size
  have HV2 : Hid (∀ W, Below w2.heap.size w2 W → sltR.V W (.agg #[.int .i64 c, .int .i64 s, .int .i64 (-1), .int .i64 (-1), .int .i64 0, .slice p2 0 q2]) (freS c s)) := fun W hW => sltR.below (sltR.ofO o2) hW
  replace y0 := cell_keep hb2 y0
  replace r0 := cell_keep hb2 r0
  replace r1 := cell_keep hb2 r1
  replace r2 := cell_keep hb2 r2
  replace r3 := cell_keep hb2 r3
  replace rf : ∀ o, w2.frozen? ⟨w.heap.size + 1, o, none⟩ = false := fun o => by rw [(bcell hb2).2 _ _ (by omega)]; exact rf o
  clear hb2 o2 HNw
  have zy : w.heap.size < w2.heap.size := World.block_lt_of_cell? w2 _ y0
  have zr : w.heap.size + 1 < w2.heap.size := World.block_lt_of_cell? w2 _ r0
  go_wp2_with fail
  refine (HSo.out _ _ _ (by (repeat (first | exact Below.refl _ _ | assumption | refine Below.drew ?_ | refine balloc ?_ _ | refine bset ?_ (by simp; omega) _ | refine bset ?_ (by simp) _ | refine bstep ?_ (by assumption)))) HOK.out (HV2.out _ (by (repeat (first | exact Below.refl _ _ | assumption | refine Below.drew ?_ | refine balloc ?_ _ | refine bset ?_ (by simp; omega) _ | refine bset ?_ (by simp) _ | refine bstep ?_ (by assumption)))))).mono ?_
  rintro e w3 ⟨v3, rfl, hv3, hb3⟩
  have hB23 : Below w2.heap.size w2 w3 := by (repeat (first | exact Below.refl _ _ | assumption | refine Below.drew ?_ | refine balloc ?_ _ | refine bset ?_ (by simp; omega) _ | refine bset ?_ (by simp) _ | refine bstep ?_ (by assumption)))
  have hB3 : Below w.heap.size w w3 := bstep hB2 hB23
  have hz3 := hb3.size
  simp at hz3
  replace y0 := cell_keep hB23 y0
  replace r0 := cell_keep hB23 r0
  replace r1 := cell_keep hB23 r1
  replace r2 := cell_keep hB23 r2
  replace r3 := cell_keep hB23 r3
  replace rf : ∀ o, w3.frozen? ⟨w.heap.size + 1, o, none⟩ = false := fun o => by rw [(bcell hB23).2 _ _ (by omega)]; exact rf o
  have HA3 : Hid (∀ W, Below w3.heap.size w3 W → Calls Try.prog 107 #[v3, qv] W fun e w' => ∃ v F, e = .returned v ∧ sltRR.O w' W.heap.size F v (ans (slotO xs (freS c s))) ∧ Below W.heap.size W w') := fun W hW => HAns.out W v3 _ (sltR.below hv3 hW) HSF.out
  clear hb3 hB23 hv3 HSo HAns HV2 HSF
  go_wp2_with fail
  refine (HA3.out _ (by (repeat (first | exact Below.refl _ _ | assumption | refine Below.drew ?_ | refine balloc ?_ _ | refine bset ?_ (by simp; omega) _ | refine bset ?_ (by simp) _ | refine bstep ?_ (by assumption))))).mono ?_
  rintro e w4 ⟨v4, F4, rfl, o4, hb4⟩
  obtain ⟨r, hr⟩ : ∃ r, r = ans (slotO xs (freS c s)) := ⟨_, rfl⟩
  rw [← hr] at o4
  have HDr : Hid (askD ans xs c s = toldD xs r) := HD.out r hr.symm
  clear hr HD HA3
  obtain ⟨p4, q4, rfl, o4s⟩ := sltR_cells o4
  have HO4 : Hid (sltR.O w4 (w.heap.size + 2) F4 (.agg #[.int .i64 r.slot.con, .int .i64 r.slot.sh, .int .i64 r.slot.pr, .int .i64 r.slot.lb, .int .i64 r.slot.lv, .slice p4 r.slot.cast.length q4]) r.slot) := sltR.base o4s (by omega)
  have hB34 : Below w3.heap.size w3 w4 := by (repeat (first | exact Below.refl _ _ | assumption | refine Below.drew ?_ | refine balloc ?_ _ | refine bset ?_ (by simp; omega) _ | refine bset ?_ (by simp) _ | refine bstep ?_ (by assumption)))
  have hB4 : Below w.heap.size w w4 := bstep hB3 hB34
  have hz4 := hb4.size
  replace y0 := cell_keep hB34 y0
  replace r0 := cell_keep hB34 r0
  replace r1 := cell_keep hB34 r1
  replace r2 := cell_keep hB34 r2
  replace r3 := cell_keep hB34 r3
  replace rf : ∀ o, w4.frozen? ⟨w.heap.size + 1, o, none⟩ = false := fun o => by rw [(bcell hB34).2 _ _ (by omega)]; exact rf o
  clear hb4 o4 o4s hB34
  have zy4 : w.heap.size < w4.heap.size := World.block_lt_of_cell? w4 _ y0
  have zr4 : w.heap.size + 1 < w4.heap.size := World.block_lt_of_cell? w4 _ r0
  by_cases hc : r.code = 0
  rotate_left
  · have HC : Hid (askD ans xs c s = errA r.code) := by show _ = _; rw [HDr.out, toldD_code hc]
    have hc' : ((r.code : Int) != 0) = true := by simp [hc]
    clear HWs HO4 HDr
    generalize r.code = k at *
    go_wp2
    refine bodyPost_ret (v := .agg #[.int .i64 k, .int .i64 0, .int .i64 0, .slice none 0 0]) (by simp [results, Try.results70, go_sem, r0, r1, r2, r3, rf, zr4, Nat.ne_of_lt zr4]) rfl (askE_err HC.out (by (repeat (first | refine bset ?_ (by simp; omega) _ | refine bset ?_ (by simp) _ | refine balloc ?_ _ | assumption))))
  rw [hc]
  have HWr : Hid (∀ W, Below w4.heap.size w4 W → Calls Try.prog 108 #[.agg #[.slice au n cu], .agg #[.int .i64 r.slot.con, .int .i64 r.slot.sh, .int .i64 r.slot.pr, .int .i64 r.slot.lb, .int .i64 r.slot.lv, .slice p4 r.slot.cast.length q4]] W fun e w' => ∃ v F, e = .returned v ∧ accR.O w' (w.heap.size + 2) F v ⟨putS xs r.slot⟩ ∧ Below W.heap.size W w') := fun W hW => HWs.out W r.slot p4 q4 (w.heap.size + 2) F4 (bstep hB4 hW) HOK.out (sltR.keep HO4.out hW) (by have := hW.size; omega)
  have HCode : Hid (r.code = 0) := hc
  clear hc HWs HO4
  obtain ⟨ys, hys⟩ : ∃ ys, ys = putS xs r.slot := ⟨_, rfl⟩
  rw [← hys] at HWr
  have HYS : Hid (ys = putS xs r.slot) := hys
  clear hys
  obtain ⟨sl, hsl⟩ : ∃ sl, sl = r.slot := ⟨_, rfl⟩
  rw [← hsl] at HWr HYS ⊢
  have HSL : Hid (sl = r.slot) := hsl
  clear hsl
  obtain ⟨ob, hob⟩ : ∃ ob, ob = r.ob := ⟨_, rfl⟩
  obtain ⟨ov, hov⟩ : ∃ ov, ov = r.ov := ⟨_, rfl⟩
  have HOB : Hid (ob = r.ob ∧ ov = r.ov) := ⟨hob, hov⟩
  rw [← hob, ← hov]
  clear hob hov
  go_wp2_with fail
  refine (HWr.out _ (by (repeat (first | exact Below.refl _ _ | assumption | refine Below.drew ?_ | refine balloc ?_ _ | refine bset ?_ (by simp; omega) _ | refine bset ?_ (by simp) _ | refine bstep ?_ (by assumption))))).mono ?_
  rintro e w5 ⟨v5, F5, rfl, o5, hb5⟩
  obtain ⟨a5, c5, rfl, _⟩ := acc_cells o5
  have HO5 : Hid (accR.O w5 (w.heap.size + 2) F5 (.agg #[.slice a5 ys.length c5]) ⟨ys⟩) := o5
  have hB45 : Below w4.heap.size w4 w5 := by (repeat (first | exact Below.refl _ _ | assumption | refine Below.drew ?_ | refine balloc ?_ _ | refine bset ?_ (by simp; omega) _ | refine bset ?_ (by simp) _ | refine bstep ?_ (by assumption)))
  have hB5 : Below w.heap.size w w5 := bstep hB4 hB45
  have hz5 := hb5.size
  simp at hz5
  have b1 : w5.cell? ⟨w4.heap.size, 1, none⟩ = some (.int .i64 ob) := cell_keep hb5 (by simp [go_sem])
  have b2 : w5.cell? ⟨w4.heap.size, 2, none⟩ = some (.int .i64 ov) := cell_keep hb5 (by simp [go_sem])
  replace y0 := cell_keep hB45 y0
  replace r0 := cell_keep hB45 r0
  replace r1 := cell_keep hB45 r1
  replace r2 := cell_keep hB45 r2
  replace r3 := cell_keep hB45 r3
  replace rf : ∀ o, w5.frozen? ⟨w.heap.size + 1, o, none⟩ = false := fun o => by rw [(bcell hB45).2 _ _ (by omega)]; exact rf o
  clear hb5 o5 HWr hB45
  dsimp only
  have HT : Hid (∀ m, ys.length = m → (60 < m → askD ans xs c s = errA 2) ∧ (¬ 60 < m → askD ans xs c s = ⟨0, ob, ov, ⟨ys⟩⟩)) := fun m hm => by
    subst hm
    refine ⟨fun h => ?_, fun h => ?_⟩
    · rw [HDr.out, toldD_many HCode.out (by rw [← HSL.out, ← HYS.out]; exact h)]
    · rw [HDr.out, toldD_ok HCode.out (by rw [← HSL.out, ← HYS.out]; exact h), ← HSL.out, ← HYS.out, HOB.out.1, HOB.out.2]
  have hlen : ys.length ≤ 61 := by
    have h1 := HOK.out.len
    have h2 := putS_len xs sl
    rw [← HYS.out] at h2
    omega
  have HFl : Hid (∀ b, F5 b → w.heap.size + 2 ≤ b) := fun b hb => (accR.rng HO5.out b hb).1
  obtain ⟨m, hm⟩ : ∃ m, m = ys.length := ⟨_, rfl⟩
  rw [← hm] at hlen HO5 ⊢
  have HT2 := HT.out m hm.symm
  clear hm HT
  have zy5 : w.heap.size < w5.heap.size := World.block_lt_of_cell? w5 _ y0
  have zr5 : w.heap.size + 1 < w5.heap.size := World.block_lt_of_cell? w5 _ r0
  have zb5 : w4.heap.size < w5.heap.size := World.block_lt_of_cell? w5 _ b1
  by_cases h6 : 60 < m
  · have HC : Hid (askD ans xs c s = errA 2) := HT2.1 h6
    have h6' : (60 : Int) < m := by omega
    clear HT2 HO5
    go_wp2
    refine bodyPost_ret (v := .agg #[.int .i64 2, .int .i64 0, .int .i64 0, .slice none 0 0]) (by simp [results, Try.results70, go_sem, r0, r1, r2, r3, rf, zr5, Nat.ne_of_lt zr5]) rfl (askE_err HC.out (by (repeat (first | refine bset ?_ (by simp; omega) _ | refine bset ?_ (by simp) _ | refine balloc ?_ _ | assumption))))
  · have HC : Hid (askD ans xs c s = ⟨0, ob, ov, ⟨ys⟩⟩) := HT2.2 h6
    have h6' : ¬ (60 : Int) < m := by omega
    clear HT2
    go_wp2
    refine bodyPost_ret (v := .agg #[.int .i64 0, .int .i64 ob, .int .i64 ov, .slice a5 m c5]) (by simp [results, Try.results70, go_sem, r0, r1, r2, r3, rf, zr5, Nat.ne_of_lt zr5]) rfl ?_
    refine ⟨_, F5, rfl, ?_, by (repeat (first | refine bset ?_ (by simp; omega) _ | refine bset ?_ (by simp) _ | refine balloc ?_ _ | assumption))⟩
    rw [HC.out]
    refine ⟨_, F5, rfl, ?_, fun b => Iff.rfl⟩
    have hO : accR.O w5 w.heap.size F5 (.agg #[.slice a5 m c5]) ⟨ys⟩ := accR.base HO5.out (by omega)
    have hk : ∀ (W : World) (u : Value) (j : Nat), accR.O W w.heap.size F5 (.agg #[.slice a5 m c5]) ⟨ys⟩ → accR.O (W.setCell ⟨w.heap.size + 1, j, none⟩ u) w.heap.size F5 (.agg #[.slice a5 m c5]) ⟨ys⟩ := fun W u j h => Rep.setN _ h u (fun hb => by have := HFl.out _ hb; dsimp only at this; omega)
    exact accR.alloc (hk _ _ _ (hk _ _ _ (hk _ _ _ (hk _ _ _ hO)))) _
end Go.Proofs.Ytncmdeijimgchaa

/-
  AcceptSlot, the program's: what is asked of a slot's box.
-/
set_option linter.unusedSimpArgs false
set_option linter.unusedVariables false
namespace Go.Proofs.Ytncmdeijimgchaa
open Go.RowKit
set_option linter.unusedSectionVars false
variable [DecidableEq Vot] [Inhabited Vot] [DecidableEq Slt] [Inhabited Slt] [DecidableEq SltR] [Inhabited SltR] [DecidableEq Bal] [Inhabited Bal] [DecidableEq Ledg] [Inhabited Ledg] [DecidableEq Leg] [Inhabited Leg]
attribute [local go_sem ↓] Go.wp_at_zero Go.wp_at_succ

theorem promise_busy (B : Nat) (p b : Int) (w : World) (h2 : w.cell? ⟨B, 2, none⟩ = some (.int .i64 p)) (h : b < p) :
    Calls Try.prog 141 #[.pointer (some ⟨B, 0, none⟩), .int .i64 b] w fun e w' => e = .returned (.int .i64 8) ∧ w' = w := by
  go_enter Try.func141, Try.ntmps141
  go_wp2
  go_ret
  exact ⟨rfl, rfl⟩
theorem promise_ok (B : Nat) (p b : Int) (w : World) (h2 : w.cell? ⟨B, 2, none⟩ = some (.int .i64 p)) (hf : ∀ o, w.frozen? ⟨B, o, none⟩ = false) (h : ¬ b < p) :
    Calls Try.prog 141 #[.pointer (some ⟨B, 0, none⟩), .int .i64 b] w fun e w' => e = .returned (.int .i64 0) ∧ w' = w.setCell ⟨B, 2, none⟩ (.int .i64 b) := by
  go_enter Try.func141, Try.ntmps141
  go_wp2
  go_ret
  exact ⟨rfl, rfl⟩
end Go.Proofs.Ytncmdeijimgchaa

/-
  PromiseSlot, AcceptSlot, the program's: who answers.
-/
set_option linter.unusedSimpArgs false
set_option linter.unusedVariables false
namespace Go.Proofs.Ytncmdeijimgchaa
open Go.RowKit
set_option linter.unusedSectionVars false
variable [DecidableEq Vot] [Inhabited Vot] [DecidableEq Slt] [Inhabited Slt] [DecidableEq SltR] [Inhabited SltR] [DecidableEq Bal] [Inhabited Bal] [DecidableEq Ledg] [Inhabited Ledg] [DecidableEq Leg] [Inhabited Leg]
attribute [local go_sem ↓] Go.wp_at_zero Go.wp_at_succ

theorem isRightP_any (b : Int) (w : World) : Calls Try.prog 198 #[.int .i64 b] w fun e w' => e = .returned (.bool (inB b 0 1000)) ∧ w' = w := by
  go_enter Try.func198, Try.ntmps198
  go_wp2_with (go_at_call 132; refine (isBallot_any _ _).mono ?_; rintro e w' ⟨rfl, rfl⟩)
  go_ret
  exact ⟨rfl, rfl⟩
theorem methP (b : Int) (w : World) : (method 344 122 (.int .i64 b) "loop.example/g00203/impl.isRight").run Try.prog w = .ok (198, .int .i64 b) w := by kernel_rfl
theorem taP (b : Int) (w : World) : (Instr.typeAssert (.iface 122 (.int .i64 b)) 159 122 true).run Try.prog w = .ok (.tuple #[.int .i64 b, .bool true]) w := by kernel_rfl
set_option maxRecDepth 100000 in
set_option maxHeartbeats 4000000 in
theorem answerP_u (x : Value) (d : Slt) (b : Int) (w : World) (hx : sltR.V w x d) (hf : sltFault d = 0) :
    Calls Try.prog 107 #[x, .iface 122 (.int .i64 b)] w fun e w' => ∃ v F, e = .returned v ∧ sltRR.O w' w.heap.size F v (promD d b) ∧ Below w.heap.size w w' := by
  have hX := hx
  obtain ⟨u1, rfl, hx⟩ := hx
  obtain ⟨ax, cx, rfl⟩ := vots_form hx
  clear hx
  have hm := methP b
  have ht := taP b
  have hl := (sltOk_of hf).len
  cases h1 : inB b 0 1000
  · have HD : Hid (promD d b = errS 3) := promD_range hf h1
    go_enter Try.func107, Try.ntmps107
    go_wp2_with (go_at_call 198; refine (isRightP_any _ _).mono ?_; rintro e w' ⟨rfl, hw'⟩; obtain rfl := hw'.symm; rw [h1])
    refine bodyPost_ret (v := .agg #[.int .i64 3, .int .i64 0, .int .i64 0, .int .i64 0, .int .i64 0, .int .i64 0, .int .i64 0, .int .i64 0, .slice none 0 0]) (by simp [results, Try.results107, go_sem]) rfl ?_
    rw [HD.out]
    exact ⟨_, _, rfl, sltR_nil _ _ 3 0 0 0 0 0 0 0, by (repeat (first | exact Below.refl _ _ | assumption | refine Below.drew ?_ | refine balloc ?_ _ | refine bset ?_ (by simp; omega) _ | refine bset ?_ (by simp) _ | refine bstep ?_ (by assumption)))⟩
  · have HF : Hid (sltFault d = 0) := hf
    clear hf
    go_enter Try.func107, Try.ntmps107
    go_wp2_with (first | (go_at_call 198; refine (isRightP_any _ _).mono ?_; rintro e w' ⟨rfl, hw'⟩; obtain rfl := hw'.symm; rw [h1]) | fail)
    refine (copied8_u _ d _ (sltR.below hX (by (repeat (first | exact Below.refl _ _ | assumption | refine Below.drew ?_ | refine balloc ?_ _ | refine bset ?_ (by simp; omega) _ | refine bset ?_ (by simp) _ | refine bstep ?_ (by assumption))))) (by omega)).mono ?_
    rintro e w2 ⟨v2, F2, rfl, o2, hb2⟩
    obtain ⟨u2, F1, rfl, ov, hF⟩ := o2
    obtain ⟨a2, c2, rfl⟩ := vots_form (votsR.ofO ov)
    clear hF
    have hB2 : Below w.heap.size w w2 := bstep (by (repeat (first | exact Below.refl _ _ | assumption | refine Below.drew ?_ | refine balloc ?_ _ | refine bset ?_ (by simp; omega) _ | refine bset ?_ (by simp) _ | refine bstep ?_ (by assumption)))) hb2
    have y0 : w2.cell? ⟨w.heap.size, 0, none⟩ = some (.int .i64 d.con) := cell_keep hb2 (by simp [go_sem])
    have y1 : w2.cell? ⟨w.heap.size, 1, none⟩ = some (.int .i64 d.sh) := cell_keep hb2 (by simp [go_sem])
    have y2 : w2.cell? ⟨w.heap.size, 2, none⟩ = some (.int .i64 d.pr) := cell_keep hb2 (by simp [go_sem])
    have y3 : w2.cell? ⟨w.heap.size, 3, none⟩ = some (.int .i64 d.lb) := cell_keep hb2 (by simp [go_sem])
    have y4 : w2.cell? ⟨w.heap.size, 4, none⟩ = some (.int .i64 d.lv) := cell_keep hb2 (by simp [go_sem])
    have y5 : w2.cell? ⟨w.heap.size, 5, none⟩ = some (.slice ax d.cast.length cx) := cell_keep hb2 (by simp [go_sem])
    have yf : ∀ o, w2.frozen? ⟨w.heap.size, o, none⟩ = false := fun o => by rw [(bcell hb2).2 _ _ (by simp; try omega)]; simp [go_sem]
    have q0 : w2.cell? ⟨w.heap.size + 1, 0, none⟩ = some (.int .i64 0) := cell_keep hb2 (by simp [go_sem])
    have q1 : w2.cell? ⟨w.heap.size + 1, 1, none⟩ = some (.int .i64 0) := cell_keep hb2 (by simp [go_sem])
    have q2 : w2.cell? ⟨w.heap.size + 1, 2, none⟩ = some (.int .i64 0) := cell_keep hb2 (by simp [go_sem])
    have q3 : w2.cell? ⟨w.heap.size + 1, 3, none⟩ = some (.int .i64 0) := cell_keep hb2 (by simp [go_sem])
    have q4 : w2.cell? ⟨w.heap.size + 1, 4, none⟩ = some (.int .i64 0) := cell_keep hb2 (by simp [go_sem])
    have q5 : w2.cell? ⟨w.heap.size + 1, 5, none⟩ = some (.int .i64 0) := cell_keep hb2 (by simp [go_sem])
    have q6 : w2.cell? ⟨w.heap.size + 1, 6, none⟩ = some (.int .i64 0) := cell_keep hb2 (by simp [go_sem])
    have q7 : w2.cell? ⟨w.heap.size + 1, 7, none⟩ = some (.int .i64 0) := cell_keep hb2 (by simp [go_sem])
    have q8 : w2.cell? ⟨w.heap.size + 1, 8, none⟩ = some (.slice none 0 0) := cell_keep hb2 (by simp [go_sem])
    have qf : ∀ o, w2.frozen? ⟨w.heap.size + 1, o, none⟩ = false := fun o => by rw [(bcell hb2).2 _ _ (by simp; try omega)]; simp [go_sem]
    have hs2 := hb2.size
    simp at hs2
    simp only [World.size_alloc] at ov
    clear hb2 hX
    have zz0 : w.heap.size < w2.heap.size := World.block_lt_of_cell? w2 _ y0
    have zz1 : w.heap.size + 1 < w2.heap.size := World.block_lt_of_cell? w2 _ q0
    by_cases h2 : b < d.pr
    · have HD : Hid (promD d b = errS 8) := promD_busy HF.out h1 h2
      go_wp2_with fail
      refine (promise_busy w2.heap.size d.pr b _ (by simp [go_sem]) h2).mono ?_
      rintro e w3 ⟨rfl, hw3⟩
      obtain rfl := hw3.symm
      go_wp2
      refine bodyPost_ret (v := .agg #[.int .i64 8, .int .i64 0, .int .i64 0, .int .i64 0, .int .i64 0, .int .i64 0, .int .i64 0, .int .i64 0, .slice none 0 0]) (by simp [results, Try.results107, go_sem, q0, q1, q2, q3, q4, q5, q6, q7, q8, qf, zz0, zz1]) rfl ?_
      rw [HD.out]
      refine ⟨_, _, rfl, sltR_nil _ _ 8 0 0 0 0 0 0 0, ?_⟩
      refine balloc ?_ _
      iterate 9 (refine bset ?_ (by simp) _)
      exact hB2
    · have HD : Hid (promD d b = ⟨0, d.lb, d.lv, ⟨d.con, d.sh, b, d.lb, d.lv, d.cast⟩⟩) := promD_ok HF.out h1 h2
      go_wp2_with fail
      refine (promise_ok w2.heap.size d.pr b _ (by simp [go_sem]) (by simp [go_sem]) (by omega)).mono ?_
      rintro e w3 ⟨rfl, hw3⟩
      have e3 : w3 = w2.alloc (.cells #[.int .i64 d.con, .int .i64 d.sh, .int .i64 b, .int .i64 d.lb, .int .i64 d.lv, .slice a2 d.cast.length c2] 160) := by rw [hw3]; simp [go_sem]
      clear hw3
      subst e3
      go_wp2
      refine bodyPost_ret (v := .agg #[.int .i64 0, .int .i64 d.lb, .int .i64 d.lv, .int .i64 d.con, .int .i64 d.sh, .int .i64 b, .int .i64 d.lb, .int .i64 d.lv, .slice a2 d.cast.length c2]) (by simp [results, Try.results107, go_sem, q0, q1, q2, q3, q4, q5, q6, q7, q8, qf, zz0, zz1]) rfl ?_
      rw [HD.out]
      refine ⟨_, fun b => F1 b, rfl, ?_, ?_⟩
      · refine ⟨.slice a2 d.cast.length c2, fun b => F1 b, rfl, ?_, fun b => Iff.rfl⟩
        refine ⟨.slice a2 d.cast.length c2, F1, rfl, ?_, fun b => Iff.rfl⟩
        refine votsR.base (base := w.heap.size + 1 + 1) ?_ (by omega)
        refine Rep.alloc _ ?_ _
        iterate 9 (refine Rep.set _ ?_ _ (by simp; try omega))
        exact ov
      · refine balloc ?_ _
        iterate 9 (refine bset ?_ (by simp) _)
        exact hB2
end Go.Proofs.Ytncmdeijimgchaa

