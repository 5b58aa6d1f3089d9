import Derived.Test.YtncmdeijimgchaaPrnAcceptAtLaw11
import Derived.Test.YtncmdeijimgchaaPrnAcceptAtLaw12
import Derived.BigQuiet
import Derived.Deep.QuietTactic
import Derived.Deep.RegionHeld3
import Derived.Test.YtncmdeijimgchaaPrnAcceptAtLaw10
import Derived.Test.YtncmdeijimgchaaPrnAcceptAtLaw6
import Derived.Test.YtncmdeijimgchaaPrnAcceptAtLaw7

/-
  What an acceptor answers.
-/
set_option linter.unusedSimpArgs false
set_option linter.unusedVariables false
namespace Go.Proofs.Ytncmdeijimgchaa
open Go.RowKit
set_option linter.unusedSectionVars false
variable [DecidableEq Vot] [Inhabited Vot] [DecidableEq Slt] [Inhabited Slt] [DecidableEq Bal] [Inhabited Bal] [DecidableEq Ledg] [Inhabited Ledg] [DecidableEq Leg] [Inhabited Leg] [DecidableEq Acc] [Inhabited Acc] [DecidableEq SltR] [Inhabited SltR] [DecidableEq AccR] [Inhabited AccR] [DecidableEq AccsR] [Inhabited AccsR] [DecidableEq SltsR] [Inhabited SltsR]
attribute [local go_sem ↓] Go.wp_at_zero Go.wp_at_succ

def askD (ans : Slt → SltR) (xs : List Slt) (c s : Int) : AccR := if accF xs = 0 then (if idOk c s = true then toldD xs (ans (slotO xs (freS c s))) else errA 3) else errA (accF xs)
theorem errA_O (w : World) (base : Nat) (c : Int) : ∃ F, accRR.O w base F (.agg #[.int .i64 c, .int .i64 0, .int .i64 0, .slice none 0 0]) (errA c) :=
  ⟨_, _, _, rfl, ⟨_, _, rfl, slts_nil w base, fun _ => Iff.rfl⟩, fun _ => Iff.rfl⟩
theorem accOk_cast {xs : List Slt} (h : AccOk xs) : ∀ k, k < xs.length → (xs.getD k default).cast.length ≤ 1048576 := fun k hk => by
  have := (sltOk_of (h.ok k hk)).len
  omega
theorem sltR_cells {w : World} {base : Nat} {F : Nat → Prop} {u : Value} {r : SltR} (h : sltRR.O w base F u r) : ∃ p q, u = .agg #[.int .i64 r.code, .int .i64 r.ob, .int .i64 r.ov, .int .i64 r.slot.con, .int .i64 r.slot.sh, .int .i64 r.slot.pr, .int .i64 r.slot.lb, .int .i64 r.slot.lv, .slice p r.slot.cast.length q] ∧ sltR.O w base F (.agg #[.int .i64 r.slot.con, .int .i64 r.slot.sh, .int .i64 r.slot.pr, .int .i64 r.slot.lb, .int .i64 r.slot.lv, .slice p r.slot.cast.length q]) r.slot := by
  obtain ⟨u1, F1, rfl, h1, hF⟩ := h
  have hFF : F = F1 := by funext b; exact propext (hF b)
  subst hFF
  obtain ⟨p, q, e, _⟩ := slt_cells h1
  simp only [Value.agg.injEq, Array.mk.injEq, List.cons.injEq, and_true, true_and] at e
  subst e
  exact ⟨p, q, rfl, h1⟩
theorem accR_cells {w : World} {base : Nat} {F : Nat → Prop} {u : Value} {r : AccR} (h : accRR.O w base F u r) : ∃ p q, u = .agg #[.int .i64 r.code, .int .i64 r.ob, .int .i64 r.ov, .slice p r.acc.slots.length q] ∧ accR.O w base F (.agg #[.slice p r.acc.slots.length q]) r.acc := by
  obtain ⟨u1, F1, rfl, h1, hF⟩ := h
  have hFF : F = F1 := by funext b; exact propext (hF b)
  subst hFF
  obtain ⟨p, q, e, _⟩ := acc_cells h1
  simp only [Value.agg.injEq, Array.mk.injEq, List.cons.injEq, and_true] at e
  subst e
  exact ⟨p, q, rfl, h1⟩
def AskE (r : AccR) (w : World) (e : Ending) (w' : World) : Prop := ∃ v F, e = .returned v ∧ accRR.O w' w.heap.size F v r ∧ Below w.heap.size w w'
theorem askE_err {r : AccR} {c : Int} {w w' : World} (h : r = errA c) (hb : Below w.heap.size w w') : AskE r w (.returned (.agg #[.int .i64 c, .int .i64 0, .int .i64 0, .slice none 0 0])) w' := by
  obtain ⟨F, h0⟩ := errA_O w' w.heap.size c
  exact ⟨_, F, rfl, by rw [h]; exact h0, hb⟩
end Go.Proofs.Ytncmdeijimgchaa

/-
  AcceptorFault, the document's.
-/
set_option linter.unusedSimpArgs false
set_option linter.unusedVariables false
namespace Go.Proofs.Ytncmdeijimgchaa
open Go.RowKit
set_option linter.unusedSectionVars false
variable [DecidableEq Vot] [Inhabited Vot] [DecidableEq Slt] [Inhabited Slt] [DecidableEq SltR] [Inhabited SltR] [DecidableEq Bal] [Inhabited Bal] [DecidableEq Ledg] [Inhabited Ledg] [DecidableEq Leg] [Inhabited Leg] [DecidableEq Acc] [Inhabited Acc] [DecidableEq AccR] [Inhabited AccR] [DecidableEq AccsR] [Inhabited AccsR] [DecidableEq SltsR] [Inhabited SltsR]
attribute [local go_sem ↓] Go.wp_at_zero Go.wp_at_succ

set_option maxRecDepth 20000 in
set_option maxHeartbeats 8000000 in
theorem specAccF_any (x : Value) (d : Acc) (w : World) (hx : accR.V w x d) :
    Calls Try.prog 101 #[x] w fun e w' => e = .returned (.int .i64 (accF d.slots)) ∧ Below w.heap.size w w' := by
  obtain ⟨u1, rfl, hx⟩ := hx
  obtain ⟨ax, cx, rfl, hcx, hmx, hx⟩ := hx
  unfold maxLen at hmx
  obtain ⟨xs⟩ := d
  dsimp only at hx hcx ⊢
  obtain ⟨n, hn'⟩ : ∃ n, n = xs.length := ⟨_, rfl⟩
  have HN : Hid (xs.length = n) := hn'.symm
  rw [← hn'] at hcx hx ⊢
  clear hn'
  by_cases h6 : 60 < n
  · have HC : Hid (accF xs = 2) := accF_many (by rw [HN.out]; exact h6)
    have h6' : (60 : Int) < n := by omega
    clear hx
    go_enter Try.func101, Try.ntmps101
    go_wp2
    go_ret
    exact ⟨by rw [HC.out]; rfl, by (repeat (first | exact Below.refl _ _ | assumption | refine Below.drew ?_ | refine balloc ?_ _ | refine bset ?_ (by simp; omega) _ | refine bset ?_ (by simp) _ | refine bstep ?_ (by assumption)))⟩
  have h6' : ¬ (60 : Int) < n := by omega
  have HH : Hid (∀ k c, k < n → scanI (accAt xs) k = 0 → accAt xs k = c → ¬ c = 0 → accF xs = c) := fun k c hk hs hc h0 => accF_hit (by rw [HN.out]; exact h6) (by rw [HN.out]; exact hk) hs hc h0
  have HE : Hid (scanI (accAt xs) n = 0 → accF xs = 0) := fun hs => accF_end (by rw [HN.out]; exact h6) (by rw [HN.out]; exact hs)
  clear h6
  go_enter Try.func101, Try.ntmps101
  go_wp2
  go_loopw [3] (fun i w' => ∃ k : Nat, k ≤ n ∧ i = .int .i64 k ∧ scanI (accAt xs) k = 0 ∧ w'.cell? ⟨w.heap.size, 0, none⟩ = some (.slice ax n cx) ∧ Below w.heap.size w w') (fun i _ => n - (intOf i).toNat)
  case atStart => exact ⟨0, Nat.zero_le _, rfl, rfl, by simp [go_sem], by (repeat (first | exact Below.refl _ _ | assumption | refine Below.drew ?_ | refine balloc ?_ _ | refine bset ?_ (by simp; omega) _ | refine bset ?_ (by simp) _ | refine bstep ?_ (by assumption)))⟩
  case round =>
    obtain ⟨k, hk, rfl, hs, hq, hbl⟩ := hrel
    have HS : Hid (scanI (accAt xs) k = 0) := hs
    clear hs
    by_cases hlt : k < n
    · obtain ⟨bxa, oxa, ua, rfl, _, pa, hva⟩ := hx k (by omega)
      obtain ⟨l, hla⟩ : ∃ l, l = xs.getD k default := ⟨_, rfl⟩
      rw [← hla] at hva
      have HLa : Hid (l = xs.getD k default) := hla
      clear hla
      have hVa := hva
      obtain ⟨sa, rfl, hca⟩ := hva
      obtain ⟨aua, cua, rfl⟩ := vots_form hca
      clear hca
      have ga0 : w.cell? ⟨bxa, oxa + k * 6, none⟩ = some (.int .i64 l.con) := pa 0 (by omega)
      have ga1 : w.cell? ⟨bxa, oxa + k * 6 + 1, none⟩ = some (.int .i64 l.sh) := pa 1 (by omega)
      have ga2 : w.cell? ⟨bxa, oxa + k * 6 + 2, none⟩ = some (.int .i64 l.pr) := pa 2 (by omega)
      have ga3 : w.cell? ⟨bxa, oxa + k * 6 + 3, none⟩ = some (.int .i64 l.lb) := pa 3 (by omega)
      have ga4 : w.cell? ⟨bxa, oxa + k * 6 + 4, none⟩ = some (.int .i64 l.lv) := pa 4 (by omega)
      have ga5 : w.cell? ⟨bxa, oxa + k * 6 + 5, none⟩ = some (.slice aua l.cast.length cua) := pa 5 (by omega)
      clear pa
      have HF : Hid (∀ W, Below w.heap.size w W → Calls Try.prog 104 #[.agg #[.int .i64 l.con, .int .i64 l.sh, .int .i64 l.pr, .int .i64 l.lb, .int .i64 l.lv, .slice aua l.cast.length cua]] W fun e w' => e = .returned (.int .i64 (sltFault l)) ∧ Below W.heap.size W w') := fun W h => specSlotF_any _ l W (sltR.below hVa h)
      clear hVa
      have hX : Hid (∀ i, i < n → ∃ b o u, some (⟨bxa, oxa, none⟩ : Addr) = some ⟨b, o, none⟩ ∧ (lvSlt u).length = 6 ∧ (∀ j, j < 6 → w.cell? ⟨b, o + i * 6 + j, none⟩ = (lvSlt u)[j]?) ∧ sltR.V w u (xs.getD i default)) := hx
      clear hx
      replace ga0 := cell_keep hbl ga0
      replace ga1 := cell_keep hbl ga1
      replace ga2 := cell_keep hbl ga2
      replace ga3 := cell_keep hbl ga3
      replace ga4 := cell_keep hbl ga4
      replace ga5 := cell_keep hbl ga5
      have zb : bxa < wr.heap.size := World.block_lt_of_cell? wr _ ga0
      have zq : w.heap.size < wr.heap.size := World.block_lt_of_cell? wr _ hq
      go_wp2_with fail
      refine (HF.out _ (by (repeat (first | exact Below.refl _ _ | assumption | refine Below.drew ?_ | refine balloc ?_ _ | refine bset ?_ (by simp; omega) _ | refine bset ?_ (by simp) _ | refine bstep ?_ (by assumption))))).mono ?_
      rintro e w1 ⟨rfl, hb1⟩
      have hB1 : Below w.heap.size w w1 := bstep (by (repeat (first | exact Below.refl _ _ | assumption | refine Below.drew ?_ | refine balloc ?_ _ | refine bset ?_ (by simp; omega) _ | refine bset ?_ (by simp) _ | refine bstep ?_ (by assumption)))) hb1
      have hq1 : w1.cell? ⟨w.heap.size, 0, none⟩ = some (.slice (some ⟨bxa, oxa, none⟩) n cx) := cell_keep hb1 (by simp [go_sem, hq, zq])
      replace ga0 := cell_keep hb1 (cell_keep (by (repeat (first | exact Below.refl _ _ | assumption | refine Below.drew ?_ | refine balloc ?_ _ | refine bset ?_ (by simp; omega) _ | refine bset ?_ (by simp) _ | refine bstep ?_ (by assumption)))) ga0)
      replace ga1 := cell_keep hb1 (cell_keep (by (repeat (first | exact Below.refl _ _ | assumption | refine Below.drew ?_ | refine balloc ?_ _ | refine bset ?_ (by simp; omega) _ | refine bset ?_ (by simp) _ | refine bstep ?_ (by assumption)))) ga1)
      replace ga2 := cell_keep hb1 (cell_keep (by (repeat (first | exact Below.refl _ _ | assumption | refine Below.drew ?_ | refine balloc ?_ _ | refine bset ?_ (by simp; omega) _ | refine bset ?_ (by simp) _ | refine bstep ?_ (by assumption)))) ga2)
      replace ga3 := cell_keep hb1 (cell_keep (by (repeat (first | exact Below.refl _ _ | assumption | refine Below.drew ?_ | refine balloc ?_ _ | refine bset ?_ (by simp; omega) _ | refine bset ?_ (by simp) _ | refine bstep ?_ (by assumption)))) ga3)
      replace ga4 := cell_keep hb1 (cell_keep (by (repeat (first | exact Below.refl _ _ | assumption | refine Below.drew ?_ | refine balloc ?_ _ | refine bset ?_ (by simp; omega) _ | refine bset ?_ (by simp) _ | refine bstep ?_ (by assumption)))) ga4)
      replace ga5 := cell_keep hb1 (cell_keep (by (repeat (first | exact Below.refl _ _ | assumption | refine Below.drew ?_ | refine balloc ?_ _ | refine bset ?_ (by simp; omega) _ | refine bset ?_ (by simp) _ | refine bstep ?_ (by assumption)))) ga5)
      clear hb1 hq
      have HX : Hid (accAt xs k = if sltFault l = 0 then (if k = 0 then 0 else if aheadS (xs.getD (k - 1) default) l = true then 0 else 1) else sltFault l) := by show _ = _; unfold accAt; rw [← HLa.out]
      by_cases hf : sltFault l = 0
      · rw [hf]
        have HX2 : Hid (accAt xs k = if k = 0 then 0 else if aheadS (xs.getD (k - 1) default) l = true then 0 else 1) := by show _ = _; rw [HX.out, if_pos hf]
        clear hf HX
        cases k with
        | zero =>
          have H0 : Hid (accAt xs 0 = 0) := by show _ = _; rw [HX2.out, if_pos rfl]
          clear HX2
          clear ga0 ga1 ga2 ga3 ga4 ga5 hX
          go_wp2
          go_quiet (fail)
          go_wp2
          exact ⟨⟨1, by omega, by go_num, scanI_succ HS.out H0.out, cell_keep (bdrewN (Below.refl _ _) _) hq1, bdrewN hB1 _⟩, by simp [intOf]; omega⟩
        | succ p =>
          have hx := hX.out
          clear hX
          have hxz := hx p (by omega)
          obtain ⟨bxz, oxz, uz, hez, _, pz, hvz⟩ := hxz
          simp only [Option.some.injEq, Addr.mk.injEq, and_true] at hez
          obtain ⟨rfl, rfl⟩ := hez
          obtain ⟨z, hlz⟩ : ∃ l, l = xs.getD p default := ⟨_, rfl⟩
          rw [← hlz] at hvz
          have HLz : Hid (z = xs.getD p default) := hlz
          clear hlz
          have hVz := hvz
          obtain ⟨sz, rfl, hcz⟩ := hvz
          obtain ⟨auz, cuz, rfl⟩ := vots_form hcz
          clear hcz
          have gz0 : w.cell? ⟨bxa, oxa + p * 6, none⟩ = some (.int .i64 z.con) := pz 0 (by omega)
          have gz1 : w.cell? ⟨bxa, oxa + p * 6 + 1, none⟩ = some (.int .i64 z.sh) := pz 1 (by omega)
          have gz2 : w.cell? ⟨bxa, oxa + p * 6 + 2, none⟩ = some (.int .i64 z.pr) := pz 2 (by omega)
          have gz3 : w.cell? ⟨bxa, oxa + p * 6 + 3, none⟩ = some (.int .i64 z.lb) := pz 3 (by omega)
          have gz4 : w.cell? ⟨bxa, oxa + p * 6 + 4, none⟩ = some (.int .i64 z.lv) := pz 4 (by omega)
          have gz5 : w.cell? ⟨bxa, oxa + p * 6 + 5, none⟩ = some (.slice auz z.cast.length cuz) := pz 5 (by omega)
          clear pz
          clear hx hVz
          replace gz0 := cell_keep hB1 gz0
          replace gz1 := cell_keep hB1 gz1
          replace gz2 := cell_keep hB1 gz2
          replace gz3 := cell_keep hB1 gz3
          replace gz4 := cell_keep hB1 gz4
          replace gz5 := cell_keep hB1 gz5
          have i1 : (p : Int) < (n : Int) := by omega
          have i2 : ((p + 1 : Nat) : Int) < (n : Int) := by omega
          have i3 : (0 : Int) < ((p + 1 : Nat) : Int) := by omega
          have i4 : decide (0 < p + 1) = true := decide_eq_true (by omega)
          have i5 : IntKind.i64.wrap (((p + 1 : Nat) : Int) - 1) = (p : Int) := by rw [IntKind.wrap_i64]; omega
          have i6 : (0 : Int) ≤ ((p + 1 : Nat) : Int) := by omega
          have i7 : (0 : Int) ≤ (p : Int) := by omega
          have i8 : (p : Int) + 1 < (n : Int) := by omega
          have i9 : (0 : Int) ≤ (p : Int) + 1 := by omega
          have i10 : ((p : Int) + 1).toNat = p + 1 := by omega
          have w1' : IntKind.i64.wrap (p : Int) = p := wrapId (by omega) (by omega)
          have HX3 : Hid (accAt xs (p + 1) = if aheadS z l = true then 0 else 1) := by show _ = _; rw [HX2.out, if_neg (by omega), Nat.add_sub_cancel, ← HLz.out]
          clear HX2
          obtain ⟨u, hu⟩ : ∃ u : Value, u = .slice aua l.cast.length cua := ⟨_, rfl⟩
          obtain ⟨u', hu'⟩ : ∃ u : Value, u = .slice auz z.cast.length cuz := ⟨_, rfl⟩
          have rA : w1.cell? ⟨bxa, oxa + (p + 1) * 6, none⟩ = some (.int .i64 l.con) ∧ w1.cell? ⟨bxa, oxa + (p + 1) * 6 + 1, none⟩ = some (.int .i64 l.sh) ∧ w1.cell? ⟨bxa, oxa + (p + 1) * 6 + 2, none⟩ = some (.int .i64 l.pr) ∧ w1.cell? ⟨bxa, oxa + (p + 1) * 6 + 3, none⟩ = some (.int .i64 l.lb) ∧ w1.cell? ⟨bxa, oxa + (p + 1) * 6 + 4, none⟩ = some (.int .i64 l.lv) ∧ w1.cell? ⟨bxa, oxa + (p + 1) * 6 + 5, none⟩ = some (.slice aua l.cast.length cua) := ⟨ga0, ga1, ga2, ga3, ga4, ga5⟩
          have rZ : w1.cell? ⟨bxa, oxa + p * 6, none⟩ = some (.int .i64 z.con) ∧ w1.cell? ⟨bxa, oxa + p * 6 + 1, none⟩ = some (.int .i64 z.sh) ∧ w1.cell? ⟨bxa, oxa + p * 6 + 2, none⟩ = some (.int .i64 z.pr) ∧ w1.cell? ⟨bxa, oxa + p * 6 + 3, none⟩ = some (.int .i64 z.lb) ∧ w1.cell? ⟨bxa, oxa + p * 6 + 4, none⟩ = some (.int .i64 z.lv) ∧ w1.cell? ⟨bxa, oxa + p * 6 + 5, none⟩ = some (.slice auz z.cast.length cuz) := ⟨gz0, gz1, gz2, gz3, gz4, gz5⟩
          clear ga0 gz0 ga1 gz1 ga2 gz2 ga3 gz3 ga4 gz4 ga5 gz5 hu hu'
          cases hah : aheadS z l
          · have hah' : aheadS z l = false := hah
            have HAH : Hid (aheadS z l = false) := hah'
            clear hah'
            go_wp2
            go_region_held3 (fun W => Below w1.heap.size w1 W ∧ (W.cell? ⟨bxa, oxa + (p + 1) * 6, none⟩ = some (.int .i64 l.con) ∧ W.cell? ⟨bxa, oxa + (p + 1) * 6 + 1, none⟩ = some (.int .i64 l.sh) ∧ W.cell? ⟨bxa, oxa + (p + 1) * 6 + 2, none⟩ = some (.int .i64 l.pr) ∧ W.cell? ⟨bxa, oxa + (p + 1) * 6 + 3, none⟩ = some (.int .i64 l.lb) ∧ W.cell? ⟨bxa, oxa + (p + 1) * 6 + 4, none⟩ = some (.int .i64 l.lv) ∧ W.cell? ⟨bxa, oxa + (p + 1) * 6 + 5, none⟩ = some (.slice aua l.cast.length cua)) ∧ (W.cell? ⟨bxa, oxa + p * 6, none⟩ = some (.int .i64 z.con) ∧ W.cell? ⟨bxa, oxa + p * 6 + 1, none⟩ = some (.int .i64 z.sh) ∧ W.cell? ⟨bxa, oxa + p * 6 + 2, none⟩ = some (.int .i64 z.pr) ∧ W.cell? ⟨bxa, oxa + p * 6 + 3, none⟩ = some (.int .i64 z.lb) ∧ W.cell? ⟨bxa, oxa + p * 6 + 4, none⟩ = some (.int .i64 z.lv) ∧ W.cell? ⟨bxa, oxa + p * 6 + 5, none⟩ = some (.slice auz z.cast.length cuz)) ∧ W.cell? ⟨w.heap.size, 0, none⟩ = some (.slice (some ⟨bxa, oxa, none⟩) n cx)) ((refine sltKeep3 ?_ rA rZ hq1; repeat (first | exact Below.refl _ _ | assumption | refine Below.drew ?_ | refine balloc ?_ _ | refine bstep ?_ (by assumption)))) (first | (go_at_call 138; refine (l9Ahead_any z l _ _ _).mono ?_; rintro e wa ⟨rfl, hb2⟩; rw [hah]))
            rename_i hH
            have hB2 := bstep hB1 hH.1
            have hq2 := hH.2.2.2
            clear hH
            have HC : Hid (accF xs = 1) := HH.out (p + 1) 1 hlt HS.out (by rw [HX3.out, HAH.out]; rfl) (by omega)
            go_wp2
            go_ret
            exact ⟨by rw [HC.out]; rfl, hB2⟩
          · have hah' : aheadS z l = true := hah
            have HAH : Hid (aheadS z l = true) := hah'
            clear hah'
            go_wp2
            go_region_held3 (fun W => Below w1.heap.size w1 W ∧ (W.cell? ⟨bxa, oxa + (p + 1) * 6, none⟩ = some (.int .i64 l.con) ∧ W.cell? ⟨bxa, oxa + (p + 1) * 6 + 1, none⟩ = some (.int .i64 l.sh) ∧ W.cell? ⟨bxa, oxa + (p + 1) * 6 + 2, none⟩ = some (.int .i64 l.pr) ∧ W.cell? ⟨bxa, oxa + (p + 1) * 6 + 3, none⟩ = some (.int .i64 l.lb) ∧ W.cell? ⟨bxa, oxa + (p + 1) * 6 + 4, none⟩ = some (.int .i64 l.lv) ∧ W.cell? ⟨bxa, oxa + (p + 1) * 6 + 5, none⟩ = some (.slice aua l.cast.length cua)) ∧ (W.cell? ⟨bxa, oxa + p * 6, none⟩ = some (.int .i64 z.con) ∧ W.cell? ⟨bxa, oxa + p * 6 + 1, none⟩ = some (.int .i64 z.sh) ∧ W.cell? ⟨bxa, oxa + p * 6 + 2, none⟩ = some (.int .i64 z.pr) ∧ W.cell? ⟨bxa, oxa + p * 6 + 3, none⟩ = some (.int .i64 z.lb) ∧ W.cell? ⟨bxa, oxa + p * 6 + 4, none⟩ = some (.int .i64 z.lv) ∧ W.cell? ⟨bxa, oxa + p * 6 + 5, none⟩ = some (.slice auz z.cast.length cuz)) ∧ W.cell? ⟨w.heap.size, 0, none⟩ = some (.slice (some ⟨bxa, oxa, none⟩) n cx)) ((refine sltKeep3 ?_ rA rZ hq1; repeat (first | exact Below.refl _ _ | assumption | refine Below.drew ?_ | refine balloc ?_ _ | refine bstep ?_ (by assumption)))) (first | (go_at_call 138; refine (l9Ahead_any z l _ _ _).mono ?_; rintro e wa ⟨rfl, hb2⟩; rw [hah]))
            rename_i hH
            have hB2 := bstep hB1 hH.1
            have hq2 := hH.2.2.2
            clear hH
            have H0 : Hid (accAt xs (p + 1) = 0) := by show _ = _; rw [HX3.out, HAH.out]; rfl
            go_wp2
            exact ⟨⟨p + 1 + 1, by omega, by go_num, scanI_succ HS.out H0.out, hq2, hB2⟩, by simp [intOf]; omega⟩
      · have HC : Hid (accF xs = sltFault l) := HH.out k _ hlt HS.out (by rw [HX.out, if_neg hf]) hf
        clear HX hX
        generalize sltFault l = c at *
        go_wp2
        go_ret
        exact ⟨by rw [HC.out]; rfl, hB1⟩
    · have hkn : k = n := by omega
      subst hkn
      have HC : Hid (accF xs = 0) := HE.out HS.out
      go_wp2
      go_ret
      exact ⟨by rw [HC.out]; rfl, by (repeat (first | exact Below.refl _ _ | assumption | refine Below.drew ?_ | refine balloc ?_ _ | refine bset ?_ (by simp; omega) _ | refine bset ?_ (by simp) _ | refine bstep ?_ (by assumption)))⟩
end Go.Proofs.Ytncmdeijimgchaa

/-
  l9Told, l9Asked: the document's.
-/
set_option linter.unusedSimpArgs false
set_option linter.unusedVariables false
namespace Go.Proofs.Ytncmdeijimgchaa
open Go.RowKit
set_option linter.unusedSectionVars false
variable [DecidableEq Vot] [Inhabited Vot] [DecidableEq Slt] [Inhabited Slt] [DecidableEq Bal] [Inhabited Bal] [DecidableEq Ledg] [Inhabited Ledg] [DecidableEq Leg] [Inhabited Leg] [DecidableEq Acc] [Inhabited Acc] [DecidableEq SltR] [Inhabited SltR] [DecidableEq AccR] [Inhabited AccR] [DecidableEq AccsR] [Inhabited AccsR] [DecidableEq SltsR] [Inhabited SltsR]
attribute [local go_sem ↓] Go.wp_at_zero Go.wp_at_succ

theorem slotField0 (a b c d e f g h : Int) (p : Option Addr) (n q : Nat) (w : World) : (Instr.field 93 (.agg #[.int .i64 a, .int .i64 b, .int .i64 c, .int .i64 d, .int .i64 e, .int .i64 f, .int .i64 g, .int .i64 h, .slice p n q]) 0).run Try.prog w = .ok (.int .i64 a) w := by kernel_rfl
def AskB (r : AccR) (base : Nat) (w : World) (e : Ending) (w' : World) : Prop := ∃ v F, e = .returned v ∧ accRR.O w' base F v r ∧ Below w.heap.size w w'
theorem askB_err {r : AccR} {c : Int} {base : Nat} {w w' : World} (h : r = errA c) (hb : Below w.heap.size w w') : AskB r base w (.returned (.agg #[.int .i64 c, .int .i64 0, .int .i64 0, .slice none 0 0])) w' := by
  obtain ⟨F, h0⟩ := errA_O w' base c
  exact ⟨_, F, rfl, by rw [h]; exact h0, hb⟩
set_option maxRecDepth 20000 in
set_option maxHeartbeats 4000000 in
theorem l9Told_u (x : Value) (d : Acc) (r : SltR) (p : Option Addr) (q base : Nat) (Fs : Nat → Prop) (w : World) (hx : accR.V w x d) (hok : AccOk d.slots) (hu : sltR.O w base Fs (.agg #[.int .i64 r.slot.con, .int .i64 r.slot.sh, .int .i64 r.slot.pr, .int .i64 r.slot.lb, .int .i64 r.slot.lv, .slice p r.slot.cast.length q]) r.slot) (hbase : base ≤ w.heap.size) :
    Calls Try.prog 66 #[x, .agg #[.int .i64 r.code, .int .i64 r.ob, .int .i64 r.ov, .int .i64 r.slot.con, .int .i64 r.slot.sh, .int .i64 r.slot.pr, .int .i64 r.slot.lb, .int .i64 r.slot.lv, .slice p r.slot.cast.length q]] w (AskB (toldD d.slots r) base w) := by
  have hX := hx
  obtain ⟨u1, rfl, hx⟩ := hx
  obtain ⟨xs⟩ := d
  dsimp only at hx hX hok ⊢
  have HSet : Hid (∀ W, Below w.heap.size w W → Calls Try.prog 103 #[.agg #[u1], .agg #[.int .i64 r.slot.con, .int .i64 r.slot.sh, .int .i64 r.slot.pr, .int .i64 r.slot.lb, .int .i64 r.slot.lv, .slice p r.slot.cast.length q]] W fun e w' => SetE xs r.slot base Fs W e w') := fun W hW => l9Set_u _ ⟨xs⟩ r.slot p q base Fs W (accR.below hX hW) hok (sltR.keep hu hW) (by have := hW.size; omega)
  have HC0 : Hid (¬ r.code = 0 → toldD xs r = errA r.code) := fun h => toldD_code h
  have HC1 : Hid (r.code = 0 → ¬ (putS xs r.slot).length ≤ 60 → toldD xs r = errA 2) := fun h h1 => toldD_many h (by omega)
  have HC2 : Hid (r.code = 0 → (putS xs r.slot).length ≤ 60 → toldD xs r = ⟨0, r.ob, r.ov, ⟨putS xs r.slot⟩⟩) := fun h h1 => toldD_ok h (by omega)
  have HFs : Hid (∀ b, Fs b → b < w.heap.size) := fun b hb => (sltR.rng hu b hb).2
  clear hX hok hu
  obtain ⟨au, cu, rfl⟩ := slts_form hx
  clear hx
  generalize toldD xs r = R at *
  generalize r.ob = ob at *
  generalize r.ov = ov at *
  generalize r.code = k at *
  generalize r.slot = s at *
  generalize xs.length = n at *
  by_cases hc : k = 0
  rotate_left
  · have HC : Hid (R = errA k) := HC0.out hc
    have hc' : (k != 0) = true := by simp [hc]
    go_enter Try.func66, Try.ntmps66
    go_wp2
    exact bodyPost_ret (v := .agg #[.int .i64 k, .int .i64 0, .int .i64 0, .slice none 0 0]) (by simp [results, Try.results66, go_sem]) rfl (askB_err HC.out (by (repeat (first | exact Below.refl _ _ | assumption | refine Below.drew ?_ | refine balloc ?_ _ | refine bset ?_ (by simp; omega) _ | refine bset ?_ (by simp) _ | refine bstep ?_ (by assumption)))))
  subst hc
  go_enter Try.func66, Try.ntmps66
  go_wp2_with fail
  refine (HSet.out _ (by (repeat (first | exact Below.refl _ _ | assumption | refine Below.drew ?_ | refine balloc ?_ _ | refine bset ?_ (by simp; omega) _ | refine bset ?_ (by simp) _ | refine bstep ?_ (by assumption))))).mono ?_
  rintro e w1 ⟨pp, m, qq, rfl, hb1, hO⟩
  have hB1 : Below w.heap.size w w1 := by (repeat (first | exact Below.refl _ _ | assumption | refine Below.drew ?_ | refine balloc ?_ _ | refine bset ?_ (by simp; omega) _ | refine bset ?_ (by simp) _ | refine bstep ?_ (by assumption)))
  have hz1 := hb1.size
  simp at hz1
  obtain ⟨c1, f1⟩ := bcell hb1
  have b0 : w1.cell? ⟨w.heap.size + 1, 0, none⟩ = some (.int .i64 0) := cell_keep hb1 (by simp [go_sem])
  have b1 : w1.cell? ⟨w.heap.size + 1, 1, none⟩ = some (.int .i64 ob) := cell_keep hb1 (by simp [go_sem])
  have b2 : w1.cell? ⟨w.heap.size + 1, 2, none⟩ = some (.int .i64 ov) := cell_keep hb1 (by simp [go_sem])
  have r0 : w1.cell? ⟨w.heap.size + 2, 0, none⟩ = some (.int .i64 0) := cell_keep hb1 (by simp [go_sem])
  have r1 : w1.cell? ⟨w.heap.size + 2, 1, none⟩ = some (.int .i64 0) := cell_keep hb1 (by simp [go_sem])
  have r2 : w1.cell? ⟨w.heap.size + 2, 2, none⟩ = some (.int .i64 0) := cell_keep hb1 (by simp [go_sem])
  have r3 : w1.cell? ⟨w.heap.size + 2, 3, none⟩ = some (.slice none 0 0) := cell_keep hb1 (by simp [go_sem])
  have rf : ∀ o, w1.frozen? ⟨w.heap.size + 2, o, none⟩ = false := fun o => by rw [f1 _ _ (by simp; try omega)]; simp [go_sem]
  clear hb1 c1 f1 HSet
  have zb : w.heap.size + 1 < w1.heap.size := World.block_lt_of_cell? w1 _ b0
  have zr : w.heap.size + 2 < w1.heap.size := World.block_lt_of_cell? w1 _ r0
  by_cases hle : (putS xs s).length ≤ 60
  rotate_left
  · have HC : Hid (R = errA 2) := HC1.out (by simp) hle
    rw [decide_eq_false hle]
    clear hO
    go_wp2
    exact bodyPost_ret (v := .agg #[.int .i64 2, .int .i64 0, .int .i64 0, .slice none 0 0]) (by simp [results, Try.results66, go_sem, r0, r1, r2, r3, rf, zr, Nat.ne_of_lt zr]) rfl (askB_err HC.out (by (repeat (first | refine bset ?_ (by simp; omega) _ | refine bset ?_ (by simp) _ | refine balloc ?_ _ | assumption))))
  · have HC : Hid (R = ⟨0, ob, ov, ⟨putS xs s⟩⟩) := HC2.out (by simp) hle
    rw [decide_eq_true hle]
    obtain ⟨hm, F, o1, hF1⟩ := hO hle
    have HO : Hid (accR.O w1 base F (.agg #[.slice pp m qq]) ⟨putS xs s⟩) := o1
    have HF : Hid (∀ b, F b → b ≠ w.heap.size + 2) := fun b hb => by
      rcases hF1 b hb with h | h
      · have := HFs.out b h; omega
      · simp at h; omega
    clear o1 hm hle hF1
    go_wp2
    refine bodyPost_ret (v := .agg #[.int .i64 0, .int .i64 ob, .int .i64 ov, .slice pp m qq]) (by simp [results, Try.results66, go_sem, r0, r1, r2, r3, rf, zr, Nat.ne_of_lt zr]) rfl ?_
    refine ⟨_, F, rfl, ?_, by (repeat (first | refine bset ?_ (by simp; omega) _ | refine bset ?_ (by simp) _ | refine balloc ?_ _ | assumption))⟩
    rw [HC.out]
    refine ⟨_, F, rfl, ?_, fun b => Iff.rfl⟩
    have hk : ∀ (W : World) (u : Value) (j : Nat), accR.O W base F (.agg #[.slice pp m qq]) ⟨putS xs s⟩ → accR.O (W.setCell ⟨w.heap.size + 2, j, none⟩ u) base F (.agg #[.slice pp m qq]) ⟨putS xs s⟩ := fun W u j h => Rep.setN _ h u (fun hb => HF.out _ hb rfl)
    exact accR.alloc (hk _ _ _ (hk _ _ _ (hk _ _ _ (hk _ _ _ HO.out)))) _
set_option maxHeartbeats 2000000 in
theorem l9Asked_any (x : Value) (d : Acc) (c s : Int) (w : World) (hx : accR.V w x d) :
    Calls Try.prog 65 #[x, .int .i64 c, .int .i64 s] w fun e w' => e = .returned (.int .i64 (if accF d.slots = 0 then (if idOk c s = true then 0 else 3) else accF d.slots)) ∧ Below w.heap.size w w' := by
  have hX := hx
  obtain ⟨u1, rfl, hx⟩ := hx
  obtain ⟨xs⟩ := d
  dsimp only at hx hX ⊢
  have HAF : Hid (∀ W, Below w.heap.size w W → Calls Try.prog 101 #[.agg #[u1]] W fun e w' => e = .returned (.int .i64 (accF xs)) ∧ Below W.heap.size W w') := fun W hW => specAccF_any _ ⟨xs⟩ W (accR.below hX hW)
  clear hX
  obtain ⟨au, cu, rfl⟩ := slts_form hx
  clear hx
  generalize xs.length = n at *
  generalize accF xs = k at *
  by_cases hk : k = 0
  · subst hk
    rw [if_pos rfl]
    have hfd := slotField0
    cases hid : idOk c s
    · have HNw : Hid (∀ W, Calls Try.prog 102 #[.int .i64 c, .int .i64 s] W (NewB W)) := fun W => specNew_bad c s W hid
      go_enter Try.func65, Try.ntmps65
      go_wp2_with fail
      refine (HAF.out _ (by (repeat (first | exact Below.refl _ _ | assumption | refine Below.drew ?_ | refine balloc ?_ _ | refine bset ?_ (by simp; omega) _ | refine bset ?_ (by simp) _ | refine bstep ?_ (by assumption))))).mono ?_
      rintro e w1 ⟨rfl, hb1⟩
      have hB1 : Below w.heap.size w w1 := by (repeat (first | exact Below.refl _ _ | assumption | refine Below.drew ?_ | refine balloc ?_ _ | refine bset ?_ (by simp; omega) _ | refine bset ?_ (by simp) _ | refine bstep ?_ (by assumption)))
      clear hb1
      go_wp2_with fail
      refine (HNw.out _).mono ?_
      rintro e w2 ⟨rfl, hb2⟩
      have hB2 : Below w.heap.size w w2 := bstep hB1 hb2
      go_wp2
      go_ret
      exact ⟨rfl, hB2⟩
    · have HNw : Hid (∀ W, Calls Try.prog 102 #[.int .i64 c, .int .i64 s] W (NewE c s W)) := fun W => specNew_ok c s W hid
      go_enter Try.func65, Try.ntmps65
      go_wp2_with fail
      refine (HAF.out _ (by (repeat (first | exact Below.refl _ _ | assumption | refine Below.drew ?_ | refine balloc ?_ _ | refine bset ?_ (by simp; omega) _ | refine bset ?_ (by simp) _ | refine bstep ?_ (by assumption))))).mono ?_
      rintro e w1 ⟨rfl, hb1⟩
      have hB1 : Below w.heap.size w w1 := by (repeat (first | exact Below.refl _ _ | assumption | refine Below.drew ?_ | refine balloc ?_ _ | refine bset ?_ (by simp; omega) _ | refine bset ?_ (by simp) _ | refine bstep ?_ (by assumption)))
      clear hb1
      go_wp2_with fail
      refine (HNw.out _).mono ?_
      rintro e w2 ⟨p2, q2, F2, rfl, o2, hb2⟩
      have hB2 : Below w.heap.size w w2 := bstep hB1 hb2
      clear o2
      go_wp2
      go_ret
      exact ⟨rfl, hB2⟩
  · rw [if_neg hk]
    have hk' : (k != 0) = true := by simp [hk]
    go_enter Try.func65, Try.ntmps65
    go_wp2_with fail
    refine (HAF.out _ (by (repeat (first | exact Below.refl _ _ | assumption | refine Below.drew ?_ | refine balloc ?_ _ | refine bset ?_ (by simp; omega) _ | refine bset ?_ (by simp) _ | refine bstep ?_ (by assumption))))).mono ?_
    rintro e w1 ⟨rfl, hb1⟩
    have hB1 : Below w.heap.size w w1 := by (repeat (first | exact Below.refl _ _ | assumption | refine Below.drew ?_ | refine balloc ?_ _ | refine bset ?_ (by simp; omega) _ | refine bset ?_ (by simp) _ | refine bstep ?_ (by assumption)))
    clear hb1
    go_wp2
    go_ret
    exact ⟨rfl, hB1⟩
end Go.Proofs.Ytncmdeijimgchaa

/-
  The slot that is asked, the document's.
-/
set_option linter.unusedSimpArgs false
set_option linter.unusedVariables false
namespace Go.Proofs.Ytncmdeijimgchaa
open Go.RowKit
set_option linter.unusedSectionVars false
variable [DecidableEq Vot] [Inhabited Vot] [DecidableEq Slt] [Inhabited Slt] [DecidableEq SltR] [Inhabited SltR] [DecidableEq Bal] [Inhabited Bal] [DecidableEq Ledg] [Inhabited Ledg] [DecidableEq Leg] [Inhabited Leg] [DecidableEq Acc] [Inhabited Acc] [DecidableEq AccR] [Inhabited AccR] [DecidableEq AccsR] [Inhabited AccsR] [DecidableEq SltsR] [Inhabited SltsR]
attribute [local go_sem ↓] Go.wp_at_zero Go.wp_at_succ

set_option maxRecDepth 20000 in
set_option maxHeartbeats 8000000 in
theorem l9Slot_u (x : Value) (d : Acc) (c s : Int) (w : World) (hx : accR.V w x d) (hid : idOk c s = true) (hw : ∀ k, k < d.slots.length → (d.slots.getD k default).cast.length ≤ 1048576) :
    Calls Try.prog 68 #[x, .int .i64 c, .int .i64 s] w fun e w' => ∃ v F, e = .returned v ∧ sltR.O w' w.heap.size F v (slotO d.slots (freS c s)) ∧ Below w.heap.size w w' := by
  obtain ⟨u1, rfl, hx⟩ := hx
  obtain ⟨xs⟩ := d
  dsimp only at hx hw ⊢
  obtain ⟨au, cu, rfl, hcx, hmx, hx⟩ := hx
  unfold maxLen at hmx
  have hXs : Hid (∀ k, k < xs.length → ∃ b o p q, au = some ⟨b, o, none⟩ ∧ (w.cell? ⟨b, o + k * 6, none⟩ = some (.int .i64 (xs.getD k default).con) ∧ w.cell? ⟨b, o + k * 6 + 1, none⟩ = some (.int .i64 (xs.getD k default).sh) ∧ w.cell? ⟨b, o + k * 6 + 2, none⟩ = some (.int .i64 (xs.getD k default).pr) ∧ w.cell? ⟨b, o + k * 6 + 3, none⟩ = some (.int .i64 (xs.getD k default).lb) ∧ w.cell? ⟨b, o + k * 6 + 4, none⟩ = some (.int .i64 (xs.getD k default).lv) ∧ w.cell? ⟨b, o + k * 6 + 5, none⟩ = some (.slice p (xs.getD k default).cast.length q)) ∧ sltR.V w (.agg #[.int .i64 (xs.getD k default).con, .int .i64 (xs.getD k default).sh, .int .i64 (xs.getD k default).pr, .int .i64 (xs.getD k default).lb, .int .i64 (xs.getD k default).lv, .slice p (xs.getD k default).cast.length q]) (xs.getD k default)) := fun k hk => slts_at hx hk
  have HW : Hid (∀ k, k < xs.length → (xs.getD k default).cast.length ≤ 1048576) := hw
  have HNew : Hid (∀ W, Calls Try.prog 102 #[.int .i64 c, .int .i64 s] W (NewE c s W)) := fun W => specNew_ok c s W hid
  clear hx hw hid
  obtain ⟨n, hn'⟩ : ∃ n, n = xs.length := ⟨_, rfl⟩
  have HN : Hid (xs.length = n) := hn'.symm
  rw [← hn'] at hcx hXs HW ⊢
  clear hn'
  go_enter Try.func68, Try.ntmps68
  go_wp2
  go_loopw [7] (fun i w' => ∃ k : Nat, k ≤ n ∧ i = .int .i64 k ∧ Hid (∀ j, j < k → sameS (xs.getD j default) (freS c s) = false) ∧ Hid (w' = (w.alloc (.cells #[.slice au n cu] 57)).alloc (.cells #[.int .i64 0, .int .i64 0, .int .i64 0, .int .i64 0, .int .i64 0, .slice none 0 0] 91))) (fun i _ => n - (intOf i).toNat)
  case atStart => exact ⟨0, Nat.zero_le _, rfl, fun j h => absurd h (Nat.not_lt_zero _), rfl⟩
  case round =>
    obtain ⟨k, hk, rfl, HP, HWR⟩ := hrel
    have hbl : Below w.heap.size w wr := by rw [HWR.out]; (repeat (first | exact Below.refl _ _ | assumption | refine Below.drew ?_ | refine balloc ?_ _ | refine bset ?_ (by simp; omega) _ | refine bset ?_ (by simp) _ | refine bstep ?_ (by assumption)))
    have y0 : wr.cell? ⟨w.heap.size, 0, none⟩ = some (.slice au n cu) := by rw [HWR.out]; simp [go_sem]
    have r0 : wr.cell? ⟨w.heap.size + 1, 0, none⟩ = some (.int .i64 0) := by rw [HWR.out]; simp [go_sem]
    have r1 : wr.cell? ⟨w.heap.size + 1, 1, none⟩ = some (.int .i64 0) := by rw [HWR.out]; simp [go_sem]
    have r2 : wr.cell? ⟨w.heap.size + 1, 2, none⟩ = some (.int .i64 0) := by rw [HWR.out]; simp [go_sem]
    have r3 : wr.cell? ⟨w.heap.size + 1, 3, none⟩ = some (.int .i64 0) := by rw [HWR.out]; simp [go_sem]
    have r4 : wr.cell? ⟨w.heap.size + 1, 4, none⟩ = some (.int .i64 0) := by rw [HWR.out]; simp [go_sem]
    have r5 : wr.cell? ⟨w.heap.size + 1, 5, none⟩ = some (.slice none 0 0) := by rw [HWR.out]; simp [go_sem]
    have rf : ∀ o, wr.frozen? ⟨w.heap.size + 1, o, none⟩ = false := fun o => by rw [HWR.out]; simp [go_sem]
    have zy : w.heap.size + 1 < wr.heap.size := World.block_lt_of_cell? wr _ r0
    by_cases hlt : k < n
    · obtain ⟨b, o, pp, qq, rfl, hc, hV⟩ := hXs.out k hlt
      have hcw := HW.out k hlt
      obtain ⟨l, hl⟩ : ∃ l, l = xs.getD k default := ⟨_, rfl⟩
      rw [← hl] at hc hV hcw
      have HL : Hid (l = xs.getD k default) := hl
      clear hl
      obtain ⟨g0, g1, g2, g3, g4, g5⟩ := (sltKeep2 hbl hc hc).2.1
      clear hc
      have zb : b < wr.heap.size := World.block_lt_of_cell? wr _ g0
      by_cases m1 : l.con = c
      · by_cases m2 : l.sh = s
        · have f1 : (l.con == c) = true := by simp [m1]
          have f2 : (l.sh == s) = true := by simp [m2]
          have HS : Hid (slotO xs (freS c s) = l) := by
            show _ = _
            rw [HL.out]
            exact slotO_at (by rw [HN.out]; exact hlt) HP.out (sameS_iff.2 (by rw [← HL.out]; exact ⟨m1, m2⟩))
          have HCp : Hid (∀ W, Below w.heap.size w W → Calls Try.prog 105 #[.agg #[.int .i64 l.con, .int .i64 l.sh, .int .i64 l.pr, .int .i64 l.lb, .int .i64 l.lv, .slice pp l.cast.length qq]] W fun e w' => ∃ v F, e = .returned v ∧ sltR.O w' W.heap.size F v l ∧ Below W.heap.size W w') := fun W hW => l8Copy_u _ l W (sltR.below hV hW) hcw
          clear m1 m2 hV
          go_wp2_with fail
          refine (HCp.out _ (by (repeat (first | exact Below.refl _ _ | assumption | refine Below.drew ?_ | refine balloc ?_ _ | refine bset ?_ (by simp; omega) _ | refine bset ?_ (by simp) _ | refine bstep ?_ (by assumption))))).mono ?_
          rintro e w2 ⟨v2, F2, rfl, o2, hb2⟩
          have hB2 : Below w.heap.size w w2 := bstep hbl hb2
          have hz2 := hb2.size
          obtain ⟨a2, c2, rfl, _⟩ := slt_cells o2
          replace r0 := cell_keep hb2 r0
          replace r1 := cell_keep hb2 r1
          replace r2 := cell_keep hb2 r2
          replace r3 := cell_keep hb2 r3
          replace r4 := cell_keep hb2 r4
          replace r5 := cell_keep hb2 r5
          replace rf : ∀ o, w2.frozen? ⟨w.heap.size + 1, o, none⟩ = false := fun o => by rw [(bcell hb2).2 _ _ (by omega)]; exact rf o
          replace o2 := sltR.base (base' := w.heap.size + 2) o2 (by omega)
          clear hb2 HCp
          go_wp2
          refine bodyPost_ret (v := .agg #[.int .i64 l.con, .int .i64 l.sh, .int .i64 l.pr, .int .i64 l.lb, .int .i64 l.lv, .slice a2 l.cast.length c2]) ?_ rfl ⟨_, F2, rfl, by rw [HS.out]; exact sltR.base (base := w.heap.size + 2) (by (repeat (first | refine Rep.set _ ?_ _ (by simp; omega) | refine Rep.set _ ?_ _ (by simp) | refine Rep.alloc _ ?_ _ | assumption))) (by omega), by (repeat (first | refine bset ?_ (by simp; omega) _ | refine bset ?_ (by simp) _ | refine balloc ?_ _ | assumption))⟩
          simp [results, Try.results68, go_sem, r0, r1, r2, r3, r4, r5, rf]
        · have f1 : (l.con == c) = true := by simp [m1]
          have f2 : (l.sh == s) = false := by simp [m2]
          have HP2 : Hid (∀ j, j < k + 1 → sameS (xs.getD j default) (freS c s) = false) := fun j hj => by
            by_cases e : j = k
            · subst e
              rw [← HL.out]
              simp [sameS, freS, m2]
            · exact HP.out j (by omega)
          clear m1 m2 hV
          go_wp2
          refine ⟨⟨k + 1, by omega, by go_num, HP2, HWR⟩, by simp [intOf]; omega⟩
      · have f1 : (l.con == c) = false := by simp [m1]
        have HP2 : Hid (∀ j, j < k + 1 → sameS (xs.getD j default) (freS c s) = false) := fun j hj => by
          by_cases e : j = k
          · subst e
            rw [← HL.out]
            simp [sameS, freS, m1]
          · exact HP.out j (by omega)
        clear m1 hV
        go_wp2
        refine ⟨⟨k + 1, by omega, by go_num, HP2, HWR⟩, by simp [intOf]; omega⟩
    · have hkn : k = n := by omega
      subst hkn
      have HS : Hid (slotO xs (freS c s) = freS c s) := slotO_none (fun j hj => HP.out j (by rw [← HN.out]; exact hj))
      go_wp2_with fail
      refine (HNew.out _).mono ?_
      rintro e w2 ⟨a2, c2, F3, rfl, o3, hb2⟩
      have hB2 : Below w.heap.size w w2 := bstep hbl hb2
      have hz2 := hb2.size
      replace r0 := cell_keep hb2 r0
      replace r1 := cell_keep hb2 r1
      replace r2 := cell_keep hb2 r2
      replace r3 := cell_keep hb2 r3
      replace r4 := cell_keep hb2 r4
      replace r5 := cell_keep hb2 r5
      replace rf : ∀ o, w2.frozen? ⟨w.heap.size + 1, o, none⟩ = false := fun o => by rw [(bcell hb2).2 _ _ (by omega)]; exact rf o
      replace o3 := sltR.base (base' := w.heap.size + 2) o3 (by omega)
      clear hb2 HNew
      have hfd := slotField
      go_wp2
      refine bodyPost_ret (v := .agg #[.int .i64 c, .int .i64 s, .int .i64 (-1), .int .i64 (-1), .int .i64 0, .slice a2 0 c2]) ?_ rfl ⟨_, F3, rfl, by rw [HS.out]; exact sltR.base (base := w.heap.size + 2) (by (repeat (first | refine Rep.set _ ?_ _ (by simp; omega) | refine Rep.set _ ?_ _ (by simp) | refine Rep.alloc _ ?_ _ | assumption))) (by omega), by (repeat (first | refine bset ?_ (by simp; omega) _ | refine bset ?_ (by simp) _ | refine balloc ?_ _ | assumption))⟩
      simp [results, Try.results68, go_sem, r0, r1, r2, r3, r4, r5, rf]
end Go.Proofs.Ytncmdeijimgchaa

