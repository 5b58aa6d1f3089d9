import Derived.Test.YtncmdeijimgchaaGreatPrnRunBallotLaw11
import Derived.Test.YtncmdeijimgchaaGreatPrnRunBallotLaw4
import Derived.Test.YtncmdeijimgchaaGreatPrnRunBallotLaw5
import Derived.Test.YtncmdeijimgchaaGreatPrnRunBallotLaw10
import Derived.BigQuiet
import Derived.Deep.QuietTactic
import Derived.Deep.RegionHeld3
import Derived.Test.YtncmdeijimgchaaGreatPrnRunBallotLaw8
import Derived.Test.YtncmdeijimgchaaGreatPrnRunBallotLaw19
import Derived.Test.YtncmdeijimgchaaGreatPrnRunBallotLaw7
import Derived.Test.YtncmdeijimgchaaGreatPrnRunBallotLaw12

/-
  The slot that is asked, the document's.
-/
set_option linter.unusedSimpArgs false
set_option linter.unusedVariables false
namespace Go.Proofs.YtncmdeijimgchaaGreat
open Go.RowKit
set_option linter.unusedSectionVars false
variable [DecidableEq Vot] [Inhabited Vot] [DecidableEq Slt] [Inhabited Slt] [DecidableEq SltR] [Inhabited SltR] [DecidableEq Bal] [Inhabited Bal] [DecidableEq Ledg] [Inhabited Ledg] [DecidableEq Leg] [Inhabited Leg] [DecidableEq Acc] [Inhabited Acc] [DecidableEq AccR] [Inhabited AccR] [DecidableEq AccsR] [Inhabited AccsR] [DecidableEq SltsR] [Inhabited SltsR]
attribute [local go_sem ↓] Go.wp_at_zero Go.wp_at_succ

set_option maxRecDepth 20000 in
set_option maxHeartbeats 8000000 in
theorem l9Slot_u (x : Value) (d : Acc) (c s : Int) (w : World) (hx : accR.V w x d) (hid : idOk c s = true) (hw : ∀ k, k < d.slots.length → (d.slots.getD k default).cast.length ≤ 1048576) :
    Calls Tryz.prog 64 #[x, .int .i64 c, .int .i64 s] w fun e w' => ∃ v F, e = .returned v ∧ sltR.O w' w.heap.size F v (slotO d.slots (freS c s)) ∧ Below w.heap.size w w' := by
  obtain ⟨u1, rfl, hx⟩ := hx
  obtain ⟨xs⟩ := d
  dsimp only at hx hw ⊢
  obtain ⟨au, cu, rfl, hcx, hmx, hx⟩ := hx
  unfold maxLen at hmx
  have hXs : Hid (∀ k, k < xs.length → ∃ b o p q, au = some ⟨b, o, none⟩ ∧ (w.cell? ⟨b, o + k * 6, none⟩ = some (.int .i64 (xs.getD k default).con) ∧ w.cell? ⟨b, o + k * 6 + 1, none⟩ = some (.int .i64 (xs.getD k default).sh) ∧ w.cell? ⟨b, o + k * 6 + 2, none⟩ = some (.int .i64 (xs.getD k default).pr) ∧ w.cell? ⟨b, o + k * 6 + 3, none⟩ = some (.int .i64 (xs.getD k default).lb) ∧ w.cell? ⟨b, o + k * 6 + 4, none⟩ = some (.int .i64 (xs.getD k default).lv) ∧ w.cell? ⟨b, o + k * 6 + 5, none⟩ = some (.slice p (xs.getD k default).cast.length q)) ∧ sltR.V w (.agg #[.int .i64 (xs.getD k default).con, .int .i64 (xs.getD k default).sh, .int .i64 (xs.getD k default).pr, .int .i64 (xs.getD k default).lb, .int .i64 (xs.getD k default).lv, .slice p (xs.getD k default).cast.length q]) (xs.getD k default)) := fun k hk => slts_at hx hk
  have HW : Hid (∀ k, k < xs.length → (xs.getD k default).cast.length ≤ 1048576) := hw
  have HNew : Hid (∀ W, Calls Tryz.prog 58 #[.int .i64 c, .int .i64 s] W (NewE c s W)) := fun W => specNew_ok c s W hid
  clear hx hw hid
  obtain ⟨n, hn'⟩ : ∃ n, n = xs.length := ⟨_, rfl⟩
  have HN : Hid (xs.length = n) := hn'.symm
  rw [← hn'] at hcx hXs HW ⊢
  clear hn'
  go_enter Tryz.func64, Tryz.ntmps64
  go_wp2
  go_loopw [7] (fun i w' => ∃ k : Nat, k ≤ n ∧ i = .int .i64 k ∧ Hid (∀ j, j < k → sameS (xs.getD j default) (freS c s) = false) ∧ Hid (w' = (w.alloc (.cells #[.slice au n cu] 67)).alloc (.cells #[.int .i64 0, .int .i64 0, .int .i64 0, .int .i64 0, .int .i64 0, .slice none 0 0] 76))) (fun i _ => n - (intOf i).toNat)
  case atStart => exact ⟨0, Nat.zero_le _, rfl, fun j h => absurd h (Nat.not_lt_zero _), rfl⟩
  case round =>
    obtain ⟨k, hk, rfl, HP, HWR⟩ := hrel
    have hbl : Below w.heap.size w wr := by rw [HWR.out]; (repeat (first | exact Below.refl _ _ | assumption | refine Below.drew ?_ | refine balloc ?_ _ | refine bset ?_ (by simp; omega) _ | refine bset ?_ (by simp) _ | refine bstep ?_ (by assumption)))
    have y0 : wr.cell? ⟨w.heap.size, 0, none⟩ = some (.slice au n cu) := by rw [HWR.out]; simp [go_sem]
    have r0 : wr.cell? ⟨w.heap.size + 1, 0, none⟩ = some (.int .i64 0) := by rw [HWR.out]; simp [go_sem]
    have r1 : wr.cell? ⟨w.heap.size + 1, 1, none⟩ = some (.int .i64 0) := by rw [HWR.out]; simp [go_sem]
    have r2 : wr.cell? ⟨w.heap.size + 1, 2, none⟩ = some (.int .i64 0) := by rw [HWR.out]; simp [go_sem]
    have r3 : wr.cell? ⟨w.heap.size + 1, 3, none⟩ = some (.int .i64 0) := by rw [HWR.out]; simp [go_sem]
    have r4 : wr.cell? ⟨w.heap.size + 1, 4, none⟩ = some (.int .i64 0) := by rw [HWR.out]; simp [go_sem]
    have r5 : wr.cell? ⟨w.heap.size + 1, 5, none⟩ = some (.slice none 0 0) := by rw [HWR.out]; simp [go_sem]
    have rf : ∀ o, wr.frozen? ⟨w.heap.size + 1, o, none⟩ = false := fun o => by rw [HWR.out]; simp [go_sem]
    have zy : w.heap.size + 1 < wr.heap.size := World.block_lt_of_cell? wr _ r0
    by_cases hlt : k < n
    · obtain ⟨b, o, pp, qq, rfl, hc, hV⟩ := hXs.out k hlt
      have hcw := HW.out k hlt
      obtain ⟨l, hl⟩ : ∃ l, l = xs.getD k default := ⟨_, rfl⟩
      rw [← hl] at hc hV hcw
      have HL : Hid (l = xs.getD k default) := hl
      clear hl
      obtain ⟨g0, g1, g2, g3, g4, g5⟩ := (sltKeep2 hbl hc hc).2.1
      clear hc
      have zb : b < wr.heap.size := World.block_lt_of_cell? wr _ g0
      by_cases m1 : l.con = c
      · by_cases m2 : l.sh = s
        · have f1 : (l.con == c) = true := by simp [m1]
          have f2 : (l.sh == s) = true := by simp [m2]
          have HS : Hid (slotO xs (freS c s) = l) := by
            show _ = _
            rw [HL.out]
            exact slotO_at (by rw [HN.out]; exact hlt) HP.out (sameS_iff.2 (by rw [← HL.out]; exact ⟨m1, m2⟩))
          have HCp : Hid (∀ W, Below w.heap.size w W → Calls Tryz.prog 96 #[.agg #[.int .i64 l.con, .int .i64 l.sh, .int .i64 l.pr, .int .i64 l.lb, .int .i64 l.lv, .slice pp l.cast.length qq]] W fun e w' => ∃ v F, e = .returned v ∧ sltR.O w' W.heap.size F v l ∧ Below W.heap.size W w') := fun W hW => l8Copy_u _ l W (sltR.below hV hW) hcw
          clear m1 m2 hV
          go_wp2_with fail
          refine (HCp.out _ (by (repeat (first | exact Below.refl _ _ | assumption | refine Below.drew ?_ | refine balloc ?_ _ | refine bset ?_ (by simp; omega) _ | refine bset ?_ (by simp) _ | refine bstep ?_ (by assumption))))).mono ?_
          rintro e w2 ⟨v2, F2, rfl, o2, hb2⟩
          have hB2 : Below w.heap.size w w2 := bstep hbl hb2
          have hz2 := hb2.size
          obtain ⟨a2, c2, rfl, _⟩ := slt_cells o2
          replace r0 := cell_keep hb2 r0
          replace r1 := cell_keep hb2 r1
          replace r2 := cell_keep hb2 r2
          replace r3 := cell_keep hb2 r3
          replace r4 := cell_keep hb2 r4
          replace r5 := cell_keep hb2 r5
          replace rf : ∀ o, w2.frozen? ⟨w.heap.size + 1, o, none⟩ = false := fun o => by rw [(bcell hb2).2 _ _ (by omega)]; exact rf o
          replace o2 := sltR.base (base' := w.heap.size + 2) o2 (by omega)
          clear hb2 HCp
          go_wp2
          refine bodyPost_ret (v := .agg #[.int .i64 l.con, .int .i64 l.sh, .int .i64 l.pr, .int .i64 l.lb, .int .i64 l.lv, .slice a2 l.cast.length c2]) ?_ rfl ⟨_, F2, rfl, by rw [HS.out]; exact sltR.base (base := w.heap.size + 2) (by (repeat (first | refine Rep.set _ ?_ _ (by simp; omega) | refine Rep.set _ ?_ _ (by simp) | refine Rep.alloc _ ?_ _ | assumption))) (by omega), by (repeat (first | refine bset ?_ (by simp; omega) _ | refine bset ?_ (by simp) _ | refine balloc ?_ _ | assumption))⟩
          simp [results, Tryz.results64, go_sem, r0, r1, r2, r3, r4, r5, rf]
        · have f1 : (l.con == c) = true := by simp [m1]
          have f2 : (l.sh == s) = false := by simp [m2]
          have HP2 : Hid (∀ j, j < k + 1 → sameS (xs.getD j default) (freS c s) = false) := fun j hj => by
            by_cases e : j = k
            · subst e
              rw [← HL.out]
              simp [sameS, freS, m2]
            · exact HP.out j (by omega)
          clear m1 m2 hV
          go_wp2
          refine ⟨⟨k + 1, by omega, by go_num, HP2, HWR⟩, by simp [intOf]; omega⟩
      · have f1 : (l.con == c) = false := by simp [m1]
        have HP2 : Hid (∀ j, j < k + 1 → sameS (xs.getD j default) (freS c s) = false) := fun j hj => by
          by_cases e : j = k
          · subst e
            rw [← HL.out]
            simp [sameS, freS, m1]
          · exact HP.out j (by omega)
        clear m1 hV
        go_wp2
        refine ⟨⟨k + 1, by omega, by go_num, HP2, HWR⟩, by simp [intOf]; omega⟩
    · have hkn : k = n := by omega
      subst hkn
      have HS : Hid (slotO xs (freS c s) = freS c s) := slotO_none (fun j hj => HP.out j (by rw [← HN.out]; exact hj))
      go_wp2_with fail
      refine (HNew.out _).mono ?_
      rintro e w2 ⟨a2, c2, F3, rfl, o3, hb2⟩
      have hB2 : Below w.heap.size w w2 := bstep hbl hb2
      have hz2 := hb2.size
      replace r0 := cell_keep hb2 r0
      replace r1 := cell_keep hb2 r1
      replace r2 := cell_keep hb2 r2
      replace r3 := cell_keep hb2 r3
      replace r4 := cell_keep hb2 r4
      replace r5 := cell_keep hb2 r5
      replace rf : ∀ o, w2.frozen? ⟨w.heap.size + 1, o, none⟩ = false := fun o => by rw [(bcell hb2).2 _ _ (by omega)]; exact rf o
      replace o3 := sltR.base (base' := w.heap.size + 2) o3 (by omega)
      clear hb2 HNew
      have hfd := slotField
      go_wp2
      refine bodyPost_ret (v := .agg #[.int .i64 c, .int .i64 s, .int .i64 (-1), .int .i64 (-1), .int .i64 0, .slice a2 0 c2]) ?_ rfl ⟨_, F3, rfl, by rw [HS.out]; exact sltR.base (base := w.heap.size + 2) (by (repeat (first | refine Rep.set _ ?_ _ (by simp; omega) | refine Rep.set _ ?_ _ (by simp) | refine Rep.alloc _ ?_ _ | assumption))) (by omega), by (repeat (first | refine bset ?_ (by simp; omega) _ | refine bset ?_ (by simp) _ | refine balloc ?_ _ | assumption))⟩
      simp [results, Tryz.results64, go_sem, r0, r1, r2, r3, r4, r5, rf]
end Go.Proofs.YtncmdeijimgchaaGreat

/-
  PromiseSlot, the specification's.
-/
set_option linter.unusedSimpArgs false
set_option linter.unusedVariables false
namespace Go.Proofs.YtncmdeijimgchaaGreat
open Go.RowKit
set_option linter.unusedSectionVars false
variable [DecidableEq Vot] [Inhabited Vot] [DecidableEq Slt] [Inhabited Slt] [DecidableEq SltR] [Inhabited SltR] [DecidableEq Bal] [Inhabited Bal] [DecidableEq Ledg] [Inhabited Ledg] [DecidableEq Leg] [Inhabited Leg]
attribute [local go_sem ↓] Go.wp_at_zero Go.wp_at_succ

set_option maxHeartbeats 4000000 in
theorem specProm_u (x : Value) (d : Slt) (b : Int) (w : World) (hx : sltR.V w x d) (hn : wtSlt d ≤ 1048576) :
    Calls Tryz.prog 63 #[x, .int .i64 b] w fun e w' => ∃ v F, e = .returned v ∧ sltRR.O w' w.heap.size F v (promD d b) ∧ Below w.heap.size w w' := by
  have hX := hx
  obtain ⟨u1, rfl, hx⟩ := hx
  obtain ⟨ax, cx, rfl⟩ := vots_form hx
  clear hx
  have hl : d.cast.length ≤ 1048576 := hn
  clear hn
  go_enter Tryz.func63, Tryz.ntmps63
  go_wp2_with fail
  refine (specSlotF_any _ d _ (sltR.below hX (by (repeat (first | exact Below.refl _ _ | assumption | refine Below.drew ?_ | refine balloc ?_ _ | refine bset ?_ (by simp; omega) _ | refine bset ?_ (by simp) _ | refine bstep ?_ (by assumption)))))).mono ?_
  rintro e w1 ⟨rfl, hb1⟩
  have hB1 : Below w.heap.size w w1 := bstep (by (repeat (first | exact Below.refl _ _ | assumption | refine Below.drew ?_ | refine balloc ?_ _ | refine bset ?_ (by simp; omega) _ | refine bset ?_ (by simp) _ | refine bstep ?_ (by assumption)))) hb1
  have y0 : w1.cell? ⟨w.heap.size, 0, none⟩ = some (.int .i64 d.con) := cell_keep hb1 (by simp [go_sem])
  have y1 : w1.cell? ⟨w.heap.size, 1, none⟩ = some (.int .i64 d.sh) := cell_keep hb1 (by simp [go_sem])
  have y2 : w1.cell? ⟨w.heap.size, 2, none⟩ = some (.int .i64 d.pr) := cell_keep hb1 (by simp [go_sem])
  have y3 : w1.cell? ⟨w.heap.size, 3, none⟩ = some (.int .i64 d.lb) := cell_keep hb1 (by simp [go_sem])
  have y4 : w1.cell? ⟨w.heap.size, 4, none⟩ = some (.int .i64 d.lv) := cell_keep hb1 (by simp [go_sem])
  have y5 : w1.cell? ⟨w.heap.size, 5, none⟩ = some (.slice ax d.cast.length cx) := cell_keep hb1 (by simp [go_sem])
  have yf : ∀ o, w1.frozen? ⟨w.heap.size, o, none⟩ = false := fun o => by rw [(bcell hb1).2 _ _ (by simp; try omega)]; simp [go_sem]
  have q0 : w1.cell? ⟨w.heap.size + 1, 0, none⟩ = some (.int .i64 0) := cell_keep hb1 (by simp [go_sem])
  have q1 : w1.cell? ⟨w.heap.size + 1, 1, none⟩ = some (.int .i64 0) := cell_keep hb1 (by simp [go_sem])
  have q2 : w1.cell? ⟨w.heap.size + 1, 2, none⟩ = some (.int .i64 0) := cell_keep hb1 (by simp [go_sem])
  have q3 : w1.cell? ⟨w.heap.size + 1, 3, none⟩ = some (.int .i64 0) := cell_keep hb1 (by simp [go_sem])
  have q4 : w1.cell? ⟨w.heap.size + 1, 4, none⟩ = some (.int .i64 0) := cell_keep hb1 (by simp [go_sem])
  have q5 : w1.cell? ⟨w.heap.size + 1, 5, none⟩ = some (.int .i64 0) := cell_keep hb1 (by simp [go_sem])
  have q6 : w1.cell? ⟨w.heap.size + 1, 6, none⟩ = some (.int .i64 0) := cell_keep hb1 (by simp [go_sem])
  have q7 : w1.cell? ⟨w.heap.size + 1, 7, none⟩ = some (.int .i64 0) := cell_keep hb1 (by simp [go_sem])
  have q8 : w1.cell? ⟨w.heap.size + 1, 8, none⟩ = some (.slice none 0 0) := cell_keep hb1 (by simp [go_sem])
  have qf : ∀ o, w1.frozen? ⟨w.heap.size + 1, o, none⟩ = false := fun o => by rw [(bcell hb1).2 _ _ (by simp; try omega)]; simp [go_sem]
  have z1 := hb1.size
  simp at z1
  have hs1 := hB1.size
  clear hb1
  by_cases hf : sltFault d = 0
  · have HF : Hid (sltFault d = 0) := hf
    rw [hf]
    clear hf
    cases h1 : inB b 0 1000
    · have HD : Hid (promD d b = errS 3) := promD_range HF.out h1
      go_wp2_with (go_at_call 25; refine (l8Ballot_any _ _).mono ?_; rintro e w' ⟨rfl, hw'⟩; obtain rfl := hw'.symm; rw [h1])
      refine bodyPost_ret (v := .agg #[.int .i64 3, .int .i64 0, .int .i64 0, .int .i64 0, .int .i64 0, .int .i64 0, .int .i64 0, .int .i64 0, .slice none 0 0]) (by simp [results, Tryz.results63, go_sem, q0, q1, q2, q3, q4, q5, q6, q7, q8, qf]) rfl ?_
      rw [HD.out]
      first | exact ⟨_, rfl, ⟨_, sltR_nil _ _ 3 0 0 0 0 0 0 0⟩, by (repeat (first | refine bset ?_ (by simp; omega) _ | refine bset ?_ (by simp) _ | refine balloc ?_ _ | assumption))⟩ | exact ⟨_, _, rfl, sltR_nil _ _ 3 0 0 0 0 0 0 0, by (repeat (first | refine bset ?_ (by simp; omega) _ | refine bset ?_ (by simp) _ | refine balloc ?_ _ | assumption))⟩
    by_cases h2 : b < d.pr
    · have HD : Hid (promD d b = errS 8) := promD_busy HF.out h1 h2
      go_wp2_with (go_at_call 25; refine (l8Ballot_any _ _).mono ?_; rintro e w' ⟨rfl, hw'⟩; obtain rfl := hw'.symm; rw [h1])
      refine bodyPost_ret (v := .agg #[.int .i64 8, .int .i64 0, .int .i64 0, .int .i64 0, .int .i64 0, .int .i64 0, .int .i64 0, .int .i64 0, .slice none 0 0]) (by simp [results, Tryz.results63, go_sem, q0, q1, q2, q3, q4, q5, q6, q7, q8, qf]) rfl ?_
      rw [HD.out]
      first | exact ⟨_, rfl, ⟨_, sltR_nil _ _ 8 0 0 0 0 0 0 0⟩, by (repeat (first | refine bset ?_ (by simp; omega) _ | refine bset ?_ (by simp) _ | refine balloc ?_ _ | assumption))⟩ | exact ⟨_, _, rfl, sltR_nil _ _ 8 0 0 0 0 0 0 0, by (repeat (first | refine bset ?_ (by simp; omega) _ | refine bset ?_ (by simp) _ | refine balloc ?_ _ | assumption))⟩
    · have HD : Hid (promD d b = ⟨0, d.lb, d.lv, ⟨d.con, d.sh, b, d.lb, d.lv, d.cast⟩⟩) := promD_ok HF.out h1 h2
      go_wp2_with (first | (go_at_call 25; refine (l8Ballot_any _ _).mono ?_; rintro e w' ⟨rfl, hw'⟩; obtain rfl := hw'.symm; rw [h1]) | fail)
      refine (l8Copy_u _ d _ (sltR.below hX hB1) hl).mono ?_
      rintro e w2 ⟨v2, F2, rfl, o2, hb2⟩
      obtain ⟨u2, F1, rfl, ov, hF⟩ := o2
      obtain ⟨a2, c2, rfl⟩ := vots_form (votsR.ofO ov)
      clear hF hX
      have hB2 : Below w.heap.size w w2 := bstep hB1 hb2
      replace y0 := cell_keep hb2 y0
      replace y1 := cell_keep hb2 y1
      replace y2 := cell_keep hb2 y2
      replace y3 := cell_keep hb2 y3
      replace y4 := cell_keep hb2 y4
      replace y5 := cell_keep hb2 y5
      replace yf : ∀ o, w2.frozen? ⟨w.heap.size, o, none⟩ = false := fun o => by rw [(bcell hb2).2 _ _ (by omega)]; exact yf o
      replace q0 := cell_keep hb2 q0
      replace q1 := cell_keep hb2 q1
      replace q2 := cell_keep hb2 q2
      replace q3 := cell_keep hb2 q3
      replace q4 := cell_keep hb2 q4
      replace q5 := cell_keep hb2 q5
      replace q6 := cell_keep hb2 q6
      replace q7 := cell_keep hb2 q7
      replace q8 := cell_keep hb2 q8
      replace qf : ∀ o, w2.frozen? ⟨w.heap.size + 1, o, none⟩ = false := fun o => by rw [(bcell hb2).2 _ _ (by omega)]; exact qf o
      have hs2 := hb2.size
      have zz0 : w.heap.size < w2.heap.size := World.block_lt_of_cell? w2 _ y0
      have zz1 : w.heap.size + 1 < w2.heap.size := World.block_lt_of_cell? w2 _ q0
      clear hb2 hB1
      go_wp2
      refine bodyPost_ret (v := .agg #[.int .i64 0, .int .i64 d.lb, .int .i64 d.lv, .int .i64 d.con, .int .i64 d.sh, .int .i64 b, .int .i64 d.lb, .int .i64 d.lv, .slice a2 d.cast.length c2]) (by simp [results, Tryz.results63, go_sem, q0, q1, q2, q3, q4, q5, q6, q7, q8, qf, zz0, zz1]) rfl ?_
      rw [HD.out]
      refine ⟨_, fun b => F1 b, rfl, ?_, ?_⟩
      · refine ⟨.slice a2 d.cast.length c2, fun b => F1 b, rfl, ?_, fun b => Iff.rfl⟩
        refine ⟨.slice a2 d.cast.length c2, F1, rfl, ?_, fun b => Iff.rfl⟩
        refine votsR.base (base := w1.heap.size) ?_ (by omega)
        refine Rep.alloc _ ?_ _
        iterate 9 (refine Rep.set _ ?_ _ (by simp; omega))
        exact ov
      · skip
        refine balloc ?_ _
        iterate 9 (refine bset ?_ (by simp) _)
        exact hB2
  · have HD : Hid (promD d b = errS (sltFault d)) := promD_fault hf
    generalize sltFault d = c at *
    go_wp2
    refine bodyPost_ret (v := .agg #[.int .i64 c, .int .i64 0, .int .i64 0, .int .i64 0, .int .i64 0, .int .i64 0, .int .i64 0, .int .i64 0, .slice none 0 0]) (by simp [results, Tryz.results63, go_sem, q0, q1, q2, q3, q4, q5, q6, q7, q8, qf]) rfl ?_
    rw [HD.out]
    first | exact ⟨_, rfl, ⟨_, sltR_nil _ _ c 0 0 0 0 0 0 0⟩, by (repeat (first | refine bset ?_ (by simp; omega) _ | refine bset ?_ (by simp) _ | refine balloc ?_ _ | assumption))⟩ | exact ⟨_, _, rfl, sltR_nil _ _ c 0 0 0 0 0 0 0, by (repeat (first | refine bset ?_ (by simp; omega) _ | refine bset ?_ (by simp) _ | refine balloc ?_ _ | assumption))⟩
end Go.Proofs.YtncmdeijimgchaaGreat

/-
  PromiseAt, AcceptAt, the document's.
-/
set_option linter.unusedSimpArgs false
set_option linter.unusedVariables false
namespace Go.Proofs.YtncmdeijimgchaaGreat
open Go.RowKit
set_option linter.unusedSectionVars false
variable [DecidableEq Vot] [Inhabited Vot] [DecidableEq Slt] [Inhabited Slt] [DecidableEq Bal] [Inhabited Bal] [DecidableEq Ledg] [Inhabited Ledg] [DecidableEq Leg] [Inhabited Leg] [DecidableEq Acc] [Inhabited Acc] [DecidableEq SltR] [Inhabited SltR] [DecidableEq AccR] [Inhabited AccR] [DecidableEq AccsR] [Inhabited AccsR] [DecidableEq SltsR] [Inhabited SltsR]
attribute [local go_sem ↓] Go.wp_at_zero Go.wp_at_succ

set_option maxRecDepth 20000 in
set_option maxHeartbeats 4000000 in
theorem specPromAt_u (x : Value) (d : Acc) (c s b : Int) (w : World) (hx : accR.V w x d) :
    Calls Tryz.prog 29 #[x, .int .i64 c, .int .i64 s, .int .i64 b] w (AskE (promAtD d.slots c s b) w) := by
  have hX := hx
  obtain ⟨u1, rfl, hx⟩ := hx
  obtain ⟨xs⟩ := d
  dsimp only at hx hX ⊢
  have HAs : Hid (∀ W, Below w.heap.size w W → Calls Tryz.prog 61 #[.agg #[u1], .int .i64 c, .int .i64 s] W fun e w' => e = .returned (.int .i64 (if accF xs = 0 then (if idOk c s = true then 0 else 3) else accF xs)) ∧ Below W.heap.size W w') := fun W hW => l9Asked_any _ ⟨xs⟩ c s W (accR.below hX hW)
  have HSl : Hid (∀ W, Below w.heap.size w W → AccOk xs → idOk c s = true → Calls Tryz.prog 64 #[.agg #[u1], .int .i64 c, .int .i64 s] W fun e w' => ∃ v F, e = .returned v ∧ sltR.O w' W.heap.size F v (slotO xs (freS c s)) ∧ Below W.heap.size W w') := fun W hW hok hid => l9Slot_u _ ⟨xs⟩ c s W (accR.below hX hW) hid (accOk_cast hok)
  have HTd : Hid (∀ W r p q base F, Below w.heap.size w W → AccOk xs → sltR.O W base F (.agg #[.int .i64 r.slot.con, .int .i64 r.slot.sh, .int .i64 r.slot.pr, .int .i64 r.slot.lb, .int .i64 r.slot.lv, .slice p r.slot.cast.length q]) r.slot → base ≤ W.heap.size → Calls Tryz.prog 62 #[.agg #[u1], .agg #[.int .i64 r.code, .int .i64 r.ob, .int .i64 r.ov, .int .i64 r.slot.con, .int .i64 r.slot.sh, .int .i64 r.slot.pr, .int .i64 r.slot.lb, .int .i64 r.slot.lv, .slice p r.slot.cast.length q]] W (AskB (toldD xs r) base W)) := fun W r p q base F hW hok hu hb => l9Told_u _ ⟨xs⟩ r p q base F W (accR.below hX hW) hok hu hb
  clear hX
  obtain ⟨au, cu, rfl⟩ := slts_form hx
  clear hx
  generalize xs.length = n at *
  go_enter Tryz.func29, Tryz.ntmps29
  go_wp2_with fail
  refine (HAs.out _ (by (repeat (first | exact Below.refl _ _ | assumption | refine Below.drew ?_ | refine balloc ?_ _ | refine bset ?_ (by simp; omega) _ | refine bset ?_ (by simp) _ | refine bstep ?_ (by assumption))))).mono ?_
  rintro e w1 ⟨rfl, hb1⟩
  have hB1 : Below w.heap.size w w1 := by (repeat (first | exact Below.refl _ _ | assumption | refine Below.drew ?_ | refine balloc ?_ _ | refine bset ?_ (by simp; omega) _ | refine bset ?_ (by simp) _ | refine bstep ?_ (by assumption)))
  have hz1 := hb1.size
  simp at hz1
  obtain ⟨c1, f1⟩ := bcell hb1
  have y0 : w1.cell? ⟨w.heap.size, 0, none⟩ = some (.slice au n cu) := cell_keep hb1 (by simp [go_sem])
  have r0 : w1.cell? ⟨w.heap.size + 1, 0, none⟩ = some (.int .i64 0) := cell_keep hb1 (by simp [go_sem])
  have r1 : w1.cell? ⟨w.heap.size + 1, 1, none⟩ = some (.int .i64 0) := cell_keep hb1 (by simp [go_sem])
  have r2 : w1.cell? ⟨w.heap.size + 1, 2, none⟩ = some (.int .i64 0) := cell_keep hb1 (by simp [go_sem])
  have r3 : w1.cell? ⟨w.heap.size + 1, 3, none⟩ = some (.slice none 0 0) := cell_keep hb1 (by simp [go_sem])
  have rf : ∀ o, w1.frozen? ⟨w.heap.size + 1, o, none⟩ = false := fun o => by rw [f1 _ _ (by simp; try omega)]; simp [go_sem]
  clear hb1 c1 f1 HAs
  by_cases hf : accF xs = 0
  rotate_left
  · rw [if_neg hf]
    have HC : Hid (promAtD xs c s b = errA (accF xs)) := by show _ = _; unfold promAtD; rw [if_neg hf]
    clear HSl HTd
    generalize accF xs = k at *
    have hf' : (k != 0) = true := by simp [hf]
    go_wp2
    exact bodyPost_ret (v := .agg #[.int .i64 k, .int .i64 0, .int .i64 0, .slice none 0 0]) (by simp [results, Tryz.results29, go_sem, r0, r1, r2, r3, rf]) rfl (askE_err HC.out (by (repeat (first | refine bset ?_ (by simp; omega) _ | refine bset ?_ (by simp) _ | refine balloc ?_ _ | assumption))))
  rw [if_pos hf]
  have HOK : Hid (AccOk xs) := accOk_of hf
  have HF : Hid (accF xs = 0) := hf
  clear hf
  cases hid : idOk c s
  · have HC : Hid (promAtD xs c s b = errA 3) := by show _ = _; unfold promAtD; rw [if_pos HF.out, hid]; rfl
    rw [if_neg (by simp)]
    clear HSl HTd
    go_wp2
    exact bodyPost_ret (v := .agg #[.int .i64 3, .int .i64 0, .int .i64 0, .slice none 0 0]) (by simp [results, Tryz.results29, go_sem, r0, r1, r2, r3, rf]) rfl (askE_err HC.out (by (repeat (first | refine bset ?_ (by simp; omega) _ | refine bset ?_ (by simp) _ | refine balloc ?_ _ | assumption))))
  rw [if_pos rfl]
  have HD : Hid (∀ r, promD (slotO xs (freS c s)) b = r → promAtD xs c s b = toldD xs r) := fun r h => by unfold promAtD; rw [if_pos HF.out, hid, if_pos rfl, h]
  have HSf : Hid (sltFault (slotO xs (freS c s)) = 0) := slotO_ok HOK.out hid
  have HID : Hid (idOk c s = true) := hid
  clear hid HF
  have zy : w.heap.size < w1.heap.size := World.block_lt_of_cell? w1 _ y0
  have zr : w.heap.size + 1 < w1.heap.size := World.block_lt_of_cell? w1 _ r0
  go_wp2
  refine wp_region_noPanic ?_
  refine region_upto (fun W => Below w1.heap.size w1 W ∧ W.cell? ⟨w.heap.size, 0, none⟩ = some (.slice au n cu)) 8 (by kernel_rfl) ⟨by (repeat (first | exact Below.refl _ _ | assumption | refine Below.drew ?_ | refine balloc ?_ _ | refine bset ?_ (by simp; omega) _ | refine bset ?_ (by simp) _ | refine bstep ?_ (by assumption))), cell_keep (by (repeat (first | exact Below.refl _ _ | assumption | refine Below.drew ?_ | refine balloc ?_ _ | refine bset ?_ (by simp; omega) _ | refine bset ?_ (by simp) _ | refine bstep ?_ (by assumption)))) y0⟩ (fun hS => ?_)
  refine upto_take (i := 0) (v := ?_) rfl (by kernel_rfl) (by kernel_rfl) (by kernel_rfl) (by kernel_rfl) (fun _ _ _ h => h) (by rfl) hS ?_ ?_
  rotate_left
  · intro wS hSw
    try dsimp only at hSw
    first | (go_simp; done) | (go_simp; with_reducible rfl)
  try simp only [Act.put, List.getElem_toArray, List.getElem_cons_zero, List.getElem_cons_succ, List.setIfInBounds_toArray, List.set_cons_zero, List.set_cons_succ]
  refine upto_take (i := 1) (v := ?_) rfl (by kernel_rfl) (by kernel_rfl) (by kernel_rfl) (by kernel_rfl) (fun _ _ _ h => h) (by rfl) hS ?_ ?_
  rotate_left
  · intro wS hSw
    try dsimp only at hSw
    first | (go_simp; done) | (go_simp; with_reducible rfl)
  try simp only [Act.put, List.getElem_toArray, List.getElem_cons_zero, List.getElem_cons_succ, List.setIfInBounds_toArray, List.set_cons_zero, List.set_cons_succ]
  refine upto_take (i := 2) (v := ?_) rfl (by kernel_rfl) (by kernel_rfl) (by kernel_rfl) (by kernel_rfl) (fun _ _ _ h => h) (by rfl) hS ?_ ?_
  rotate_left
  · intro wS hSw
    try dsimp only at hSw
    first | (go_simp; done) | (go_simp; with_reducible rfl)
  try simp only [Act.put, List.getElem_toArray, List.getElem_cons_zero, List.getElem_cons_succ, List.setIfInBounds_toArray, List.set_cons_zero, List.set_cons_succ]
  refine upto_take (i := 3) (v := ?_) rfl (by kernel_rfl) (by kernel_rfl) (by kernel_rfl) (by kernel_rfl) (fun _ _ _ h => h) (by rfl) hS ?_ ?_
  rotate_left
  · intro wS hSw
    try dsimp only at hSw
    first | (go_simp; done) | (go_simp; with_reducible rfl)
  try simp only [Act.put, List.getElem_toArray, List.getElem_cons_zero, List.getElem_cons_succ, List.setIfInBounds_toArray, List.set_cons_zero, List.set_cons_succ]
  refine upto_take (i := 5) (v := ?_) rfl (by kernel_rfl) (by kernel_rfl) (by kernel_rfl) (by kernel_rfl) (fun _ _ _ h => h) (by rfl) hS ?_ ?_
  rotate_left
  · intro wS hSw
    try dsimp only at hSw
    first | (go_simp; done) | (go_simp; with_reducible rfl)
  try simp only [Act.put, List.getElem_toArray, List.getElem_cons_zero, List.getElem_cons_succ, List.setIfInBounds_toArray, List.set_cons_zero, List.set_cons_succ]
  have hbd : Below w1.heap.size w1 w1.drew := Below.drew (Below.refl _ _)
  refine upto_step (i := 4) (by kernel_rfl) rfl ?_
  intro K hK
  go_simp
  refine (HSl.out _ (bstep hB1 hbd) HOK.out HID.out).mono ?_
  rintro e w2 ⟨v2, F2, rfl, o2, hb2⟩
  obtain ⟨d2, hd2⟩ : ∃ d2, d2 = slotO xs (freS c s) := ⟨_, rfl⟩
  rw [← hd2] at o2 HSf HD
  clear hd2
  obtain ⟨p2, q2, rfl, _⟩ := slt_cells o2
  have hB12 : Below w1.heap.size w1 w2 := bstep hbd hb2
  have hS2 : (fun W => Below w1.heap.size w1 W ∧ W.cell? ⟨w.heap.size, 0, none⟩ = some (.slice au n cu)) w2 := ⟨hB12, cell_keep hB12 y0⟩
  refine hK _ _ (fun _ => hS2) ?_
  clear hK K
  try simp only [Act.put, List.getElem_toArray, List.getElem_cons_zero, List.getElem_cons_succ, List.setIfInBounds_toArray, List.set_cons_zero, List.set_cons_succ]
  have HV2 : Hid (∀ W, Below w2.heap.size w2 W → Calls Tryz.prog 63 #[.agg #[.int .i64 d2.con, .int .i64 d2.sh, .int .i64 d2.pr, .int .i64 d2.lb, .int .i64 d2.lv, .slice p2 d2.cast.length q2], .int .i64 b] W fun e w' => ∃ v F, e = .returned v ∧ sltRR.O w' W.heap.size F v (promD d2 b) ∧ Below W.heap.size W w') := fun W hW => specProm_u _ d2 b W (sltR.below (sltR.ofO o2) hW) (by have := (sltOk_of HSf.out).len; unfold wtSlt wtVots; omega)
  refine upto_step (i := 6) (by kernel_rfl) rfl ?_
  intro K hK
  go_simp
  refine (HV2.out _ (Below.refl _ _)).mono ?_
  rintro e w3 ⟨v3, F3, rfl, o3, hb3⟩
  obtain ⟨r, hr⟩ : ∃ r, r = promD d2 b := ⟨_, rfl⟩
  rw [← hr] at o3
  have HDr : Hid (promAtD xs c s b = toldD xs r) := HD.out r hr.symm
  clear hr
  obtain ⟨p3, q3, rfl, o3s⟩ := sltR_cells o3
  have hB13 : Below w1.heap.size w1 w3 := bstep hB12 hb3
  have hS3 : (fun W => Below w1.heap.size w1 W ∧ W.cell? ⟨w.heap.size, 0, none⟩ = some (.slice au n cu)) w3 := ⟨hB13, cell_keep hB13 y0⟩
  refine hK _ _ (fun _ => hS3) ?_
  clear hK K HV2 HD HSf
  try simp only [Act.put, List.getElem_toArray, List.getElem_cons_zero, List.getElem_cons_succ, List.setIfInBounds_toArray, List.set_cons_zero, List.set_cons_succ]
  have hz3 := hB12.size
  have hz4 := hb3.size
  have hB3 : Below w.heap.size w w3 := bstep hB1 hB13
  have HT3 : Hid (Calls Tryz.prog 62 #[.agg #[.slice au n cu], .agg #[.int .i64 r.code, .int .i64 r.ob, .int .i64 r.ov, .int .i64 r.slot.con, .int .i64 r.slot.sh, .int .i64 r.slot.pr, .int .i64 r.slot.lb, .int .i64 r.slot.lv, .slice p3 r.slot.cast.length q3]] w3 (AskB (toldD xs r) (w.heap.size + 2) w3)) := HTd.out w3 r p3 q3 (w.heap.size + 2) F3 hB3 HOK.out (sltR.base o3s (by omega)) (by omega)
  refine upto_step (i := 7) (by kernel_rfl) rfl ?_
  intro K hK
  go_simp
  refine HT3.out.mono ?_
  rintro e w4 ⟨v4, F4, rfl, o4, hb4⟩
  obtain ⟨R, hR⟩ : ∃ R, R = promAtD xs c s b := ⟨_, rfl⟩
  rw [← HDr.out, ← hR] at o4
  have HRR : Hid (R = promAtD xs c s b) := hR
  clear hR HDr
  obtain ⟨av, cv, rfl, o5⟩ := accR_cells o4
  have hB14 : Below w1.heap.size w1 w4 := bstep hB13 hb4
  have hS4 : (fun W => Below w1.heap.size w1 W ∧ W.cell? ⟨w.heap.size, 0, none⟩ = some (.slice au n cu)) w4 := ⟨hB14, cell_keep hB14 y0⟩
  refine hK _ _ (fun _ => hS4) ?_
  clear hK K
  try simp only [Act.put, List.getElem_toArray, List.getElem_cons_zero, List.getElem_cons_succ, List.setIfInBounds_toArray, List.set_cons_zero, List.set_cons_succ]
  have hB4 : Below w.heap.size w w4 := bstep hB1 hB14
  replace r0 := cell_keep hB14 r0
  replace r1 := cell_keep hB14 r1
  replace r2 := cell_keep hB14 r2
  replace r3 := cell_keep hB14 r3
  replace rf : ∀ o, w4.frozen? ⟨w.heap.size + 1, o, none⟩ = false := fun o => by rw [(bcell hB14).2 _ _ (by omega)]; exact rf o
  have HFl : Hid (∀ b, F4 b → w.heap.size + 2 ≤ b) := fun b hb => (accR.rng o5 b hb).1
  have HO : Hid (accR.O w4 w.heap.size F4 (.agg #[.slice av R.acc.slots.length cv]) R.acc) := accR.base o5 (by omega)
  clear o4 o5 o3 o3s o2 HTd HSl HT3
  refine upto_step (i := 8) (by kernel_rfl) rfl ?_
  intro K hK
  go_simp
  refine hK _ _ (fun h => absurd rfl h) ?_
  clear hK K
  refine upto_done (by kernel_rfl) ?_
  refine NoPanic.normal ?_
  clear hS hS2 hS3 hS4
  generalize hm : R.acc.slots.length = m at *
  go_wp2
  refine bodyPost_ret (v := .agg #[.int .i64 R.code, .int .i64 R.ob, .int .i64 R.ov, .slice av m cv]) (by simp [results, Tryz.results29, go_sem, r0, r1, r2, r3, rf]) rfl ?_
  rw [← HRR.out]
  refine ⟨_, F4, rfl, ⟨_, F4, rfl, ?_, fun b => Iff.rfl⟩, by (repeat (first | refine bset ?_ (by simp; omega) _ | refine bset ?_ (by simp) _ | refine balloc ?_ _ | assumption))⟩
  have hk : ∀ (W : World) (u : Value) (j : Nat), accR.O W w.heap.size F4 (.agg #[.slice av m cv]) R.acc → accR.O (W.setCell ⟨w.heap.size + 1, j, none⟩ u) w.heap.size F4 (.agg #[.slice av m cv]) R.acc := fun W u j h => Rep.setN _ h u (fun hb => by have := HFl.out _ hb; dsimp only at this; omega)
  exact hk _ _ _ (hk _ _ _ (hk _ _ _ (hk _ _ _ HO.out)))
set_option maxRecDepth 20000 in
set_option maxHeartbeats 4000000 in
theorem specAccAt_u (x : Value) (d : Acc) (c s b vl : Int) (w : World) (hx : accR.V w x d) :
    Calls Tryz.prog 32 #[x, .int .i64 c, .int .i64 s, .int .i64 b, .int .i64 vl] w (AskE (accAtD d.slots c s b vl) w) := by
  have hX := hx
  obtain ⟨u1, rfl, hx⟩ := hx
  obtain ⟨xs⟩ := d
  dsimp only at hx hX ⊢
  have HAs : Hid (∀ W, Below w.heap.size w W → Calls Tryz.prog 61 #[.agg #[u1], .int .i64 c, .int .i64 s] W fun e w' => e = .returned (.int .i64 (if accF xs = 0 then (if idOk c s = true then 0 else 3) else accF xs)) ∧ Below W.heap.size W w') := fun W hW => l9Asked_any _ ⟨xs⟩ c s W (accR.below hX hW)
  have HSl : Hid (∀ W, Below w.heap.size w W → AccOk xs → idOk c s = true → Calls Tryz.prog 64 #[.agg #[u1], .int .i64 c, .int .i64 s] W fun e w' => ∃ v F, e = .returned v ∧ sltR.O w' W.heap.size F v (slotO xs (freS c s)) ∧ Below W.heap.size W w') := fun W hW hok hid => l9Slot_u _ ⟨xs⟩ c s W (accR.below hX hW) hid (accOk_cast hok)
  have HTd : Hid (∀ W r p q base F, Below w.heap.size w W → AccOk xs → sltR.O W base F (.agg #[.int .i64 r.slot.con, .int .i64 r.slot.sh, .int .i64 r.slot.pr, .int .i64 r.slot.lb, .int .i64 r.slot.lv, .slice p r.slot.cast.length q]) r.slot → base ≤ W.heap.size → Calls Tryz.prog 62 #[.agg #[u1], .agg #[.int .i64 r.code, .int .i64 r.ob, .int .i64 r.ov, .int .i64 r.slot.con, .int .i64 r.slot.sh, .int .i64 r.slot.pr, .int .i64 r.slot.lb, .int .i64 r.slot.lv, .slice p r.slot.cast.length q]] W (AskB (toldD xs r) base W)) := fun W r p q base F hW hok hu hb => l9Told_u _ ⟨xs⟩ r p q base F W (accR.below hX hW) hok hu hb
  clear hX
  obtain ⟨au, cu, rfl⟩ := slts_form hx
  clear hx
  generalize xs.length = n at *
  go_enter Tryz.func32, Tryz.ntmps32
  go_wp2_with fail
  refine (HAs.out _ (by (repeat (first | exact Below.refl _ _ | assumption | refine Below.drew ?_ | refine balloc ?_ _ | refine bset ?_ (by simp; omega) _ | refine bset ?_ (by simp) _ | refine bstep ?_ (by assumption))))).mono ?_
  rintro e w1 ⟨rfl, hb1⟩
  have hB1 : Below w.heap.size w w1 := by (repeat (first | exact Below.refl _ _ | assumption | refine Below.drew ?_ | refine balloc ?_ _ | refine bset ?_ (by simp; omega) _ | refine bset ?_ (by simp) _ | refine bstep ?_ (by assumption)))
  have hz1 := hb1.size
  simp at hz1
  obtain ⟨c1, f1⟩ := bcell hb1
  have y0 : w1.cell? ⟨w.heap.size, 0, none⟩ = some (.slice au n cu) := cell_keep hb1 (by simp [go_sem])
  have r0 : w1.cell? ⟨w.heap.size + 1, 0, none⟩ = some (.int .i64 0) := cell_keep hb1 (by simp [go_sem])
  have r1 : w1.cell? ⟨w.heap.size + 1, 1, none⟩ = some (.int .i64 0) := cell_keep hb1 (by simp [go_sem])
  have r2 : w1.cell? ⟨w.heap.size + 1, 2, none⟩ = some (.int .i64 0) := cell_keep hb1 (by simp [go_sem])
  have r3 : w1.cell? ⟨w.heap.size + 1, 3, none⟩ = some (.slice none 0 0) := cell_keep hb1 (by simp [go_sem])
  have rf : ∀ o, w1.frozen? ⟨w.heap.size + 1, o, none⟩ = false := fun o => by rw [f1 _ _ (by simp; try omega)]; simp [go_sem]
  clear hb1 c1 f1 HAs
  by_cases hf : accF xs = 0
  rotate_left
  · rw [if_neg hf]
    have HC : Hid (accAtD xs c s b vl = errA (accF xs)) := by show _ = _; unfold accAtD; rw [if_neg hf]
    clear HSl HTd
    generalize accF xs = k at *
    have hf' : (k != 0) = true := by simp [hf]
    go_wp2
    exact bodyPost_ret (v := .agg #[.int .i64 k, .int .i64 0, .int .i64 0, .slice none 0 0]) (by simp [results, Tryz.results32, go_sem, r0, r1, r2, r3, rf]) rfl (askE_err HC.out (by (repeat (first | refine bset ?_ (by simp; omega) _ | refine bset ?_ (by simp) _ | refine balloc ?_ _ | assumption))))
  rw [if_pos hf]
  have HOK : Hid (AccOk xs) := accOk_of hf
  have HF : Hid (accF xs = 0) := hf
  clear hf
  cases hid : idOk c s
  · have HC : Hid (accAtD xs c s b vl = errA 3) := by show _ = _; unfold accAtD; rw [if_pos HF.out, hid]; rfl
    rw [if_neg (by simp)]
    clear HSl HTd
    go_wp2
    exact bodyPost_ret (v := .agg #[.int .i64 3, .int .i64 0, .int .i64 0, .slice none 0 0]) (by simp [results, Tryz.results32, go_sem, r0, r1, r2, r3, rf]) rfl (askE_err HC.out (by (repeat (first | refine bset ?_ (by simp; omega) _ | refine bset ?_ (by simp) _ | refine balloc ?_ _ | assumption))))
  rw [if_pos rfl]
  have HD : Hid (∀ r, accD (slotO xs (freS c s)) b vl = r → accAtD xs c s b vl = toldD xs r) := fun r h => by unfold accAtD; rw [if_pos HF.out, hid, if_pos rfl, h]
  have HSf : Hid (sltFault (slotO xs (freS c s)) = 0) := slotO_ok HOK.out hid
  have HID : Hid (idOk c s = true) := hid
  clear hid HF
  have zy : w.heap.size < w1.heap.size := World.block_lt_of_cell? w1 _ y0
  have zr : w.heap.size + 1 < w1.heap.size := World.block_lt_of_cell? w1 _ r0
  go_wp2
  refine wp_region_noPanic ?_
  refine region_upto (fun W => Below w1.heap.size w1 W ∧ W.cell? ⟨w.heap.size, 0, none⟩ = some (.slice au n cu)) 9 (by kernel_rfl) ⟨by (repeat (first | exact Below.refl _ _ | assumption | refine Below.drew ?_ | refine balloc ?_ _ | refine bset ?_ (by simp; omega) _ | refine bset ?_ (by simp) _ | refine bstep ?_ (by assumption))), cell_keep (by (repeat (first | exact Below.refl _ _ | assumption | refine Below.drew ?_ | refine balloc ?_ _ | refine bset ?_ (by simp; omega) _ | refine bset ?_ (by simp) _ | refine bstep ?_ (by assumption)))) y0⟩ (fun hS => ?_)
  refine upto_take (i := 0) (v := ?_) rfl (by kernel_rfl) (by kernel_rfl) (by kernel_rfl) (by kernel_rfl) (fun _ _ _ h => h) (by rfl) hS ?_ ?_
  rotate_left
  · intro wS hSw
    try dsimp only at hSw
    first | (go_simp; done) | (go_simp; with_reducible rfl)
  try simp only [Act.put, List.getElem_toArray, List.getElem_cons_zero, List.getElem_cons_succ, List.setIfInBounds_toArray, List.set_cons_zero, List.set_cons_succ]
  refine upto_take (i := 1) (v := ?_) rfl (by kernel_rfl) (by kernel_rfl) (by kernel_rfl) (by kernel_rfl) (fun _ _ _ h => h) (by rfl) hS ?_ ?_
  rotate_left
  · intro wS hSw
    try dsimp only at hSw
    first | (go_simp; done) | (go_simp; with_reducible rfl)
  try simp only [Act.put, List.getElem_toArray, List.getElem_cons_zero, List.getElem_cons_succ, List.setIfInBounds_toArray, List.set_cons_zero, List.set_cons_succ]
  refine upto_take (i := 2) (v := ?_) rfl (by kernel_rfl) (by kernel_rfl) (by kernel_rfl) (by kernel_rfl) (fun _ _ _ h => h) (by rfl) hS ?_ ?_
  rotate_left
  · intro wS hSw
    try dsimp only at hSw
    first | (go_simp; done) | (go_simp; with_reducible rfl)
  try simp only [Act.put, List.getElem_toArray, List.getElem_cons_zero, List.getElem_cons_succ, List.setIfInBounds_toArray, List.set_cons_zero, List.set_cons_succ]
  refine upto_take (i := 3) (v := ?_) rfl (by kernel_rfl) (by kernel_rfl) (by kernel_rfl) (by kernel_rfl) (fun _ _ _ h => h) (by rfl) hS ?_ ?_
  rotate_left
  · intro wS hSw
    try dsimp only at hSw
    first | (go_simp; done) | (go_simp; with_reducible rfl)
  try simp only [Act.put, List.getElem_toArray, List.getElem_cons_zero, List.getElem_cons_succ, List.setIfInBounds_toArray, List.set_cons_zero, List.set_cons_succ]
  refine upto_take (i := 5) (v := ?_) rfl (by kernel_rfl) (by kernel_rfl) (by kernel_rfl) (by kernel_rfl) (fun _ _ _ h => h) (by rfl) hS ?_ ?_
  rotate_left
  · intro wS hSw
    try dsimp only at hSw
    first | (go_simp; done) | (go_simp; with_reducible rfl)
  try simp only [Act.put, List.getElem_toArray, List.getElem_cons_zero, List.getElem_cons_succ, List.setIfInBounds_toArray, List.set_cons_zero, List.set_cons_succ]
  refine upto_take (i := 6) (v := ?_) rfl (by kernel_rfl) (by kernel_rfl) (by kernel_rfl) (by kernel_rfl) (fun _ _ _ h => h) (by rfl) hS ?_ ?_
  rotate_left
  · intro wS hSw
    try dsimp only at hSw
    first | (go_simp; done) | (go_simp; with_reducible rfl)
  try simp only [Act.put, List.getElem_toArray, List.getElem_cons_zero, List.getElem_cons_succ, List.setIfInBounds_toArray, List.set_cons_zero, List.set_cons_succ]
  have hbd : Below w1.heap.size w1 w1.drew := Below.drew (Below.refl _ _)
  refine upto_step (i := 4) (by kernel_rfl) rfl ?_
  intro K hK
  go_simp
  refine (HSl.out _ (bstep hB1 hbd) HOK.out HID.out).mono ?_
  rintro e w2 ⟨v2, F2, rfl, o2, hb2⟩
  obtain ⟨d2, hd2⟩ : ∃ d2, d2 = slotO xs (freS c s) := ⟨_, rfl⟩
  rw [← hd2] at o2 HSf HD
  clear hd2
  obtain ⟨p2, q2, rfl, _⟩ := slt_cells o2
  have hB12 : Below w1.heap.size w1 w2 := bstep hbd hb2
  have hS2 : (fun W => Below w1.heap.size w1 W ∧ W.cell? ⟨w.heap.size, 0, none⟩ = some (.slice au n cu)) w2 := ⟨hB12, cell_keep hB12 y0⟩
  refine hK _ _ (fun _ => hS2) ?_
  clear hK K
  try simp only [Act.put, List.getElem_toArray, List.getElem_cons_zero, List.getElem_cons_succ, List.setIfInBounds_toArray, List.set_cons_zero, List.set_cons_succ]
  have HV2 : Hid (∀ W, Below w2.heap.size w2 W → Calls Tryz.prog 66 #[.agg #[.int .i64 d2.con, .int .i64 d2.sh, .int .i64 d2.pr, .int .i64 d2.lb, .int .i64 d2.lv, .slice p2 d2.cast.length q2], .int .i64 b, .int .i64 vl] W fun e w' => ∃ v F, e = .returned v ∧ sltRR.O w' W.heap.size F v (accD d2 b vl) ∧ Below W.heap.size W w') := fun W hW => specAcc_u _ d2 b vl W (sltR.below (sltR.ofO o2) hW) (by have := (sltOk_of HSf.out).len; unfold wtSlt wtVots; omega)
  refine upto_step (i := 7) (by kernel_rfl) rfl ?_
  intro K hK
  go_simp
  refine (HV2.out _ (Below.refl _ _)).mono ?_
  rintro e w3 ⟨v3, F3, rfl, o3, hb3⟩
  obtain ⟨r, hr⟩ : ∃ r, r = accD d2 b vl := ⟨_, rfl⟩
  rw [← hr] at o3
  have HDr : Hid (accAtD xs c s b vl = toldD xs r) := HD.out r hr.symm
  clear hr
  obtain ⟨p3, q3, rfl, o3s⟩ := sltR_cells o3
  have hB13 : Below w1.heap.size w1 w3 := bstep hB12 hb3
  have hS3 : (fun W => Below w1.heap.size w1 W ∧ W.cell? ⟨w.heap.size, 0, none⟩ = some (.slice au n cu)) w3 := ⟨hB13, cell_keep hB13 y0⟩
  refine hK _ _ (fun _ => hS3) ?_
  clear hK K HV2 HD HSf
  try simp only [Act.put, List.getElem_toArray, List.getElem_cons_zero, List.getElem_cons_succ, List.setIfInBounds_toArray, List.set_cons_zero, List.set_cons_succ]
  have hz3 := hB12.size
  have hz4 := hb3.size
  have hB3 : Below w.heap.size w w3 := bstep hB1 hB13
  have HT3 : Hid (Calls Tryz.prog 62 #[.agg #[.slice au n cu], .agg #[.int .i64 r.code, .int .i64 r.ob, .int .i64 r.ov, .int .i64 r.slot.con, .int .i64 r.slot.sh, .int .i64 r.slot.pr, .int .i64 r.slot.lb, .int .i64 r.slot.lv, .slice p3 r.slot.cast.length q3]] w3 (AskB (toldD xs r) (w.heap.size + 2) w3)) := HTd.out w3 r p3 q3 (w.heap.size + 2) F3 hB3 HOK.out (sltR.base o3s (by omega)) (by omega)
  refine upto_step (i := 8) (by kernel_rfl) rfl ?_
  intro K hK
  go_simp
  refine HT3.out.mono ?_
  rintro e w4 ⟨v4, F4, rfl, o4, hb4⟩
  obtain ⟨R, hR⟩ : ∃ R, R = accAtD xs c s b vl := ⟨_, rfl⟩
  rw [← HDr.out, ← hR] at o4
  have HRR : Hid (R = accAtD xs c s b vl) := hR
  clear hR HDr
  obtain ⟨av, cv, rfl, o5⟩ := accR_cells o4
  have hB14 : Below w1.heap.size w1 w4 := bstep hB13 hb4
  have hS4 : (fun W => Below w1.heap.size w1 W ∧ W.cell? ⟨w.heap.size, 0, none⟩ = some (.slice au n cu)) w4 := ⟨hB14, cell_keep hB14 y0⟩
  refine hK _ _ (fun _ => hS4) ?_
  clear hK K
  try simp only [Act.put, List.getElem_toArray, List.getElem_cons_zero, List.getElem_cons_succ, List.setIfInBounds_toArray, List.set_cons_zero, List.set_cons_succ]
  have hB4 : Below w.heap.size w w4 := bstep hB1 hB14
  replace r0 := cell_keep hB14 r0
  replace r1 := cell_keep hB14 r1
  replace r2 := cell_keep hB14 r2
  replace r3 := cell_keep hB14 r3
  replace rf : ∀ o, w4.frozen? ⟨w.heap.size + 1, o, none⟩ = false := fun o => by rw [(bcell hB14).2 _ _ (by omega)]; exact rf o
  have HFl : Hid (∀ b, F4 b → w.heap.size + 2 ≤ b) := fun b hb => (accR.rng o5 b hb).1
  have HO : Hid (accR.O w4 w.heap.size F4 (.agg #[.slice av R.acc.slots.length cv]) R.acc) := accR.base o5 (by omega)
  clear o4 o5 o3 o3s o2 HTd HSl HT3
  refine upto_step (i := 9) (by kernel_rfl) rfl ?_
  intro K hK
  go_simp
  refine hK _ _ (fun h => absurd rfl h) ?_
  clear hK K
  refine upto_done (by kernel_rfl) ?_
  refine NoPanic.normal ?_
  clear hS hS2 hS3 hS4
  generalize hm : R.acc.slots.length = m at *
  go_wp2
  refine bodyPost_ret (v := .agg #[.int .i64 R.code, .int .i64 R.ob, .int .i64 R.ov, .slice av m cv]) (by simp [results, Tryz.results32, go_sem, r0, r1, r2, r3, rf]) rfl ?_
  rw [← HRR.out]
  refine ⟨_, F4, rfl, ⟨_, F4, rfl, ?_, fun b => Iff.rfl⟩, by (repeat (first | refine bset ?_ (by simp; omega) _ | refine bset ?_ (by simp) _ | refine balloc ?_ _ | assumption))⟩
  have hk : ∀ (W : World) (u : Value) (j : Nat), accR.O W w.heap.size F4 (.agg #[.slice av m cv]) R.acc → accR.O (W.setCell ⟨w.heap.size + 1, j, none⟩ u) w.heap.size F4 (.agg #[.slice av m cv]) R.acc := fun W u j h => Rep.setN _ h u (fun hb => by have := HFl.out _ hb; dsimp only at this; omega)
  exact hk _ _ _ (hk _ _ _ (hk _ _ _ (hk _ _ _ HO.out)))
end Go.Proofs.YtncmdeijimgchaaGreat

/-
  SlotsFor, the document's.
-/
set_option linter.unusedSimpArgs false
set_option linter.unusedVariables false
namespace Go.Proofs.YtncmdeijimgchaaGreat
open Go.RowKit
set_option linter.unusedSectionVars false
variable [DecidableEq Vot] [Inhabited Vot] [DecidableEq Slt] [Inhabited Slt] [DecidableEq SltR] [Inhabited SltR] [DecidableEq Bal] [Inhabited Bal] [DecidableEq Ledg] [Inhabited Ledg] [DecidableEq Leg] [Inhabited Leg] [DecidableEq Acc] [Inhabited Acc] [DecidableEq AccR] [Inhabited AccR] [DecidableEq AccsR] [Inhabited AccsR] [DecidableEq SltsR] [Inhabited SltsR]
attribute [local go_sem ↓] Go.wp_at_zero Go.wp_at_succ

theorem slotFieldC (a b c d e f g h : Int) (p : Option Addr) (n q : Nat) (w : World) : (Instr.field 78 (.agg #[.int .i64 a, .int .i64 b, .int .i64 c, .int .i64 d, .int .i64 e, .int .i64 f, .int .i64 g, .int .i64 h, .slice p n q]) 0).run Tryz.prog w = .ok (.int .i64 a) w := by kernel_rfl
set_option maxRecDepth 20000 in
set_option maxHeartbeats 4000000 in
theorem l9Slots_u (x : Value) (l : List Acc) (c s : Int) (w : World) (hx : accsR.V w x l) (hl : ListOk l) (hid : idOk c s = true) :
    Calls Tryz.prog 59 #[x, .int .i64 c, .int .i64 s] w fun e w' => ∃ v F, e = .returned v ∧ sltsR.O w' w.heap.size F v (slotsL l c s) ∧ Below w.heap.size w w' := by
  obtain ⟨a, cx, rfl, hcx, hmx, hx⟩ := accs_at hx
  unfold maxLen at hmx
  have hXs : Hid (∀ k, k < l.length → ∃ b o p q, a = some ⟨b, o, none⟩ ∧ w.cell? ⟨b, o + k, none⟩ = some (.slice p (l.getD k default).slots.length q) ∧ accR.V w (.agg #[.slice p (l.getD k default).slots.length q]) (l.getD k default)) := hx
  have HOk : Hid (∀ k, k < l.length → AccOk (l.getD k default).slots) := fun k hk => accs_cast hl hk
  have HID : Hid (idOk c s = true) := hid
  have hn5 := hl.hi
  clear hx hl hid
  obtain ⟨n, hn'⟩ : ∃ n, n = l.length := ⟨_, rfl⟩
  have HN : Hid (l.length = n) := hn'.symm
  rw [← hn'] at hcx hXs HOk hn5 ⊢
  clear hn'
  have hs0 : ∃ a c' F, (Value.slice (some ⟨w.heap.size, 0, none⟩) 0 0) = .slice a 0 c' ∧ sltsR.O (w.alloc (.cells #[] 76)) w.heap.size F (.slice a 0 c') ((slotsL l c s).take 0) := ⟨_, _, _, rfl, slts_lit w⟩
  go_enter Tryz.func59, Tryz.ntmps59
  go_wp2
  go_loopw [7, 8] (fun t i w' => ∃ k : Nat, k ≤ n ∧ i = .int .i64 k ∧ (∃ a c' F, t = .slice a k c' ∧ sltsR.O w' w.heap.size F (.slice a k c') ((slotsL l c s).take k)) ∧ Below w.heap.size w w') (fun t i _ => n - (intOf i).toNat)
  case atStart => exact ⟨0, Nat.zero_le _, rfl, hs0, by (repeat (first | exact Below.refl _ _ | assumption | refine Below.drew ?_ | refine balloc ?_ _ | refine bset ?_ (by simp; omega) _ | refine bset ?_ (by simp) _ | refine bstep ?_ (by assumption)))⟩
  case round =>
    clear hs0
    obtain ⟨k, hk, rfl, ⟨as_, cs_, F, rfl, ho⟩, hbl⟩ := hrel
    have HO : Hid (sltsR.O wr w.heap.size F (.slice as_ k cs_) ((slotsL l c s).take k)) := ho
    clear ho
    have hwz := hbl.size
    by_cases hlt : k < n
    · obtain ⟨b, o, p, q, rfl, hc, hV⟩ := hXs.out k hlt
      have hok := HOk.out k hlt
      have HL : Hid ((slotsL l c s).take (k + 1) = (slotsL l c s).take k ++ [slotO (l.getD k default).slots (freS c s)]) := slotsL_take l c s (by rw [HN.out]; exact hlt)
      have HB0 : Hid (b < w.heap.size) := World.block_lt_of_cell? w _ hc
      replace hc := cell_keep hbl hc
      have zb : b < wr.heap.size := World.block_lt_of_cell? wr _ hc
      have HSl : Hid (∀ W, Below w.heap.size w W → Calls Tryz.prog 64 #[.agg #[.slice p (l.getD k default).slots.length q], .int .i64 c, .int .i64 s] W fun e w' => ∃ v F, e = .returned v ∧ sltR.O w' W.heap.size F v (slotO (l.getD k default).slots (freS c s)) ∧ Below W.heap.size W w') := fun W hW => l9Slot_u _ _ c s W (accR.below hV hW) HID.out (fun j hj => Nat.le_trans (sltOk_of (hok.ok j hj)).len (by omega))
      clear hV hok
      generalize slotO (l.getD k default).slots (freS c s) = y at *
      generalize (l.getD k default).slots.length = m at *
      go_wp2_with fail
      refine (HSl.out _ (by (repeat (first | exact Below.refl _ _ | assumption | refine Below.drew ?_ | refine balloc ?_ _ | refine bset ?_ (by simp; omega) _ | refine bset ?_ (by simp) _ | refine bstep ?_ (by assumption))))).mono ?_
      rintro e w2 ⟨v2, F2, rfl, o2, hb2⟩
      obtain ⟨a2, c2, rfl, _⟩ := slt_cells o2
      have hB2 : Below w.heap.size w w2 := bstep hbl hb2
      have hz2 := hb2.size
      have HO2 : Hid (sltsR.O w2 w.heap.size F (.slice as_ k cs_) ((slotsL l c s).take k)) := sltsR.keep HO.out hb2
      have HFl : Hid (∀ b, F b → b < wr.heap.size) := fun b hb => (sltsR.rng HO.out b hb).2
      have HF2 : Hid (∀ b, F2 b → wr.heap.size ≤ b) := fun b hb => (sltR.rng o2 b hb).1
      have HU : Hid (sltR.O w2 w.heap.size F2 (.agg #[.int .i64 y.con, .int .i64 y.sh, .int .i64 y.pr, .int .i64 y.lb, .int .i64 y.lv, .slice a2 y.cast.length c2]) y) := sltR.base o2 hwz
      clear hb2 o2 HSl HO hc
      go_wp2_with (at_builtin; refine wpl_appS _ rfl _ _ rfl w.heap.size F F2 _ ((slotsL l c s).take k) y w2.heap.size a2 c2 rfl rfl ?a1 ?a2 ?a3 ?a4 ?a5 ?a6 ?_)
      case a1 => exact sltsR.alloc HO2.out _
      case a2 => exact sltR.alloc HU.out _
      case a3 => exact fun b h1 h2 => by have := HFl.out b h1; have := HF2.out b h2; omega
      case a4 => simp [go_sem]
      case a5 => rw [List.length_take, slotsL_len, HN.out]; omega
      case a6 => simp; omega
      intro v3 w3 F3 o3 hb3 _
      rw [← HL.out] at o3
      obtain ⟨a3, c3, e3⟩ := slts_form (sltsR.ofO o3)
      rw [show ((slotsL l c s).take (k + 1)).length = k + 1 by rw [List.length_take, slotsL_len, HN.out]; omega] at e3
      subst e3
      have o3' : ∃ a c' F, (Value.slice a3 (k + 1) c3) = .slice a (k + 1) c' ∧ sltsR.O w3 w.heap.size F (.slice a (k + 1) c') ((slotsL l c s).take (k + 1)) := ⟨_, _, F3, rfl, o3⟩
      have hB4 : Below w.heap.size w w3 := Below.trans (balloc hB2 _) hb3
      clear o3 hb3
      go_wp2
      exact ⟨⟨k + 1, by omega, by go_num, o3', hB4⟩, by simp [intOf]; omega⟩
    · have hkn : k = n := by omega
      subst hkn
      have ho := HO.out
      rw [List.take_of_length_le (by rw [slotsL_len, HN.out]; exact Nat.le_refl _)] at ho
      have HO2 : Hid (sltsR.O wr w.heap.size F (.slice as_ k cs_) (slotsL l c s)) := ho
      clear ho HO
      go_wp2
      refine bodyPost_ret (v := .slice as_ k cs_) (by simp [results, Tryz.results59, go_sem]) rfl ⟨_, F, rfl, HO2.out, hbl⟩
set_option maxRecDepth 20000 in
set_option maxHeartbeats 4000000 in
theorem specSlotsFor_u (x : Value) (l : List Acc) (c s : Int) (w : World) (hx : accsR.V w x l) :
    Calls Tryz.prog 24 #[x, .int .i64 c, .int .i64 s] w (SfE l c s w) := by
  have HLf : Hid (∀ W, Below w.heap.size w W → Calls Tryz.prog 46 #[x] W fun e w' => e = .returned (.int .i64 (listF l)) ∧ Below W.heap.size W w') := fun W hW => specListF_any x l W (accsR.below hx hW)
  have HSl : Hid (∀ W, Below w.heap.size w W → ListOk l → idOk c s = true → Calls Tryz.prog 59 #[x, .int .i64 c, .int .i64 s] W fun e w' => ∃ v F, e = .returned v ∧ sltsR.O w' W.heap.size F v (slotsL l c s) ∧ Below W.heap.size W w') := fun W hW h1 h2 => l9Slots_u x l c s W (accsR.below hx hW) h1 h2
  obtain ⟨a, cx, rfl⟩ := accs_form hx
  clear hx
  have hfd := slotFieldC
  generalize l.length = n at *
  go_enter Tryz.func24, Tryz.ntmps24
  go_wp2_with fail
  refine (HLf.out _ (by (repeat (first | exact Below.refl _ _ | assumption | refine Below.drew ?_ | refine balloc ?_ _ | refine bset ?_ (by simp; omega) _ | refine bset ?_ (by simp) _ | refine bstep ?_ (by assumption))))).mono ?_
  rintro e w1 ⟨rfl, hb1⟩
  have hB1 : Below w.heap.size w w1 := by (repeat (first | exact Below.refl _ _ | assumption | refine Below.drew ?_ | refine balloc ?_ _ | refine bset ?_ (by simp; omega) _ | refine bset ?_ (by simp) _ | refine bstep ?_ (by assumption)))
  have hz1 := hb1.size
  simp at hz1
  obtain ⟨c1, f1⟩ := bcell hb1
  have r0 : w1.cell? ⟨w.heap.size, 0, none⟩ = some (.int .i64 0) := cell_keep hb1 (by simp [go_sem])
  have r1 : w1.cell? ⟨w.heap.size, 1, none⟩ = some (.slice none 0 0) := cell_keep hb1 (by simp [go_sem])
  have rf : ∀ o, w1.frozen? ⟨w.heap.size, o, none⟩ = false := fun o => by rw [f1 _ _ (by simp; try omega)]; simp [go_sem]
  clear hb1 c1 f1 HLf
  by_cases hf : listF l = 0
  rotate_left
  · have HC : Hid (slotsD l c s = ⟨listF l, []⟩) := by show _ = _; unfold slotsD; rw [if_neg hf]
    clear HSl
    generalize listF l = g at *
    have hg' : (g != 0) = true := by simp [hf]
    go_wp2
    exact bodyPost_ret (v := .agg #[.int .i64 g, .slice none 0 0]) (by simp [results, Tryz.results24, go_sem, r0, r1, rf]) rfl (sfE_err HC.out (by (repeat (first | refine bset ?_ (by simp; omega) _ | refine bset ?_ (by simp) _ | refine balloc ?_ _ | assumption))))
  rw [hf]
  cases hid : idOk c s
  · have HC : Hid (slotsD l c s = ⟨3, []⟩) := by show _ = _; unfold slotsD; rw [if_pos hf, hid]; rfl
    have HNw : Hid (∀ W, Calls Tryz.prog 58 #[.int .i64 c, .int .i64 s] W (NewB W)) := fun W => specNew_bad c s W hid
    clear HSl hid
    go_wp2_with fail
    refine (HNw.out _).mono ?_
    rintro e w2 ⟨rfl, hb2⟩
    have hB2 : Below w.heap.size w w2 := bstep hB1 hb2
    replace r0 := cell_keep hb2 r0
    replace r1 := cell_keep hb2 r1
    replace rf : ∀ o, w2.frozen? ⟨w.heap.size, o, none⟩ = false := fun o => by rw [(bcell hb2).2 _ _ (by omega)]; exact rf o
    clear hb2
    go_wp2
    exact bodyPost_ret (v := .agg #[.int .i64 3, .slice none 0 0]) (by simp [results, Tryz.results24, go_sem, r0, r1, rf]) rfl (sfE_err HC.out (by (repeat (first | refine bset ?_ (by simp; omega) _ | refine bset ?_ (by simp) _ | refine balloc ?_ _ | assumption))))
  have HC : Hid (slotsD l c s = ⟨0, slotsL l c s⟩) := by show _ = _; unfold slotsD; rw [if_pos hf, hid]; rfl
  have HNw : Hid (∀ W, Calls Tryz.prog 58 #[.int .i64 c, .int .i64 s] W (NewE c s W)) := fun W => specNew_ok c s W hid
  have HLk : Hid (ListOk l ∧ idOk c s = true) := ⟨listOk_of hf, hid⟩
  clear hf hid
  go_wp2_with fail
  refine (HNw.out _).mono ?_
  rintro e w2 ⟨p2, q2, F2, rfl, o2, hb2⟩
  have hB2 : Below w.heap.size w w2 := bstep hB1 hb2
  replace r0 := cell_keep hb2 r0
  replace r1 := cell_keep hb2 r1
  replace rf : ∀ o, w2.frozen? ⟨w.heap.size, o, none⟩ = false := fun o => by rw [(bcell hb2).2 _ _ (by omega)]; exact rf o
  have hz2 := hb2.size
  clear hb2 o2
  go_wp2_with fail
  refine (HSl.out _ hB2 HLk.out.1 HLk.out.2).mono ?_
  rintro e w3 ⟨v3, F3, rfl, o3, hb3⟩
  obtain ⟨a3, c3, rfl⟩ := slts_form (sltsR.ofO o3)
  have hB3 : Below w.heap.size w w3 := bstep hB2 hb3
  have HO : Hid (sltsR.O w3 (w.heap.size + 1) F3 (.slice a3 (slotsL l c s).length c3) (slotsL l c s)) := sltsR.base o3 (by omega)
  replace r0 := cell_keep hb3 r0
  replace r1 := cell_keep hb3 r1
  replace rf : ∀ o, w3.frozen? ⟨w.heap.size, o, none⟩ = false := fun o => by rw [(bcell hb3).2 _ _ (by omega)]; exact rf o
  clear hb3 o3 HSl
  generalize (slotsL l c s).length = m at *
  go_wp2
  refine bodyPost_ret (v := .agg #[.int .i64 0, .slice a3 m c3]) (by simp [results, Tryz.results24, go_sem, r0, r1, rf]) rfl ?_
  refine ⟨_, F3, rfl, ?_, by (repeat (first | refine bset ?_ (by simp; omega) _ | refine bset ?_ (by simp) _ | refine balloc ?_ _ | assumption))⟩
  rw [HC.out]
  refine ⟨_, F3, rfl, ?_, fun _ => Iff.rfl⟩
  exact sltsR.base (Rep.set _ (Rep.set _ HO.out _ (by simp)) _ (by simp)) (by omega)
end Go.Proofs.YtncmdeijimgchaaGreat

