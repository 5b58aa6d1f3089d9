import Derived.Test.YtbdbjdnebmaimaaPrnChosenAtLaw10
import Derived.BigQuiet
import Derived.Deep.QuietTactic
import Derived.Deep.RegionHeld3
import Derived.Test.YtbdbjdnebmaimaaPrnChosenAtLaw4
import Derived.Test.YtbdbjdnebmaimaaPrnChosenAtLaw5
import Derived.Test.YtbdbjdnebmaimaaPrnChosenAtLaw9

/-
  The slots of a list of acceptors.
-/
set_option linter.unusedSimpArgs false
set_option linter.unusedVariables false
namespace Go.Proofs.Ytbdbjdnebmaimaa
open Go.RowKit
set_option linter.unusedSectionVars false
variable [DecidableEq Vot] [Inhabited Vot] [DecidableEq Slt] [Inhabited Slt] [DecidableEq SltR] [Inhabited SltR] [DecidableEq Bal] [Inhabited Bal] [DecidableEq Ledg] [Inhabited Ledg] [DecidableEq Leg] [Inhabited Leg] [DecidableEq Acc] [Inhabited Acc] [DecidableEq AccR] [Inhabited AccR] [DecidableEq AccsR] [Inhabited AccsR] [DecidableEq SltsR] [Inhabited SltsR]
attribute [local go_sem ↓] Go.wp_at_zero Go.wp_at_succ

theorem slotsL_len (l : List Acc) (c s : Int) : (slotsL l c s).length = l.length := by simp [slotsL]
theorem slotsL_take (l : List Acc) (c s : Int) {k : Nat} (hk : k < l.length) : (slotsL l c s).take (k + 1) = (slotsL l c s).take k ++ [slotO (l.getD k default).slots (freS c s)] := by
  rw [List.take_succ_eq_append_getElem (by rw [slotsL_len]; exact hk)]
  simp [slotsL, List.getD, hk]
theorem accs_cast {l : List Acc} (h : ListOk l) {k : Nat} (hk : k < l.length) : AccOk (l.getD k default).slots := accOk_of (h.ok k hk)
theorem slts_lit (w : World) : sltsR.O (w.alloc (.cells #[] 50)) w.heap.size (fun b => (Value.slice (some ⟨w.heap.size, 0, none⟩) 0 0).ownBlock = some b ∨ ∃ i, i < ([] : List Slt).length ∧ (fun _ _ => False : Nat → Nat → Prop) i b) (.slice (some ⟨w.heap.size, 0, none⟩) 0 0) [] :=
  ⟨[], fun _ => default, fun _ _ => False, ⟨World.ownsRow_lit (base := w.heap.size) (e := 50) (size := 6) w #[] 0 (Nat.le_refl _) (by unfold maxLen; omega) rfl, fun i hi => absurd hi (Nat.not_lt_zero _), fun i hi => absurd hi (Nat.not_lt_zero _), fun i hi => absurd hi (Nat.not_lt_zero _), fun i hi => absurd hi (Nat.not_lt_zero _), fun i j hi => absurd hi (Nat.not_lt_zero _)⟩, fun b => Iff.rfl⟩
def SfE (l : List Acc) (c s : Int) (w : World) (e : Ending) (w' : World) : Prop := ∃ v F, e = .returned v ∧ sltsRR.O w' w.heap.size F v (slotsD l c s) ∧ Below w.heap.size w w'
theorem sfE_err {l : List Acc} {c s k : Int} {w w' : World} (h : slotsD l c s = ⟨k, []⟩) (hb : Below w.heap.size w w') : SfE l c s w (.returned (.agg #[.int .i64 k, .slice none 0 0])) w' :=
  ⟨_, _, rfl, by rw [h]; exact ⟨_, _, rfl, slts_nil w' w.heap.size, fun _ => Iff.rfl⟩, hb⟩
theorem slotsD_code {l : List Acc} {c s : Int} (h : ¬ freC l c s = 0) : slotsD l c s = ⟨freC l c s, []⟩ := by
  unfold slotsD freC at *
  by_cases h1 : listF l = 0
  · rw [if_pos h1] at h ⊢
    rw [if_pos h1]
    cases h2 : idOk c s with
    | true => rw [h2] at h; simp at h
    | false => rfl
  · rw [if_neg h1, if_neg h1]
theorem slotsD_ok {l : List Acc} {c s : Int} (h : freC l c s = 0) : slotsD l c s = ⟨0, slotsL l c s⟩ := by
  obtain ⟨h1, h2⟩ := freC_ok h
  unfold slotsD
  rw [if_pos h1, if_pos h2]
end Go.Proofs.Ytbdbjdnebmaimaa

/-
  What is chosen of acceptors.
-/
set_option linter.unusedSimpArgs false
set_option linter.unusedVariables false
namespace Go.Proofs.Ytbdbjdnebmaimaa
open Go.RowKit
set_option linter.unusedSectionVars false
variable [DecidableEq Vot] [Inhabited Vot] [DecidableEq Slt] [Inhabited Slt] [DecidableEq SltR] [Inhabited SltR] [DecidableEq Bal] [Inhabited Bal] [DecidableEq Ledg] [Inhabited Ledg] [DecidableEq Leg] [Inhabited Leg] [DecidableEq Acc] [Inhabited Acc] [DecidableEq AccR] [Inhabited AccR] [DecidableEq AccsR] [Inhabited AccsR] [DecidableEq SltsR] [Inhabited SltsR]
attribute [local go_sem ↓] Go.wp_at_zero Go.wp_at_succ

def hdV (ys : List Vot) : Int := if ys.length = 0 then 0 else (ys.getD 0 default).val
theorem slotsL_at (l : List Acc) (c s : Int) {k : Nat} (hk : k < l.length) : (slotsL l c s).getD k default = slotO (l.getD k default).slots (freS c s) := by
  simp [slotsL, List.getD, hk]
theorem ask_slots {l : List Acc} {c s : Int} (hl : ListOk l) (hid : idOk c s = true) : askF (slotsL l c s) = 0 := by
  have hlen := slotsL_len l c s
  have h1 : scanI (askAt (slotsL l c s)) (slotsL l c s).length = 0 := scanI_of (fun k hk => by
    rw [hlen] at hk
    show sltFault ((slotsL l c s).getD k default) = 0
    rw [slotsL_at l c s hk]
    exact slotO_ok (accOk_of (hl.ok k hk)) hid)
  refine askF_same h1 (inBi.2 (by have := hl.lo; have := hl.hi; rw [hlen]; omega)) (scanI_of (fun k hk => ?_))
  rw [hlen] at hk
  unfold sameAt
  rw [slotsL_at l c s hk, slotsL_at l c s (show 0 < l.length by omega)]
  have e1 := slotO_same (l.getD k default).slots (freS c s)
  have e2 := slotO_same (l.getD 0 default).slots (freS c s)
  rw [if_pos ⟨e1.1.trans e2.1.symm, e1.2.trans e2.2.symm⟩]
def chC (l : List Acc) (c s : Int) (ys : List Vot) : Int := if freC l c s = 0 then (if hdV ys = 0 then 4 else 0) else freC l c s
def chR (l : List Acc) (c s : Int) (ys : List Vot) : Int := if freC l c s = 0 then hdV ys else 0
theorem freS_V {w : World} {c s : Int} {p : Option Addr} {q : Nat} (h : sltR.V w (.agg #[.int .i64 c, .int .i64 s, .int .i64 (-1), .int .i64 (-1), .int .i64 0, .slice p 0 q]) (freS c s)) (W : World) : sltR.V W (.agg #[.int .i64 c, .int .i64 s, .int .i64 (-1), .int .i64 (-1), .int .i64 0, .slice p 0 q]) (freS c s) := by
  obtain ⟨u, e, a, cap, hu, h1, h2, _⟩ := h
  simp only [freS, Value.agg.injEq, Array.mk.injEq, List.cons.injEq, and_true, true_and] at e
  rw [hu] at e
  simp only [freS, Value.slice.injEq] at e
  obtain ⟨rfl, _, rfl⟩ := e
  exact ⟨_, rfl, _, _, rfl, h1, h2, fun i hi => absurd hi (by simp [freS])⟩
theorem chs_slots {l : List Acc} {c s : Int} (hl : ListOk l) (hid : idOk c s = true) : AllOk (slotsL l c s) := (askF_ok (ask_slots hl hid)).1
theorem chs_exL (l : List Acc) (c s : Int) : ∃ ys, freC l c s = 0 → Chs (slotsL l c s) ys := by
  by_cases h : freC l c s = 0
  · obtain ⟨h1, h2⟩ := freC_ok h
    obtain ⟨ys, hy⟩ := chs_ex (chs_slots (listOk_of h1) h2)
    exact ⟨ys, fun _ => hy⟩
  · exact ⟨[], fun h' => absurd h' h⟩
end Go.Proofs.Ytbdbjdnebmaimaa

/-
  The slot that is asked, the document's.
-/
set_option linter.unusedSimpArgs false
set_option linter.unusedVariables false
namespace Go.Proofs.Ytbdbjdnebmaimaa
open Go.RowKit
set_option linter.unusedSectionVars false
variable [DecidableEq Vot] [Inhabited Vot] [DecidableEq Slt] [Inhabited Slt] [DecidableEq SltR] [Inhabited SltR] [DecidableEq Bal] [Inhabited Bal] [DecidableEq Ledg] [Inhabited Ledg] [DecidableEq Leg] [Inhabited Leg] [DecidableEq Acc] [Inhabited Acc] [DecidableEq AccR] [Inhabited AccR] [DecidableEq AccsR] [Inhabited AccsR] [DecidableEq SltsR] [Inhabited SltsR]
attribute [local go_sem ↓] Go.wp_at_zero Go.wp_at_succ

set_option maxRecDepth 20000 in
set_option maxHeartbeats 8000000 in
theorem l9Slot_u (x : Value) (d : Acc) (c s : Int) (w : World) (hx : accR.V w x d) (hid : idOk c s = true) (hw : ∀ k, k < d.slots.length → (d.slots.getD k default).cast.length ≤ 1048576) :
    Calls Try.prog 109 #[x, .int .i64 c, .int .i64 s] w fun e w' => ∃ v F, e = .returned v ∧ sltR.O w' w.heap.size F v (slotO d.slots (freS c s)) ∧ Below w.heap.size w w' := by
  obtain ⟨u1, rfl, hx⟩ := hx
  obtain ⟨xs⟩ := d
  dsimp only at hx hw ⊢
  obtain ⟨au, cu, rfl, hcx, hmx, hx⟩ := hx
  unfold maxLen at hmx
  have hXs : Hid (∀ k, k < xs.length → ∃ b o p q, au = some ⟨b, o, none⟩ ∧ (w.cell? ⟨b, o + k * 6, none⟩ = some (.int .i64 (xs.getD k default).con) ∧ w.cell? ⟨b, o + k * 6 + 1, none⟩ = some (.int .i64 (xs.getD k default).sh) ∧ w.cell? ⟨b, o + k * 6 + 2, none⟩ = some (.int .i64 (xs.getD k default).pr) ∧ w.cell? ⟨b, o + k * 6 + 3, none⟩ = some (.int .i64 (xs.getD k default).lb) ∧ w.cell? ⟨b, o + k * 6 + 4, none⟩ = some (.int .i64 (xs.getD k default).lv) ∧ w.cell? ⟨b, o + k * 6 + 5, none⟩ = some (.slice p (xs.getD k default).cast.length q)) ∧ sltR.V w (.agg #[.int .i64 (xs.getD k default).con, .int .i64 (xs.getD k default).sh, .int .i64 (xs.getD k default).pr, .int .i64 (xs.getD k default).lb, .int .i64 (xs.getD k default).lv, .slice p (xs.getD k default).cast.length q]) (xs.getD k default)) := fun k hk => slts_at hx hk
  have HW : Hid (∀ k, k < xs.length → (xs.getD k default).cast.length ≤ 1048576) := hw
  have HNew : Hid (∀ W, Calls Try.prog 114 #[.int .i64 c, .int .i64 s] W (NewE c s W)) := fun W => specNew_ok c s W hid
  clear hx hw hid
  obtain ⟨n, hn'⟩ : ∃ n, n = xs.length := ⟨_, rfl⟩
  have HN : Hid (xs.length = n) := hn'.symm
  rw [← hn'] at hcx hXs HW ⊢
  clear hn'
  go_enter Try.func109, Try.ntmps109
  go_wp2
  go_loopw [7] (fun i w' => ∃ k : Nat, k ≤ n ∧ i = .int .i64 k ∧ Hid (∀ j, j < k → sameS (xs.getD j default) (freS c s) = false) ∧ Hid (w' = (w.alloc (.cells #[.slice au n cu] 78)).alloc (.cells #[.int .i64 0, .int .i64 0, .int .i64 0, .int .i64 0, .int .i64 0, .slice none 0 0] 50))) (fun i _ => n - (intOf i).toNat)
  case atStart => exact ⟨0, Nat.zero_le _, rfl, fun j h => absurd h (Nat.not_lt_zero _), rfl⟩
  case round =>
    obtain ⟨k, hk, rfl, HP, HWR⟩ := hrel
    have hbl : Below w.heap.size w wr := by rw [HWR.out]; (repeat (first | exact Below.refl _ _ | assumption | refine Below.drew ?_ | refine balloc ?_ _ | refine bset ?_ (by simp; omega) _ | refine bset ?_ (by simp) _ | refine bstep ?_ (by assumption)))
    have y0 : wr.cell? ⟨w.heap.size, 0, none⟩ = some (.slice au n cu) := by rw [HWR.out]; simp [go_sem]
    have r0 : wr.cell? ⟨w.heap.size + 1, 0, none⟩ = some (.int .i64 0) := by rw [HWR.out]; simp [go_sem]
    have r1 : wr.cell? ⟨w.heap.size + 1, 1, none⟩ = some (.int .i64 0) := by rw [HWR.out]; simp [go_sem]
    have r2 : wr.cell? ⟨w.heap.size + 1, 2, none⟩ = some (.int .i64 0) := by rw [HWR.out]; simp [go_sem]
    have r3 : wr.cell? ⟨w.heap.size + 1, 3, none⟩ = some (.int .i64 0) := by rw [HWR.out]; simp [go_sem]
    have r4 : wr.cell? ⟨w.heap.size + 1, 4, none⟩ = some (.int .i64 0) := by rw [HWR.out]; simp [go_sem]
    have r5 : wr.cell? ⟨w.heap.size + 1, 5, none⟩ = some (.slice none 0 0) := by rw [HWR.out]; simp [go_sem]
    have rf : ∀ o, wr.frozen? ⟨w.heap.size + 1, o, none⟩ = false := fun o => by rw [HWR.out]; simp [go_sem]
    have zy : w.heap.size + 1 < wr.heap.size := World.block_lt_of_cell? wr _ r0
    by_cases hlt : k < n
    · obtain ⟨b, o, pp, qq, rfl, hc, hV⟩ := hXs.out k hlt
      have hcw := HW.out k hlt
      obtain ⟨l, hl⟩ : ∃ l, l = xs.getD k default := ⟨_, rfl⟩
      rw [← hl] at hc hV hcw
      have HL : Hid (l = xs.getD k default) := hl
      clear hl
      obtain ⟨g0, g1, g2, g3, g4, g5⟩ := (sltKeep2 hbl hc hc).2.1
      clear hc
      have zb : b < wr.heap.size := World.block_lt_of_cell? wr _ g0
      by_cases m1 : l.con = c
      · by_cases m2 : l.sh = s
        · have f1 : (l.con == c) = true := by simp [m1]
          have f2 : (l.sh == s) = true := by simp [m2]
          have HS : Hid (slotO xs (freS c s) = l) := by
            show _ = _
            rw [HL.out]
            exact slotO_at (by rw [HN.out]; exact hlt) HP.out (sameS_iff.2 (by rw [← HL.out]; exact ⟨m1, m2⟩))
          have HCp : Hid (∀ W, Below w.heap.size w W → Calls Try.prog 88 #[.agg #[.int .i64 l.con, .int .i64 l.sh, .int .i64 l.pr, .int .i64 l.lb, .int .i64 l.lv, .slice pp l.cast.length qq]] W fun e w' => ∃ v F, e = .returned v ∧ sltR.O w' W.heap.size F v l ∧ Below W.heap.size W w') := fun W hW => l8Copy_u _ l W (sltR.below hV hW) hcw
          clear m1 m2 hV
          go_wp2_with fail
          refine (HCp.out _ (by (repeat (first | exact Below.refl _ _ | assumption | refine Below.drew ?_ | refine balloc ?_ _ | refine bset ?_ (by simp; omega) _ | refine bset ?_ (by simp) _ | refine bstep ?_ (by assumption))))).mono ?_
          rintro e w2 ⟨v2, F2, rfl, o2, hb2⟩
          have hB2 : Below w.heap.size w w2 := bstep hbl hb2
          have hz2 := hb2.size
          obtain ⟨a2, c2, rfl, _⟩ := slt_cells o2
          replace r0 := cell_keep hb2 r0
          replace r1 := cell_keep hb2 r1
          replace r2 := cell_keep hb2 r2
          replace r3 := cell_keep hb2 r3
          replace r4 := cell_keep hb2 r4
          replace r5 := cell_keep hb2 r5
          replace rf : ∀ o, w2.frozen? ⟨w.heap.size + 1, o, none⟩ = false := fun o => by rw [(bcell hb2).2 _ _ (by omega)]; exact rf o
          replace o2 := sltR.base (base' := w.heap.size + 2) o2 (by omega)
          clear hb2 HCp
          go_wp2
          refine bodyPost_ret (v := .agg #[.int .i64 l.con, .int .i64 l.sh, .int .i64 l.pr, .int .i64 l.lb, .int .i64 l.lv, .slice a2 l.cast.length c2]) ?_ rfl ⟨_, F2, rfl, by rw [HS.out]; exact sltR.base (base := w.heap.size + 2) (by (repeat (first | refine Rep.set _ ?_ _ (by simp; omega) | refine Rep.set _ ?_ _ (by simp) | refine Rep.alloc _ ?_ _ | assumption))) (by omega), by (repeat (first | refine bset ?_ (by simp; omega) _ | refine bset ?_ (by simp) _ | refine balloc ?_ _ | assumption))⟩
          simp [results, Try.results109, go_sem, r0, r1, r2, r3, r4, r5, rf]
        · have f1 : (l.con == c) = true := by simp [m1]
          have f2 : (l.sh == s) = false := by simp [m2]
          have HP2 : Hid (∀ j, j < k + 1 → sameS (xs.getD j default) (freS c s) = false) := fun j hj => by
            by_cases e : j = k
            · subst e
              rw [← HL.out]
              simp [sameS, freS, m2]
            · exact HP.out j (by omega)
          clear m1 m2 hV
          go_wp2
          refine ⟨⟨k + 1, by omega, by go_num, HP2, HWR⟩, by simp [intOf]; omega⟩
      · have f1 : (l.con == c) = false := by simp [m1]
        have HP2 : Hid (∀ j, j < k + 1 → sameS (xs.getD j default) (freS c s) = false) := fun j hj => by
          by_cases e : j = k
          · subst e
            rw [← HL.out]
            simp [sameS, freS, m1]
          · exact HP.out j (by omega)
        clear m1 hV
        go_wp2
        refine ⟨⟨k + 1, by omega, by go_num, HP2, HWR⟩, by simp [intOf]; omega⟩
    · have hkn : k = n := by omega
      subst hkn
      have HS : Hid (slotO xs (freS c s) = freS c s) := slotO_none (fun j hj => HP.out j (by rw [← HN.out]; exact hj))
      go_wp2_with fail
      refine (HNew.out _).mono ?_
      rintro e w2 ⟨a2, c2, F3, rfl, o3, hb2⟩
      have hB2 : Below w.heap.size w w2 := bstep hbl hb2
      have hz2 := hb2.size
      replace r0 := cell_keep hb2 r0
      replace r1 := cell_keep hb2 r1
      replace r2 := cell_keep hb2 r2
      replace r3 := cell_keep hb2 r3
      replace r4 := cell_keep hb2 r4
      replace r5 := cell_keep hb2 r5
      replace rf : ∀ o, w2.frozen? ⟨w.heap.size + 1, o, none⟩ = false := fun o => by rw [(bcell hb2).2 _ _ (by omega)]; exact rf o
      replace o3 := sltR.base (base' := w.heap.size + 2) o3 (by omega)
      clear hb2 HNew
      have hfd := slotField
      go_wp2
      refine bodyPost_ret (v := .agg #[.int .i64 c, .int .i64 s, .int .i64 (-1), .int .i64 (-1), .int .i64 0, .slice a2 0 c2]) ?_ rfl ⟨_, F3, rfl, by rw [HS.out]; exact sltR.base (base := w.heap.size + 2) (by (repeat (first | refine Rep.set _ ?_ _ (by simp; omega) | refine Rep.set _ ?_ _ (by simp) | refine Rep.alloc _ ?_ _ | assumption))) (by omega), by (repeat (first | refine bset ?_ (by simp; omega) _ | refine bset ?_ (by simp) _ | refine balloc ?_ _ | assumption))⟩
      simp [results, Try.results109, go_sem, r0, r1, r2, r3, r4, r5, rf]
end Go.Proofs.Ytbdbjdnebmaimaa

/-
  SlotsFor, the document's.
-/
set_option linter.unusedSimpArgs false
set_option linter.unusedVariables false
namespace Go.Proofs.Ytbdbjdnebmaimaa
open Go.RowKit
set_option linter.unusedSectionVars false
variable [DecidableEq Vot] [Inhabited Vot] [DecidableEq Slt] [Inhabited Slt] [DecidableEq SltR] [Inhabited SltR] [DecidableEq Bal] [Inhabited Bal] [DecidableEq Ledg] [Inhabited Ledg] [DecidableEq Leg] [Inhabited Leg] [DecidableEq Acc] [Inhabited Acc] [DecidableEq AccR] [Inhabited AccR] [DecidableEq AccsR] [Inhabited AccsR] [DecidableEq SltsR] [Inhabited SltsR]
attribute [local go_sem ↓] Go.wp_at_zero Go.wp_at_succ

theorem slotFieldC (a b c d e f g h : Int) (p : Option Addr) (n q : Nat) (w : World) : (Instr.field 52 (.agg #[.int .i64 a, .int .i64 b, .int .i64 c, .int .i64 d, .int .i64 e, .int .i64 f, .int .i64 g, .int .i64 h, .slice p n q]) 0).run Try.prog w = .ok (.int .i64 a) w := by kernel_rfl
set_option maxRecDepth 20000 in
set_option maxHeartbeats 4000000 in
theorem l9Slots_u (x : Value) (l : List Acc) (c s : Int) (w : World) (hx : accsR.V w x l) (hl : ListOk l) (hid : idOk c s = true) :
    Calls Try.prog 115 #[x, .int .i64 c, .int .i64 s] w fun e w' => ∃ v F, e = .returned v ∧ sltsR.O w' w.heap.size F v (slotsL l c s) ∧ Below w.heap.size w w' := by
  obtain ⟨a, cx, rfl, hcx, hmx, hx⟩ := accs_at hx
  unfold maxLen at hmx
  have hXs : Hid (∀ k, k < l.length → ∃ b o p q, a = some ⟨b, o, none⟩ ∧ w.cell? ⟨b, o + k, none⟩ = some (.slice p (l.getD k default).slots.length q) ∧ accR.V w (.agg #[.slice p (l.getD k default).slots.length q]) (l.getD k default)) := hx
  have HOk : Hid (∀ k, k < l.length → AccOk (l.getD k default).slots) := fun k hk => accs_cast hl hk
  have HID : Hid (idOk c s = true) := hid
  have hn5 := hl.hi
  clear hx hl hid
  obtain ⟨n, hn'⟩ : ∃ n, n = l.length := ⟨_, rfl⟩
  have HN : Hid (l.length = n) := hn'.symm
  rw [← hn'] at hcx hXs HOk hn5 ⊢
  clear hn'
  have hs0 : ∃ a c' F, (Value.slice (some ⟨w.heap.size, 0, none⟩) 0 0) = .slice a 0 c' ∧ sltsR.O (w.alloc (.cells #[] 50)) w.heap.size F (.slice a 0 c') ((slotsL l c s).take 0) := ⟨_, _, _, rfl, slts_lit w⟩
  go_enter Try.func115, Try.ntmps115
  go_wp2
  go_loopw [7, 8] (fun t i w' => ∃ k : Nat, k ≤ n ∧ i = .int .i64 k ∧ (∃ a c' F, t = .slice a k c' ∧ sltsR.O w' w.heap.size F (.slice a k c') ((slotsL l c s).take k)) ∧ Below w.heap.size w w') (fun t i _ => n - (intOf i).toNat)
  case atStart => exact ⟨0, Nat.zero_le _, rfl, hs0, by (repeat (first | exact Below.refl _ _ | assumption | refine Below.drew ?_ | refine balloc ?_ _ | refine bset ?_ (by simp; omega) _ | refine bset ?_ (by simp) _ | refine bstep ?_ (by assumption)))⟩
  case round =>
    clear hs0
    obtain ⟨k, hk, rfl, ⟨as_, cs_, F, rfl, ho⟩, hbl⟩ := hrel
    have HO : Hid (sltsR.O wr w.heap.size F (.slice as_ k cs_) ((slotsL l c s).take k)) := ho
    clear ho
    have hwz := hbl.size
    by_cases hlt : k < n
    · obtain ⟨b, o, p, q, rfl, hc, hV⟩ := hXs.out k hlt
      have hok := HOk.out k hlt
      have HL : Hid ((slotsL l c s).take (k + 1) = (slotsL l c s).take k ++ [slotO (l.getD k default).slots (freS c s)]) := slotsL_take l c s (by rw [HN.out]; exact hlt)
      have HB0 : Hid (b < w.heap.size) := World.block_lt_of_cell? w _ hc
      replace hc := cell_keep hbl hc
      have zb : b < wr.heap.size := World.block_lt_of_cell? wr _ hc
      have HSl : Hid (∀ W, Below w.heap.size w W → Calls Try.prog 109 #[.agg #[.slice p (l.getD k default).slots.length q], .int .i64 c, .int .i64 s] W fun e w' => ∃ v F, e = .returned v ∧ sltR.O w' W.heap.size F v (slotO (l.getD k default).slots (freS c s)) ∧ Below W.heap.size W w') := fun W hW => l9Slot_u _ _ c s W (accR.below hV hW) HID.out (fun j hj => Nat.le_trans (sltOk_of (hok.ok j hj)).len (by omega))
      clear hV hok
      generalize slotO (l.getD k default).slots (freS c s) = y at *
      generalize (l.getD k default).slots.length = m at *
      go_wp2_with fail
      refine (HSl.out _ (by (repeat (first | exact Below.refl _ _ | assumption | refine Below.drew ?_ | refine balloc ?_ _ | refine bset ?_ (by simp; omega) _ | refine bset ?_ (by simp) _ | refine bstep ?_ (by assumption))))).mono ?_
      rintro e w2 ⟨v2, F2, rfl, o2, hb2⟩
      obtain ⟨a2, c2, rfl, _⟩ := slt_cells o2
      have hB2 : Below w.heap.size w w2 := bstep hbl hb2
      have hz2 := hb2.size
      have HO2 : Hid (sltsR.O w2 w.heap.size F (.slice as_ k cs_) ((slotsL l c s).take k)) := sltsR.keep HO.out hb2
      have HFl : Hid (∀ b, F b → b < wr.heap.size) := fun b hb => (sltsR.rng HO.out b hb).2
      have HF2 : Hid (∀ b, F2 b → wr.heap.size ≤ b) := fun b hb => (sltR.rng o2 b hb).1
      have HU : Hid (sltR.O w2 w.heap.size F2 (.agg #[.int .i64 y.con, .int .i64 y.sh, .int .i64 y.pr, .int .i64 y.lb, .int .i64 y.lv, .slice a2 y.cast.length c2]) y) := sltR.base o2 hwz
      clear hb2 o2 HSl HO hc
      go_wp2_with (at_builtin; refine wpl_appS _ rfl _ _ rfl w.heap.size F F2 _ ((slotsL l c s).take k) y w2.heap.size a2 c2 rfl rfl ?a1 ?a2 ?a3 ?a4 ?a5 ?a6 ?_)
      case a1 => exact sltsR.alloc HO2.out _
      case a2 => exact sltR.alloc HU.out _
      case a3 => exact fun b h1 h2 => by have := HFl.out b h1; have := HF2.out b h2; omega
      case a4 => simp [go_sem]
      case a5 => rw [List.length_take, slotsL_len, HN.out]; omega
      case a6 => simp; omega
      intro v3 w3 F3 o3 hb3 _
      rw [← HL.out] at o3
      obtain ⟨a3, c3, e3⟩ := slts_form (sltsR.ofO o3)
      rw [show ((slotsL l c s).take (k + 1)).length = k + 1 by rw [List.length_take, slotsL_len, HN.out]; omega] at e3
      subst e3
      have o3' : ∃ a c' F, (Value.slice a3 (k + 1) c3) = .slice a (k + 1) c' ∧ sltsR.O w3 w.heap.size F (.slice a (k + 1) c') ((slotsL l c s).take (k + 1)) := ⟨_, _, F3, rfl, o3⟩
      have hB4 : Below w.heap.size w w3 := Below.trans (balloc hB2 _) hb3
      clear o3 hb3
      go_wp2
      exact ⟨⟨k + 1, by omega, by go_num, o3', hB4⟩, by simp [intOf]; omega⟩
    · have hkn : k = n := by omega
      subst hkn
      have ho := HO.out
      rw [List.take_of_length_le (by rw [slotsL_len, HN.out]; exact Nat.le_refl _)] at ho
      have HO2 : Hid (sltsR.O wr w.heap.size F (.slice as_ k cs_) (slotsL l c s)) := ho
      clear ho HO
      go_wp2
      refine bodyPost_ret (v := .slice as_ k cs_) (by simp [results, Try.results115, go_sem]) rfl ⟨_, F, rfl, HO2.out, hbl⟩
set_option maxRecDepth 20000 in
set_option maxHeartbeats 4000000 in
theorem specSlotsFor_u (x : Value) (l : List Acc) (c s : Int) (w : World) (hx : accsR.V w x l) :
    Calls Try.prog 54 #[x, .int .i64 c, .int .i64 s] w (SfE l c s w) := by
  have HLf : Hid (∀ W, Below w.heap.size w W → Calls Try.prog 113 #[x] W fun e w' => e = .returned (.int .i64 (listF l)) ∧ Below W.heap.size W w') := fun W hW => specListF_any x l W (accsR.below hx hW)
  have HSl : Hid (∀ W, Below w.heap.size w W → ListOk l → idOk c s = true → Calls Try.prog 115 #[x, .int .i64 c, .int .i64 s] W fun e w' => ∃ v F, e = .returned v ∧ sltsR.O w' W.heap.size F v (slotsL l c s) ∧ Below W.heap.size W w') := fun W hW h1 h2 => l9Slots_u x l c s W (accsR.below hx hW) h1 h2
  obtain ⟨a, cx, rfl⟩ := accs_form hx
  clear hx
  have hfd := slotFieldC
  generalize l.length = n at *
  go_enter Try.func54, Try.ntmps54
  go_wp2_with fail
  refine (HLf.out _ (by (repeat (first | exact Below.refl _ _ | assumption | refine Below.drew ?_ | refine balloc ?_ _ | refine bset ?_ (by simp; omega) _ | refine bset ?_ (by simp) _ | refine bstep ?_ (by assumption))))).mono ?_
  rintro e w1 ⟨rfl, hb1⟩
  have hB1 : Below w.heap.size w w1 := by (repeat (first | exact Below.refl _ _ | assumption | refine Below.drew ?_ | refine balloc ?_ _ | refine bset ?_ (by simp; omega) _ | refine bset ?_ (by simp) _ | refine bstep ?_ (by assumption)))
  have hz1 := hb1.size
  simp at hz1
  obtain ⟨c1, f1⟩ := bcell hb1
  have r0 : w1.cell? ⟨w.heap.size, 0, none⟩ = some (.int .i64 0) := cell_keep hb1 (by simp [go_sem])
  have r1 : w1.cell? ⟨w.heap.size, 1, none⟩ = some (.slice none 0 0) := cell_keep hb1 (by simp [go_sem])
  have rf : ∀ o, w1.frozen? ⟨w.heap.size, o, none⟩ = false := fun o => by rw [f1 _ _ (by simp; try omega)]; simp [go_sem]
  clear hb1 c1 f1 HLf
  by_cases hf : listF l = 0
  rotate_left
  · have HC : Hid (slotsD l c s = ⟨listF l, []⟩) := by show _ = _; unfold slotsD; rw [if_neg hf]
    clear HSl
    generalize listF l = g at *
    have hg' : (g != 0) = true := by simp [hf]
    go_wp2
    exact bodyPost_ret (v := .agg #[.int .i64 g, .slice none 0 0]) (by simp [results, Try.results54, go_sem, r0, r1, rf]) rfl (sfE_err HC.out (by (repeat (first | refine bset ?_ (by simp; omega) _ | refine bset ?_ (by simp) _ | refine balloc ?_ _ | assumption))))
  rw [hf]
  cases hid : idOk c s
  · have HC : Hid (slotsD l c s = ⟨3, []⟩) := by show _ = _; unfold slotsD; rw [if_pos hf, hid]; rfl
    have HNw : Hid (∀ W, Calls Try.prog 114 #[.int .i64 c, .int .i64 s] W (NewB W)) := fun W => specNew_bad c s W hid
    clear HSl hid
    go_wp2_with fail
    refine (HNw.out _).mono ?_
    rintro e w2 ⟨rfl, hb2⟩
    have hB2 : Below w.heap.size w w2 := bstep hB1 hb2
    replace r0 := cell_keep hb2 r0
    replace r1 := cell_keep hb2 r1
    replace rf : ∀ o, w2.frozen? ⟨w.heap.size, o, none⟩ = false := fun o => by rw [(bcell hb2).2 _ _ (by omega)]; exact rf o
    clear hb2
    go_wp2
    exact bodyPost_ret (v := .agg #[.int .i64 3, .slice none 0 0]) (by simp [results, Try.results54, go_sem, r0, r1, rf]) rfl (sfE_err HC.out (by (repeat (first | refine bset ?_ (by simp; omega) _ | refine bset ?_ (by simp) _ | refine balloc ?_ _ | assumption))))
  have HC : Hid (slotsD l c s = ⟨0, slotsL l c s⟩) := by show _ = _; unfold slotsD; rw [if_pos hf, hid]; rfl
  have HNw : Hid (∀ W, Calls Try.prog 114 #[.int .i64 c, .int .i64 s] W (NewE c s W)) := fun W => specNew_ok c s W hid
  have HLk : Hid (ListOk l ∧ idOk c s = true) := ⟨listOk_of hf, hid⟩
  clear hf hid
  go_wp2_with fail
  refine (HNw.out _).mono ?_
  rintro e w2 ⟨p2, q2, F2, rfl, o2, hb2⟩
  have hB2 : Below w.heap.size w w2 := bstep hB1 hb2
  replace r0 := cell_keep hb2 r0
  replace r1 := cell_keep hb2 r1
  replace rf : ∀ o, w2.frozen? ⟨w.heap.size, o, none⟩ = false := fun o => by rw [(bcell hb2).2 _ _ (by omega)]; exact rf o
  have hz2 := hb2.size
  clear hb2 o2
  go_wp2_with fail
  refine (HSl.out _ hB2 HLk.out.1 HLk.out.2).mono ?_
  rintro e w3 ⟨v3, F3, rfl, o3, hb3⟩
  obtain ⟨a3, c3, rfl⟩ := slts_form (sltsR.ofO o3)
  have hB3 : Below w.heap.size w w3 := bstep hB2 hb3
  have HO : Hid (sltsR.O w3 (w.heap.size + 1) F3 (.slice a3 (slotsL l c s).length c3) (slotsL l c s)) := sltsR.base o3 (by omega)
  replace r0 := cell_keep hb3 r0
  replace r1 := cell_keep hb3 r1
  replace rf : ∀ o, w3.frozen? ⟨w.heap.size, o, none⟩ = false := fun o => by rw [(bcell hb3).2 _ _ (by omega)]; exact rf o
  clear hb3 o3 HSl
  generalize (slotsL l c s).length = m at *
  go_wp2
  refine bodyPost_ret (v := .agg #[.int .i64 0, .slice a3 m c3]) (by simp [results, Try.results54, go_sem, r0, r1, rf]) rfl ?_
  refine ⟨_, F3, rfl, ?_, by (repeat (first | refine bset ?_ (by simp; omega) _ | refine bset ?_ (by simp) _ | refine balloc ?_ _ | assumption))⟩
  rw [HC.out]
  refine ⟨_, F3, rfl, ?_, fun _ => Iff.rfl⟩
  exact sltsR.base (Rep.set _ (Rep.set _ HO.out _ (by simp)) _ (by simp)) (by omega)
end Go.Proofs.Ytbdbjdnebmaimaa

