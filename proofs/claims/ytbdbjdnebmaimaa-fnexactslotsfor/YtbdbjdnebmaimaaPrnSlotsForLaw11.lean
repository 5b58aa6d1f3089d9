import Derived.Test.YtbdbjdnebmaimaaPrnSlotsForLaw10
import Derived.Test.YtbdbjdnebmaimaaPrnSlotsForLaw4
import Derived.Test.YtbdbjdnebmaimaaPrnSlotsForLaw5
import Derived.Test.YtbdbjdnebmaimaaPrnSlotsForLaw9
import Derived.BigQuiet
import Derived.Deep.QuietTactic
import Derived.Deep.RegionHeld3

/-
  The slot that is asked, the document's.
-/
set_option linter.unusedSimpArgs false
set_option linter.unusedVariables false
namespace Go.Proofs.Ytbdbjdnebmaimaa
open Go.RowKit
set_option linter.unusedSectionVars false
variable [DecidableEq Vot] [Inhabited Vot] [DecidableEq Slt] [Inhabited Slt] [DecidableEq SltR] [Inhabited SltR] [DecidableEq Bal] [Inhabited Bal] [DecidableEq Ledg] [Inhabited Ledg] [DecidableEq Leg] [Inhabited Leg] [DecidableEq Acc] [Inhabited Acc] [DecidableEq AccR] [Inhabited AccR] [DecidableEq AccsR] [Inhabited AccsR] [DecidableEq SltsR] [Inhabited SltsR]
attribute [local go_sem ↓] Go.wp_at_zero Go.wp_at_succ

set_option maxRecDepth 20000 in
set_option maxHeartbeats 8000000 in
theorem l9Slot_u (x : Value) (d : Acc) (c s : Int) (w : World) (hx : accR.V w x d) (hid : idOk c s = true) (hw : ∀ k, k < d.slots.length → (d.slots.getD k default).cast.length ≤ 1048576) :
    Calls Try.prog 109 #[x, .int .i64 c, .int .i64 s] w fun e w' => ∃ v F, e = .returned v ∧ sltR.O w' w.heap.size F v (slotO d.slots (freS c s)) ∧ Below w.heap.size w w' := by
  obtain ⟨u1, rfl, hx⟩ := hx
  obtain ⟨xs⟩ := d
  dsimp only at hx hw ⊢
  obtain ⟨au, cu, rfl, hcx, hmx, hx⟩ := hx
  unfold maxLen at hmx
  have hXs : Hid (∀ k, k < xs.length → ∃ b o p q, au = some ⟨b, o, none⟩ ∧ (w.cell? ⟨b, o + k * 6, none⟩ = some (.int .i64 (xs.getD k default).con) ∧ w.cell? ⟨b, o + k * 6 + 1, none⟩ = some (.int .i64 (xs.getD k default).sh) ∧ w.cell? ⟨b, o + k * 6 + 2, none⟩ = some (.int .i64 (xs.getD k default).pr) ∧ w.cell? ⟨b, o + k * 6 + 3, none⟩ = some (.int .i64 (xs.getD k default).lb) ∧ w.cell? ⟨b, o + k * 6 + 4, none⟩ = some (.int .i64 (xs.getD k default).lv) ∧ w.cell? ⟨b, o + k * 6 + 5, none⟩ = some (.slice p (xs.getD k default).cast.length q)) ∧ sltR.V w (.agg #[.int .i64 (xs.getD k default).con, .int .i64 (xs.getD k default).sh, .int .i64 (xs.getD k default).pr, .int .i64 (xs.getD k default).lb, .int .i64 (xs.getD k default).lv, .slice p (xs.getD k default).cast.length q]) (xs.getD k default)) := fun k hk => slts_at hx hk
  have HW : Hid (∀ k, k < xs.length → (xs.getD k default).cast.length ≤ 1048576) := hw
  have HNew : Hid (∀ W, Calls Try.prog 114 #[.int .i64 c, .int .i64 s] W (NewE c s W)) := fun W => specNew_ok c s W hid
  clear hx hw hid
  obtain ⟨n, hn'⟩ : ∃ n, n = xs.length := ⟨_, rfl⟩
  have HN : Hid (xs.length = n) := hn'.symm
  rw [← hn'] at hcx hXs HW ⊢
  clear hn'
  go_enter Try.func109, Try.ntmps109
  go_wp2
  go_loopw [7] (fun i w' => ∃ k : Nat, k ≤ n ∧ i = .int .i64 k ∧ Hid (∀ j, j < k → sameS (xs.getD j default) (freS c s) = false) ∧ Hid (w' = (w.alloc (.cells #[.slice au n cu] 78)).alloc (.cells #[.int .i64 0, .int .i64 0, .int .i64 0, .int .i64 0, .int .i64 0, .slice none 0 0] 50))) (fun i _ => n - (intOf i).toNat)
  case atStart => exact ⟨0, Nat.zero_le _, rfl, fun j h => absurd h (Nat.not_lt_zero _), rfl⟩
  case round =>
    obtain ⟨k, hk, rfl, HP, HWR⟩ := hrel
    have hbl : Below w.heap.size w wr := by rw [HWR.out]; (repeat (first | exact Below.refl _ _ | assumption | refine Below.drew ?_ | refine balloc ?_ _ | refine bset ?_ (by simp; omega) _ | refine bset ?_ (by simp) _ | refine bstep ?_ (by assumption)))
    have y0 : wr.cell? ⟨w.heap.size, 0, none⟩ = some (.slice au n cu) := by rw [HWR.out]; simp [go_sem]
    have r0 : wr.cell? ⟨w.heap.size + 1, 0, none⟩ = some (.int .i64 0) := by rw [HWR.out]; simp [go_sem]
    have r1 : wr.cell? ⟨w.heap.size + 1, 1, none⟩ = some (.int .i64 0) := by rw [HWR.out]; simp [go_sem]
    have r2 : wr.cell? ⟨w.heap.size + 1, 2, none⟩ = some (.int .i64 0) := by rw [HWR.out]; simp [go_sem]
    have r3 : wr.cell? ⟨w.heap.size + 1, 3, none⟩ = some (.int .i64 0) := by rw [HWR.out]; simp [go_sem]
    have r4 : wr.cell? ⟨w.heap.size + 1, 4, none⟩ = some (.int .i64 0) := by rw [HWR.out]; simp [go_sem]
    have r5 : wr.cell? ⟨w.heap.size + 1, 5, none⟩ = some (.slice none 0 0) := by rw [HWR.out]; simp [go_sem]
    have rf : ∀ o, wr.frozen? ⟨w.heap.size + 1, o, none⟩ = false := fun o => by rw [HWR.out]; simp [go_sem]
    have zy : w.heap.size + 1 < wr.heap.size := World.block_lt_of_cell? wr _ r0
    by_cases hlt : k < n
    · obtain ⟨b, o, pp, qq, rfl, hc, hV⟩ := hXs.out k hlt
      have hcw := HW.out k hlt
      obtain ⟨l, hl⟩ : ∃ l, l = xs.getD k default := ⟨_, rfl⟩
      rw [← hl] at hc hV hcw
      have HL : Hid (l = xs.getD k default) := hl
      clear hl
      obtain ⟨g0, g1, g2, g3, g4, g5⟩ := (sltKeep2 hbl hc hc).2.1
      clear hc
      have zb : b < wr.heap.size := World.block_lt_of_cell? wr _ g0
      by_cases m1 : l.con = c
      · by_cases m2 : l.sh = s
        · have f1 : (l.con == c) = true := by simp [m1]
          have f2 : (l.sh == s) = true := by simp [m2]
          have HS : Hid (slotO xs (freS c s) = l) := by
            show _ = _
            rw [HL.out]
            exact slotO_at (by rw [HN.out]; exact hlt) HP.out (sameS_iff.2 (by rw [← HL.out]; exact ⟨m1, m2⟩))
          have HCp : Hid (∀ W, Below w.heap.size w W → Calls Try.prog 88 #[.agg #[.int .i64 l.con, .int .i64 l.sh, .int .i64 l.pr, .int .i64 l.lb, .int .i64 l.lv, .slice pp l.cast.length qq]] W fun e w' => ∃ v F, e = .returned v ∧ sltR.O w' W.heap.size F v l ∧ Below W.heap.size W w') := fun W hW => l8Copy_u _ l W (sltR.below hV hW) hcw
          clear m1 m2 hV
          go_wp2_with fail
          refine (HCp.out _ (by (repeat (first | exact Below.refl _ _ | assumption | refine Below.drew ?_ | refine balloc ?_ _ | refine bset ?_ (by simp; omega) _ | refine bset ?_ (by simp) _ | refine bstep ?_ (by assumption))))).mono ?_
          rintro e w2 ⟨v2, F2, rfl, o2, hb2⟩
          have hB2 : Below w.heap.size w w2 := bstep hbl hb2
          have hz2 := hb2.size
          obtain ⟨a2, c2, rfl, _⟩ := slt_cells o2
          replace r0 := cell_keep hb2 r0
          replace r1 := cell_keep hb2 r1
          replace r2 := cell_keep hb2 r2
          replace r3 := cell_keep hb2 r3
          replace r4 := cell_keep hb2 r4
          replace r5 := cell_keep hb2 r5
          replace rf : ∀ o, w2.frozen? ⟨w.heap.size + 1, o, none⟩ = false := fun o => by rw [(bcell hb2).2 _ _ (by omega)]; exact rf o
          replace o2 := sltR.base (base' := w.heap.size + 2) o2 (by omega)
          clear hb2 HCp
          go_wp2
          refine bodyPost_ret (v := .agg #[.int .i64 l.con, .int .i64 l.sh, .int .i64 l.pr, .int .i64 l.lb, .int .i64 l.lv, .slice a2 l.cast.length c2]) ?_ rfl ⟨_, F2, rfl, by rw [HS.out]; exact sltR.base (base := w.heap.size + 2) (by (repeat (first | refine Rep.set _ ?_ _ (by simp; omega) | refine Rep.set _ ?_ _ (by simp) | refine Rep.alloc _ ?_ _ | assumption))) (by omega), by (repeat (first | refine bset ?_ (by simp; omega) _ | refine bset ?_ (by simp) _ | refine balloc ?_ _ | assumption))⟩
          simp [results, Try.results109, go_sem, r0, r1, r2, r3, r4, r5, rf]
        · have f1 : (l.con == c) = true := by simp [m1]
          have f2 : (l.sh == s) = false := by simp [m2]
          have HP2 : Hid (∀ j, j < k + 1 → sameS (xs.getD j default) (freS c s) = false) := fun j hj => by
            by_cases e : j = k
            · subst e
              rw [← HL.out]
              simp [sameS, freS, m2]
            · exact HP.out j (by omega)
          clear m1 m2 hV
          go_wp2
          refine ⟨⟨k + 1, by omega, by go_num, HP2, HWR⟩, by simp [intOf]; omega⟩
      · have f1 : (l.con == c) = false := by simp [m1]
        have HP2 : Hid (∀ j, j < k + 1 → sameS (xs.getD j default) (freS c s) = false) := fun j hj => by
          by_cases e : j = k
          · subst e
            rw [← HL.out]
            simp [sameS, freS, m1]
          · exact HP.out j (by omega)
        clear m1 hV
        go_wp2
        refine ⟨⟨k + 1, by omega, by go_num, HP2, HWR⟩, by simp [intOf]; omega⟩
    · have hkn : k = n := by omega
      subst hkn
      have HS : Hid (slotO xs (freS c s) = freS c s) := slotO_none (fun j hj => HP.out j (by rw [← HN.out]; exact hj))
      go_wp2_with fail
      refine (HNew.out _).mono ?_
      rintro e w2 ⟨a2, c2, F3, rfl, o3, hb2⟩
      have hB2 : Below w.heap.size w w2 := bstep hbl hb2
      have hz2 := hb2.size
      replace r0 := cell_keep hb2 r0
      replace r1 := cell_keep hb2 r1
      replace r2 := cell_keep hb2 r2
      replace r3 := cell_keep hb2 r3
      replace r4 := cell_keep hb2 r4
      replace r5 := cell_keep hb2 r5
      replace rf : ∀ o, w2.frozen? ⟨w.heap.size + 1, o, none⟩ = false := fun o => by rw [(bcell hb2).2 _ _ (by omega)]; exact rf o
      replace o3 := sltR.base (base' := w.heap.size + 2) o3 (by omega)
      clear hb2 HNew
      have hfd := slotField
      go_wp2
      refine bodyPost_ret (v := .agg #[.int .i64 c, .int .i64 s, .int .i64 (-1), .int .i64 (-1), .int .i64 0, .slice a2 0 c2]) ?_ rfl ⟨_, F3, rfl, by rw [HS.out]; exact sltR.base (base := w.heap.size + 2) (by (repeat (first | refine Rep.set _ ?_ _ (by simp; omega) | refine Rep.set _ ?_ _ (by simp) | refine Rep.alloc _ ?_ _ | assumption))) (by omega), by (repeat (first | refine bset ?_ (by simp; omega) _ | refine bset ?_ (by simp) _ | refine balloc ?_ _ | assumption))⟩
      simp [results, Try.results109, go_sem, r0, r1, r2, r3, r4, r5, rf]
end Go.Proofs.Ytbdbjdnebmaimaa

/-
  SlotsFor, the document's.
-/
set_option linter.unusedSimpArgs false
set_option linter.unusedVariables false
namespace Go.Proofs.Ytbdbjdnebmaimaa
open Go.RowKit
set_option linter.unusedSectionVars false
variable [DecidableEq Vot] [Inhabited Vot] [DecidableEq Slt] [Inhabited Slt] [DecidableEq SltR] [Inhabited SltR] [DecidableEq Bal] [Inhabited Bal] [DecidableEq Ledg] [Inhabited Ledg] [DecidableEq Leg] [Inhabited Leg] [DecidableEq Acc] [Inhabited Acc] [DecidableEq AccR] [Inhabited AccR] [DecidableEq AccsR] [Inhabited AccsR] [DecidableEq SltsR] [Inhabited SltsR]
attribute [local go_sem ↓] Go.wp_at_zero Go.wp_at_succ

theorem slotFieldC (a b c d e f g h : Int) (p : Option Addr) (n q : Nat) (w : World) : (Instr.field 52 (.agg #[.int .i64 a, .int .i64 b, .int .i64 c, .int .i64 d, .int .i64 e, .int .i64 f, .int .i64 g, .int .i64 h, .slice p n q]) 0).run Try.prog w = .ok (.int .i64 a) w := by kernel_rfl
set_option maxRecDepth 20000 in
set_option maxHeartbeats 4000000 in
theorem l9Slots_u (x : Value) (l : List Acc) (c s : Int) (w : World) (hx : accsR.V w x l) (hl : ListOk l) (hid : idOk c s = true) :
    Calls Try.prog 115 #[x, .int .i64 c, .int .i64 s] w fun e w' => ∃ v F, e = .returned v ∧ sltsR.O w' w.heap.size F v (slotsL l c s) ∧ Below w.heap.size w w' := by
  obtain ⟨a, cx, rfl, hcx, hmx, hx⟩ := accs_at hx
  unfold maxLen at hmx
  have hXs : Hid (∀ k, k < l.length → ∃ b o p q, a = some ⟨b, o, none⟩ ∧ w.cell? ⟨b, o + k, none⟩ = some (.slice p (l.getD k default).slots.length q) ∧ accR.V w (.agg #[.slice p (l.getD k default).slots.length q]) (l.getD k default)) := hx
  have HOk : Hid (∀ k, k < l.length → AccOk (l.getD k default).slots) := fun k hk => accs_cast hl hk
  have HID : Hid (idOk c s = true) := hid
  have hn5 := hl.hi
  clear hx hl hid
  obtain ⟨n, hn'⟩ : ∃ n, n = l.length := ⟨_, rfl⟩
  have HN : Hid (l.length = n) := hn'.symm
  rw [← hn'] at hcx hXs HOk hn5 ⊢
  clear hn'
  have hs0 : ∃ a c' F, (Value.slice (some ⟨w.heap.size, 0, none⟩) 0 0) = .slice a 0 c' ∧ sltsR.O (w.alloc (.cells #[] 50)) w.heap.size F (.slice a 0 c') ((slotsL l c s).take 0) := ⟨_, _, _, rfl, slts_lit w⟩
  go_enter Try.func115, Try.ntmps115
  go_wp2
  go_loopw [7, 8] (fun t i w' => ∃ k : Nat, k ≤ n ∧ i = .int .i64 k ∧ (∃ a c' F, t = .slice a k c' ∧ sltsR.O w' w.heap.size F (.slice a k c') ((slotsL l c s).take k)) ∧ Below w.heap.size w w') (fun t i _ => n - (intOf i).toNat)
  case atStart => exact ⟨0, Nat.zero_le _, rfl, hs0, by (repeat (first | exact Below.refl _ _ | assumption | refine Below.drew ?_ | refine balloc ?_ _ | refine bset ?_ (by simp; omega) _ | refine bset ?_ (by simp) _ | refine bstep ?_ (by assumption)))⟩
  case round =>
    clear hs0
    obtain ⟨k, hk, rfl, ⟨as_, cs_, F, rfl, ho⟩, hbl⟩ := hrel
    have HO : Hid (sltsR.O wr w.heap.size F (.slice as_ k cs_) ((slotsL l c s).take k)) := ho
    clear ho
    have hwz := hbl.size
    by_cases hlt : k < n
    · obtain ⟨b, o, p, q, rfl, hc, hV⟩ := hXs.out k hlt
      have hok := HOk.out k hlt
      have HL : Hid ((slotsL l c s).take (k + 1) = (slotsL l c s).take k ++ [slotO (l.getD k default).slots (freS c s)]) := slotsL_take l c s (by rw [HN.out]; exact hlt)
      have HB0 : Hid (b < w.heap.size) := World.block_lt_of_cell? w _ hc
      replace hc := cell_keep hbl hc
      have zb : b < wr.heap.size := World.block_lt_of_cell? wr _ hc
      have HSl : Hid (∀ W, Below w.heap.size w W → Calls Try.prog 109 #[.agg #[.slice p (l.getD k default).slots.length q], .int .i64 c, .int .i64 s] W fun e w' => ∃ v F, e = .returned v ∧ sltR.O w' W.heap.size F v (slotO (l.getD k default).slots (freS c s)) ∧ Below W.heap.size W w') := fun W hW => l9Slot_u _ _ c s W (accR.below hV hW) HID.out (fun j hj => Nat.le_trans (sltOk_of (hok.ok j hj)).len (by omega))
      clear hV hok
      generalize slotO (l.getD k default).slots (freS c s) = y at *
      generalize (l.getD k default).slots.length = m at *
      go_wp2_with fail
      refine (HSl.out _ (by (repeat (first | exact Below.refl _ _ | assumption | refine Below.drew ?_ | refine balloc ?_ _ | refine bset ?_ (by simp; omega) _ | refine bset ?_ (by simp) _ | refine bstep ?_ (by assumption))))).mono ?_
      rintro e w2 ⟨v2, F2, rfl, o2, hb2⟩
      obtain ⟨a2, c2, rfl, _⟩ := slt_cells o2
      have hB2 : Below w.heap.size w w2 := bstep hbl hb2
      have hz2 := hb2.size
      have HO2 : Hid (sltsR.O w2 w.heap.size F (.slice as_ k cs_) ((slotsL l c s).take k)) := sltsR.keep HO.out hb2
      have HFl : Hid (∀ b, F b → b < wr.heap.size) := fun b hb => (sltsR.rng HO.out b hb).2
      have HF2 : Hid (∀ b, F2 b → wr.heap.size ≤ b) := fun b hb => (sltR.rng o2 b hb).1
      have HU : Hid (sltR.O w2 w.heap.size F2 (.agg #[.int .i64 y.con, .int .i64 y.sh, .int .i64 y.pr, .int .i64 y.lb, .int .i64 y.lv, .slice a2 y.cast.length c2]) y) := sltR.base o2 hwz
      clear hb2 o2 HSl HO hc
      go_wp2_with (at_builtin; refine wpl_appS _ rfl _ _ rfl w.heap.size F F2 _ ((slotsL l c s).take k) y w2.heap.size a2 c2 rfl rfl ?a1 ?a2 ?a3 ?a4 ?a5 ?a6 ?_)
      case a1 => exact sltsR.alloc HO2.out _
      case a2 => exact sltR.alloc HU.out _
      case a3 => exact fun b h1 h2 => by have := HFl.out b h1; have := HF2.out b h2; omega
      case a4 => simp [go_sem]
      case a5 => rw [List.length_take, slotsL_len, HN.out]; omega
      case a6 => simp; omega
      intro v3 w3 F3 o3 hb3 _
      rw [← HL.out] at o3
      obtain ⟨a3, c3, e3⟩ := slts_form (sltsR.ofO o3)
      rw [show ((slotsL l c s).take (k + 1)).length = k + 1 by rw [List.length_take, slotsL_len, HN.out]; omega] at e3
      subst e3
      have o3' : ∃ a c' F, (Value.slice a3 (k + 1) c3) = .slice a (k + 1) c' ∧ sltsR.O w3 w.heap.size F (.slice a (k + 1) c') ((slotsL l c s).take (k + 1)) := ⟨_, _, F3, rfl, o3⟩
      have hB4 : Below w.heap.size w w3 := Below.trans (balloc hB2 _) hb3
      clear o3 hb3
      go_wp2
      exact ⟨⟨k + 1, by omega, by go_num, o3', hB4⟩, by simp [intOf]; omega⟩
    · have hkn : k = n := by omega
      subst hkn
      have ho := HO.out
      rw [List.take_of_length_le (by rw [slotsL_len, HN.out]; exact Nat.le_refl _)] at ho
      have HO2 : Hid (sltsR.O wr w.heap.size F (.slice as_ k cs_) (slotsL l c s)) := ho
      clear ho HO
      go_wp2
      refine bodyPost_ret (v := .slice as_ k cs_) (by simp [results, Try.results115, go_sem]) rfl ⟨_, F, rfl, HO2.out, hbl⟩
set_option maxRecDepth 20000 in
set_option maxHeartbeats 4000000 in
theorem specSlotsFor_u (x : Value) (l : List Acc) (c s : Int) (w : World) (hx : accsR.V w x l) :
    Calls Try.prog 54 #[x, .int .i64 c, .int .i64 s] w (SfE l c s w) := by
  have HLf : Hid (∀ W, Below w.heap.size w W → Calls Try.prog 113 #[x] W fun e w' => e = .returned (.int .i64 (listF l)) ∧ Below W.heap.size W w') := fun W hW => specListF_any x l W (accsR.below hx hW)
  have HSl : Hid (∀ W, Below w.heap.size w W → ListOk l → idOk c s = true → Calls Try.prog 115 #[x, .int .i64 c, .int .i64 s] W fun e w' => ∃ v F, e = .returned v ∧ sltsR.O w' W.heap.size F v (slotsL l c s) ∧ Below W.heap.size W w') := fun W hW h1 h2 => l9Slots_u x l c s W (accsR.below hx hW) h1 h2
  obtain ⟨a, cx, rfl⟩ := accs_form hx
  clear hx
  have hfd := slotFieldC
  generalize l.length = n at *
  go_enter Try.func54, Try.ntmps54
  go_wp2_with fail
  refine (HLf.out _ (by (repeat (first | exact Below.refl _ _ | assumption | refine Below.drew ?_ | refine balloc ?_ _ | refine bset ?_ (by simp; omega) _ | refine bset ?_ (by simp) _ | refine bstep ?_ (by assumption))))).mono ?_
  rintro e w1 ⟨rfl, hb1⟩
  have hB1 : Below w.heap.size w w1 := by (repeat (first | exact Below.refl _ _ | assumption | refine Below.drew ?_ | refine balloc ?_ _ | refine bset ?_ (by simp; omega) _ | refine bset ?_ (by simp) _ | refine bstep ?_ (by assumption)))
  have hz1 := hb1.size
  simp at hz1
  obtain ⟨c1, f1⟩ := bcell hb1
  have r0 : w1.cell? ⟨w.heap.size, 0, none⟩ = some (.int .i64 0) := cell_keep hb1 (by simp [go_sem])
  have r1 : w1.cell? ⟨w.heap.size, 1, none⟩ = some (.slice none 0 0) := cell_keep hb1 (by simp [go_sem])
  have rf : ∀ o, w1.frozen? ⟨w.heap.size, o, none⟩ = false := fun o => by rw [f1 _ _ (by simp; try omega)]; simp [go_sem]
  clear hb1 c1 f1 HLf
  by_cases hf : listF l = 0
  rotate_left
  · have HC : Hid (slotsD l c s = ⟨listF l, []⟩) := by show _ = _; unfold slotsD; rw [if_neg hf]
    clear HSl
    generalize listF l = g at *
    have hg' : (g != 0) = true := by simp [hf]
    go_wp2
    exact bodyPost_ret (v := .agg #[.int .i64 g, .slice none 0 0]) (by simp [results, Try.results54, go_sem, r0, r1, rf]) rfl (sfE_err HC.out (by (repeat (first | refine bset ?_ (by simp; omega) _ | refine bset ?_ (by simp) _ | refine balloc ?_ _ | assumption))))
  rw [hf]
  cases hid : idOk c s
  · have HC : Hid (slotsD l c s = ⟨3, []⟩) := by show _ = _; unfold slotsD; rw [if_pos hf, hid]; rfl
    have HNw : Hid (∀ W, Calls Try.prog 114 #[.int .i64 c, .int .i64 s] W (NewB W)) := fun W => specNew_bad c s W hid
    clear HSl hid
    go_wp2_with fail
    refine (HNw.out _).mono ?_
    rintro e w2 ⟨rfl, hb2⟩
    have hB2 : Below w.heap.size w w2 := bstep hB1 hb2
    replace r0 := cell_keep hb2 r0
    replace r1 := cell_keep hb2 r1
    replace rf : ∀ o, w2.frozen? ⟨w.heap.size, o, none⟩ = false := fun o => by rw [(bcell hb2).2 _ _ (by omega)]; exact rf o
    clear hb2
    go_wp2
    exact bodyPost_ret (v := .agg #[.int .i64 3, .slice none 0 0]) (by simp [results, Try.results54, go_sem, r0, r1, rf]) rfl (sfE_err HC.out (by (repeat (first | refine bset ?_ (by simp; omega) _ | refine bset ?_ (by simp) _ | refine balloc ?_ _ | assumption))))
  have HC : Hid (slotsD l c s = ⟨0, slotsL l c s⟩) := by show _ = _; unfold slotsD; rw [if_pos hf, hid]; rfl
  have HNw : Hid (∀ W, Calls Try.prog 114 #[.int .i64 c, .int .i64 s] W (NewE c s W)) := fun W => specNew_ok c s W hid
  have HLk : Hid (ListOk l ∧ idOk c s = true) := ⟨listOk_of hf, hid⟩
  clear hf hid
  go_wp2_with fail
  refine (HNw.out _).mono ?_
  rintro e w2 ⟨p2, q2, F2, rfl, o2, hb2⟩
  have hB2 : Below w.heap.size w w2 := bstep hB1 hb2
  replace r0 := cell_keep hb2 r0
  replace r1 := cell_keep hb2 r1
  replace rf : ∀ o, w2.frozen? ⟨w.heap.size, o, none⟩ = false := fun o => by rw [(bcell hb2).2 _ _ (by omega)]; exact rf o
  have hz2 := hb2.size
  clear hb2 o2
  go_wp2_with fail
  refine (HSl.out _ hB2 HLk.out.1 HLk.out.2).mono ?_
  rintro e w3 ⟨v3, F3, rfl, o3, hb3⟩
  obtain ⟨a3, c3, rfl⟩ := slts_form (sltsR.ofO o3)
  have hB3 : Below w.heap.size w w3 := bstep hB2 hb3
  have HO : Hid (sltsR.O w3 (w.heap.size + 1) F3 (.slice a3 (slotsL l c s).length c3) (slotsL l c s)) := sltsR.base o3 (by omega)
  replace r0 := cell_keep hb3 r0
  replace r1 := cell_keep hb3 r1
  replace rf : ∀ o, w3.frozen? ⟨w.heap.size, o, none⟩ = false := fun o => by rw [(bcell hb3).2 _ _ (by omega)]; exact rf o
  clear hb3 o3 HSl
  generalize (slotsL l c s).length = m at *
  go_wp2
  refine bodyPost_ret (v := .agg #[.int .i64 0, .slice a3 m c3]) (by simp [results, Try.results54, go_sem, r0, r1, rf]) rfl ?_
  refine ⟨_, F3, rfl, ?_, by (repeat (first | refine bset ?_ (by simp; omega) _ | refine bset ?_ (by simp) _ | refine balloc ?_ _ | assumption))⟩
  rw [HC.out]
  refine ⟨_, F3, rfl, ?_, fun _ => Iff.rfl⟩
  exact sltsR.base (Rep.set _ (Rep.set _ HO.out _ (by simp)) _ (by simp)) (by omega)
end Go.Proofs.Ytbdbjdnebmaimaa

/-
  The slot that is asked, the program's.
-/
set_option linter.unusedSimpArgs false
set_option linter.unusedVariables false
namespace Go.Proofs.Ytbdbjdnebmaimaa
open Go.RowKit
set_option linter.unusedSectionVars false
variable [DecidableEq Vot] [Inhabited Vot] [DecidableEq Slt] [Inhabited Slt] [DecidableEq SltR] [Inhabited SltR] [DecidableEq Bal] [Inhabited Bal] [DecidableEq Ledg] [Inhabited Ledg] [DecidableEq Leg] [Inhabited Leg] [DecidableEq Acc] [Inhabited Acc] [DecidableEq AccR] [Inhabited AccR] [DecidableEq AccsR] [Inhabited AccsR] [DecidableEq SltsR] [Inhabited SltsR]
attribute [local go_sem ↓] Go.wp_at_zero Go.wp_at_succ

theorem slotO_found {xs : List Slt} {q : Slt} {i : Nat} (hi : i < xs.length) (h1 : ∀ k, k < i → cmpS (xs.getD k default) q < 0) (h : cmpS (xs.getD i default) q = 0) : slotO xs q = xs.getD i default := by
  refine slotO_at hi (fun k hk => ?_) (sameS_iff.2 (cmpS_eq.1 h))
  cases e : sameS (xs.getD k default) q with
  | false => rfl
  | true => have h2 := h1 k hk; rw [cmpS_eq.2 (sameS_iff.1 e)] at h2; omega
theorem slotO_miss {xs : List Slt} {q : Slt} {i : Nat} (hok : AccOk xs) (h1 : ∀ k, k < i → cmpS (xs.getD k default) q < 0) (h2 : ∀ k, i ≤ k → k < xs.length → 0 ≤ cmpS (xs.getD k default) q) (h : ¬ (i < xs.length ∧ cmpS (xs.getD i default) q = 0)) : slotO xs q = q := by
  refine slotO_none (fun k hk => ?_)
  cases e : sameS (xs.getD k default) q with
  | false => rfl
  | true =>
    exfalso
    have e0 := sameS_iff.1 e
    have e1 := cmpS_eq.2 e0
    rcases Nat.lt_trichotomy k i with h3 | h3 | h3
    · have := h1 k h3; omega
    · subst h3; exact h ⟨hk, e1⟩
    · have h4 := aheadS_iff.1 (hok.ord i k h3 hk)
      have h5 := h2 i (Nat.le_refl _) (by omega)
      have h6 : cmpS (xs.getD i default) q < 0 := by rw [cmpS_lt]; omega
      omega
set_option maxRecDepth 20000 in
set_option maxHeartbeats 4000000 in
theorem slotOr_any (x y : Value) (d : Acc) (q : Slt) (w : World) (hx : accR.V w x d) (hy : sltR.V w y q) (hok : AccOk d.slots) :
    Calls Try.prog 117 #[x, y] w fun e w' => ∃ v, e = .returned v ∧ sltR.V w' v (slotO d.slots q) ∧ Below w.heap.size w w' := by
  have hX := hx
  have hY := hy
  obtain ⟨u1, rfl, hx⟩ := hx
  obtain ⟨u2, rfl, hy⟩ := hy
  obtain ⟨ay, cy, rfl⟩ := vots_form hy
  clear hy
  obtain ⟨xs⟩ := d
  dsimp only at hx hok hX ⊢
  have HP : Hid (∀ W, Below w.heap.size w W → Calls Try.prog 151 #[.agg #[u1], .agg #[.int .i64 q.con, .int .i64 q.sh, .int .i64 q.pr, .int .i64 q.lb, .int .i64 q.lv, .slice ay q.cast.length cy]] W fun e w' => PlE xs q W e w') := fun W hW => placeIn_any _ ⟨xs⟩ q _ W (accR.below hX hW) hok
  have HOK : Hid (AccOk xs) := hok
  clear hX hok
  obtain ⟨au, cu, rfl, hcx, hmx, hx⟩ := hx
  unfold maxLen at hmx
  have hXs : Hid (∀ k, k < xs.length → ∃ b o p q, au = some ⟨b, o, none⟩ ∧ (w.cell? ⟨b, o + k * 6, none⟩ = some (.int .i64 (xs.getD k default).con) ∧ w.cell? ⟨b, o + k * 6 + 1, none⟩ = some (.int .i64 (xs.getD k default).sh) ∧ w.cell? ⟨b, o + k * 6 + 2, none⟩ = some (.int .i64 (xs.getD k default).pr) ∧ w.cell? ⟨b, o + k * 6 + 3, none⟩ = some (.int .i64 (xs.getD k default).lb) ∧ w.cell? ⟨b, o + k * 6 + 4, none⟩ = some (.int .i64 (xs.getD k default).lv) ∧ w.cell? ⟨b, o + k * 6 + 5, none⟩ = some (.slice p (xs.getD k default).cast.length q)) ∧ sltR.V w (.agg #[.int .i64 (xs.getD k default).con, .int .i64 (xs.getD k default).sh, .int .i64 (xs.getD k default).pr, .int .i64 (xs.getD k default).lb, .int .i64 (xs.getD k default).lv, .slice p (xs.getD k default).cast.length q]) (xs.getD k default)) := fun k hk => slts_at hx hk
  clear hx
  obtain ⟨n, hn'⟩ : ∃ n, n = xs.length := ⟨_, rfl⟩
  have HN : Hid (xs.length = n) := hn'.symm
  rw [← hn'] at hcx hXs HP ⊢
  clear hn'
  go_enter Try.func117, Try.ntmps117
  go_wp2_with fail
  refine (HP.out _ (by (repeat (first | exact Below.refl _ _ | assumption | refine Below.drew ?_ | refine balloc ?_ _ | refine bset ?_ (by simp; omega) _ | refine bset ?_ (by simp) _ | refine bstep ?_ (by assumption))))).mono ?_
  rintro e w1 ⟨i, hi, rfl, h1, h2, hb1⟩
  have hB1 : Below w.heap.size w w1 := by (repeat (first | exact Below.refl _ _ | assumption | refine Below.drew ?_ | refine balloc ?_ _ | refine bset ?_ (by simp; omega) _ | refine bset ?_ (by simp) _ | refine bstep ?_ (by assumption)))
  have HA : Hid (∀ k, k < i → cmpS (xs.getD k default) q < 0) := h1
  have HB : Hid (∀ k, i ≤ k → k < xs.length → 0 ≤ cmpS (xs.getD k default) q) := h2
  clear h1 h2 HP
  obtain ⟨c1, f1⟩ := bcell hb1
  have hz1 := hb1.size
  simp at hz1
  have y0 : w1.cell? ⟨w.heap.size, 0, none⟩ = some (.slice au n cu) := cell_keep hb1 (by simp [go_sem])
  have q0 : w1.cell? ⟨w.heap.size + 1, 0, none⟩ = some (.int .i64 q.con) := cell_keep hb1 (by simp [go_sem])
  have q1 : w1.cell? ⟨w.heap.size + 1, 1, none⟩ = some (.int .i64 q.sh) := cell_keep hb1 (by simp [go_sem])
  have q2 : w1.cell? ⟨w.heap.size + 1, 2, none⟩ = some (.int .i64 q.pr) := cell_keep hb1 (by simp [go_sem])
  have q3 : w1.cell? ⟨w.heap.size + 1, 3, none⟩ = some (.int .i64 q.lb) := cell_keep hb1 (by simp [go_sem])
  have q4 : w1.cell? ⟨w.heap.size + 1, 4, none⟩ = some (.int .i64 q.lv) := cell_keep hb1 (by simp [go_sem])
  have q5 : w1.cell? ⟨w.heap.size + 1, 5, none⟩ = some (.slice ay q.cast.length cy) := cell_keep hb1 (by simp [go_sem])
  have r0 : w1.cell? ⟨w.heap.size + 2, 0, none⟩ = some (.int .i64 0) := cell_keep hb1 (by simp [go_sem])
  have r1 : w1.cell? ⟨w.heap.size + 2, 1, none⟩ = some (.int .i64 0) := cell_keep hb1 (by simp [go_sem])
  have r2 : w1.cell? ⟨w.heap.size + 2, 2, none⟩ = some (.int .i64 0) := cell_keep hb1 (by simp [go_sem])
  have r3 : w1.cell? ⟨w.heap.size + 2, 3, none⟩ = some (.int .i64 0) := cell_keep hb1 (by simp [go_sem])
  have r4 : w1.cell? ⟨w.heap.size + 2, 4, none⟩ = some (.int .i64 0) := cell_keep hb1 (by simp [go_sem])
  have r5 : w1.cell? ⟨w.heap.size + 2, 5, none⟩ = some (.slice none 0 0) := cell_keep hb1 (by simp [go_sem])
  have rf : ∀ o, w1.frozen? ⟨w.heap.size + 2, o, none⟩ = false := fun o => by rw [f1 _ _ (by simp; try omega)]; simp [go_sem]
  clear hb1 c1 f1
  rw [HN.out] at hi
  by_cases hD : i < xs.length ∧ cmpS (xs.getD i default) q = 0
  · rw [decide_eq_true hD]
    have HS : Hid (slotO xs q = xs.getD i default) := slotO_found hD.1 HA.out hD.2
    have hin : i < n := by rw [← HN.out]; exact hD.1
    clear hD
    obtain ⟨b, o, pp, qq, rfl, hc, hV⟩ := hXs.out i hin
    obtain ⟨l, hl⟩ : ∃ l, l = xs.getD i default := ⟨_, rfl⟩
    rw [← hl] at hc hV HS
    clear hl hXs
    obtain ⟨g0, g1, g2, g3, g4, g5⟩ := (sltKeep2 hB1 hc hc).2.1
    clear hc
    have zb : b < w1.heap.size := World.block_lt_of_cell? w1 _ g0
    go_wp2
    refine bodyPost_ret (v := .agg #[.int .i64 l.con, .int .i64 l.sh, .int .i64 l.pr, .int .i64 l.lb, .int .i64 l.lv, .slice pp l.cast.length qq]) ?_ rfl ⟨_, rfl, by rw [HS.out]; exact sltR.below hV (by (repeat (first | refine bset ?_ (by simp; omega) _ | refine bset ?_ (by simp) _ | refine balloc ?_ _ | assumption))), by (repeat (first | refine bset ?_ (by simp; omega) _ | refine bset ?_ (by simp) _ | refine balloc ?_ _ | assumption))⟩
    simp [results, Try.results117, go_sem, r0, r1, r2, r3, r4, r5, rf]
  · rw [decide_eq_false hD]
    have HS : Hid (slotO xs q = q) := slotO_miss HOK.out HA.out HB.out hD
    clear hD hXs
    go_wp2
    refine bodyPost_ret (v := .agg #[.int .i64 q.con, .int .i64 q.sh, .int .i64 q.pr, .int .i64 q.lb, .int .i64 q.lv, .slice ay q.cast.length cy]) ?_ rfl ⟨_, rfl, by rw [HS.out]; exact sltR.below hY (by (repeat (first | refine bset ?_ (by simp; omega) _ | refine bset ?_ (by simp) _ | refine balloc ?_ _ | assumption))), by (repeat (first | refine bset ?_ (by simp; omega) _ | refine bset ?_ (by simp) _ | refine balloc ?_ _ | assumption))⟩
    simp [results, Try.results117, go_sem, r0, r1, r2, r3, r4, r5, rf]
end Go.Proofs.Ytbdbjdnebmaimaa

/-
  SlotsFor, the program's.
-/
set_option linter.unusedSimpArgs false
set_option linter.unusedVariables false
namespace Go.Proofs.Ytbdbjdnebmaimaa
open Go.RowKit
set_option linter.unusedSectionVars false
variable [DecidableEq Vot] [Inhabited Vot] [DecidableEq Slt] [Inhabited Slt] [DecidableEq SltR] [Inhabited SltR] [DecidableEq Bal] [Inhabited Bal] [DecidableEq Ledg] [Inhabited Ledg] [DecidableEq Leg] [Inhabited Leg] [DecidableEq Acc] [Inhabited Acc] [DecidableEq AccR] [Inhabited AccR] [DecidableEq AccsR] [Inhabited AccsR] [DecidableEq SltsR] [Inhabited SltsR]
attribute [local go_sem ↓] Go.wp_at_zero Go.wp_at_succ

set_option maxRecDepth 20000 in
set_option maxHeartbeats 8000000 in
theorem implSlotsFor_u (x : Value) (l : List Acc) (c s : Int) (w : World) (hx : accsR.V w x l) :
    Calls Try.prog 56 #[x, .int .i64 c, .int .i64 s] w (SfE l c s w) := by
  have HFr : Hid (∀ W, Below w.heap.size w W → Calls Try.prog 76 #[x, .int .i64 c, .int .i64 s] W (FreE l c s W)) := fun W hW => freshFor_u x l c s W (accsR.below hx hW)
  obtain ⟨a, cx, rfl, hcx, hmx, hx⟩ := accs_at hx
  unfold maxLen at hmx
  have hXs : Hid (∀ k, k < l.length → ∃ b o p q, a = some ⟨b, o, none⟩ ∧ w.cell? ⟨b, o + k, none⟩ = some (.slice p (l.getD k default).slots.length q) ∧ accR.V w (.agg #[.slice p (l.getD k default).slots.length q]) (l.getD k default)) := hx
  clear hx
  obtain ⟨n, hn'⟩ : ∃ n, n = l.length := ⟨_, rfl⟩
  have HN : Hid (l.length = n) := hn'.symm
  rw [← hn'] at hcx hXs HFr ⊢
  clear hn'
  go_enter Try.func56, Try.ntmps56
  go_wp2_with fail
  refine (HFr.out _ (by (repeat (first | exact Below.refl _ _ | assumption | refine Below.drew ?_ | refine balloc ?_ _ | refine bset ?_ (by simp; omega) _ | refine bset ?_ (by simp) _ | refine bstep ?_ (by assumption))))).mono ?_
  rintro e w1 ⟨hE0, hE1⟩
  by_cases hf : freC l c s = 0
  rotate_left
  · obtain ⟨rfl, hb1⟩ := hE1 hf
    have HC : Hid (slotsD l c s = ⟨freC l c s, []⟩) := slotsD_code hf
    have hB1 : Below w.heap.size w w1 := by (repeat (first | exact Below.refl _ _ | assumption | refine Below.drew ?_ | refine balloc ?_ _ | refine bset ?_ (by simp; omega) _ | refine bset ?_ (by simp) _ | refine bstep ?_ (by assumption)))
    have hz1 := hb1.size
    simp at hz1
    obtain ⟨c1, f1⟩ := bcell hb1
    have r0 : w1.cell? ⟨w.heap.size, 0, none⟩ = some (.int .i64 0) := cell_keep hb1 (by simp [go_sem])
    have r1 : w1.cell? ⟨w.heap.size, 1, none⟩ = some (.slice none 0 0) := cell_keep hb1 (by simp [go_sem])
    have rf : ∀ o, w1.frozen? ⟨w.heap.size, o, none⟩ = false := fun o => by rw [f1 _ _ (by simp; try omega)]; simp [go_sem]
    clear hb1 c1 f1 hE0 hE1 HFr hXs
    have zr : w.heap.size < w1.heap.size := World.block_lt_of_cell? w1 _ r0
    generalize freC l c s = g at *
    have hg' : (g != 0) = true := by simp [hf]
    go_wp2
    exact bodyPost_ret (v := .agg #[.int .i64 g, .slice none 0 0]) (by simp [results, Try.results56, go_sem, r0, r1, rf, zr, Nat.ne_of_lt zr]) rfl (sfE_err HC.out (by (repeat (first | refine bset ?_ (by simp; omega) _ | refine bset ?_ (by simp) _ | refine balloc ?_ _ | assumption))))
  obtain ⟨p2, q2, F2, rfl, o2, hb1⟩ := hE0 hf
  have HC : Hid (slotsD l c s = ⟨0, slotsL l c s⟩) := slotsD_ok hf
  have hlk := listOk_of (freC_ok hf).1
  have HOk : Hid (∀ k, k < l.length → AccOk (l.getD k default).slots) := fun k hk => accs_cast hlk hk
  rw [HN.out] at HOk
  have hn5 := hlk.hi
  rw [HN.out] at hn5
  have hB1 : Below w.heap.size w w1 := by (repeat (first | exact Below.refl _ _ | assumption | refine Below.drew ?_ | refine balloc ?_ _ | refine bset ?_ (by simp; omega) _ | refine bset ?_ (by simp) _ | refine bstep ?_ (by assumption)))
  have hz1 := hb1.size
  simp at hz1
  obtain ⟨c1, f1⟩ := bcell hb1
  have R0 : w1.cell? ⟨w.heap.size, 0, none⟩ = some (.int .i64 0) := cell_keep hb1 (by simp [go_sem])
  have R1 : w1.cell? ⟨w.heap.size, 1, none⟩ = some (.slice none 0 0) := cell_keep hb1 (by simp [go_sem])
  have RF : ∀ o, w1.frozen? ⟨w.heap.size, o, none⟩ = false := fun o => by rw [f1 _ _ (by simp; try omega)]; simp [go_sem]
  have HV : Hid (∀ W, Below w1.heap.size w1 W → sltR.V W (.agg #[.int .i64 c, .int .i64 s, .int .i64 (-1), .int .i64 (-1), .int .i64 0, .slice p2 0 q2]) (freS c s)) := fun W hW => sltR.below (sltR.ofO o2) hW
  clear hb1 c1 f1 hE0 hE1 HFr o2 hf hlk
  have zR : w.heap.size < w1.heap.size := World.block_lt_of_cell? w1 _ R0
  have hs0 : ∃ a c' F, (Value.slice none 0 0) = .slice a 0 c' ∧ ∀ W, sltsR.O W (w1.heap.size + 1) F (.slice a 0 c') ((slotsL l c s).take 0) := ⟨none, 0, _, rfl, fun W => slts_nil W _⟩
  go_wp2
  go_loopw [8, 23] (fun t i w' => ∃ k : Nat, k ≤ n ∧ i = .int .i64 k ∧ (∃ a c' F, t = .slice a k c' ∧ sltsR.O w' (w1.heap.size + 1) F (.slice a k c') ((slotsL l c s).take k)) ∧ (w'.cell? ⟨w1.heap.size, 0, none⟩ = some (.int .i64 0) ∧ w'.cell? ⟨w1.heap.size, 1, none⟩ = some (.int .i64 0) ∧ w'.cell? ⟨w1.heap.size, 2, none⟩ = some (.int .i64 0) ∧ w'.cell? ⟨w1.heap.size, 3, none⟩ = some (.int .i64 c) ∧ w'.cell? ⟨w1.heap.size, 4, none⟩ = some (.int .i64 s) ∧ w'.cell? ⟨w1.heap.size, 5, none⟩ = some (.int .i64 (-1)) ∧ w'.cell? ⟨w1.heap.size, 6, none⟩ = some (.int .i64 (-1)) ∧ w'.cell? ⟨w1.heap.size, 7, none⟩ = some (.int .i64 0) ∧ w'.cell? ⟨w1.heap.size, 8, none⟩ = some (.slice p2 0 q2)) ∧ Below w1.heap.size w1 w') (fun t i _ => n - (intOf i).toNat)
  case atStart =>
    obtain ⟨a0, c0, F0, e0, h0⟩ := hs0
    exact ⟨0, Nat.zero_le _, rfl, ⟨a0, c0, F0, e0, h0 _⟩, by simp [go_sem], by (repeat (first | exact Below.refl _ _ | assumption | refine Below.drew ?_ | refine balloc ?_ _ | refine bset ?_ (by simp; omega) _ | refine bset ?_ (by simp) _ | refine bstep ?_ (by assumption)))⟩
  case round =>
    clear hs0
    obtain ⟨k, hk, rfl, ⟨as_, cs_, F, rfl, ho⟩, ⟨t0, t1, t2, t3, t4, t5, t6, t7, t8⟩, hb⟩ := hrel
    have hbl : Below w.heap.size w wr := bstep hB1 hb
    have HO : Hid (sltsR.O wr (w1.heap.size + 1) F (.slice as_ k cs_) ((slotsL l c s).take k)) := ho
    clear ho
    have zt : w1.heap.size < wr.heap.size := World.block_lt_of_cell? wr _ t0
    by_cases hlt : k < n
    · obtain ⟨b, o, p, q, rfl, hc, hV⟩ := hXs.out k hlt
      have hok := HOk.out k hlt
      have HL : Hid ((slotsL l c s).take (k + 1) = (slotsL l c s).take k ++ [slotO (l.getD k default).slots (freS c s)]) := slotsL_take l c s (by rw [HN.out]; exact hlt)
      have HB0 : Hid (b < w.heap.size) := World.block_lt_of_cell? w _ hc
      replace hc := cell_keep hbl hc
      have zb : b < wr.heap.size := World.block_lt_of_cell? wr _ hc
      have HSo : Hid (∀ W, Below wr.heap.size wr W → Calls Try.prog 117 #[.agg #[.slice p (l.getD k default).slots.length q], .agg #[.int .i64 c, .int .i64 s, .int .i64 (-1), .int .i64 (-1), .int .i64 0, .slice p2 0 q2]] W fun e w' => ∃ v, e = .returned v ∧ sltR.V w' v (slotO (l.getD k default).slots (freS c s)) ∧ Below W.heap.size W w') := fun W hW => slotOr_any _ _ (l.getD k default) (freS c s) W (accR.below hV (bstep hbl hW)) (HV.out W (bstep hb hW)) hok
      have HLen : Hid ((slotO (l.getD k default).slots (freS c s)).cast.length ≤ 1048576) := by
        show _ ≤ _
        rcases slotO_mem (l.getD k default).slots (freS c s) with e | ⟨i, hi, e, _⟩
        · rw [e]; exact Nat.zero_le _
        · rw [e]; exact Nat.le_trans (sltOk_of (hok.ok i hi)).len (by omega)
      clear hV hok
      generalize slotO (l.getD k default).slots (freS c s) = y at *
      generalize (l.getD k default).slots.length = m at *
      go_wp2_with fail
      refine (HSo.out _ (by (repeat (first | exact Below.refl _ _ | assumption | refine Below.drew ?_ | refine balloc ?_ _ | refine bset ?_ (by simp; omega) _ | refine bset ?_ (by simp) _ | refine bstep ?_ (by assumption))))).mono ?_
      rintro e w2 ⟨v2, rfl, hv2, hb2⟩
      have hB2 : Below wr.heap.size wr w2 := by (repeat (first | exact Below.refl _ _ | assumption | refine Below.drew ?_ | refine balloc ?_ _ | refine bset ?_ (by simp; omega) _ | refine bset ?_ (by simp) _ | refine bstep ?_ (by assumption)))
      have HCp : Hid (∀ W, Below w2.heap.size w2 W → Calls Try.prog 116 #[v2] W fun e w' => ∃ v F, e = .returned v ∧ sltR.O w' W.heap.size F v y ∧ Below W.heap.size W w') := fun W hW => copied8_u _ y W (sltR.below hv2 hW) HLen.out
      clear hb2 hv2 HSo
      go_wp2_with fail
      refine (HCp.out _ (Below.refl _ _)).mono ?_
      rintro e w3 ⟨v3, F3, rfl, o3, hb3⟩
      obtain ⟨a3, c3, rfl, _⟩ := slt_cells o3
      have hB3 : Below wr.heap.size wr w3 := bstep hB2 hb3
      have hz3 := hB3.size
      have hz2 := hB2.size
      have HO2 : Hid (sltsR.O w3 (w1.heap.size + 1) F (.slice as_ k cs_) ((slotsL l c s).take k)) := sltsR.keep HO.out hB3
      have HFl : Hid (∀ b, F b → b < wr.heap.size) := fun b hb => (sltsR.rng HO.out b hb).2
      have HF2 : Hid (∀ b, F3 b → wr.heap.size ≤ b) := fun b hb => by have := (sltR.rng o3 b hb).1; omega
      have HU : Hid (sltR.O w3 (w1.heap.size + 1) F3 (.agg #[.int .i64 y.con, .int .i64 y.sh, .int .i64 y.pr, .int .i64 y.lb, .int .i64 y.lv, .slice a3 y.cast.length c3]) y) := sltR.base o3 (by omega)
      have T0 := cell_keep hB3 t0
      have T1 := cell_keep hB3 t1
      have T2 := cell_keep hB3 t2
      have T3 := cell_keep hB3 t3
      have T4 := cell_keep hB3 t4
      have T5 := cell_keep hB3 t5
      have T6 := cell_keep hB3 t6
      have T7 := cell_keep hB3 t7
      have T8 := cell_keep hB3 t8
      have hBw3 : Below w1.heap.size w1 w3 := bstep hb hB3
      clear hb3 o3 HCp HO hc t0 t1 t2 t3 t4 t5 t6 t7 t8
      go_wp2_with (at_builtin; refine wpl_appS _ rfl _ _ rfl (w1.heap.size + 1) F F3 _ ((slotsL l c s).take k) y w3.heap.size a3 c3 rfl rfl ?a1 ?a2 ?a3 ?a4 ?a5 ?a6 ?_)
      case a1 => exact sltsR.alloc HO2.out _
      case a2 => exact sltR.alloc HU.out _
      case a3 => exact fun b h1 h2 => by have := HFl.out b h1; have := HF2.out b h2; omega
      case a4 => simp [go_sem]
      case a5 => rw [List.length_take, slotsL_len, HN.out]; omega
      case a6 => simp; omega
      intro v4 w4 F4 o4 hb4 _
      rw [← HL.out] at o4
      obtain ⟨a4, c4, e4⟩ := slts_form (sltsR.ofO o4)
      rw [show ((slotsL l c s).take (k + 1)).length = k + 1 by rw [List.length_take, slotsL_len, HN.out]; omega] at e4
      subst e4
      have o4' : ∃ a c' F, (Value.slice a4 (k + 1) c4) = .slice a (k + 1) c' ∧ sltsR.O w4 (w1.heap.size + 1) F (.slice a (k + 1) c') ((slotsL l c s).take (k + 1)) := ⟨_, _, F4, rfl, o4⟩
      have hB5 : Below (w1.heap.size + 1) w3 w4 := ((balloc (Below.refl _ w3) _).mono (by omega)).trans hb4
      replace T0 := (hB5.cell (p := ⟨w1.heap.size, 0, none⟩) (by simp)).trans T0
      replace T1 := (hB5.cell (p := ⟨w1.heap.size, 1, none⟩) (by simp)).trans T1
      replace T2 := (hB5.cell (p := ⟨w1.heap.size, 2, none⟩) (by simp)).trans T2
      replace T3 := (hB5.cell (p := ⟨w1.heap.size, 3, none⟩) (by simp)).trans T3
      replace T4 := (hB5.cell (p := ⟨w1.heap.size, 4, none⟩) (by simp)).trans T4
      replace T5 := (hB5.cell (p := ⟨w1.heap.size, 5, none⟩) (by simp)).trans T5
      replace T6 := (hB5.cell (p := ⟨w1.heap.size, 6, none⟩) (by simp)).trans T6
      replace T7 := (hB5.cell (p := ⟨w1.heap.size, 7, none⟩) (by simp)).trans T7
      replace T8 := (hB5.cell (p := ⟨w1.heap.size, 8, none⟩) (by simp)).trans T8
      have hB6 : Below w1.heap.size w1 w4 := hBw3.trans (hB5.mono (by omega))
      clear o4 hb4 hB5
      go_wp2
      exact ⟨⟨k + 1, by omega, by go_num, o4', ⟨T0, T1, T2, T3, T4, T5, T6, T7, T8⟩, hB6⟩, by simp [intOf]; omega⟩
    · have hkn : k = n := by omega
      subst hkn
      have ho := HO.out
      rw [List.take_of_length_le (by rw [slotsL_len, HN.out]; exact Nat.le_refl _)] at ho
      have HO2 : Hid (sltsR.O wr (w1.heap.size + 1) F (.slice as_ k cs_) (slotsL l c s)) := ho
      clear ho HO t0 t1 t2 t3 t4 t5 t6 t7 t8
      have r0 := cell_keep hb R0
      have r1 := cell_keep hb R1
      have rf : ∀ o, wr.frozen? ⟨w.heap.size, o, none⟩ = false := fun o => by rw [(bcell hb).2 _ _ zR]; exact RF o
      go_wp2
      refine bodyPost_ret (v := .agg #[.int .i64 0, .slice as_ k cs_]) (by simp [results, Try.results56, go_sem, r0, r1, rf]) rfl ?_
      refine ⟨_, F, rfl, ?_, by (repeat (first | refine bset ?_ (by simp; omega) _ | refine bset ?_ (by simp) _ | refine balloc ?_ _ | assumption))⟩
      rw [HC.out]
      refine ⟨_, F, rfl, ?_, fun _ => Iff.rfl⟩
      exact sltsR.base (Rep.set _ (Rep.set _ HO2.out _ (by simp; omega)) _ (by simp; omega)) (by omega)
end Go.Proofs.Ytbdbjdnebmaimaa

