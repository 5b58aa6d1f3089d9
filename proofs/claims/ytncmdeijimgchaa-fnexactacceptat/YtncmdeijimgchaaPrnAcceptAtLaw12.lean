import Derived.Test.YtncmdeijimgchaaPrnAcceptAtLaw11
import Derived.Test.YtncmdeijimgchaaPrnAcceptAtLaw4
import Derived.Test.YtncmdeijimgchaaPrnAcceptAtLaw7
import Derived.BigQuiet
import Derived.Deep.QuietTactic
import Derived.Deep.RegionHeld3
import Derived.Test.YtncmdeijimgchaaPrnAcceptAtLaw10
import Derived.Test.YtncmdeijimgchaaPrnAcceptAtLaw9
import Derived.Test.YtncmdeijimgchaaPrnAcceptAtLaw6
import Derived.Test.YtncmdeijimgchaaPrnAcceptAtLaw5

/-
  An acceptor copied, the document's.
-/
set_option linter.unusedSimpArgs false
set_option linter.unusedVariables false
namespace Go.Proofs.Ytncmdeijimgchaa
open Go.RowKit
set_option linter.unusedSectionVars false
variable [DecidableEq Vot] [Inhabited Vot] [DecidableEq Slt] [Inhabited Slt] [DecidableEq Bal] [Inhabited Bal] [DecidableEq Ledg] [Inhabited Ledg] [DecidableEq Leg] [Inhabited Leg] [DecidableEq Acc] [Inhabited Acc] [DecidableEq SltR] [Inhabited SltR] [DecidableEq AccR] [Inhabited AccR] [DecidableEq AccsR] [Inhabited AccsR] [DecidableEq SltsR] [Inhabited SltsR]
attribute [local go_sem ↓] Go.wp_at_zero Go.wp_at_succ

set_option maxRecDepth 20000 in
set_option maxHeartbeats 4000000 in
theorem l9Copy_u (x : Value) (d : Acc) (w : World) (hx : accR.V w x d) (hn : d.slots.length ≤ 1048576) (hw : ∀ k, k < d.slots.length → (d.slots.getD k default).cast.length ≤ 1048576) :
    Calls Try.prog 139 #[x] w fun e w' => ∃ v F, e = .returned v ∧ accR.O w' w.heap.size F v d ∧ Below w.heap.size w w' := by
  obtain ⟨u1, rfl, hx⟩ := hx
  obtain ⟨xs⟩ := d
  dsimp only at hx hw hn ⊢
  obtain ⟨au, cu, rfl, hcx, hmx, hx⟩ := hx
  unfold maxLen at hmx
  have hXs : Hid (∀ k, k < xs.length → ∃ b o p q, au = some ⟨b, o, none⟩ ∧ (w.cell? ⟨b, o + k * 6, none⟩ = some (.int .i64 (xs.getD k default).con) ∧ w.cell? ⟨b, o + k * 6 + 1, none⟩ = some (.int .i64 (xs.getD k default).sh) ∧ w.cell? ⟨b, o + k * 6 + 2, none⟩ = some (.int .i64 (xs.getD k default).pr) ∧ w.cell? ⟨b, o + k * 6 + 3, none⟩ = some (.int .i64 (xs.getD k default).lb) ∧ w.cell? ⟨b, o + k * 6 + 4, none⟩ = some (.int .i64 (xs.getD k default).lv) ∧ w.cell? ⟨b, o + k * 6 + 5, none⟩ = some (.slice p (xs.getD k default).cast.length q)) ∧ sltR.V w (.agg #[.int .i64 (xs.getD k default).con, .int .i64 (xs.getD k default).sh, .int .i64 (xs.getD k default).pr, .int .i64 (xs.getD k default).lb, .int .i64 (xs.getD k default).lv, .slice p (xs.getD k default).cast.length q]) (xs.getD k default)) := fun k hk => slts_at hx hk
  have HW : Hid (∀ k, k < xs.length → (xs.getD k default).cast.length ≤ 1048576) := hw
  clear hx hw
  obtain ⟨n, hn'⟩ : ∃ n, n = xs.length := ⟨_, rfl⟩
  have HN : Hid (xs.length = n) := hn'.symm
  rw [← hn'] at hcx hXs HW hn ⊢
  clear hn'
  have hs0 : ∃ F, sltsR.O (((w.alloc (.cells #[.slice au n cu] 57)).alloc (.cells #[.slice none 0 0] 57)).alloc (.cells #[.slice none 0 0] 57)) (w.heap.size + 3) F (.slice none 0 0) (xs.take 0) := ⟨_, slts_nil _ _⟩
  go_enter Try.func139, Try.ntmps139
  go_wp2
  go_loopw [4] (fun i w' => ∃ (k : Nat) (a : Option Addr) (c : Nat) (F : Nat → Prop), k ≤ n ∧ i = .int .i64 k ∧ sltsR.O w' (w.heap.size + 3) F (.slice a k c) (xs.take k) ∧ (w'.cell? ⟨w.heap.size, 0, none⟩ = some (.slice au n cu) ∧ w'.cell? ⟨w.heap.size + 1, 0, none⟩ = some (.slice none 0 0) ∧ w'.cell? ⟨w.heap.size + 2, 0, none⟩ = some (.slice a k c)) ∧ (∀ o, w'.frozen? ⟨w.heap.size + 1, o, none⟩ = false) ∧ (∀ o, w'.frozen? ⟨w.heap.size + 2, o, none⟩ = false) ∧ Below w.heap.size w w') (fun i _ => n - (intOf i).toNat)
  case atStart =>
    obtain ⟨F, h0⟩ := hs0
    exact ⟨0, none, 0, F, Nat.zero_le _, rfl, h0, by simp [go_sem], fun o => by simp [go_sem], fun o => by simp [go_sem], by (repeat (first | exact Below.refl _ _ | assumption | refine Below.drew ?_ | refine balloc ?_ _ | refine bset ?_ (by simp; omega) _ | refine bset ?_ (by simp) _ | refine bstep ?_ (by assumption)))⟩
  case round =>
    clear hs0
    obtain ⟨k, as_, cs_, F, hk, rfl, ho, ⟨y0, r0, t0⟩, rf, tf, hbl⟩ := hrel
    have HO : Hid (sltsR.O wr (w.heap.size + 3) F (.slice as_ k cs_) (xs.take k)) := ho
    clear ho
    have zr : w.heap.size + 1 < wr.heap.size := World.block_lt_of_cell? wr _ r0
    have zt : w.heap.size + 2 < wr.heap.size := World.block_lt_of_cell? wr _ t0
    by_cases hlt : k < n
    · obtain ⟨b, o, pp, qq, rfl, hc, hV⟩ := hXs.out k hlt
      have hcw := HW.out k hlt
      obtain ⟨l, hl⟩ : ∃ l, l = xs.getD k default := ⟨_, rfl⟩
      rw [← hl] at hc hV hcw
      have HL : Hid (xs.take (k + 1) = xs.take k ++ [l]) := by
        show _ = _
        rw [List.take_succ_eq_append_getElem (by rw [HN.out]; exact hlt), hl]
        simp [List.getD, show k < xs.length by rw [HN.out]; exact hlt]
      clear hl
      have HZB : Hid (b < w.heap.size) := World.block_lt_of_cell? w _ hc.1
      obtain ⟨g0, g1, g2, g3, g4, g5⟩ := (sltKeep2 hbl hc hc).2.1
      clear hc
      have zb : b < wr.heap.size := World.block_lt_of_cell? wr _ g0
      have zb0 : b < w.heap.size := HZB.out
      have HCp : Hid (∀ W, Below w.heap.size w W → Calls Try.prog 105 #[.agg #[.int .i64 l.con, .int .i64 l.sh, .int .i64 l.pr, .int .i64 l.lb, .int .i64 l.lv, .slice pp l.cast.length qq]] W fun e w' => ∃ v F, e = .returned v ∧ sltR.O w' W.heap.size F v l ∧ Below W.heap.size W w') := fun W hW => l8Copy_u _ l W (sltR.below hV hW) hcw
      clear hV
      have hi5 : (k : Int) < n := by omega
      have hi4 : (0 : Int) ≤ k := by omega
      go_wp2
      refine wp_region_noPanic ?_
      refine region_upto (fun W => W.cell? ⟨w.heap.size, 0, none⟩ = some (.slice (some ⟨b, o, none⟩) n cu) ∧ W.cell? ⟨w.heap.size + 2, 0, none⟩ = some (.slice as_ k cs_) ∧ (W.cell? ⟨b, o + k * 6, none⟩ = some (.int .i64 l.con) ∧ W.cell? ⟨b, o + k * 6 + 1, none⟩ = some (.int .i64 l.sh) ∧ W.cell? ⟨b, o + k * 6 + 2, none⟩ = some (.int .i64 l.pr) ∧ W.cell? ⟨b, o + k * 6 + 3, none⟩ = some (.int .i64 l.lb) ∧ W.cell? ⟨b, o + k * 6 + 4, none⟩ = some (.int .i64 l.lv) ∧ W.cell? ⟨b, o + k * 6 + 5, none⟩ = some (.slice pp l.cast.length qq))) 11 (by kernel_rfl) ⟨cell_keep (by (repeat (first | exact Below.refl _ _ | assumption | refine Below.drew ?_ | refine balloc ?_ _ | refine bset ?_ (by simp; omega) _ | refine bset ?_ (by simp) _ | refine bstep ?_ (by assumption)))) y0, cell_keep (by (repeat (first | exact Below.refl _ _ | assumption | refine Below.drew ?_ | refine balloc ?_ _ | refine bset ?_ (by simp; omega) _ | refine bset ?_ (by simp) _ | refine bstep ?_ (by assumption)))) t0, ⟨cell_keep (by (repeat (first | exact Below.refl _ _ | assumption | refine Below.drew ?_ | refine balloc ?_ _ | refine bset ?_ (by simp; omega) _ | refine bset ?_ (by simp) _ | refine bstep ?_ (by assumption)))) g0, cell_keep (by (repeat (first | exact Below.refl _ _ | assumption | refine Below.drew ?_ | refine balloc ?_ _ | refine bset ?_ (by simp; omega) _ | refine bset ?_ (by simp) _ | refine bstep ?_ (by assumption)))) g1, cell_keep (by (repeat (first | exact Below.refl _ _ | assumption | refine Below.drew ?_ | refine balloc ?_ _ | refine bset ?_ (by simp; omega) _ | refine bset ?_ (by simp) _ | refine bstep ?_ (by assumption)))) g2, cell_keep (by (repeat (first | exact Below.refl _ _ | assumption | refine Below.drew ?_ | refine balloc ?_ _ | refine bset ?_ (by simp; omega) _ | refine bset ?_ (by simp) _ | refine bstep ?_ (by assumption)))) g3, cell_keep (by (repeat (first | exact Below.refl _ _ | assumption | refine Below.drew ?_ | refine balloc ?_ _ | refine bset ?_ (by simp; omega) _ | refine bset ?_ (by simp) _ | refine bstep ?_ (by assumption)))) g4, cell_keep (by (repeat (first | exact Below.refl _ _ | assumption | refine Below.drew ?_ | refine balloc ?_ _ | refine bset ?_ (by simp; omega) _ | refine bset ?_ (by simp) _ | refine bstep ?_ (by assumption)))) g5⟩⟩ (fun hS => ?_)
      refine upto_take (i := 0) (v := ?_) rfl (by kernel_rfl) (by kernel_rfl) (by kernel_rfl) (by kernel_rfl) (fun _ _ _ h => h) (by rfl) hS ?_ ?_
      rotate_left
      · intro wS hSw
        try dsimp only at hSw
        first | (go_simp; done) | (go_simp; with_reducible rfl)
      try simp only [Act.put, List.getElem_toArray, List.getElem_cons_zero, List.getElem_cons_succ, List.setIfInBounds_toArray, List.set_cons_zero, List.set_cons_succ]
      refine upto_take (i := 1) (v := ?_) rfl (by kernel_rfl) (by kernel_rfl) (by kernel_rfl) (by kernel_rfl) (fun _ _ _ h => h) (by rfl) hS ?_ ?_
      rotate_left
      · intro wS hSw
        try dsimp only at hSw
        first | (go_simp; done) | (go_simp; with_reducible rfl)
      try simp only [Act.put, List.getElem_toArray, List.getElem_cons_zero, List.getElem_cons_succ, List.setIfInBounds_toArray, List.set_cons_zero, List.set_cons_succ]
      refine upto_take (i := 2) (v := ?_) rfl (by kernel_rfl) (by kernel_rfl) (by kernel_rfl) (by kernel_rfl) (fun _ _ _ h => h) (by rfl) hS ?_ ?_
      rotate_left
      · intro wS hSw
        try dsimp only at hSw
        first | (go_simp; done) | (go_simp; with_reducible rfl)
      try simp only [Act.put, List.getElem_toArray, List.getElem_cons_zero, List.getElem_cons_succ, List.setIfInBounds_toArray, List.set_cons_zero, List.set_cons_succ]
      refine upto_take (i := 3) (v := ?_) rfl (by kernel_rfl) (by kernel_rfl) (by kernel_rfl) (by kernel_rfl) (fun _ _ _ h => h) (by rfl) hS ?_ ?_
      rotate_left
      · intro wS hSw
        try dsimp only at hSw
        first | (go_simp; done) | (go_simp; with_reducible rfl)
      try simp only [Act.put, List.getElem_toArray, List.getElem_cons_zero, List.getElem_cons_succ, List.setIfInBounds_toArray, List.set_cons_zero, List.set_cons_succ]
      refine upto_take (i := 4) (v := ?_) rfl (by kernel_rfl) (by kernel_rfl) (by kernel_rfl) (by kernel_rfl) (fun _ _ _ h => h) (by rfl) hS ?_ ?_
      rotate_left
      · intro wS hSw
        try dsimp only at hSw
        first | (go_simp; done) | (go_simp; with_reducible rfl)
      try simp only [Act.put, List.getElem_toArray, List.getElem_cons_zero, List.getElem_cons_succ, List.setIfInBounds_toArray, List.set_cons_zero, List.set_cons_succ]
      refine upto_take (i := 5) (v := ?_) rfl (by kernel_rfl) (by kernel_rfl) (by kernel_rfl) (by kernel_rfl) (fun _ _ _ h => h) (by rfl) hS ?_ ?_
      rotate_left
      · intro wS hSw
        try dsimp only at hSw
        first | (go_simp; done) | (go_simp; with_reducible rfl)
      try simp only [Act.put, List.getElem_toArray, List.getElem_cons_zero, List.getElem_cons_succ, List.setIfInBounds_toArray, List.set_cons_zero, List.set_cons_succ]
      refine upto_take (i := 6) (v := ?_) rfl (by kernel_rfl) (by kernel_rfl) (by kernel_rfl) (by kernel_rfl) (fun _ _ _ h => h) (by rfl) hS ?_ ?_
      rotate_left
      · intro wS hSw
        try dsimp only at hSw
        first | (go_simp; done) | (go_simp; with_reducible rfl)
      try simp only [Act.put, List.getElem_toArray, List.getElem_cons_zero, List.getElem_cons_succ, List.setIfInBounds_toArray, List.set_cons_zero, List.set_cons_succ]
      have hbd : Below wr.heap.size wr wr.drew := Below.drew (Below.refl _ _)
      refine upto_step (i := 7) (by kernel_rfl) rfl ?_
      intro K hK
      go_simp
      refine (HCp.out _ (bstep hbl hbd)).mono ?_
      rintro e w2 ⟨v2, F2, rfl, o2, hb2⟩
      have hB2 : Below wr.heap.size wr w2 := bstep hbd hb2
      have hS2 : (fun W => W.cell? ⟨w.heap.size, 0, none⟩ = some (.slice (some ⟨b, o, none⟩) n cu) ∧ W.cell? ⟨w.heap.size + 2, 0, none⟩ = some (.slice as_ k cs_) ∧ (W.cell? ⟨b, o + k * 6, none⟩ = some (.int .i64 l.con) ∧ W.cell? ⟨b, o + k * 6 + 1, none⟩ = some (.int .i64 l.sh) ∧ W.cell? ⟨b, o + k * 6 + 2, none⟩ = some (.int .i64 l.pr) ∧ W.cell? ⟨b, o + k * 6 + 3, none⟩ = some (.int .i64 l.lb) ∧ W.cell? ⟨b, o + k * 6 + 4, none⟩ = some (.int .i64 l.lv) ∧ W.cell? ⟨b, o + k * 6 + 5, none⟩ = some (.slice pp l.cast.length qq))) w2 := ⟨cell_keep hB2 y0, cell_keep hB2 t0, ⟨cell_keep hB2 g0, cell_keep hB2 g1, cell_keep hB2 g2, cell_keep hB2 g3, cell_keep hB2 g4, cell_keep hB2 g5⟩⟩
      refine hK _ _ (fun _ => hS2) ?_
      clear hK K
      obtain ⟨a2, c2, rfl, _⟩ := slt_cells o2
      try simp only [Act.put, List.getElem_toArray, List.getElem_cons_zero, List.getElem_cons_succ, List.setIfInBounds_toArray, List.set_cons_zero, List.set_cons_succ]
      have HO2 : Hid (sltsR.O w2 (w.heap.size + 3) F (.slice as_ k cs_) (xs.take k)) := sltsR.keep HO.out hB2
      have HFl : Hid (∀ b, F b → w.heap.size + 3 ≤ b ∧ b < wr.heap.size) := fun b hb => sltsR.rng HO.out b hb
      have HF2 : Hid (∀ b, F2 b → wr.heap.size ≤ b) := fun b hb => (sltR.rng o2 b hb).1
      have HU : Hid (sltR.O w2 (w.heap.size + 3) F2 (.agg #[.int .i64 l.con, .int .i64 l.sh, .int .i64 l.pr, .int .i64 l.lb, .int .i64 l.lv, .slice a2 l.cast.length c2]) l) := sltR.base o2 (by show _ ≤ wr.heap.size; omega)
      have hz2 := hB2.size
      refine upto_step (i := 8) (by kernel_rfl) rfl ?_
      intro K hK
      go_simp
      have hS3 : (fun W => W.cell? ⟨w.heap.size, 0, none⟩ = some (.slice (some ⟨b, o, none⟩) n cu) ∧ W.cell? ⟨w.heap.size + 2, 0, none⟩ = some (.slice as_ k cs_) ∧ (W.cell? ⟨b, o + k * 6, none⟩ = some (.int .i64 l.con) ∧ W.cell? ⟨b, o + k * 6 + 1, none⟩ = some (.int .i64 l.sh) ∧ W.cell? ⟨b, o + k * 6 + 2, none⟩ = some (.int .i64 l.pr) ∧ W.cell? ⟨b, o + k * 6 + 3, none⟩ = some (.int .i64 l.lb) ∧ W.cell? ⟨b, o + k * 6 + 4, none⟩ = some (.int .i64 l.lv) ∧ W.cell? ⟨b, o + k * 6 + 5, none⟩ = some (.slice pp l.cast.length qq))) (w2.alloc (.cells #[.int .i64 l.con, .int .i64 l.sh, .int .i64 l.pr, .int .i64 l.lb, .int .i64 l.lv, .slice a2 l.cast.length c2] 91)) := ⟨cell_keep (balloc (Below.refl _ _) _) hS2.1, cell_keep (balloc (Below.refl _ _) _) hS2.2.1, cell_keep (balloc (Below.refl _ _) _) hS2.2.2.1, cell_keep (balloc (Below.refl _ _) _) hS2.2.2.2.1, cell_keep (balloc (Below.refl _ _) _) hS2.2.2.2.2.1, cell_keep (balloc (Below.refl _ _) _) hS2.2.2.2.2.2.1, cell_keep (balloc (Below.refl _ _) _) hS2.2.2.2.2.2.2.1, cell_keep (balloc (Below.refl _ _) _) hS2.2.2.2.2.2.2.2⟩
      refine hK _ _ (fun _ => hS3) ?_
      clear hK K
      try simp only [Act.put, List.getElem_toArray, List.getElem_cons_zero, List.getElem_cons_succ, List.setIfInBounds_toArray, List.set_cons_zero, List.set_cons_succ]
      refine upto_step (i := 9) (by kernel_rfl) rfl ?_
      intro K hK
      refine step_appS _ rfl _ _ rfl (w.heap.size + 3) F F2 _ (xs.take k) l w2.heap.size a2 c2 rfl rfl ?a1 ?a2 ?a3 ?a4 ?a5 ?a6 ?_
      case a1 => exact sltsR.alloc HO2.out _
      case a2 => exact sltR.alloc HU.out _
      case a3 => exact fun b h1 h2 => by have := HFl.out b h1; have := HF2.out b h2; omega
      case a4 => simp [go_sem]
      case a5 => rw [List.length_take, HN.out]; omega
      case a6 => simp; omega
      intro v3 w3 F3 o3 hb3 hF3
      rw [← HL.out] at o3
      obtain ⟨a3, c3, e3⟩ := slts_form (sltsR.ofO o3)
      rw [show (xs.take (k + 1)).length = k + 1 by rw [List.length_take, HN.out]; omega] at e3
      subst e3
      have HO3 : Hid (sltsR.O w3 (w.heap.size + 3) F3 (.slice a3 (k + 1) c3) (xs.take (k + 1))) := o3
      have hB3 : Below wr.heap.size wr (w2.alloc (.cells #[.int .i64 l.con, .int .i64 l.sh, .int .i64 l.pr, .int .i64 l.lb, .int .i64 l.lv, .slice a2 l.cast.length c2] 91)) := balloc hB2 _
      have hB5 : Below (w.heap.size + 3) wr w3 := (hB3.mono (by omega)).trans hb3
      have hBw : Below w.heap.size w w3 := hbl.trans (hB5.mono (by omega))
      have y3 : w3.cell? ⟨w.heap.size, 0, none⟩ = some (.slice (some ⟨b, o, none⟩) n cu) := (hB5.cell (p := ⟨w.heap.size, 0, none⟩) (by simp)).trans y0
      have r3 : w3.cell? ⟨w.heap.size + 1, 0, none⟩ = some (.slice none 0 0) := (hB5.cell (p := ⟨w.heap.size + 1, 0, none⟩) (by simp)).trans r0
      have t3 : w3.cell? ⟨w.heap.size + 2, 0, none⟩ = some (.slice as_ k cs_) := (hB5.cell (p := ⟨w.heap.size + 2, 0, none⟩) (by simp)).trans t0
      have rf3 : ∀ o, w3.frozen? ⟨w.heap.size + 1, o, none⟩ = false := fun o => (hB5.frozen (p := ⟨w.heap.size + 1, o, none⟩) (by simp)).trans (rf o)
      have tf3 : ∀ o, w3.frozen? ⟨w.heap.size + 2, o, none⟩ = false := fun o => (hB5.frozen (p := ⟨w.heap.size + 2, o, none⟩) (by simp)).trans (tf o)
      have HG : Hid (∀ j v, wr.cell? ⟨b, j, none⟩ = some v → w3.cell? ⟨b, j, none⟩ = some v) := fun j v hv => (hB5.cell (p := ⟨b, j, none⟩) (by dsimp only; omega)).trans hv
      have hS5 : (fun W => W.cell? ⟨w.heap.size, 0, none⟩ = some (.slice (some ⟨b, o, none⟩) n cu) ∧ W.cell? ⟨w.heap.size + 2, 0, none⟩ = some (.slice as_ k cs_) ∧ (W.cell? ⟨b, o + k * 6, none⟩ = some (.int .i64 l.con) ∧ W.cell? ⟨b, o + k * 6 + 1, none⟩ = some (.int .i64 l.sh) ∧ W.cell? ⟨b, o + k * 6 + 2, none⟩ = some (.int .i64 l.pr) ∧ W.cell? ⟨b, o + k * 6 + 3, none⟩ = some (.int .i64 l.lb) ∧ W.cell? ⟨b, o + k * 6 + 4, none⟩ = some (.int .i64 l.lv) ∧ W.cell? ⟨b, o + k * 6 + 5, none⟩ = some (.slice pp l.cast.length qq))) w3 := ⟨y3, t3, HG.out _ _ g0, HG.out _ _ g1, HG.out _ _ g2, HG.out _ _ g3, HG.out _ _ g4, HG.out _ _ g5⟩
      refine hK _ _ (fun _ => hS5) ?_
      clear hK K
      try simp only [Act.put, List.getElem_toArray, List.getElem_cons_zero, List.getElem_cons_succ, List.setIfInBounds_toArray, List.set_cons_zero, List.set_cons_succ]
      refine upto_take (i := 10) (v := ?_) rfl (by kernel_rfl) (by kernel_rfl) (by kernel_rfl) (by kernel_rfl) (fun _ _ _ h => h) (by rfl) hS5 ?_ ?_
      rotate_left
      · intro wS hSw
        try dsimp only at hSw
        first | (go_simp; done) | (go_simp; with_reducible rfl)
      try simp only [Act.put, List.getElem_toArray, List.getElem_cons_zero, List.getElem_cons_succ, List.setIfInBounds_toArray, List.set_cons_zero, List.set_cons_succ]
      refine upto_step (i := 11) (by kernel_rfl) rfl ?_
      intro K hK
      go_simp
      refine hK _ _ (fun h => absurd rfl h) ?_
      clear hK K
      refine upto_done (by kernel_rfl) ?_
      refine NoPanic.normal ?_
      have HO4 : Hid (sltsR.O (w3.setCell ⟨w.heap.size + 2, 0, none⟩ (.slice a3 (k + 1) c3)) (w.heap.size + 3) F3 (.slice a3 (k + 1) c3) (xs.take (k + 1))) := Rep.set _ HO3.out _ (by simp)
      have y4 : (w3.setCell ⟨w.heap.size + 2, 0, none⟩ (.slice a3 (k + 1) c3)).cell? ⟨w.heap.size, 0, none⟩ = some (.slice (some ⟨b, o, none⟩) n cu) := by simp [go_sem, y3, t3, tf3]
      have r4 : (w3.setCell ⟨w.heap.size + 2, 0, none⟩ (.slice a3 (k + 1) c3)).cell? ⟨w.heap.size + 1, 0, none⟩ = some (.slice none 0 0) := by simp [go_sem, r3, t3, tf3]
      have t4 : (w3.setCell ⟨w.heap.size + 2, 0, none⟩ (.slice a3 (k + 1) c3)).cell? ⟨w.heap.size + 2, 0, none⟩ = some (.slice a3 (k + 1) c3) := by simp [go_sem, t3, tf3]
      have rf4 : ∀ o, (w3.setCell ⟨w.heap.size + 2, 0, none⟩ (.slice a3 (k + 1) c3)).frozen? ⟨w.heap.size + 1, o, none⟩ = false := fun o => by simp [go_sem, rf3]
      have tf4 : ∀ o, (w3.setCell ⟨w.heap.size + 2, 0, none⟩ (.slice a3 (k + 1) c3)).frozen? ⟨w.heap.size + 2, o, none⟩ = false := fun o => by simp [go_sem, tf3]
      have hB4 : Below w.heap.size w (w3.setCell ⟨w.heap.size + 2, 0, none⟩ (.slice a3 (k + 1) c3)) := bset hBw (by simp) _
      generalize w3.setCell ⟨w.heap.size + 2, 0, none⟩ (.slice a3 (k + 1) c3) = w4 at *
      clear hS hS2 hS3 hS5 hB3 hB5 o3 hb3 hF3 hB2 hb2 o2 HO HO2 HO3 HU HCp g0 g1 g2 g3 g4 g5 y0 r0 t0 y3 r3 t3 rf tf rf3 tf3 hbd
      go_wp2
      exact ⟨⟨k + 1, a3, c3, F3, by omega, by go_num, HO4.out, ⟨y4, r4, t4⟩, rf4, tf4, hB4⟩, by simp [intOf]; omega⟩
    · have hkn : k = n := by omega
      subst hkn
      have ho := HO.out
      rw [List.take_of_length_le (by rw [HN.out]; exact Nat.le_refl _)] at ho
      have HO2 : Hid (sltsR.O wr (w.heap.size + 3) F (.slice as_ k cs_) xs) := ho
      clear ho HO
      go_wp2
      refine bodyPost_ret (v := .agg #[.slice as_ k cs_]) ?_ rfl ⟨_, F, rfl, ⟨_, F, rfl, ?_, fun b => Iff.rfl⟩, by (repeat (first | refine bset ?_ (by simp; omega) _ | refine bset ?_ (by simp) _ | refine balloc ?_ _ | assumption))⟩
      · simp [results, Try.results139, go_sem, r0, rf]
      · have h := sltsR.base (base' := w.heap.size) HO2.out (by omega)
        exact Rep.setN _ h _ (fun hb => by have := (sltsR.rng HO2.out _ hb).1; simp at this)
end Go.Proofs.Ytncmdeijimgchaa

/-
  Two slots' cells, and one more.
-/
set_option linter.unusedSimpArgs false
set_option linter.unusedVariables false
namespace Go.Proofs.Ytncmdeijimgchaa
open Go.RowKit
set_option linter.unusedSectionVars false
variable [DecidableEq Vot] [Inhabited Vot] [DecidableEq Slt] [Inhabited Slt] [DecidableEq SltR] [Inhabited SltR] [DecidableEq Bal] [Inhabited Bal] [DecidableEq Ledg] [Inhabited Ledg] [DecidableEq Leg] [Inhabited Leg] [DecidableEq Acc] [Inhabited Acc] [DecidableEq AccR] [Inhabited AccR] [DecidableEq AccsR] [Inhabited AccsR] [DecidableEq SltsR] [Inhabited SltsR]
attribute [local go_sem ↓] Go.wp_at_zero Go.wp_at_succ

theorem sltKeep3 {w w' : World} {b o b' o' : Nat} {x y : Slt} {u v : Value} {p : Addr} {q : Value} (hb : Below w.heap.size w w') (h : w.cell? ⟨b, o, none⟩ = some (.int .i64 x.con) ∧ w.cell? ⟨b, o + 1, none⟩ = some (.int .i64 x.sh) ∧ w.cell? ⟨b, o + 2, none⟩ = some (.int .i64 x.pr) ∧ w.cell? ⟨b, o + 3, none⟩ = some (.int .i64 x.lb) ∧ w.cell? ⟨b, o + 4, none⟩ = some (.int .i64 x.lv) ∧ w.cell? ⟨b, o + 5, none⟩ = some (u)) (h' : w.cell? ⟨b', o', none⟩ = some (.int .i64 y.con) ∧ w.cell? ⟨b', o' + 1, none⟩ = some (.int .i64 y.sh) ∧ w.cell? ⟨b', o' + 2, none⟩ = some (.int .i64 y.pr) ∧ w.cell? ⟨b', o' + 3, none⟩ = some (.int .i64 y.lb) ∧ w.cell? ⟨b', o' + 4, none⟩ = some (.int .i64 y.lv) ∧ w.cell? ⟨b', o' + 5, none⟩ = some (v)) (hq : w.cell? p = some q) :
    Below w.heap.size w w' ∧ (w'.cell? ⟨b, o, none⟩ = some (.int .i64 x.con) ∧ w'.cell? ⟨b, o + 1, none⟩ = some (.int .i64 x.sh) ∧ w'.cell? ⟨b, o + 2, none⟩ = some (.int .i64 x.pr) ∧ w'.cell? ⟨b, o + 3, none⟩ = some (.int .i64 x.lb) ∧ w'.cell? ⟨b, o + 4, none⟩ = some (.int .i64 x.lv) ∧ w'.cell? ⟨b, o + 5, none⟩ = some (u)) ∧ (w'.cell? ⟨b', o', none⟩ = some (.int .i64 y.con) ∧ w'.cell? ⟨b', o' + 1, none⟩ = some (.int .i64 y.sh) ∧ w'.cell? ⟨b', o' + 2, none⟩ = some (.int .i64 y.pr) ∧ w'.cell? ⟨b', o' + 3, none⟩ = some (.int .i64 y.lb) ∧ w'.cell? ⟨b', o' + 4, none⟩ = some (.int .i64 y.lv) ∧ w'.cell? ⟨b', o' + 5, none⟩ = some (v)) ∧ w'.cell? p = some q :=
  ⟨hb, ⟨cell_keep hb h.1, cell_keep hb h.2.1, cell_keep hb h.2.2.1, cell_keep hb h.2.2.2.1, cell_keep hb h.2.2.2.2.1, cell_keep hb h.2.2.2.2.2⟩, ⟨cell_keep hb h'.1, cell_keep hb h'.2.1, cell_keep hb h'.2.2.1, cell_keep hb h'.2.2.2.1, cell_keep hb h'.2.2.2.2.1, cell_keep hb h'.2.2.2.2.2⟩, cell_keep hb hq⟩
end Go.Proofs.Ytncmdeijimgchaa

/-
  l9Set: a slot put in its place, the document's.
-/
set_option linter.unusedSimpArgs false
set_option linter.unusedVariables false
namespace Go.Proofs.Ytncmdeijimgchaa
open Go.RowKit
set_option linter.unusedSectionVars false
variable [DecidableEq Vot] [Inhabited Vot] [DecidableEq Slt] [Inhabited Slt] [DecidableEq Bal] [Inhabited Bal] [DecidableEq Ledg] [Inhabited Ledg] [DecidableEq Leg] [Inhabited Leg] [DecidableEq Acc] [Inhabited Acc] [DecidableEq SltR] [Inhabited SltR] [DecidableEq AccR] [Inhabited AccR] [DecidableEq AccsR] [Inhabited AccsR] [DecidableEq SltsR] [Inhabited SltsR]
attribute [local go_sem ↓] Go.wp_at_zero Go.wp_at_succ

set_option maxRecDepth 20000 in
set_option maxHeartbeats 16000000 in
theorem l9Set_u (x : Value) (d : Acc) (s : Slt) (p : Option Addr) (q base : Nat) (Fs : Nat → Prop) (w : World) (hx : accR.V w x d) (hok : AccOk d.slots) (hu : sltR.O w base Fs (.agg #[.int .i64 s.con, .int .i64 s.sh, .int .i64 s.pr, .int .i64 s.lb, .int .i64 s.lv, .slice p s.cast.length q]) s) (hbase : base ≤ w.heap.size) :
    Calls Try.prog 103 #[x, .agg #[.int .i64 s.con, .int .i64 s.sh, .int .i64 s.pr, .int .i64 s.lb, .int .i64 s.lv, .slice p s.cast.length q]] w fun e w' => SetE d.slots s base Fs w e w' := by
  have hX := hx
  obtain ⟨u1, rfl, hx⟩ := hx
  obtain ⟨xs⟩ := d
  dsimp only at hx hok hX ⊢
  have hlen := hok.len
  have HCp : Hid (∀ W, Below w.heap.size w W → Calls Try.prog 139 #[.agg #[u1]] W fun e w' => ∃ v F, e = .returned v ∧ accR.O w' W.heap.size F v ⟨xs⟩ ∧ Below W.heap.size W w') := fun W hW => l9Copy_u _ ⟨xs⟩ W (accR.below hX hW) (by dsimp only; omega) (fun k hk => Nat.le_trans (sltOk_of (hok.ok k hk)).len (by omega))
  have HU : Hid (sltR.O w base Fs (.agg #[.int .i64 s.con, .int .i64 s.sh, .int .i64 s.pr, .int .i64 s.lb, .int .i64 s.lv, .slice p s.cast.length q]) s) := hu
  clear hu hX hok
  obtain ⟨au, cu, rfl⟩ := slts_form hx
  clear hx
  obtain ⟨n, hn'⟩ : ∃ n, n = xs.length := ⟨_, rfl⟩
  have HN : Hid (xs.length = n) := hn'.symm
  rw [← hn'] at hlen HCp ⊢
  clear hn'
  go_enter Try.func103, Try.ntmps103
  go_wp2_with fail
  refine (HCp.out _ (by (repeat (first | exact Below.refl _ _ | assumption | refine Below.drew ?_ | refine balloc ?_ _ | refine bset ?_ (by simp; omega) _ | refine bset ?_ (by simp) _ | refine bstep ?_ (by assumption))))).mono ?_
  rintro e w1 ⟨v1, F1, rfl, o1, hb1⟩
  obtain ⟨ac, cc, rfl, _⟩ := acc_cells o1
  have hB1 : Below w.heap.size w w1 := by (repeat (first | exact Below.refl _ _ | assumption | refine Below.drew ?_ | refine balloc ?_ _ | refine bset ?_ (by simp; omega) _ | refine bset ?_ (by simp) _ | refine bstep ?_ (by assumption)))
  have hz1 := hb1.size
  simp at hz1
  obtain ⟨c1, f1⟩ := bcell hb1
  have Y0 : w1.cell? ⟨w.heap.size, 0, none⟩ = some (.slice au n cu) := cell_keep hb1 (by simp [go_sem])
  have Q0 : w1.cell? ⟨w.heap.size + 1, 0, none⟩ = some (.int .i64 s.con) := cell_keep hb1 (by simp [go_sem])
  have Q1 : w1.cell? ⟨w.heap.size + 1, 1, none⟩ = some (.int .i64 s.sh) := cell_keep hb1 (by simp [go_sem])
  have Q2 : w1.cell? ⟨w.heap.size + 1, 2, none⟩ = some (.int .i64 s.pr) := cell_keep hb1 (by simp [go_sem])
  have Q3 : w1.cell? ⟨w.heap.size + 1, 3, none⟩ = some (.int .i64 s.lb) := cell_keep hb1 (by simp [go_sem])
  have Q4 : w1.cell? ⟨w.heap.size + 1, 4, none⟩ = some (.int .i64 s.lv) := cell_keep hb1 (by simp [go_sem])
  have Q5 : w1.cell? ⟨w.heap.size + 1, 5, none⟩ = some (.slice p s.cast.length q) := cell_keep hb1 (by simp [go_sem])
  have R0 : w1.cell? ⟨w.heap.size + 2, 0, none⟩ = some (.slice none 0 0) := cell_keep hb1 (by simp [go_sem])
  have RF : ∀ o, w1.frozen? ⟨w.heap.size + 2, o, none⟩ = false := fun o => by rw [f1 _ _ (by simp; try omega)]; simp [go_sem]
  have HO1 : Hid (sltsR.O w1 (w.heap.size + 3) F1 (.slice ac n cc) xs) := by
    obtain ⟨u, F2, e, h1, hF⟩ := o1
    simp only [Value.agg.injEq, Array.mk.injEq, List.cons.injEq, and_true] at e
    subst e
    have hFF : F1 = F2 := by funext b; exact propext (hF b)
    subst hFF
    rw [← HN.out]
    exact sltsR.base h1 (by simp)
  clear o1 hb1 c1 f1 HCp
  dsimp only
  rw [HN.out]
  have HFl : Hid (∀ b, F1 b → w.heap.size + 3 ≤ b ∧ b < w1.heap.size) := fun b hb => sltsR.rng HO1.out b hb
  have HFs : Hid (∀ b, Fs b → b < w.heap.size) := fun b hb => (sltR.rng HU.out b hb).2
  have HDs : Hid (∀ b, F1 b → ¬ Fs b) := fun b h1 h2 => by have := HFl.out b h1; have := HFs.out b h2; omega
  have zq : w.heap.size + 1 < w1.heap.size := World.block_lt_of_cell? w1 _ Q0
  have zr : w.heap.size + 2 < w1.heap.size := World.block_lt_of_cell? w1 _ R0
  go_wp2
  go_loopw [7] (fun i w' => ∃ k : Nat, k ≤ n ∧ i = .int .i64 k ∧ Hid (∀ j, j < k → aheadS (xs.getD j default) s = true) ∧ w'.cell? ⟨w1.heap.size, 0, none⟩ = some (.slice ac n cc) ∧ (∀ o, w'.frozen? ⟨w1.heap.size, o, none⟩ = false) ∧ Below w1.heap.size w1 w') (fun i _ => n - (intOf i).toNat)
  case atStart => exact ⟨0, Nat.zero_le _, rfl, fun j h => absurd h (Nat.not_lt_zero _), by simp [go_sem], fun o => by simp [go_sem], by (repeat (first | exact Below.refl _ _ | assumption | refine Below.drew ?_ | refine balloc ?_ _ | refine bset ?_ (by simp; omega) _ | refine bset ?_ (by simp) _ | refine bstep ?_ (by assumption)))⟩
  case round =>
    obtain ⟨k, hk, rfl, HA, t0, tf, hbl⟩ := hrel
    have hBw : Below w.heap.size w wr := bstep hB1 hbl
    have HO : Hid (sltsR.O wr (w.heap.size + 3) F1 (.slice ac n cc) xs) := sltsR.keep HO1.out hbl
    have q0 := cell_keep hbl Q0
    have q1 := cell_keep hbl Q1
    have q2 := cell_keep hbl Q2
    have q3 := cell_keep hbl Q3
    have q4 := cell_keep hbl Q4
    have q5 := cell_keep hbl Q5
    have y0 := cell_keep hbl Y0
    have r0 := cell_keep hbl R0
    have rf : ∀ o, wr.frozen? ⟨w.heap.size + 2, o, none⟩ = false := fun o => by rw [(bcell hbl).2 _ _ (by omega)]; exact RF o
    have zt : w1.heap.size < wr.heap.size := World.block_lt_of_cell? wr _ t0
    by_cases hlt : k < n
    · obtain ⟨_, _, e0, hcx, hmx, hxv⟩ := sltsR.ofO HO.out
      simp only [Value.slice.injEq] at e0
      obtain ⟨rfl, hx0, rfl⟩ := e0
      clear hx0
      obtain ⟨g, o, pp, qq, he, hc, _⟩ := slts_at hxv (show k < xs.length by rw [HN.out]; exact hlt)
      have hg0 : ∃ g', ac = some ⟨g', 0, none⟩ ∧ F1 g' ∧ ∀ o, wr.frozen? ⟨g', o, none⟩ = false := by
        obtain ⟨cs, us, fs, hp, hF⟩ := HO.out
        rcases hp.row.2 with ⟨h, _⟩ | ⟨g', cap, cur, h, _⟩
        · simp only [Value.slice.injEq] at h; omega
        · simp only [Value.slice.injEq] at h
          obtain ⟨rfl, _, rfl⟩ := h
          rw [HN.out] at hp
          exact ⟨g', rfl, (hF g').2 (.inl rfl), fun o => hp.row.frozenAt o⟩
      obtain ⟨g', rfl, hg1, gf⟩ := hg0
      simp only [Option.some.injEq, Addr.mk.injEq, and_true] at he
      obtain ⟨rfl, rfl⟩ := he
      simp only [Nat.zero_add] at hc
      have hgr := HFl.out g' hg1
      obtain ⟨l, hl⟩ : ∃ l, l = xs.getD k default := ⟨_, rfl⟩
      rw [← hl] at hc
      have HL : Hid (l = xs.getD k default) := hl
      clear hl hxv
      rw [HN.out] at hcx
      unfold maxLen at hmx
      have hi5 : (k : Int) < n := by omega
      have hi6 : decide (k < n) = true := decide_eq_true hlt
      have hi4 : (0 : Int) ≤ k := by omega
      have rQ : wr.cell? ⟨w.heap.size + 1, 0, none⟩ = some (.int .i64 s.con) ∧ wr.cell? ⟨w.heap.size + 1, 0 + 1, none⟩ = some (.int .i64 s.sh) ∧ wr.cell? ⟨w.heap.size + 1, 0 + 2, none⟩ = some (.int .i64 s.pr) ∧ wr.cell? ⟨w.heap.size + 1, 0 + 3, none⟩ = some (.int .i64 s.lb) ∧ wr.cell? ⟨w.heap.size + 1, 0 + 4, none⟩ = some (.int .i64 s.lv) ∧ wr.cell? ⟨w.heap.size + 1, 0 + 5, none⟩ = some (.slice p s.cast.length q) := ⟨q0, q1, q2, q3, q4, q5⟩
      cases hah : aheadS l s
      all_goals
        have HAH : Hid (aheadS l s = _) := hah
        go_wp2
        go_region_held3 (fun W => Below wr.heap.size wr W ∧ (W.cell? ⟨g', k * 6, none⟩ = some (.int .i64 l.con) ∧ W.cell? ⟨g', k * 6 + 1, none⟩ = some (.int .i64 l.sh) ∧ W.cell? ⟨g', k * 6 + 2, none⟩ = some (.int .i64 l.pr) ∧ W.cell? ⟨g', k * 6 + 3, none⟩ = some (.int .i64 l.lb) ∧ W.cell? ⟨g', k * 6 + 4, none⟩ = some (.int .i64 l.lv) ∧ W.cell? ⟨g', k * 6 + 5, none⟩ = some (.slice pp l.cast.length qq)) ∧ (W.cell? ⟨w.heap.size + 1, 0, none⟩ = some (.int .i64 s.con) ∧ W.cell? ⟨w.heap.size + 1, 0 + 1, none⟩ = some (.int .i64 s.sh) ∧ W.cell? ⟨w.heap.size + 1, 0 + 2, none⟩ = some (.int .i64 s.pr) ∧ W.cell? ⟨w.heap.size + 1, 0 + 3, none⟩ = some (.int .i64 s.lb) ∧ W.cell? ⟨w.heap.size + 1, 0 + 4, none⟩ = some (.int .i64 s.lv) ∧ W.cell? ⟨w.heap.size + 1, 0 + 5, none⟩ = some (.slice p s.cast.length q)) ∧ W.cell? ⟨w1.heap.size, 0, none⟩ = some (.slice (some ⟨g', 0, none⟩) n cc)) ((refine sltKeep3 ?_ hc rQ t0; repeat (first | exact Below.refl _ _ | assumption | refine Below.drew ?_ | refine balloc ?_ _ | refine bstep ?_ (by assumption))))
          (first | (go_at_call 138; refine (l9Ahead_any l s _ _ _).mono ?_; rintro e wa ⟨rfl, hb2⟩; rw [hah]))
        rename_i hH
        have hBr := hH.1
        have hcA := hH.2.1
        have rQA := hH.2.2.1
        have tA := hH.2.2.2
        clear hH
        have tfA : ∀ o, wa.frozen? ⟨w1.heap.size, o, none⟩ = false := fun o => by rw [(bcell hBr).2 _ _ zt]; exact tf o
        have hbA : Below w1.heap.size w1 wa := bstep hbl hBr
      rotate_left
      · have HA2 : Hid (∀ j, j < k + 1 → aheadS (xs.getD j default) s = true) := fun j hj => by
          by_cases e : j = k
          · subst e
            rw [← HL.out]
            exact HAH.out
          · exact HA.out j (by omega)
        go_wp2
        exact ⟨⟨k + 1, by omega, by go_num, HA2, tA, tfA, hbA⟩, by simp [intOf]; omega⟩
      · have HPos : Hid (posS s xs = k) := posS_eq (by rw [HN.out]; omega) HA.out (fun _ => by rw [← HL.out]; exact HAH.out)
        have hBwA : Below w.heap.size w wa := bstep hB1 hbA
        replace HO : Hid (sltsR.O wa (w.heap.size + 3) F1 (.slice (some ⟨g', 0, none⟩) n cc) xs) := sltsR.keep HO.out hBr
        have r0A := cell_keep hBr r0
        have y0A := cell_keep hBr y0
        have rfA : ∀ o, wa.frozen? ⟨w.heap.size + 2, o, none⟩ = false := fun o => by rw [(bcell hBr).2 _ _ (by omega)]; exact rf o
        have gfA : ∀ o, wa.frozen? ⟨g', o, none⟩ = false := fun o => by rw [(bcell hBr).2 _ _ (by omega)]; exact gf o
        clear hah hc rQ t0 tf hbl q0 q1 q2 q3 q4 q5 y0 r0 rf gf hBr hBw
        have ztA : w1.heap.size < wa.heap.size := World.block_lt_of_cell? wa _ tA
        cases ha2 : aheadS s l
        all_goals
          have HAH2 : Hid (aheadS s l = _) := ha2
          go_wp2
          go_region_held3 (fun W => Below wa.heap.size wa W ∧ (W.cell? ⟨g', k * 6, none⟩ = some (.int .i64 l.con) ∧ W.cell? ⟨g', k * 6 + 1, none⟩ = some (.int .i64 l.sh) ∧ W.cell? ⟨g', k * 6 + 2, none⟩ = some (.int .i64 l.pr) ∧ W.cell? ⟨g', k * 6 + 3, none⟩ = some (.int .i64 l.lb) ∧ W.cell? ⟨g', k * 6 + 4, none⟩ = some (.int .i64 l.lv) ∧ W.cell? ⟨g', k * 6 + 5, none⟩ = some (.slice pp l.cast.length qq)) ∧ (W.cell? ⟨w.heap.size + 1, 0, none⟩ = some (.int .i64 s.con) ∧ W.cell? ⟨w.heap.size + 1, 0 + 1, none⟩ = some (.int .i64 s.sh) ∧ W.cell? ⟨w.heap.size + 1, 0 + 2, none⟩ = some (.int .i64 s.pr) ∧ W.cell? ⟨w.heap.size + 1, 0 + 3, none⟩ = some (.int .i64 s.lb) ∧ W.cell? ⟨w.heap.size + 1, 0 + 4, none⟩ = some (.int .i64 s.lv) ∧ W.cell? ⟨w.heap.size + 1, 0 + 5, none⟩ = some (.slice p s.cast.length q)) ∧ W.cell? ⟨w1.heap.size, 0, none⟩ = some (.slice (some ⟨g', 0, none⟩) n cc)) ((refine sltKeep3 ?_ hcA rQA tA; repeat (first | exact Below.refl _ _ | assumption | refine Below.drew ?_ | refine balloc ?_ _ | refine bstep ?_ (by assumption))))
            (first | (go_at_call 138; refine (l9Ahead_any s l _ _ _).mono ?_; rintro e Z ⟨rfl, hb3⟩; rw [ha2]))
          rename_i hH
          have hBr := hH.1
          have rQZ := hH.2.2.1
          have t0 := hH.2.2.2
          clear hH
          have tf : ∀ o, Z.frozen? ⟨w1.heap.size, o, none⟩ = false := fun o => by rw [(bcell hBr).2 _ _ ztA]; exact tfA o
          have hbZ : Below w1.heap.size w1 Z := bstep hbA hBr
          have hBw : Below w.heap.size w Z := bstep hB1 hbZ
          have r0 := cell_keep hBr r0A
          have y0 := cell_keep hBr y0A
          have rf : ∀ o, Z.frozen? ⟨w.heap.size + 2, o, none⟩ = false := fun o => by rw [(bcell hBr).2 _ _ (by omega)]; exact rfA o
          have gf : ∀ o, Z.frozen? ⟨g', o, none⟩ = false := fun o => by rw [(bcell hBr).2 _ _ (by omega)]; exact gfA o
          replace HO : Hid (sltsR.O Z (w.heap.size + 3) F1 (.slice (some ⟨g', 0, none⟩) n cc) xs) := sltsR.keep HO.out hBr
          obtain ⟨q0, q1, q2, q3, q4, q5⟩ := rQZ
          clear ha2 hcA rQA tA tfA hbA r0A y0A rfA gfA hBr
          have zt : w1.heap.size < Z.heap.size := World.block_lt_of_cell? Z _ t0
        · have HPut : Hid (putS xs s = xs.set k s) := putS_set HPos.out (by rw [HN.out]; exact hlt) (by rw [← HL.out]; exact HAH2.out)
          have HD : Hid ((putS xs s).length = n) := by show _ = _; rw [HPut.out, List.length_set, HN.out]
          have hdec : decide ((putS xs s).length ≤ 60) = true := decide_eq_true (by rw [HD.out]; exact hlen)
          have HU2 : Hid (sltR.O Z base Fs (.agg #[.int .i64 s.con, .int .i64 s.sh, .int .i64 s.pr, .int .i64 s.lb, .int .i64 s.lv, .slice p s.cast.length q]) s) := sltR.keep HU.out hBw
          have hst := slts_store (base := base) (i := k) (by have h := HO.out; rw [← HN.out] at h; exact sltsR.base h (by omega)) (by rw [HN.out]; exact hlt) HU2.out HDs.out
          obtain ⟨F3, o3, hm3, hF3⟩ := hst
          rw [HN.out] at o3
          have HO3 : Hid (∀ b, F3 b → F1 b ∨ Fs b) := hF3
          have gcell : ∀ j, j < n * 6 → ∃ v, Z.cell? ⟨g', j, none⟩ = some v := fun j hj => by
            obtain ⟨cs, us, fs, hp, hF⟩ := HO.out
            rw [HN.out] at hp
            have h1 := hp.row.cellAt j hj
            have hl : j < cs.length := by rw [hp.row.1]; exact hj
            rw [List.getElem?_eq_getElem hl] at h1
            exact ⟨_, h1⟩
          obtain ⟨k0, e0⟩ := gcell (k * 6) (by omega)
          obtain ⟨k1, e1⟩ := gcell (k * 6 + 1) (by omega)
          obtain ⟨k2, e2⟩ := gcell (k * 6 + 2) (by omega)
          obtain ⟨k3, e3⟩ := gcell (k * 6 + 3) (by omega)
          obtain ⟨k4, e4⟩ := gcell (k * 6 + 4) (by omega)
          obtain ⟨k5, e5⟩ := gcell (k * 6 + 5) (by omega)
          clear gcell
          have zg : g' < Z.heap.size := World.block_lt_of_cell? Z _ e0
          go_wp2
          refine bodyPost_ret (v := .tuple #[.agg #[.slice (some ⟨g', 0, none⟩) n cc], .bool true]) (by simp [results, Try.results103, go_sem, r0, rf, e0, e1, e2, e3, e4, e5, gf]) rfl ?_
          refine ⟨_, _, _, by rw [hdec], bset (hm3.below hBw (by omega) (fun b hb => by omega)) (by dsimp only; omega) _, fun _ => ⟨HD.out.symm, F3, ⟨_, F3, rfl, ?_, fun b => Iff.rfl⟩, fun b hb => (HO3.out b hb).elim (fun h => .inr (by have := HFl.out b h; omega)) .inl⟩⟩
          dsimp only
          rw [HPut.out]
          exact Rep.setN _ o3 _ (fun hb => by
            rcases HO3.out _ hb with h | h
            · have := HFl.out _ h; dsimp only at this; omega
            · have := HFs.out _ h; dsimp only at this; omega)
        · have HPut : Hid (putS xs s = xs.take k ++ [s] ++ xs.drop k) := putS_ins HPos.out (fun h => by have h2 := h.2; rw [← HL.out, HAH2.out] at h2; cases h2)
          by_cases h60 : 60 ≤ n
          · have h60' : (60 : Int) ≤ (n : Nat) := by omega
            have HD : Hid ((putS xs s).length = n + 1) := by show _ = _; rw [HPut.out, len_ins, HN.out]
            have hdec : decide ((putS xs s).length ≤ 60) = false := decide_eq_false (by rw [HD.out]; omega)
            go_wp2
            refine bodyPost_ret (v := .tuple #[.agg #[.slice au n cu], .bool false]) (by simp [results, Try.results103, go_sem, r0, rf]) rfl ⟨au, n, cu, by rw [hdec], by (repeat (first | refine bset ?_ (by simp; omega) _ | refine bset ?_ (by simp) _ | refine balloc ?_ _ | assumption)), fun h => absurd h (by rw [HD.out]; omega)⟩
          have h60' : ¬ (60 : Int) ≤ (n : Nat) := by omega
          have HD : Hid ((putS xs s).length = n + 1) := by show _ = _; rw [HPut.out, len_ins, HN.out]
          have hdec : decide ((putS xs s).length ≤ 60) = true := decide_eq_true (by rw [HD.out]; omega)
          have hzZ : w1.heap.size < Z.heap.size := World.block_lt_of_cell? Z _ t0
          have c1 : k ≤ cc := by omega
          have c2 : ¬ cc = k := by omega
          have c3 : (k : Int) ≤ cc := by omega
          have c4 : (k : Int) ≤ n := by omega
          have c5 : k ≤ n := by omega
          go_wp2
          refine wp_region_noPanic ?_
          refine region_upto (fun W => Below Z.heap.size Z W ∧ W.cell? ⟨w1.heap.size, 0, none⟩ = some (.slice (some ⟨g', 0, none⟩) n cc) ∧ (W.cell? ⟨w.heap.size + 1, 0, none⟩ = some (.int .i64 s.con) ∧ W.cell? ⟨w.heap.size + 1, 0 + 1, none⟩ = some (.int .i64 s.sh) ∧ W.cell? ⟨w.heap.size + 1, 0 + 2, none⟩ = some (.int .i64 s.pr) ∧ W.cell? ⟨w.heap.size + 1, 0 + 3, none⟩ = some (.int .i64 s.lb) ∧ W.cell? ⟨w.heap.size + 1, 0 + 4, none⟩ = some (.int .i64 s.lv) ∧ W.cell? ⟨w.heap.size + 1, 0 + 5, none⟩ = some (.slice p s.cast.length q))) 15 (by kernel_rfl) ⟨by (repeat (first | exact Below.refl _ _ | assumption | refine Below.drew ?_ | refine balloc ?_ _ | refine bset ?_ (by simp; omega) _ | refine bset ?_ (by simp) _ | refine bstep ?_ (by assumption))), cell_keep (by (repeat (first | exact Below.refl _ _ | assumption | refine Below.drew ?_ | refine balloc ?_ _ | refine bset ?_ (by simp; omega) _ | refine bset ?_ (by simp) _ | refine bstep ?_ (by assumption)))) t0, cell_keep (by (repeat (first | exact Below.refl _ _ | assumption | refine Below.drew ?_ | refine balloc ?_ _ | refine bset ?_ (by simp; omega) _ | refine bset ?_ (by simp) _ | refine bstep ?_ (by assumption)))) q0, cell_keep (by (repeat (first | exact Below.refl _ _ | assumption | refine Below.drew ?_ | refine balloc ?_ _ | refine bset ?_ (by simp; omega) _ | refine bset ?_ (by simp) _ | refine bstep ?_ (by assumption)))) q1, cell_keep (by (repeat (first | exact Below.refl _ _ | assumption | refine Below.drew ?_ | refine balloc ?_ _ | refine bset ?_ (by simp; omega) _ | refine bset ?_ (by simp) _ | refine bstep ?_ (by assumption)))) q2, cell_keep (by (repeat (first | exact Below.refl _ _ | assumption | refine Below.drew ?_ | refine balloc ?_ _ | refine bset ?_ (by simp; omega) _ | refine bset ?_ (by simp) _ | refine bstep ?_ (by assumption)))) q3, cell_keep (by (repeat (first | exact Below.refl _ _ | assumption | refine Below.drew ?_ | refine balloc ?_ _ | refine bset ?_ (by simp; omega) _ | refine bset ?_ (by simp) _ | refine bstep ?_ (by assumption)))) q4, cell_keep (by (repeat (first | exact Below.refl _ _ | assumption | refine Below.drew ?_ | refine balloc ?_ _ | refine bset ?_ (by simp; omega) _ | refine bset ?_ (by simp) _ | refine bstep ?_ (by assumption)))) q5⟩ (fun hS => ?_)
          refine upto_take (i := 1) (v := ?_) rfl (by kernel_rfl) (by kernel_rfl) (by kernel_rfl) (by kernel_rfl) (fun _ _ _ h => h) (by rfl) hS ?_ ?_
          rotate_left
          · intro wS hSw
            try dsimp only at hSw
            first | (go_simp; done) | (go_simp; with_reducible rfl)
          try simp only [Act.put, List.getElem_toArray, List.getElem_cons_zero, List.getElem_cons_succ, List.setIfInBounds_toArray, List.set_cons_zero, List.set_cons_succ]
          refine upto_take (i := 2) (v := ?_) rfl (by kernel_rfl) (by kernel_rfl) (by kernel_rfl) (by kernel_rfl) (fun _ _ _ h => h) (by rfl) hS ?_ ?_
          rotate_left
          · intro wS hSw
            try dsimp only at hSw
            first | (go_simp; done) | (go_simp; with_reducible rfl)
          try simp only [Act.put, List.getElem_toArray, List.getElem_cons_zero, List.getElem_cons_succ, List.setIfInBounds_toArray, List.set_cons_zero, List.set_cons_succ]
          refine upto_take (i := 3) (v := ?_) rfl (by kernel_rfl) (by kernel_rfl) (by kernel_rfl) (by kernel_rfl) (fun _ _ _ h => h) (by rfl) hS ?_ ?_
          rotate_left
          · intro wS hSw
            try dsimp only at hSw
            first | (go_simp; done) | (go_simp; with_reducible rfl)
          try simp only [Act.put, List.getElem_toArray, List.getElem_cons_zero, List.getElem_cons_succ, List.setIfInBounds_toArray, List.set_cons_zero, List.set_cons_succ]
          refine upto_take (i := 4) (v := ?_) rfl (by kernel_rfl) (by kernel_rfl) (by kernel_rfl) (by kernel_rfl) (fun _ _ _ h => h) (by rfl) hS ?_ ?_
          rotate_left
          · intro wS hSw
            try dsimp only at hSw
            first | (go_simp; done) | (go_simp; with_reducible rfl)
          try simp only [Act.put, List.getElem_toArray, List.getElem_cons_zero, List.getElem_cons_succ, List.setIfInBounds_toArray, List.set_cons_zero, List.set_cons_succ]
          refine upto_take (i := 6) (v := ?_) rfl (by kernel_rfl) (by kernel_rfl) (by kernel_rfl) (by kernel_rfl) (fun _ _ _ h => h) (by rfl) hS ?_ ?_
          rotate_left
          · intro wS hSw
            try dsimp only at hSw
            first | (go_simp; done) | (go_simp; with_reducible rfl)
          try simp only [Act.put, List.getElem_toArray, List.getElem_cons_zero, List.getElem_cons_succ, List.setIfInBounds_toArray, List.set_cons_zero, List.set_cons_succ]
          refine upto_take (i := 9) (v := ?_) rfl (by kernel_rfl) (by kernel_rfl) (by kernel_rfl) (by kernel_rfl) (fun _ _ _ h => h) (by rfl) hS ?_ ?_
          rotate_left
          · intro wS hSw
            try dsimp only at hSw
            first | (go_simp; done) | (go_simp; with_reducible rfl)
          try simp only [Act.put, List.getElem_toArray, List.getElem_cons_zero, List.getElem_cons_succ, List.setIfInBounds_toArray, List.set_cons_zero, List.set_cons_succ]
          refine upto_take (i := 10) (v := ?_) rfl (by kernel_rfl) (by kernel_rfl) (by kernel_rfl) (by kernel_rfl) (fun _ _ _ h => h) (by rfl) hS ?_ ?_
          rotate_left
          · intro wS hSw
            try dsimp only at hSw
            first | (go_simp; done) | (go_simp; with_reducible rfl)
          try simp only [Act.put, List.getElem_toArray, List.getElem_cons_zero, List.getElem_cons_succ, List.setIfInBounds_toArray, List.set_cons_zero, List.set_cons_succ]
          refine upto_take (i := 11) (v := ?_) rfl (by kernel_rfl) (by kernel_rfl) (by kernel_rfl) (by kernel_rfl) (fun _ _ _ h => h) (by rfl) hS ?_ ?_
          rotate_left
          · intro wS hSw
            try dsimp only at hSw
            first | (go_simp; done) | (go_simp; with_reducible rfl)
          try simp only [Act.put, List.getElem_toArray, List.getElem_cons_zero, List.getElem_cons_succ, List.setIfInBounds_toArray, List.set_cons_zero, List.set_cons_succ]
          refine upto_take (i := 12) (v := ?_) rfl (by kernel_rfl) (by kernel_rfl) (by kernel_rfl) (by kernel_rfl) (fun _ _ _ h => h) (by rfl) hS ?_ ?_
          rotate_left
          · intro wS hSw
            try dsimp only at hSw
            first | (go_simp; done) | (go_simp; with_reducible rfl)
          try simp only [Act.put, List.getElem_toArray, List.getElem_cons_zero, List.getElem_cons_succ, List.setIfInBounds_toArray, List.set_cons_zero, List.set_cons_succ]
          have hZ0 : Below Z.heap.size Z Z.drew := Below.drew (Below.refl _ _)
          generalize Z.drew = W0 at *
          have hBz : Below w.heap.size w W0 := bstep hBw hZ0
          obtain ⟨cs, us, fs, hp, hFF⟩ := HO.out
          have hpW : PO sltR 91 6 lvSlt W0 (w.heap.size + 3) (.slice (some ⟨g', 0, none⟩) n cc) xs.length xs.length (fun i => xs.getD i default) cs us fs := hp.keep hZ0
          have hrow : ∀ W, Below W0.heap.size W0 W → W.ownsRow (w.heap.size + 3) 91 6 (.slice (some ⟨g', 0, none⟩) n cc) xs.length cs := fun W hW => (hpW.keep hW).row
          rw [HN.out] at hrow
          have hcl : cs.length = n * 6 := by have := hp.row.1; rw [HN.out] at this; exact this
          have HP1 : Hid ((cs.take (k * 6)).length = k * 6) := by show _ = _; rw [List.length_take, hcl]; try omega
          have HP2 : Hid ((cs.drop (k * 6)).length = (n - k) * 6) := by show _ = _; rw [List.length_drop, hcl]; try omega
          have H1c : Hid (∀ y ∈ cs, y.oneCell' = true) := slts_one hp
          have HR : Hid (∀ W, Below W0.heap.size W0 W → W.ownsRow (w.heap.size + 3) 91 6 (.slice (some ⟨g', 0, none⟩) n cc) n cs) := hrow
          have HPW : Hid (PO sltR 91 6 lvSlt W0 (w.heap.size + 3) (.slice (some ⟨g', 0, none⟩) n cc) xs.length xs.length (fun i => xs.getD i default) cs us fs) := hpW
          have HFF : Hid (∀ b, F1 b ↔ ((.slice (some ⟨g', 0, none⟩) n cc : Value).ownBlock = some b ∨ ∃ i, i < xs.length ∧ fs i b)) := hFF
          have HUW : Hid (sltR.O W0 base Fs (.agg #[.int .i64 s.con, .int .i64 s.sh, .int .i64 s.pr, .int .i64 s.lb, .int .i64 s.lv, .slice p s.cast.length q]) s) := sltR.keep HU.out hBz
          have hZZ : Z.heap.size ≤ W0.heap.size := hZ0.size
          have hwZ : w1.heap.size < W0.heap.size := Nat.lt_of_lt_of_le hzZ hZ0.size
          have hw13 : w.heap.size + 3 ≤ w1.heap.size := hz1
          clear hp hpW hrow hFF
          have HS1 : Hid (∀ W, Below W0.heap.size W0 W → AppAny W (.slice (some ⟨g', 0, none⟩) k cc) k (cs.take (k * 6))) := fun W hW => by
            have h := sltsAny_piece (HR.out W hW) 0 k (by omega) cc
            simpa using h
          have HS2 : Hid (∀ W, Below W0.heap.size W0 W → AppAny W (.slice (some ⟨g', k * 6, none⟩) (n - k) (cc - k)) (n - k) (cs.drop (k * 6))) := fun W hW => by
            have h := sltsAny_piece (HR.out W hW) k (n - k) (by omega) (cc - k)
            rw [List.take_of_length_le (by rw [HP2.out]; exact Nat.le_refl _)] at h
            exact h
          obtain ⟨P1, hP1⟩ : ∃ P, cs.take (k * 6) = P := ⟨_, rfl⟩
          obtain ⟨P2, hP2⟩ : ∃ P, cs.drop (k * 6) = P := ⟨_, rfl⟩
          have HP12 : Hid (cs.take (k * 6) = P1 ∧ cs.drop (k * 6) = P2) := ⟨hP1, hP2⟩
          have H1P2 : Hid (∀ y ∈ P2, y.oneCell' = true) := fun y hy => H1c.out y (List.mem_of_mem_drop (by rw [hP2]; exact hy))
          have H1P1 : Hid (∀ y ∈ P1, y.oneCell' = true) := fun y hy => H1c.out y (List.mem_of_mem_take (by rw [hP1]; exact hy))
          rw [hP1] at HS1 HP1
          rw [hP2] at HS2 HP2
          clear hP1 hP2
          refine upto_cons' [(0, 52), (5, 57), (7, 59), (8, 60), (13, 65), (14, 66)] insCX (insGX w1.heap.size W0.heap.size k n P1 [.int .i64 s.con, .int .i64 s.sh, .int .i64 s.pr, .int .i64 s.lb, .int .i64 s.lv, .slice p s.cast.length q] P2) (by kernel_rfl) hS ?_ ?_ ?_ ?_
          · intro F' W W' h hm hF
            obtain ⟨h1, h2, h3⟩ := h
            exact ⟨hm.below h1 h1.size (fun b hb => by have := hF b hb; omega), hm.cell h2 (fun e => by have := hF _ e; dsimp only at this; omega), hm.cell h3.1 (fun e => by have := hF _ e; dsimp only at this; omega), hm.cell h3.2.1 (fun e => by have := hF _ e; dsimp only at this; omega), hm.cell h3.2.2.1 (fun e => by have := hF _ e; dsimp only at this; omega), hm.cell h3.2.2.2.1 (fun e => by have := hF _ e; dsimp only at this; omega), hm.cell h3.2.2.2.2.1 (fun e => by have := hF _ e; dsimp only at this; omega), hm.cell h3.2.2.2.2.2 (fun e => by have := hF _ e; dsimp only at this; omega)⟩
          · intro pp hpp
            simp only [List.mem_cons, List.not_mem_nil, or_false] at hpp
            rcases hpp with rfl | rfl | rfl | rfl | rfl | rfl
            all_goals
              intro y y' F F' W W' h hi hm hap hF e _
              simp only [insGX] at h ⊢
              rw [e]
              first | exact ⟨hm.owns h.1 (fun b hb h2 => hap b h2 (by rw [h.2]; exact hb)), h.2⟩ | exact h
          · intro pp hpp
            simp only [List.mem_cons, List.not_mem_nil, or_false] at hpp
            rcases hpp with rfl | rfl | rfl | rfl | rfl | rfl
            all_goals
              refine ⟨_, rfl, rfl, ?_⟩
              intro y W Φ hSW hBW hd K hK
            · clear hd
              refine ⟨?_⟩
              simp only [over, Act.put, List.getElem_toArray, List.getElem_cons_zero, List.getElem_cons_succ, List.map_cons, List.map_nil, List.foldl_cons, List.foldl_nil, List.setIfInBounds_toArray, List.set_cons_zero, List.set_cons_succ] at hK ⊢
              go_simp
              refine hK _ _ (fun b => b = W.heap.size) (Mod.of_below (by (repeat (first | exact Below.refl _ _ | assumption | refine Below.drew ?_ | refine balloc ?_ _ | refine bset ?_ (by simp; omega) _ | refine bset ?_ (by simp) _ | refine bstep ?_ (by assumption))))) (fun b hb => .inr (by first | omega | (dsimp only at hb; omega) | (simp; omega))) ?_
              simp only [insGX, updV]
              refine ⟨World.ownsRow_lit (base := W0.heap.size) (e := 91) (size := 6) W #[] 0 hBW.size (by unfold maxLen; omega) rfl, ?_⟩
              funext b
              simp [Value.ownBlock, eq_comm]
            · have g0 := (hd (0, 52) (by simp) (by kernel_rfl) (.inl (by simp [insCX]))).2
              clear hd
              simp only [insGX] at g0
              refine ⟨?_⟩
              simp only [over, Act.put, List.getElem_toArray, List.getElem_cons_zero, List.getElem_cons_succ, List.map_cons, List.map_nil, List.foldl_cons, List.foldl_nil, List.setIfInBounds_toArray, List.set_cons_zero, List.set_cons_succ] at hK ⊢
              have hsrc := HS1.out W hBW
              refine ite_wanted rfl ?_
              refine wp_appX W ?hg1 (.tmp 52) (.tmp 56) ?ho1 W0.heap.size (y 52) (Φ 0) 0 [] ?hs1 (.slice (some ⟨g', 0, none⟩) k cc) k P1 ?hx1 g0 hsrc HP1.out H1P1.out (by omega) hBW.size ?_
              case hg1 => rfl
              case ho1 => rfl
              case hs1 => rfl
              case hx1 => rfl
              intro v' w' hO hm hl
              refine hK _ _ (fun b => v'.ownBlock = some b) (hm.mono (fun b hb => ⟨0, by simp [insCX], hb⟩)) (fun b hb => (hl b hb).imp (fun h => ⟨0, by simp [insCX], h⟩) (fun h => h)) ?_
              simp only [insGX, updV]
              simpa using hO
            · clear hd
              obtain ⟨h1, h2, h3⟩ := hSW
              refine ⟨?_⟩
              simp only [over, Act.put, List.getElem_toArray, List.getElem_cons_zero, List.getElem_cons_succ, List.map_cons, List.map_nil, List.foldl_cons, List.foldl_nil, List.setIfInBounds_toArray, List.set_cons_zero, List.set_cons_succ] at hK ⊢
              go_simp
              refine hK _ _ (fun b => b = W.heap.size) (Mod.of_below (by (repeat (first | exact Below.refl _ _ | assumption | refine Below.drew ?_ | refine balloc ?_ _ | refine bset ?_ (by simp; omega) _ | refine bset ?_ (by simp) _ | refine bstep ?_ (by assumption))))) (fun b hb => .inr (by first | omega | (dsimp only at hb; omega) | (simp; omega))) ?_
              simp only [insGX, updV]
              refine ⟨World.ownsRow_lit (base := W0.heap.size) (e := 91) (size := 6) W #[.int .i64 s.con, .int .i64 s.sh, .int .i64 s.pr, .int .i64 s.lb, .int .i64 s.lv, .slice p s.cast.length q] 1 hBW.size (by unfold maxLen; omega) rfl, ?_⟩
              funext b
              simp [Value.ownBlock, eq_comm]
            · have g0 := (hd (5, 57) (by simp) (by kernel_rfl) (.inl (by simp [insCX]))).2
              have g1 := (hd (7, 59) (by simp) (by kernel_rfl) (.inr (by simp [insCX]))).2
              clear hd
              simp only [insGX] at g0 g1
              refine ⟨?_⟩
              simp only [over, Act.put, List.getElem_toArray, List.getElem_cons_zero, List.getElem_cons_succ, List.map_cons, List.map_nil, List.foldl_cons, List.foldl_nil, List.setIfInBounds_toArray, List.set_cons_zero, List.set_cons_succ] at hK ⊢
              refine ite_wanted rfl ?_
              refine wp_appX W ?hg2 (.tmp 57) (.tmp 59) ?ho2 W0.heap.size (y 57) (Φ 5) k P1 ?hs2 (y 59) 1 _ ?hx2 g0 (votsAny_own g1.1) rfl (fun y' hy' => by simp only [List.mem_cons, List.not_mem_nil, or_false] at hy'; rcases hy' with rfl | rfl | rfl | rfl | rfl | rfl <;> rfl) (by omega) hBW.size ?_
              case hg2 => rfl
              case ho2 => rfl
              case hs2 => rfl
              case hx2 => rfl
              intro v' w' hO hm hl
              refine hK _ _ (fun b => v'.ownBlock = some b) (hm.mono (fun b hb => ⟨5, by simp [insCX], hb⟩)) (fun b hb => (hl b hb).imp (fun h => ⟨5, by simp [insCX], h⟩) (fun h => h)) ?_
              simp only [insGX, updV]
              simpa using hO
            · have g0 := (hd (8, 60) (by simp) (by kernel_rfl) (.inl (by simp [insCX]))).2
              clear hd
              simp only [insGX] at g0
              refine ⟨?_⟩
              simp only [over, Act.put, List.getElem_toArray, List.getElem_cons_zero, List.getElem_cons_succ, List.map_cons, List.map_nil, List.foldl_cons, List.foldl_nil, List.setIfInBounds_toArray, List.set_cons_zero, List.set_cons_succ] at hK ⊢
              have hsrc := HS2.out W hBW
              refine ite_wanted rfl ?_
              refine wp_appX W ?hg3 (.tmp 60) (.tmp 64) ?ho3 W0.heap.size (y 60) (Φ 8) (k + 1) _ ?hs3 (.slice (some ⟨g', k * 6, none⟩) (n - k) (cc - k)) (n - k) P2 ?hx3 g0 hsrc HP2.out H1P2.out (by omega) hBW.size ?_
              case hg3 => rfl
              case ho3 => rfl
              case hs3 => rfl
              case hx3 => rfl
              intro v' w' hO hm hl
              refine hK _ _ (fun b => v'.ownBlock = some b) (hm.mono (fun b hb => ⟨8, by simp [insCX], hb⟩)) (fun b hb => (hl b hb).imp (fun h => ⟨8, by simp [insCX], h⟩) (fun h => h)) ?_
              simp only [insGX, updV]
              have e9 : k + 1 + (n - k) = n + 1 := by omega
              rw [e9] at hO
              simpa using hO
            · clear hd
              refine ⟨?_⟩
              simp only [over, Act.put, List.getElem_toArray, List.getElem_cons_zero, List.getElem_cons_succ, List.map_cons, List.map_nil, List.foldl_cons, List.foldl_nil, List.setIfInBounds_toArray, List.set_cons_zero, List.set_cons_succ] at hK ⊢
              go_simp
              refine hK _ _ (fun _ => False) (Mod.refl _ _) (fun b hb => hb.elim) ?_
              simp only [insGX, updV]
              rfl
          · refine ⟨_, rfl, ?_⟩
            intro y W Φ hSW hBW hd hap K hK
            have g13 := (hd (13, 65) (by simp) (by simp [insCX])).2
            have g14 := (hd (14, 66) (by simp) (by simp [insCX])).2
            clear hd hap
            simp only [insGX] at g13 g14
            have g13' := g13.1
            clear g13
            have hform : ∃ g9 c9, y 65 = .slice (some ⟨g9, 0, none⟩) (n + 1) c9 := by
              rcases g13'.2 with ⟨_, h⟩ | ⟨g9, c9, _, h, _⟩
              · omega
              · exact ⟨g9, c9, h⟩
            obtain ⟨g9, c9, e9⟩ := hform
            have hBw2 : Below w.heap.size w W := bstep hBz hBW
            have HIn : Hid (∃ F', sltsR.O W base F' (.slice (some ⟨g9, 0, none⟩) (n + 1) c9) (putS xs s) ∧ ∀ b, F' b → F1 b ∨ Fs b ∨ W0.heap.size ≤ b) := by
              have h1 : (fun (P Q : List Value) => W.ownsRow base 91 6 (.slice (some ⟨g9, 0, none⟩) (n + 1) c9) (xs.length + 1) (P ++ lvSlt (.agg #[.int .i64 s.con, .int .i64 s.sh, .int .i64 s.pr, .int .i64 s.lb, .int .i64 s.lv, .slice p s.cast.length q]) ++ Q)) (cs.take (k * 6)) (cs.drop (k * 6)) := by
                rw [HP12.out.1, HP12.out.2, HN.out, ← e9]
                exact owns_base g13' (by omega)
              have h0 : PO sltR 91 6 lvSlt W0 base (.slice (some ⟨g', 0, none⟩) n cc) xs.length xs.length (fun i => xs.getD i default) cs us fs := ⟨owns_base HPW.out.row (by omega), fun i hi => sltR.base (HPW.out.el i hi) (by omega), HPW.out.ln, HPW.out.cell, HPW.out.out, HPW.out.sep⟩
              have h2 := NO.ins h0 HFF.out (i := k) (by rw [HN.out]; omega) HUW.out rfl HDs.out h1 (Mod.of_below hBW) (fun b hb => .inr (by have := (g13'.lt b (by rw [e9]; exact hb)).1; omega))
              rw [HPut.out]
              exact h2
            refine ⟨?_⟩
            simp only [over, Act.put, List.getElem_toArray, List.getElem_cons_zero, List.getElem_cons_succ, List.map_cons, List.map_nil, List.foldl_cons, List.foldl_nil, List.setIfInBounds_toArray, List.set_cons_zero, List.set_cons_succ]
            simp only [e9, g14] at g13' ⊢
            obtain ⟨hs1, hs2, hs3⟩ := hSW
            have tfW : ∀ o, W.frozen? ⟨w1.heap.size, o, none⟩ = false := fun o => by rw [(bcell hBW).2 _ _ hwZ, (bcell hZ0).2 _ _ hzZ]; exact tf o
            have rW : W.cell? ⟨w.heap.size + 2, 0, none⟩ = some (.slice none 0 0) := cell_keep hBW (cell_keep hZ0 r0)
            have rfW : ∀ o, W.frozen? ⟨w.heap.size + 2, o, none⟩ = false := fun o => by rw [(bcell hBW).2 _ _ (by omega), (bcell hZ0).2 _ _ (by omega)]; exact rf o
            have zW : w1.heap.size < W.heap.size := World.block_lt_of_cell? W _ hs2
            go_simp
            refine hK _ _ ?_
            clear hK K
            refine NoPanic.normal ?_
            obtain ⟨F', o9, hF9⟩ := HIn.out
            have HO9 : Hid (sltsR.O W base F' (.slice (some ⟨g9, 0, none⟩) (n + 1) c9) (putS xs s)) := o9
            have HF9 : Hid (∀ b, F' b → b ≠ w1.heap.size ∧ b ≠ w.heap.size + 2) := fun b hb => by
              rcases hF9 b hb with h | h | h
              · have := HFl.out b h; omega
              · have := HFs.out b h; omega
              · omega
            have HF8 : Hid (∀ b, F' b → Fs b ∨ w.heap.size ≤ b) := fun b hb => by
              rcases hF9 b hb with h | h | h
              · have := HFl.out b h; exact .inr (by omega)
              · exact .inl h
              · exact .inr (by omega)
            clear o9 hF9 HIn g13' HS1 HS2 hS hs3
            go_wp2
            refine bodyPost_ret (v := .tuple #[.agg #[.slice (some ⟨g9, 0, none⟩) (n + 1) c9], .bool true]) (by simp [results, Try.results103, go_sem, rW, rfW, hs2, tfW]) rfl ?_
            refine ⟨_, _, _, by rw [hdec], by (repeat (first | refine bset ?_ (by simp; omega) _ | refine bset ?_ (by simp) _ | refine balloc ?_ _ | assumption)), fun _ => ⟨by rw [HD.out], F', ⟨_, F', rfl, ?_, fun b => Iff.rfl⟩, HF8.out⟩⟩
            exact Rep.setN _ (Rep.setN _ HO9.out _ (fun hb => (HF9.out _ hb).1 rfl)) _ (fun hb => (HF9.out _ hb).2 rfl)
    · have hkn : k = n := by omega
      subst hkn
      have hnl : ¬ (k : Int) < k := by omega
      have hi6 : decide (k < k) = false := decide_eq_false (by omega)
      have HPut : Hid (putS xs s = xs.take k ++ [s] ++ xs.drop k) := putS_ins (posS_eq (by rw [HN.out]; omega) HA.out (fun h => by rw [HN.out] at h; omega)) (fun h => by have h1 := h.1; rw [HN.out] at h1; omega)
      have hform : (ac = none ∧ k = 0 ∧ cc = 0) ∨ ∃ g, ac = some ⟨g, 0, none⟩ ∧ k ≤ cc ∧ cc ≤ maxLen := by
        obtain ⟨cs, us, fs, hp, hF⟩ := HO.out
        rcases hp.row.2 with ⟨h, h0⟩ | ⟨g', cap, cur, h, _, _, h1, h2, _⟩
        · simp only [Value.slice.injEq] at h
          exact .inl h
        · simp only [Value.slice.injEq] at h
          obtain ⟨rfl, _, rfl⟩ := h
          exact .inr ⟨g', rfl, by rw [HN.out] at h1; exact h1, h2⟩
      rcases hform with ⟨rfl, rfl, rfl⟩ | ⟨g, rfl, hkc, hcm⟩
      · have hnl0 : ¬ ((0 : Nat) : Int) < (0 : Nat) := by omega
        clear hbl
        go_wp2
        go_quiet (fail)
        have hY : Below wr.heap.size wr (wr.drewN nq) := bdrewN (Below.refl _ _) nq
        replace t0 := cell_keep hY t0
        replace tf : ∀ o, (wr.drewN nq).frozen? ⟨w1.heap.size, o, none⟩ = false := fun o => by rw [(bcell hY).2 _ _ zt]; exact tf o
        replace r0 := cell_keep hY r0
        replace rf : ∀ o, (wr.drewN nq).frozen? ⟨w.heap.size + 2, o, none⟩ = false := fun o => by rw [(bcell hY).2 _ _ (by omega)]; exact rf o
        replace y0 := cell_keep hY y0
        replace q0 := cell_keep hY q0
        replace q1 := cell_keep hY q1
        replace q2 := cell_keep hY q2
        replace q3 := cell_keep hY q3
        replace q4 := cell_keep hY q4
        replace q5 := cell_keep hY q5
        replace HO : Hid (sltsR.O (wr.drewN nq) (w.heap.size + 3) F1 (.slice none 0 0) xs) := sltsR.keep HO.out hY
        replace hBw : Below w.heap.size w (wr.drewN nq) := bstep hBw hY
        replace zt : w1.heap.size < (wr.drewN nq).heap.size := World.block_lt_of_cell? _ _ t0
        clear hY
        generalize wr.drewN nq = Y at *
        go_wp2
        go_quiet (fail)
        have hZ : Below Y.heap.size Y (Y.drewN nq) := bdrewN (Below.refl _ _) nq
        replace t0 := cell_keep hZ t0
        replace tf : ∀ o, (Y.drewN nq).frozen? ⟨w1.heap.size, o, none⟩ = false := fun o => by rw [(bcell hZ).2 _ _ zt]; exact tf o
        replace r0 := cell_keep hZ r0
        replace rf : ∀ o, (Y.drewN nq).frozen? ⟨w.heap.size + 2, o, none⟩ = false := fun o => by rw [(bcell hZ).2 _ _ (by omega)]; exact rf o
        replace y0 := cell_keep hZ y0
        replace q0 := cell_keep hZ q0
        replace q1 := cell_keep hZ q1
        replace q2 := cell_keep hZ q2
        replace q3 := cell_keep hZ q3
        replace q4 := cell_keep hZ q4
        replace q5 := cell_keep hZ q5
        replace HO : Hid (sltsR.O (Y.drewN nq) (w.heap.size + 3) F1 (.slice none 0 0) xs) := sltsR.keep HO.out hZ
        replace hBw : Below w.heap.size w (Y.drewN nq) := bstep hBw hZ
        replace zt : w1.heap.size < (Y.drewN nq).heap.size := World.block_lt_of_cell? _ _ t0
        clear hZ
        generalize Y.drewN nq = Z at *
        have h60' : ¬ (60 : Int) ≤ (0 : Nat) := by omega
        have HD : Hid ((putS xs s).length = 0 + 1) := by show _ = _; rw [HPut.out, len_ins, HN.out]
        have hdec : decide ((putS xs s).length ≤ 60) = true := decide_eq_true (by rw [HD.out]; omega)
        have hzZ : w1.heap.size < Z.heap.size := World.block_lt_of_cell? Z _ t0
        go_wp2
        refine wp_region_noPanic ?_
        refine region_upto (fun W => Below Z.heap.size Z W ∧ W.cell? ⟨w1.heap.size, 0, none⟩ = some (.slice none 0 0) ∧ (W.cell? ⟨w.heap.size + 1, 0, none⟩ = some (.int .i64 s.con) ∧ W.cell? ⟨w.heap.size + 1, 0 + 1, none⟩ = some (.int .i64 s.sh) ∧ W.cell? ⟨w.heap.size + 1, 0 + 2, none⟩ = some (.int .i64 s.pr) ∧ W.cell? ⟨w.heap.size + 1, 0 + 3, none⟩ = some (.int .i64 s.lb) ∧ W.cell? ⟨w.heap.size + 1, 0 + 4, none⟩ = some (.int .i64 s.lv) ∧ W.cell? ⟨w.heap.size + 1, 0 + 5, none⟩ = some (.slice p s.cast.length q))) 15 (by kernel_rfl) ⟨by (repeat (first | exact Below.refl _ _ | assumption | refine Below.drew ?_ | refine balloc ?_ _ | refine bset ?_ (by simp; omega) _ | refine bset ?_ (by simp) _ | refine bstep ?_ (by assumption))), cell_keep (by (repeat (first | exact Below.refl _ _ | assumption | refine Below.drew ?_ | refine balloc ?_ _ | refine bset ?_ (by simp; omega) _ | refine bset ?_ (by simp) _ | refine bstep ?_ (by assumption)))) t0, cell_keep (by (repeat (first | exact Below.refl _ _ | assumption | refine Below.drew ?_ | refine balloc ?_ _ | refine bset ?_ (by simp; omega) _ | refine bset ?_ (by simp) _ | refine bstep ?_ (by assumption)))) q0, cell_keep (by (repeat (first | exact Below.refl _ _ | assumption | refine Below.drew ?_ | refine balloc ?_ _ | refine bset ?_ (by simp; omega) _ | refine bset ?_ (by simp) _ | refine bstep ?_ (by assumption)))) q1, cell_keep (by (repeat (first | exact Below.refl _ _ | assumption | refine Below.drew ?_ | refine balloc ?_ _ | refine bset ?_ (by simp; omega) _ | refine bset ?_ (by simp) _ | refine bstep ?_ (by assumption)))) q2, cell_keep (by (repeat (first | exact Below.refl _ _ | assumption | refine Below.drew ?_ | refine balloc ?_ _ | refine bset ?_ (by simp; omega) _ | refine bset ?_ (by simp) _ | refine bstep ?_ (by assumption)))) q3, cell_keep (by (repeat (first | exact Below.refl _ _ | assumption | refine Below.drew ?_ | refine balloc ?_ _ | refine bset ?_ (by simp; omega) _ | refine bset ?_ (by simp) _ | refine bstep ?_ (by assumption)))) q4, cell_keep (by (repeat (first | exact Below.refl _ _ | assumption | refine Below.drew ?_ | refine balloc ?_ _ | refine bset ?_ (by simp; omega) _ | refine bset ?_ (by simp) _ | refine bstep ?_ (by assumption)))) q5⟩ (fun hS => ?_)
        refine upto_take (i := 1) (v := ?_) rfl (by kernel_rfl) (by kernel_rfl) (by kernel_rfl) (by kernel_rfl) (fun _ _ _ h => h) (by rfl) hS ?_ ?_
        rotate_left
        · intro wS hSw
          try dsimp only at hSw
          first | (go_simp; done) | (go_simp; with_reducible rfl)
        try simp only [Act.put, List.getElem_toArray, List.getElem_cons_zero, List.getElem_cons_succ, List.setIfInBounds_toArray, List.set_cons_zero, List.set_cons_succ]
        refine upto_take (i := 2) (v := ?_) rfl (by kernel_rfl) (by kernel_rfl) (by kernel_rfl) (by kernel_rfl) (fun _ _ _ h => h) (by rfl) hS ?_ ?_
        rotate_left
        · intro wS hSw
          try dsimp only at hSw
          first | (go_simp; done) | (go_simp; with_reducible rfl)
        try simp only [Act.put, List.getElem_toArray, List.getElem_cons_zero, List.getElem_cons_succ, List.setIfInBounds_toArray, List.set_cons_zero, List.set_cons_succ]
        refine upto_take (i := 3) (v := ?_) rfl (by kernel_rfl) (by kernel_rfl) (by kernel_rfl) (by kernel_rfl) (fun _ _ _ h => h) (by rfl) hS ?_ ?_
        rotate_left
        · intro wS hSw
          try dsimp only at hSw
          first | (go_simp; done) | (go_simp; with_reducible rfl)
        try simp only [Act.put, List.getElem_toArray, List.getElem_cons_zero, List.getElem_cons_succ, List.setIfInBounds_toArray, List.set_cons_zero, List.set_cons_succ]
        refine upto_take (i := 4) (v := ?_) rfl (by kernel_rfl) (by kernel_rfl) (by kernel_rfl) (by kernel_rfl) (fun _ _ _ h => h) (by rfl) hS ?_ ?_
        rotate_left
        · intro wS hSw
          try dsimp only at hSw
          first | (go_simp; done) | (go_simp; with_reducible rfl)
        try simp only [Act.put, List.getElem_toArray, List.getElem_cons_zero, List.getElem_cons_succ, List.setIfInBounds_toArray, List.set_cons_zero, List.set_cons_succ]
        refine upto_take (i := 6) (v := ?_) rfl (by kernel_rfl) (by kernel_rfl) (by kernel_rfl) (by kernel_rfl) (fun _ _ _ h => h) (by rfl) hS ?_ ?_
        rotate_left
        · intro wS hSw
          try dsimp only at hSw
          first | (go_simp; done) | (go_simp; with_reducible rfl)
        try simp only [Act.put, List.getElem_toArray, List.getElem_cons_zero, List.getElem_cons_succ, List.setIfInBounds_toArray, List.set_cons_zero, List.set_cons_succ]
        refine upto_take (i := 9) (v := ?_) rfl (by kernel_rfl) (by kernel_rfl) (by kernel_rfl) (by kernel_rfl) (fun _ _ _ h => h) (by rfl) hS ?_ ?_
        rotate_left
        · intro wS hSw
          try dsimp only at hSw
          first | (go_simp; done) | (go_simp; with_reducible rfl)
        try simp only [Act.put, List.getElem_toArray, List.getElem_cons_zero, List.getElem_cons_succ, List.setIfInBounds_toArray, List.set_cons_zero, List.set_cons_succ]
        refine upto_take (i := 10) (v := ?_) rfl (by kernel_rfl) (by kernel_rfl) (by kernel_rfl) (by kernel_rfl) (fun _ _ _ h => h) (by rfl) hS ?_ ?_
        rotate_left
        · intro wS hSw
          try dsimp only at hSw
          first | (go_simp; done) | (go_simp; with_reducible rfl)
        try simp only [Act.put, List.getElem_toArray, List.getElem_cons_zero, List.getElem_cons_succ, List.setIfInBounds_toArray, List.set_cons_zero, List.set_cons_succ]
        refine upto_take (i := 11) (v := ?_) rfl (by kernel_rfl) (by kernel_rfl) (by kernel_rfl) (by kernel_rfl) (fun _ _ _ h => h) (by rfl) hS ?_ ?_
        rotate_left
        · intro wS hSw
          try dsimp only at hSw
          first | (go_simp; done) | (go_simp; with_reducible rfl)
        try simp only [Act.put, List.getElem_toArray, List.getElem_cons_zero, List.getElem_cons_succ, List.setIfInBounds_toArray, List.set_cons_zero, List.set_cons_succ]
        refine upto_take (i := 12) (v := ?_) rfl (by kernel_rfl) (by kernel_rfl) (by kernel_rfl) (by kernel_rfl) (fun _ _ _ h => h) (by rfl) hS ?_ ?_
        rotate_left
        · intro wS hSw
          try dsimp only at hSw
          first | (go_simp; done) | (go_simp; with_reducible rfl)
        try simp only [Act.put, List.getElem_toArray, List.getElem_cons_zero, List.getElem_cons_succ, List.setIfInBounds_toArray, List.set_cons_zero, List.set_cons_succ]
        have hZ0 : Below Z.heap.size Z Z.drew := Below.drew (Below.refl _ _)
        generalize Z.drew = W0 at *
        have hBz : Below w.heap.size w W0 := bstep hBw hZ0
        obtain ⟨cs, us, fs, hp, hFF⟩ := HO.out
        have hpW : PO sltR 91 6 lvSlt W0 (w.heap.size + 3) (.slice none 0 0) xs.length xs.length (fun i => xs.getD i default) cs us fs := hp.keep hZ0
        have hrow : ∀ W, Below W0.heap.size W0 W → W.ownsRow (w.heap.size + 3) 91 6 (.slice none 0 0) xs.length cs := fun W hW => (hpW.keep hW).row
        rw [HN.out] at hrow
        have hcl : cs.length = 0 * 6 := by have := hp.row.1; rw [HN.out] at this; exact this
        have HP1 : Hid ((cs.take (0 * 6)).length = 0 * 6) := by show _ = _; rw [List.length_take, hcl]; try omega
        have HP2 : Hid ((cs.drop (0 * 6)).length = (0 - 0) * 6) := by show _ = _; rw [List.length_drop, hcl]; try omega
        have H1c : Hid (∀ y ∈ cs, y.oneCell' = true) := slts_one hp
        have HR : Hid (∀ W, Below W0.heap.size W0 W → W.ownsRow (w.heap.size + 3) 91 6 (.slice none 0 0) 0 cs) := hrow
        have HPW : Hid (PO sltR 91 6 lvSlt W0 (w.heap.size + 3) (.slice none 0 0) xs.length xs.length (fun i => xs.getD i default) cs us fs) := hpW
        have HFF : Hid (∀ b, F1 b ↔ ((.slice none 0 0 : Value).ownBlock = some b ∨ ∃ i, i < xs.length ∧ fs i b)) := hFF
        have HUW : Hid (sltR.O W0 base Fs (.agg #[.int .i64 s.con, .int .i64 s.sh, .int .i64 s.pr, .int .i64 s.lb, .int .i64 s.lv, .slice p s.cast.length q]) s) := sltR.keep HU.out hBz
        have hZZ : Z.heap.size ≤ W0.heap.size := hZ0.size
        have hwZ : w1.heap.size < W0.heap.size := Nat.lt_of_lt_of_le hzZ hZ0.size
        have hw13 : w.heap.size + 3 ≤ w1.heap.size := hz1
        clear hp hpW hrow hFF
        have HS1 : Hid (∀ W, Below W0.heap.size W0 W → AppAny W (.slice none 0 0) 0 (cs.take (0 * 6))) := fun W hW => by
          rw [show cs.take (0 * 6) = [] by simp]; exact sltsAny_none _ _ _
        have HS2 : Hid (∀ W, Below W0.heap.size W0 W → AppAny W (.slice none 0 0) (0 - 0) (cs.drop (0 * 6))) := fun W hW => by
          have e0 : cs.drop (0 * 6) = [] := List.eq_nil_of_length_eq_zero (by rw [HP2.out]; try omega)
          rw [e0, show 0 - 0 = 0 by omega]
          exact sltsAny_none _ _ _
        obtain ⟨P1, hP1⟩ : ∃ P, cs.take (0 * 6) = P := ⟨_, rfl⟩
        obtain ⟨P2, hP2⟩ : ∃ P, cs.drop (0 * 6) = P := ⟨_, rfl⟩
        have HP12 : Hid (cs.take (0 * 6) = P1 ∧ cs.drop (0 * 6) = P2) := ⟨hP1, hP2⟩
        have H1P2 : Hid (∀ y ∈ P2, y.oneCell' = true) := fun y hy => H1c.out y (List.mem_of_mem_drop (by rw [hP2]; exact hy))
        have H1P1 : Hid (∀ y ∈ P1, y.oneCell' = true) := fun y hy => H1c.out y (List.mem_of_mem_take (by rw [hP1]; exact hy))
        rw [hP1] at HS1 HP1
        rw [hP2] at HS2 HP2
        clear hP1 hP2
        refine upto_cons' [(0, 52), (5, 57), (7, 59), (8, 60), (13, 65), (14, 66)] insCX (insGX w1.heap.size W0.heap.size 0 0 P1 [.int .i64 s.con, .int .i64 s.sh, .int .i64 s.pr, .int .i64 s.lb, .int .i64 s.lv, .slice p s.cast.length q] P2) (by kernel_rfl) hS ?_ ?_ ?_ ?_
        · intro F' W W' h hm hF
          obtain ⟨h1, h2, h3⟩ := h
          exact ⟨hm.below h1 h1.size (fun b hb => by have := hF b hb; omega), hm.cell h2 (fun e => by have := hF _ e; dsimp only at this; omega), hm.cell h3.1 (fun e => by have := hF _ e; dsimp only at this; omega), hm.cell h3.2.1 (fun e => by have := hF _ e; dsimp only at this; omega), hm.cell h3.2.2.1 (fun e => by have := hF _ e; dsimp only at this; omega), hm.cell h3.2.2.2.1 (fun e => by have := hF _ e; dsimp only at this; omega), hm.cell h3.2.2.2.2.1 (fun e => by have := hF _ e; dsimp only at this; omega), hm.cell h3.2.2.2.2.2 (fun e => by have := hF _ e; dsimp only at this; omega)⟩
        · intro pp hpp
          simp only [List.mem_cons, List.not_mem_nil, or_false] at hpp
          rcases hpp with rfl | rfl | rfl | rfl | rfl | rfl
          all_goals
            intro y y' F F' W W' h hi hm hap hF e _
            simp only [insGX] at h ⊢
            rw [e]
            first | exact ⟨hm.owns h.1 (fun b hb h2 => hap b h2 (by rw [h.2]; exact hb)), h.2⟩ | exact h
        · intro pp hpp
          simp only [List.mem_cons, List.not_mem_nil, or_false] at hpp
          rcases hpp with rfl | rfl | rfl | rfl | rfl | rfl
          all_goals
            refine ⟨_, rfl, rfl, ?_⟩
            intro y W Φ hSW hBW hd K hK
          · clear hd
            refine ⟨?_⟩
            simp only [over, Act.put, List.getElem_toArray, List.getElem_cons_zero, List.getElem_cons_succ, List.map_cons, List.map_nil, List.foldl_cons, List.foldl_nil, List.setIfInBounds_toArray, List.set_cons_zero, List.set_cons_succ] at hK ⊢
            go_simp
            refine hK _ _ (fun b => b = W.heap.size) (Mod.of_below (by (repeat (first | exact Below.refl _ _ | assumption | refine Below.drew ?_ | refine balloc ?_ _ | refine bset ?_ (by simp; omega) _ | refine bset ?_ (by simp) _ | refine bstep ?_ (by assumption))))) (fun b hb => .inr (by first | omega | (dsimp only at hb; omega) | (simp; omega))) ?_
            simp only [insGX, updV]
            refine ⟨World.ownsRow_lit (base := W0.heap.size) (e := 91) (size := 6) W #[] 0 hBW.size (by unfold maxLen; omega) rfl, ?_⟩
            funext b
            simp [Value.ownBlock, eq_comm]
          · have g0 := (hd (0, 52) (by simp) (by kernel_rfl) (.inl (by simp [insCX]))).2
            clear hd
            simp only [insGX] at g0
            refine ⟨?_⟩
            simp only [over, Act.put, List.getElem_toArray, List.getElem_cons_zero, List.getElem_cons_succ, List.map_cons, List.map_nil, List.foldl_cons, List.foldl_nil, List.setIfInBounds_toArray, List.set_cons_zero, List.set_cons_succ] at hK ⊢
            have hsrc := HS1.out W hBW
            refine ite_wanted rfl ?_
            refine wp_appX W ?hg1 (.tmp 52) (.tmp 56) ?ho1 W0.heap.size (y 52) (Φ 0) 0 [] ?hs1 (.slice none 0 0) 0 P1 ?hx1 g0 hsrc HP1.out H1P1.out (by omega) hBW.size ?_
            case hg1 => rfl
            case ho1 => rfl
            case hs1 => rfl
            case hx1 => rfl
            intro v' w' hO hm hl
            refine hK _ _ (fun b => v'.ownBlock = some b) (hm.mono (fun b hb => ⟨0, by simp [insCX], hb⟩)) (fun b hb => (hl b hb).imp (fun h => ⟨0, by simp [insCX], h⟩) (fun h => h)) ?_
            simp only [insGX, updV]
            simpa using hO
          · clear hd
            obtain ⟨h1, h2, h3⟩ := hSW
            refine ⟨?_⟩
            simp only [over, Act.put, List.getElem_toArray, List.getElem_cons_zero, List.getElem_cons_succ, List.map_cons, List.map_nil, List.foldl_cons, List.foldl_nil, List.setIfInBounds_toArray, List.set_cons_zero, List.set_cons_succ] at hK ⊢
            go_simp
            refine hK _ _ (fun b => b = W.heap.size) (Mod.of_below (by (repeat (first | exact Below.refl _ _ | assumption | refine Below.drew ?_ | refine balloc ?_ _ | refine bset ?_ (by simp; omega) _ | refine bset ?_ (by simp) _ | refine bstep ?_ (by assumption))))) (fun b hb => .inr (by first | omega | (dsimp only at hb; omega) | (simp; omega))) ?_
            simp only [insGX, updV]
            refine ⟨World.ownsRow_lit (base := W0.heap.size) (e := 91) (size := 6) W #[.int .i64 s.con, .int .i64 s.sh, .int .i64 s.pr, .int .i64 s.lb, .int .i64 s.lv, .slice p s.cast.length q] 1 hBW.size (by unfold maxLen; omega) rfl, ?_⟩
            funext b
            simp [Value.ownBlock, eq_comm]
          · have g0 := (hd (5, 57) (by simp) (by kernel_rfl) (.inl (by simp [insCX]))).2
            have g1 := (hd (7, 59) (by simp) (by kernel_rfl) (.inr (by simp [insCX]))).2
            clear hd
            simp only [insGX] at g0 g1
            refine ⟨?_⟩
            simp only [over, Act.put, List.getElem_toArray, List.getElem_cons_zero, List.getElem_cons_succ, List.map_cons, List.map_nil, List.foldl_cons, List.foldl_nil, List.setIfInBounds_toArray, List.set_cons_zero, List.set_cons_succ] at hK ⊢
            refine ite_wanted rfl ?_
            refine wp_appX W ?hg2 (.tmp 57) (.tmp 59) ?ho2 W0.heap.size (y 57) (Φ 5) 0 P1 ?hs2 (y 59) 1 _ ?hx2 g0 (votsAny_own g1.1) rfl (fun y' hy' => by simp only [List.mem_cons, List.not_mem_nil, or_false] at hy'; rcases hy' with rfl | rfl | rfl | rfl | rfl | rfl <;> rfl) (by omega) hBW.size ?_
            case hg2 => rfl
            case ho2 => rfl
            case hs2 => rfl
            case hx2 => rfl
            intro v' w' hO hm hl
            refine hK _ _ (fun b => v'.ownBlock = some b) (hm.mono (fun b hb => ⟨5, by simp [insCX], hb⟩)) (fun b hb => (hl b hb).imp (fun h => ⟨5, by simp [insCX], h⟩) (fun h => h)) ?_
            simp only [insGX, updV]
            simpa using hO
          · have g0 := (hd (8, 60) (by simp) (by kernel_rfl) (.inl (by simp [insCX]))).2
            clear hd
            simp only [insGX] at g0
            refine ⟨?_⟩
            simp only [over, Act.put, List.getElem_toArray, List.getElem_cons_zero, List.getElem_cons_succ, List.map_cons, List.map_nil, List.foldl_cons, List.foldl_nil, List.setIfInBounds_toArray, List.set_cons_zero, List.set_cons_succ] at hK ⊢
            have hsrc := HS2.out W hBW
            refine ite_wanted rfl ?_
            refine wp_appX W ?hg3 (.tmp 60) (.tmp 64) ?ho3 W0.heap.size (y 60) (Φ 8) (0 + 1) _ ?hs3 (.slice none 0 0) (0 - 0) P2 ?hx3 g0 hsrc HP2.out H1P2.out (by omega) hBW.size ?_
            case hg3 => rfl
            case ho3 => rfl
            case hs3 => rfl
            case hx3 => rfl
            intro v' w' hO hm hl
            refine hK _ _ (fun b => v'.ownBlock = some b) (hm.mono (fun b hb => ⟨8, by simp [insCX], hb⟩)) (fun b hb => (hl b hb).imp (fun h => ⟨8, by simp [insCX], h⟩) (fun h => h)) ?_
            simp only [insGX, updV]
            have e9 : 0 + 1 + (0 - 0) = 0 + 1 := by omega
            rw [e9] at hO
            simpa using hO
          · clear hd
            refine ⟨?_⟩
            simp only [over, Act.put, List.getElem_toArray, List.getElem_cons_zero, List.getElem_cons_succ, List.map_cons, List.map_nil, List.foldl_cons, List.foldl_nil, List.setIfInBounds_toArray, List.set_cons_zero, List.set_cons_succ] at hK ⊢
            go_simp
            refine hK _ _ (fun _ => False) (Mod.refl _ _) (fun b hb => hb.elim) ?_
            simp only [insGX, updV]
            rfl
        · refine ⟨_, rfl, ?_⟩
          intro y W Φ hSW hBW hd hap K hK
          have g13 := (hd (13, 65) (by simp) (by simp [insCX])).2
          have g14 := (hd (14, 66) (by simp) (by simp [insCX])).2
          clear hd hap
          simp only [insGX] at g13 g14
          have g13' := g13.1
          clear g13
          have hform : ∃ g9 c9, y 65 = .slice (some ⟨g9, 0, none⟩) (0 + 1) c9 := by
            rcases g13'.2 with ⟨_, h⟩ | ⟨g9, c9, _, h, _⟩
            · omega
            · exact ⟨g9, c9, h⟩
          obtain ⟨g9, c9, e9⟩ := hform
          have hBw2 : Below w.heap.size w W := bstep hBz hBW
          have HIn : Hid (∃ F', sltsR.O W base F' (.slice (some ⟨g9, 0, none⟩) (0 + 1) c9) (putS xs s) ∧ ∀ b, F' b → F1 b ∨ Fs b ∨ W0.heap.size ≤ b) := by
            have h1 : (fun (P Q : List Value) => W.ownsRow base 91 6 (.slice (some ⟨g9, 0, none⟩) (0 + 1) c9) (xs.length + 1) (P ++ lvSlt (.agg #[.int .i64 s.con, .int .i64 s.sh, .int .i64 s.pr, .int .i64 s.lb, .int .i64 s.lv, .slice p s.cast.length q]) ++ Q)) (cs.take (0 * 6)) (cs.drop (0 * 6)) := by
              rw [HP12.out.1, HP12.out.2, HN.out, ← e9]
              exact owns_base g13' (by omega)
            have h0 : PO sltR 91 6 lvSlt W0 base (.slice none 0 0) xs.length xs.length (fun i => xs.getD i default) cs us fs := ⟨owns_base HPW.out.row (by omega), fun i hi => sltR.base (HPW.out.el i hi) (by omega), HPW.out.ln, HPW.out.cell, HPW.out.out, HPW.out.sep⟩
            have h2 := NO.ins h0 HFF.out (i := 0) (by rw [HN.out]; omega) HUW.out rfl HDs.out h1 (Mod.of_below hBW) (fun b hb => .inr (by have := (g13'.lt b (by rw [e9]; exact hb)).1; omega))
            rw [HPut.out]
            exact h2
          refine ⟨?_⟩
          simp only [over, Act.put, List.getElem_toArray, List.getElem_cons_zero, List.getElem_cons_succ, List.map_cons, List.map_nil, List.foldl_cons, List.foldl_nil, List.setIfInBounds_toArray, List.set_cons_zero, List.set_cons_succ]
          simp only [e9, g14] at g13' ⊢
          obtain ⟨hs1, hs2, hs3⟩ := hSW
          have tfW : ∀ o, W.frozen? ⟨w1.heap.size, o, none⟩ = false := fun o => by rw [(bcell hBW).2 _ _ hwZ, (bcell hZ0).2 _ _ hzZ]; exact tf o
          have rW : W.cell? ⟨w.heap.size + 2, 0, none⟩ = some (.slice none 0 0) := cell_keep hBW (cell_keep hZ0 r0)
          have rfW : ∀ o, W.frozen? ⟨w.heap.size + 2, o, none⟩ = false := fun o => by rw [(bcell hBW).2 _ _ (by omega), (bcell hZ0).2 _ _ (by omega)]; exact rf o
          have zW : w1.heap.size < W.heap.size := World.block_lt_of_cell? W _ hs2
          go_simp
          refine hK _ _ ?_
          clear hK K
          refine NoPanic.normal ?_
          obtain ⟨F', o9, hF9⟩ := HIn.out
          have HO9 : Hid (sltsR.O W base F' (.slice (some ⟨g9, 0, none⟩) (0 + 1) c9) (putS xs s)) := o9
          have HF9 : Hid (∀ b, F' b → b ≠ w1.heap.size ∧ b ≠ w.heap.size + 2) := fun b hb => by
            rcases hF9 b hb with h | h | h
            · have := HFl.out b h; omega
            · have := HFs.out b h; omega
            · omega
          have HF8 : Hid (∀ b, F' b → Fs b ∨ w.heap.size ≤ b) := fun b hb => by
            rcases hF9 b hb with h | h | h
            · have := HFl.out b h; exact .inr (by omega)
            · exact .inl h
            · exact .inr (by omega)
          clear o9 hF9 HIn g13' HS1 HS2 hS hs3
          go_wp2
          refine bodyPost_ret (v := .tuple #[.agg #[.slice (some ⟨g9, 0, none⟩) (0 + 1) c9], .bool true]) (by simp [results, Try.results103, go_sem, rW, rfW, hs2, tfW]) rfl ?_
          refine ⟨_, _, _, by rw [hdec], by (repeat (first | refine bset ?_ (by simp; omega) _ | refine bset ?_ (by simp) _ | refine balloc ?_ _ | assumption)), fun _ => ⟨by rw [HD.out], F', ⟨_, F', rfl, ?_, fun b => Iff.rfl⟩, HF8.out⟩⟩
          exact Rep.setN _ (Rep.setN _ HO9.out _ (fun hb => (HF9.out _ hb).1 rfl)) _ (fun hb => (HF9.out _ hb).2 rfl)
      · unfold maxLen at hcm
        by_cases hfull : cc = k
        · have hfull' : k = cc := hfull.symm
          subst hfull'
          clear hfull
          clear hbl
          go_wp2
          go_quiet (fail)
          have hY : Below wr.heap.size wr (wr.drewN nq) := bdrewN (Below.refl _ _) nq
          replace t0 := cell_keep hY t0
          replace tf : ∀ o, (wr.drewN nq).frozen? ⟨w1.heap.size, o, none⟩ = false := fun o => by rw [(bcell hY).2 _ _ zt]; exact tf o
          replace r0 := cell_keep hY r0
          replace rf : ∀ o, (wr.drewN nq).frozen? ⟨w.heap.size + 2, o, none⟩ = false := fun o => by rw [(bcell hY).2 _ _ (by omega)]; exact rf o
          replace y0 := cell_keep hY y0
          replace q0 := cell_keep hY q0
          replace q1 := cell_keep hY q1
          replace q2 := cell_keep hY q2
          replace q3 := cell_keep hY q3
          replace q4 := cell_keep hY q4
          replace q5 := cell_keep hY q5
          replace HO : Hid (sltsR.O (wr.drewN nq) (w.heap.size + 3) F1 (.slice (some ⟨g, 0, none⟩) k k) xs) := sltsR.keep HO.out hY
          replace hBw : Below w.heap.size w (wr.drewN nq) := bstep hBw hY
          replace zt : w1.heap.size < (wr.drewN nq).heap.size := World.block_lt_of_cell? _ _ t0
          clear hY
          generalize wr.drewN nq = Y at *
          go_wp2
          go_quiet (fail)
          have hZ : Below Y.heap.size Y (Y.drewN nq) := bdrewN (Below.refl _ _) nq
          replace t0 := cell_keep hZ t0
          replace tf : ∀ o, (Y.drewN nq).frozen? ⟨w1.heap.size, o, none⟩ = false := fun o => by rw [(bcell hZ).2 _ _ zt]; exact tf o
          replace r0 := cell_keep hZ r0
          replace rf : ∀ o, (Y.drewN nq).frozen? ⟨w.heap.size + 2, o, none⟩ = false := fun o => by rw [(bcell hZ).2 _ _ (by omega)]; exact rf o
          replace y0 := cell_keep hZ y0
          replace q0 := cell_keep hZ q0
          replace q1 := cell_keep hZ q1
          replace q2 := cell_keep hZ q2
          replace q3 := cell_keep hZ q3
          replace q4 := cell_keep hZ q4
          replace q5 := cell_keep hZ q5
          replace HO : Hid (sltsR.O (Y.drewN nq) (w.heap.size + 3) F1 (.slice (some ⟨g, 0, none⟩) k k) xs) := sltsR.keep HO.out hZ
          replace hBw : Below w.heap.size w (Y.drewN nq) := bstep hBw hZ
          replace zt : w1.heap.size < (Y.drewN nq).heap.size := World.block_lt_of_cell? _ _ t0
          clear hZ
          generalize Y.drewN nq = Z at *
          by_cases h60 : 60 ≤ k
          · have h60' : (60 : Int) ≤ (k : Nat) := by omega
            have HD : Hid ((putS xs s).length = k + 1) := by show _ = _; rw [HPut.out, len_ins, HN.out]
            have hdec : decide ((putS xs s).length ≤ 60) = false := decide_eq_false (by rw [HD.out]; omega)
            go_wp2
            refine bodyPost_ret (v := .tuple #[.agg #[.slice au k cu], .bool false]) (by simp [results, Try.results103, go_sem, r0, rf]) rfl ⟨au, k, cu, by rw [hdec], by (repeat (first | refine bset ?_ (by simp; omega) _ | refine bset ?_ (by simp) _ | refine balloc ?_ _ | assumption)), fun h => absurd h (by rw [HD.out]; omega)⟩
          have h60' : ¬ (60 : Int) ≤ (k : Nat) := by omega
          have HD : Hid ((putS xs s).length = k + 1) := by show _ = _; rw [HPut.out, len_ins, HN.out]
          have hdec : decide ((putS xs s).length ≤ 60) = true := decide_eq_true (by rw [HD.out]; omega)
          have hzZ : w1.heap.size < Z.heap.size := World.block_lt_of_cell? Z _ t0
          have c3 : (k : Int) ≤ k := by omega
          go_wp2
          refine wp_region_noPanic ?_
          refine region_upto (fun W => Below Z.heap.size Z W ∧ W.cell? ⟨w1.heap.size, 0, none⟩ = some (.slice (some ⟨g, 0, none⟩) k k) ∧ (W.cell? ⟨w.heap.size + 1, 0, none⟩ = some (.int .i64 s.con) ∧ W.cell? ⟨w.heap.size + 1, 0 + 1, none⟩ = some (.int .i64 s.sh) ∧ W.cell? ⟨w.heap.size + 1, 0 + 2, none⟩ = some (.int .i64 s.pr) ∧ W.cell? ⟨w.heap.size + 1, 0 + 3, none⟩ = some (.int .i64 s.lb) ∧ W.cell? ⟨w.heap.size + 1, 0 + 4, none⟩ = some (.int .i64 s.lv) ∧ W.cell? ⟨w.heap.size + 1, 0 + 5, none⟩ = some (.slice p s.cast.length q))) 15 (by kernel_rfl) ⟨by (repeat (first | exact Below.refl _ _ | assumption | refine Below.drew ?_ | refine balloc ?_ _ | refine bset ?_ (by simp; omega) _ | refine bset ?_ (by simp) _ | refine bstep ?_ (by assumption))), cell_keep (by (repeat (first | exact Below.refl _ _ | assumption | refine Below.drew ?_ | refine balloc ?_ _ | refine bset ?_ (by simp; omega) _ | refine bset ?_ (by simp) _ | refine bstep ?_ (by assumption)))) t0, cell_keep (by (repeat (first | exact Below.refl _ _ | assumption | refine Below.drew ?_ | refine balloc ?_ _ | refine bset ?_ (by simp; omega) _ | refine bset ?_ (by simp) _ | refine bstep ?_ (by assumption)))) q0, cell_keep (by (repeat (first | exact Below.refl _ _ | assumption | refine Below.drew ?_ | refine balloc ?_ _ | refine bset ?_ (by simp; omega) _ | refine bset ?_ (by simp) _ | refine bstep ?_ (by assumption)))) q1, cell_keep (by (repeat (first | exact Below.refl _ _ | assumption | refine Below.drew ?_ | refine balloc ?_ _ | refine bset ?_ (by simp; omega) _ | refine bset ?_ (by simp) _ | refine bstep ?_ (by assumption)))) q2, cell_keep (by (repeat (first | exact Below.refl _ _ | assumption | refine Below.drew ?_ | refine balloc ?_ _ | refine bset ?_ (by simp; omega) _ | refine bset ?_ (by simp) _ | refine bstep ?_ (by assumption)))) q3, cell_keep (by (repeat (first | exact Below.refl _ _ | assumption | refine Below.drew ?_ | refine balloc ?_ _ | refine bset ?_ (by simp; omega) _ | refine bset ?_ (by simp) _ | refine bstep ?_ (by assumption)))) q4, cell_keep (by (repeat (first | exact Below.refl _ _ | assumption | refine Below.drew ?_ | refine balloc ?_ _ | refine bset ?_ (by simp; omega) _ | refine bset ?_ (by simp) _ | refine bstep ?_ (by assumption)))) q5⟩ (fun hS => ?_)
          refine upto_take (i := 1) (v := ?_) rfl (by kernel_rfl) (by kernel_rfl) (by kernel_rfl) (by kernel_rfl) (fun _ _ _ h => h) (by rfl) hS ?_ ?_
          rotate_left
          · intro wS hSw
            try dsimp only at hSw
            first | (go_simp; done) | (go_simp; with_reducible rfl)
          try simp only [Act.put, List.getElem_toArray, List.getElem_cons_zero, List.getElem_cons_succ, List.setIfInBounds_toArray, List.set_cons_zero, List.set_cons_succ]
          refine upto_take (i := 2) (v := ?_) rfl (by kernel_rfl) (by kernel_rfl) (by kernel_rfl) (by kernel_rfl) (fun _ _ _ h => h) (by rfl) hS ?_ ?_
          rotate_left
          · intro wS hSw
            try dsimp only at hSw
            first | (go_simp; done) | (go_simp; with_reducible rfl)
          try simp only [Act.put, List.getElem_toArray, List.getElem_cons_zero, List.getElem_cons_succ, List.setIfInBounds_toArray, List.set_cons_zero, List.set_cons_succ]
          refine upto_take (i := 3) (v := ?_) rfl (by kernel_rfl) (by kernel_rfl) (by kernel_rfl) (by kernel_rfl) (fun _ _ _ h => h) (by rfl) hS ?_ ?_
          rotate_left
          · intro wS hSw
            try dsimp only at hSw
            first | (go_simp; done) | (go_simp; with_reducible rfl)
          try simp only [Act.put, List.getElem_toArray, List.getElem_cons_zero, List.getElem_cons_succ, List.setIfInBounds_toArray, List.set_cons_zero, List.set_cons_succ]
          refine upto_take (i := 4) (v := ?_) rfl (by kernel_rfl) (by kernel_rfl) (by kernel_rfl) (by kernel_rfl) (fun _ _ _ h => h) (by rfl) hS ?_ ?_
          rotate_left
          · intro wS hSw
            try dsimp only at hSw
            first | (go_simp; done) | (go_simp; with_reducible rfl)
          try simp only [Act.put, List.getElem_toArray, List.getElem_cons_zero, List.getElem_cons_succ, List.setIfInBounds_toArray, List.set_cons_zero, List.set_cons_succ]
          refine upto_take (i := 6) (v := ?_) rfl (by kernel_rfl) (by kernel_rfl) (by kernel_rfl) (by kernel_rfl) (fun _ _ _ h => h) (by rfl) hS ?_ ?_
          rotate_left
          · intro wS hSw
            try dsimp only at hSw
            first | (go_simp; done) | (go_simp; with_reducible rfl)
          try simp only [Act.put, List.getElem_toArray, List.getElem_cons_zero, List.getElem_cons_succ, List.setIfInBounds_toArray, List.set_cons_zero, List.set_cons_succ]
          refine upto_take (i := 9) (v := ?_) rfl (by kernel_rfl) (by kernel_rfl) (by kernel_rfl) (by kernel_rfl) (fun _ _ _ h => h) (by rfl) hS ?_ ?_
          rotate_left
          · intro wS hSw
            try dsimp only at hSw
            first | (go_simp; done) | (go_simp; with_reducible rfl)
          try simp only [Act.put, List.getElem_toArray, List.getElem_cons_zero, List.getElem_cons_succ, List.setIfInBounds_toArray, List.set_cons_zero, List.set_cons_succ]
          refine upto_take (i := 10) (v := ?_) rfl (by kernel_rfl) (by kernel_rfl) (by kernel_rfl) (by kernel_rfl) (fun _ _ _ h => h) (by rfl) hS ?_ ?_
          rotate_left
          · intro wS hSw
            try dsimp only at hSw
            first | (go_simp; done) | (go_simp; with_reducible rfl)
          try simp only [Act.put, List.getElem_toArray, List.getElem_cons_zero, List.getElem_cons_succ, List.setIfInBounds_toArray, List.set_cons_zero, List.set_cons_succ]
          refine upto_take (i := 11) (v := ?_) rfl (by kernel_rfl) (by kernel_rfl) (by kernel_rfl) (by kernel_rfl) (fun _ _ _ h => h) (by rfl) hS ?_ ?_
          rotate_left
          · intro wS hSw
            try dsimp only at hSw
            first | (go_simp; done) | (go_simp; with_reducible rfl)
          try simp only [Act.put, List.getElem_toArray, List.getElem_cons_zero, List.getElem_cons_succ, List.setIfInBounds_toArray, List.set_cons_zero, List.set_cons_succ]
          refine upto_take (i := 12) (v := ?_) rfl (by kernel_rfl) (by kernel_rfl) (by kernel_rfl) (by kernel_rfl) (fun _ _ _ h => h) (by rfl) hS ?_ ?_
          rotate_left
          · intro wS hSw
            try dsimp only at hSw
            first | (go_simp; done) | (go_simp; with_reducible rfl)
          try simp only [Act.put, List.getElem_toArray, List.getElem_cons_zero, List.getElem_cons_succ, List.setIfInBounds_toArray, List.set_cons_zero, List.set_cons_succ]
          have hZ0 : Below Z.heap.size Z Z.drew := Below.drew (Below.refl _ _)
          generalize Z.drew = W0 at *
          have hBz : Below w.heap.size w W0 := bstep hBw hZ0
          obtain ⟨cs, us, fs, hp, hFF⟩ := HO.out
          have hpW : PO sltR 91 6 lvSlt W0 (w.heap.size + 3) (.slice (some ⟨g, 0, none⟩) k k) xs.length xs.length (fun i => xs.getD i default) cs us fs := hp.keep hZ0
          have hrow : ∀ W, Below W0.heap.size W0 W → W.ownsRow (w.heap.size + 3) 91 6 (.slice (some ⟨g, 0, none⟩) k k) xs.length cs := fun W hW => (hpW.keep hW).row
          rw [HN.out] at hrow
          have hcl : cs.length = k * 6 := by have := hp.row.1; rw [HN.out] at this; exact this
          have HP1 : Hid ((cs.take (k * 6)).length = k * 6) := by show _ = _; rw [List.length_take, hcl]; try omega
          have HP2 : Hid ((cs.drop (k * 6)).length = (k - k) * 6) := by show _ = _; rw [List.length_drop, hcl]; try omega
          have H1c : Hid (∀ y ∈ cs, y.oneCell' = true) := slts_one hp
          have HR : Hid (∀ W, Below W0.heap.size W0 W → W.ownsRow (w.heap.size + 3) 91 6 (.slice (some ⟨g, 0, none⟩) k k) k cs) := hrow
          have HPW : Hid (PO sltR 91 6 lvSlt W0 (w.heap.size + 3) (.slice (some ⟨g, 0, none⟩) k k) xs.length xs.length (fun i => xs.getD i default) cs us fs) := hpW
          have HFF : Hid (∀ b, F1 b ↔ ((.slice (some ⟨g, 0, none⟩) k k : Value).ownBlock = some b ∨ ∃ i, i < xs.length ∧ fs i b)) := hFF
          have HUW : Hid (sltR.O W0 base Fs (.agg #[.int .i64 s.con, .int .i64 s.sh, .int .i64 s.pr, .int .i64 s.lb, .int .i64 s.lv, .slice p s.cast.length q]) s) := sltR.keep HU.out hBz
          have hZZ : Z.heap.size ≤ W0.heap.size := hZ0.size
          have hwZ : w1.heap.size < W0.heap.size := Nat.lt_of_lt_of_le hzZ hZ0.size
          have hw13 : w.heap.size + 3 ≤ w1.heap.size := hz1
          clear hp hpW hrow hFF
          have HS1 : Hid (∀ W, Below W0.heap.size W0 W → AppAny W (.slice (some ⟨g, 0, none⟩) k k) k (cs.take (k * 6))) := fun W hW => by
            have h := sltsAny_piece (HR.out W hW) 0 k (by omega) k
            simpa using h
          have HS2 : Hid (∀ W, Below W0.heap.size W0 W → AppAny W (.slice (some ⟨g, 0, none⟩) 0 0) (k - k) (cs.drop (k * 6))) := fun W hW => by
            have e0 : cs.drop (k * 6) = [] := List.eq_nil_of_length_eq_zero (by rw [HP2.out]; try omega)
            rw [e0, show k - k = 0 by omega]
            exact sltsAny_none _ _ _
          obtain ⟨P1, hP1⟩ : ∃ P, cs.take (k * 6) = P := ⟨_, rfl⟩
          obtain ⟨P2, hP2⟩ : ∃ P, cs.drop (k * 6) = P := ⟨_, rfl⟩
          have HP12 : Hid (cs.take (k * 6) = P1 ∧ cs.drop (k * 6) = P2) := ⟨hP1, hP2⟩
          have H1P2 : Hid (∀ y ∈ P2, y.oneCell' = true) := fun y hy => H1c.out y (List.mem_of_mem_drop (by rw [hP2]; exact hy))
          have H1P1 : Hid (∀ y ∈ P1, y.oneCell' = true) := fun y hy => H1c.out y (List.mem_of_mem_take (by rw [hP1]; exact hy))
          rw [hP1] at HS1 HP1
          rw [hP2] at HS2 HP2
          clear hP1 hP2
          refine upto_cons' [(0, 52), (5, 57), (7, 59), (8, 60), (13, 65), (14, 66)] insCX (insGX w1.heap.size W0.heap.size k k P1 [.int .i64 s.con, .int .i64 s.sh, .int .i64 s.pr, .int .i64 s.lb, .int .i64 s.lv, .slice p s.cast.length q] P2) (by kernel_rfl) hS ?_ ?_ ?_ ?_
          · intro F' W W' h hm hF
            obtain ⟨h1, h2, h3⟩ := h
            exact ⟨hm.below h1 h1.size (fun b hb => by have := hF b hb; omega), hm.cell h2 (fun e => by have := hF _ e; dsimp only at this; omega), hm.cell h3.1 (fun e => by have := hF _ e; dsimp only at this; omega), hm.cell h3.2.1 (fun e => by have := hF _ e; dsimp only at this; omega), hm.cell h3.2.2.1 (fun e => by have := hF _ e; dsimp only at this; omega), hm.cell h3.2.2.2.1 (fun e => by have := hF _ e; dsimp only at this; omega), hm.cell h3.2.2.2.2.1 (fun e => by have := hF _ e; dsimp only at this; omega), hm.cell h3.2.2.2.2.2 (fun e => by have := hF _ e; dsimp only at this; omega)⟩
          · intro pp hpp
            simp only [List.mem_cons, List.not_mem_nil, or_false] at hpp
            rcases hpp with rfl | rfl | rfl | rfl | rfl | rfl
            all_goals
              intro y y' F F' W W' h hi hm hap hF e _
              simp only [insGX] at h ⊢
              rw [e]
              first | exact ⟨hm.owns h.1 (fun b hb h2 => hap b h2 (by rw [h.2]; exact hb)), h.2⟩ | exact h
          · intro pp hpp
            simp only [List.mem_cons, List.not_mem_nil, or_false] at hpp
            rcases hpp with rfl | rfl | rfl | rfl | rfl | rfl
            all_goals
              refine ⟨_, rfl, rfl, ?_⟩
              intro y W Φ hSW hBW hd K hK
            · clear hd
              refine ⟨?_⟩
              simp only [over, Act.put, List.getElem_toArray, List.getElem_cons_zero, List.getElem_cons_succ, List.map_cons, List.map_nil, List.foldl_cons, List.foldl_nil, List.setIfInBounds_toArray, List.set_cons_zero, List.set_cons_succ] at hK ⊢
              go_simp
              refine hK _ _ (fun b => b = W.heap.size) (Mod.of_below (by (repeat (first | exact Below.refl _ _ | assumption | refine Below.drew ?_ | refine balloc ?_ _ | refine bset ?_ (by simp; omega) _ | refine bset ?_ (by simp) _ | refine bstep ?_ (by assumption))))) (fun b hb => .inr (by first | omega | (dsimp only at hb; omega) | (simp; omega))) ?_
              simp only [insGX, updV]
              refine ⟨World.ownsRow_lit (base := W0.heap.size) (e := 91) (size := 6) W #[] 0 hBW.size (by unfold maxLen; omega) rfl, ?_⟩
              funext b
              simp [Value.ownBlock, eq_comm]
            · have g0 := (hd (0, 52) (by simp) (by kernel_rfl) (.inl (by simp [insCX]))).2
              clear hd
              simp only [insGX] at g0
              refine ⟨?_⟩
              simp only [over, Act.put, List.getElem_toArray, List.getElem_cons_zero, List.getElem_cons_succ, List.map_cons, List.map_nil, List.foldl_cons, List.foldl_nil, List.setIfInBounds_toArray, List.set_cons_zero, List.set_cons_succ] at hK ⊢
              have hsrc := HS1.out W hBW
              refine ite_wanted rfl ?_
              refine wp_appX W ?hg1 (.tmp 52) (.tmp 56) ?ho1 W0.heap.size (y 52) (Φ 0) 0 [] ?hs1 (.slice (some ⟨g, 0, none⟩) k k) k P1 ?hx1 g0 hsrc HP1.out H1P1.out (by omega) hBW.size ?_
              case hg1 => rfl
              case ho1 => rfl
              case hs1 => rfl
              case hx1 => rfl
              intro v' w' hO hm hl
              refine hK _ _ (fun b => v'.ownBlock = some b) (hm.mono (fun b hb => ⟨0, by simp [insCX], hb⟩)) (fun b hb => (hl b hb).imp (fun h => ⟨0, by simp [insCX], h⟩) (fun h => h)) ?_
              simp only [insGX, updV]
              simpa using hO
            · clear hd
              obtain ⟨h1, h2, h3⟩ := hSW
              refine ⟨?_⟩
              simp only [over, Act.put, List.getElem_toArray, List.getElem_cons_zero, List.getElem_cons_succ, List.map_cons, List.map_nil, List.foldl_cons, List.foldl_nil, List.setIfInBounds_toArray, List.set_cons_zero, List.set_cons_succ] at hK ⊢
              go_simp
              refine hK _ _ (fun b => b = W.heap.size) (Mod.of_below (by (repeat (first | exact Below.refl _ _ | assumption | refine Below.drew ?_ | refine balloc ?_ _ | refine bset ?_ (by simp; omega) _ | refine bset ?_ (by simp) _ | refine bstep ?_ (by assumption))))) (fun b hb => .inr (by first | omega | (dsimp only at hb; omega) | (simp; omega))) ?_
              simp only [insGX, updV]
              refine ⟨World.ownsRow_lit (base := W0.heap.size) (e := 91) (size := 6) W #[.int .i64 s.con, .int .i64 s.sh, .int .i64 s.pr, .int .i64 s.lb, .int .i64 s.lv, .slice p s.cast.length q] 1 hBW.size (by unfold maxLen; omega) rfl, ?_⟩
              funext b
              simp [Value.ownBlock, eq_comm]
            · have g0 := (hd (5, 57) (by simp) (by kernel_rfl) (.inl (by simp [insCX]))).2
              have g1 := (hd (7, 59) (by simp) (by kernel_rfl) (.inr (by simp [insCX]))).2
              clear hd
              simp only [insGX] at g0 g1
              refine ⟨?_⟩
              simp only [over, Act.put, List.getElem_toArray, List.getElem_cons_zero, List.getElem_cons_succ, List.map_cons, List.map_nil, List.foldl_cons, List.foldl_nil, List.setIfInBounds_toArray, List.set_cons_zero, List.set_cons_succ] at hK ⊢
              refine ite_wanted rfl ?_
              refine wp_appX W ?hg2 (.tmp 57) (.tmp 59) ?ho2 W0.heap.size (y 57) (Φ 5) k P1 ?hs2 (y 59) 1 _ ?hx2 g0 (votsAny_own g1.1) rfl (fun y' hy' => by simp only [List.mem_cons, List.not_mem_nil, or_false] at hy'; rcases hy' with rfl | rfl | rfl | rfl | rfl | rfl <;> rfl) (by omega) hBW.size ?_
              case hg2 => rfl
              case ho2 => rfl
              case hs2 => rfl
              case hx2 => rfl
              intro v' w' hO hm hl
              refine hK _ _ (fun b => v'.ownBlock = some b) (hm.mono (fun b hb => ⟨5, by simp [insCX], hb⟩)) (fun b hb => (hl b hb).imp (fun h => ⟨5, by simp [insCX], h⟩) (fun h => h)) ?_
              simp only [insGX, updV]
              simpa using hO
            · have g0 := (hd (8, 60) (by simp) (by kernel_rfl) (.inl (by simp [insCX]))).2
              clear hd
              simp only [insGX] at g0
              refine ⟨?_⟩
              simp only [over, Act.put, List.getElem_toArray, List.getElem_cons_zero, List.getElem_cons_succ, List.map_cons, List.map_nil, List.foldl_cons, List.foldl_nil, List.setIfInBounds_toArray, List.set_cons_zero, List.set_cons_succ] at hK ⊢
              have hsrc := HS2.out W hBW
              refine ite_wanted rfl ?_
              refine wp_appX W ?hg3 (.tmp 60) (.tmp 64) ?ho3 W0.heap.size (y 60) (Φ 8) (k + 1) _ ?hs3 (.slice (some ⟨g, 0, none⟩) 0 0) (k - k) P2 ?hx3 g0 hsrc HP2.out H1P2.out (by omega) hBW.size ?_
              case hg3 => rfl
              case ho3 => rfl
              case hs3 => rfl
              case hx3 => rfl
              intro v' w' hO hm hl
              refine hK _ _ (fun b => v'.ownBlock = some b) (hm.mono (fun b hb => ⟨8, by simp [insCX], hb⟩)) (fun b hb => (hl b hb).imp (fun h => ⟨8, by simp [insCX], h⟩) (fun h => h)) ?_
              simp only [insGX, updV]
              have e9 : k + 1 + (k - k) = k + 1 := by omega
              rw [e9] at hO
              simpa using hO
            · clear hd
              refine ⟨?_⟩
              simp only [over, Act.put, List.getElem_toArray, List.getElem_cons_zero, List.getElem_cons_succ, List.map_cons, List.map_nil, List.foldl_cons, List.foldl_nil, List.setIfInBounds_toArray, List.set_cons_zero, List.set_cons_succ] at hK ⊢
              go_simp
              refine hK _ _ (fun _ => False) (Mod.refl _ _) (fun b hb => hb.elim) ?_
              simp only [insGX, updV]
              rfl
          · refine ⟨_, rfl, ?_⟩
            intro y W Φ hSW hBW hd hap K hK
            have g13 := (hd (13, 65) (by simp) (by simp [insCX])).2
            have g14 := (hd (14, 66) (by simp) (by simp [insCX])).2
            clear hd hap
            simp only [insGX] at g13 g14
            have g13' := g13.1
            clear g13
            have hform : ∃ g9 c9, y 65 = .slice (some ⟨g9, 0, none⟩) (k + 1) c9 := by
              rcases g13'.2 with ⟨_, h⟩ | ⟨g9, c9, _, h, _⟩
              · omega
              · exact ⟨g9, c9, h⟩
            obtain ⟨g9, c9, e9⟩ := hform
            have hBw2 : Below w.heap.size w W := bstep hBz hBW
            have HIn : Hid (∃ F', sltsR.O W base F' (.slice (some ⟨g9, 0, none⟩) (k + 1) c9) (putS xs s) ∧ ∀ b, F' b → F1 b ∨ Fs b ∨ W0.heap.size ≤ b) := by
              have h1 : (fun (P Q : List Value) => W.ownsRow base 91 6 (.slice (some ⟨g9, 0, none⟩) (k + 1) c9) (xs.length + 1) (P ++ lvSlt (.agg #[.int .i64 s.con, .int .i64 s.sh, .int .i64 s.pr, .int .i64 s.lb, .int .i64 s.lv, .slice p s.cast.length q]) ++ Q)) (cs.take (k * 6)) (cs.drop (k * 6)) := by
                rw [HP12.out.1, HP12.out.2, HN.out, ← e9]
                exact owns_base g13' (by omega)
              have h0 : PO sltR 91 6 lvSlt W0 base (.slice (some ⟨g, 0, none⟩) k k) xs.length xs.length (fun i => xs.getD i default) cs us fs := ⟨owns_base HPW.out.row (by omega), fun i hi => sltR.base (HPW.out.el i hi) (by omega), HPW.out.ln, HPW.out.cell, HPW.out.out, HPW.out.sep⟩
              have h2 := NO.ins h0 HFF.out (i := k) (by rw [HN.out]; omega) HUW.out rfl HDs.out h1 (Mod.of_below hBW) (fun b hb => .inr (by have := (g13'.lt b (by rw [e9]; exact hb)).1; omega))
              rw [HPut.out]
              exact h2
            refine ⟨?_⟩
            simp only [over, Act.put, List.getElem_toArray, List.getElem_cons_zero, List.getElem_cons_succ, List.map_cons, List.map_nil, List.foldl_cons, List.foldl_nil, List.setIfInBounds_toArray, List.set_cons_zero, List.set_cons_succ]
            simp only [e9, g14] at g13' ⊢
            obtain ⟨hs1, hs2, hs3⟩ := hSW
            have tfW : ∀ o, W.frozen? ⟨w1.heap.size, o, none⟩ = false := fun o => by rw [(bcell hBW).2 _ _ hwZ, (bcell hZ0).2 _ _ hzZ]; exact tf o
            have rW : W.cell? ⟨w.heap.size + 2, 0, none⟩ = some (.slice none 0 0) := cell_keep hBW (cell_keep hZ0 r0)
            have rfW : ∀ o, W.frozen? ⟨w.heap.size + 2, o, none⟩ = false := fun o => by rw [(bcell hBW).2 _ _ (by omega), (bcell hZ0).2 _ _ (by omega)]; exact rf o
            have zW : w1.heap.size < W.heap.size := World.block_lt_of_cell? W _ hs2
            go_simp
            refine hK _ _ ?_
            clear hK K
            refine NoPanic.normal ?_
            obtain ⟨F', o9, hF9⟩ := HIn.out
            have HO9 : Hid (sltsR.O W base F' (.slice (some ⟨g9, 0, none⟩) (k + 1) c9) (putS xs s)) := o9
            have HF9 : Hid (∀ b, F' b → b ≠ w1.heap.size ∧ b ≠ w.heap.size + 2) := fun b hb => by
              rcases hF9 b hb with h | h | h
              · have := HFl.out b h; omega
              · have := HFs.out b h; omega
              · omega
            have HF8 : Hid (∀ b, F' b → Fs b ∨ w.heap.size ≤ b) := fun b hb => by
              rcases hF9 b hb with h | h | h
              · have := HFl.out b h; exact .inr (by omega)
              · exact .inl h
              · exact .inr (by omega)
            clear o9 hF9 HIn g13' HS1 HS2 hS hs3
            go_wp2
            refine bodyPost_ret (v := .tuple #[.agg #[.slice (some ⟨g9, 0, none⟩) (k + 1) c9], .bool true]) (by simp [results, Try.results103, go_sem, rW, rfW, hs2, tfW]) rfl ?_
            refine ⟨_, _, _, by rw [hdec], by (repeat (first | refine bset ?_ (by simp; omega) _ | refine bset ?_ (by simp) _ | refine balloc ?_ _ | assumption)), fun _ => ⟨by rw [HD.out], F', ⟨_, F', rfl, ?_, fun b => Iff.rfl⟩, HF8.out⟩⟩
            exact Rep.setN _ (Rep.setN _ HO9.out _ (fun hb => (HF9.out _ hb).1 rfl)) _ (fun hb => (HF9.out _ hb).2 rfl)
        · clear hbl
          go_wp2
          go_quiet (fail)
          have hY : Below wr.heap.size wr (wr.drewN nq) := bdrewN (Below.refl _ _) nq
          replace t0 := cell_keep hY t0
          replace tf : ∀ o, (wr.drewN nq).frozen? ⟨w1.heap.size, o, none⟩ = false := fun o => by rw [(bcell hY).2 _ _ zt]; exact tf o
          replace r0 := cell_keep hY r0
          replace rf : ∀ o, (wr.drewN nq).frozen? ⟨w.heap.size + 2, o, none⟩ = false := fun o => by rw [(bcell hY).2 _ _ (by omega)]; exact rf o
          replace y0 := cell_keep hY y0
          replace q0 := cell_keep hY q0
          replace q1 := cell_keep hY q1
          replace q2 := cell_keep hY q2
          replace q3 := cell_keep hY q3
          replace q4 := cell_keep hY q4
          replace q5 := cell_keep hY q5
          replace HO : Hid (sltsR.O (wr.drewN nq) (w.heap.size + 3) F1 (.slice (some ⟨g, 0, none⟩) k cc) xs) := sltsR.keep HO.out hY
          replace hBw : Below w.heap.size w (wr.drewN nq) := bstep hBw hY
          replace zt : w1.heap.size < (wr.drewN nq).heap.size := World.block_lt_of_cell? _ _ t0
          clear hY
          generalize wr.drewN nq = Y at *
          go_wp2
          go_quiet (fail)
          have hZ : Below Y.heap.size Y (Y.drewN nq) := bdrewN (Below.refl _ _) nq
          replace t0 := cell_keep hZ t0
          replace tf : ∀ o, (Y.drewN nq).frozen? ⟨w1.heap.size, o, none⟩ = false := fun o => by rw [(bcell hZ).2 _ _ zt]; exact tf o
          replace r0 := cell_keep hZ r0
          replace rf : ∀ o, (Y.drewN nq).frozen? ⟨w.heap.size + 2, o, none⟩ = false := fun o => by rw [(bcell hZ).2 _ _ (by omega)]; exact rf o
          replace y0 := cell_keep hZ y0
          replace q0 := cell_keep hZ q0
          replace q1 := cell_keep hZ q1
          replace q2 := cell_keep hZ q2
          replace q3 := cell_keep hZ q3
          replace q4 := cell_keep hZ q4
          replace q5 := cell_keep hZ q5
          replace HO : Hid (sltsR.O (Y.drewN nq) (w.heap.size + 3) F1 (.slice (some ⟨g, 0, none⟩) k cc) xs) := sltsR.keep HO.out hZ
          replace hBw : Below w.heap.size w (Y.drewN nq) := bstep hBw hZ
          replace zt : w1.heap.size < (Y.drewN nq).heap.size := World.block_lt_of_cell? _ _ t0
          clear hZ
          generalize Y.drewN nq = Z at *
          by_cases h60 : 60 ≤ k
          · have h60' : (60 : Int) ≤ (k : Nat) := by omega
            have HD : Hid ((putS xs s).length = k + 1) := by show _ = _; rw [HPut.out, len_ins, HN.out]
            have hdec : decide ((putS xs s).length ≤ 60) = false := decide_eq_false (by rw [HD.out]; omega)
            go_wp2
            refine bodyPost_ret (v := .tuple #[.agg #[.slice au k cu], .bool false]) (by simp [results, Try.results103, go_sem, r0, rf]) rfl ⟨au, k, cu, by rw [hdec], by (repeat (first | refine bset ?_ (by simp; omega) _ | refine bset ?_ (by simp) _ | refine balloc ?_ _ | assumption)), fun h => absurd h (by rw [HD.out]; omega)⟩
          have h60' : ¬ (60 : Int) ≤ (k : Nat) := by omega
          have HD : Hid ((putS xs s).length = k + 1) := by show _ = _; rw [HPut.out, len_ins, HN.out]
          have hdec : decide ((putS xs s).length ≤ 60) = true := decide_eq_true (by rw [HD.out]; omega)
          have hzZ : w1.heap.size < Z.heap.size := World.block_lt_of_cell? Z _ t0
          have c2 : ¬ cc = k := by omega
          have c3 : (k : Int) ≤ cc := by omega
          have c4 : (k : Int) ≤ k := by omega
          go_wp2
          refine wp_region_noPanic ?_
          refine region_upto (fun W => Below Z.heap.size Z W ∧ W.cell? ⟨w1.heap.size, 0, none⟩ = some (.slice (some ⟨g, 0, none⟩) k cc) ∧ (W.cell? ⟨w.heap.size + 1, 0, none⟩ = some (.int .i64 s.con) ∧ W.cell? ⟨w.heap.size + 1, 0 + 1, none⟩ = some (.int .i64 s.sh) ∧ W.cell? ⟨w.heap.size + 1, 0 + 2, none⟩ = some (.int .i64 s.pr) ∧ W.cell? ⟨w.heap.size + 1, 0 + 3, none⟩ = some (.int .i64 s.lb) ∧ W.cell? ⟨w.heap.size + 1, 0 + 4, none⟩ = some (.int .i64 s.lv) ∧ W.cell? ⟨w.heap.size + 1, 0 + 5, none⟩ = some (.slice p s.cast.length q))) 15 (by kernel_rfl) ⟨by (repeat (first | exact Below.refl _ _ | assumption | refine Below.drew ?_ | refine balloc ?_ _ | refine bset ?_ (by simp; omega) _ | refine bset ?_ (by simp) _ | refine bstep ?_ (by assumption))), cell_keep (by (repeat (first | exact Below.refl _ _ | assumption | refine Below.drew ?_ | refine balloc ?_ _ | refine bset ?_ (by simp; omega) _ | refine bset ?_ (by simp) _ | refine bstep ?_ (by assumption)))) t0, cell_keep (by (repeat (first | exact Below.refl _ _ | assumption | refine Below.drew ?_ | refine balloc ?_ _ | refine bset ?_ (by simp; omega) _ | refine bset ?_ (by simp) _ | refine bstep ?_ (by assumption)))) q0, cell_keep (by (repeat (first | exact Below.refl _ _ | assumption | refine Below.drew ?_ | refine balloc ?_ _ | refine bset ?_ (by simp; omega) _ | refine bset ?_ (by simp) _ | refine bstep ?_ (by assumption)))) q1, cell_keep (by (repeat (first | exact Below.refl _ _ | assumption | refine Below.drew ?_ | refine balloc ?_ _ | refine bset ?_ (by simp; omega) _ | refine bset ?_ (by simp) _ | refine bstep ?_ (by assumption)))) q2, cell_keep (by (repeat (first | exact Below.refl _ _ | assumption | refine Below.drew ?_ | refine balloc ?_ _ | refine bset ?_ (by simp; omega) _ | refine bset ?_ (by simp) _ | refine bstep ?_ (by assumption)))) q3, cell_keep (by (repeat (first | exact Below.refl _ _ | assumption | refine Below.drew ?_ | refine balloc ?_ _ | refine bset ?_ (by simp; omega) _ | refine bset ?_ (by simp) _ | refine bstep ?_ (by assumption)))) q4, cell_keep (by (repeat (first | exact Below.refl _ _ | assumption | refine Below.drew ?_ | refine balloc ?_ _ | refine bset ?_ (by simp; omega) _ | refine bset ?_ (by simp) _ | refine bstep ?_ (by assumption)))) q5⟩ (fun hS => ?_)
          refine upto_take (i := 1) (v := ?_) rfl (by kernel_rfl) (by kernel_rfl) (by kernel_rfl) (by kernel_rfl) (fun _ _ _ h => h) (by rfl) hS ?_ ?_
          rotate_left
          · intro wS hSw
            try dsimp only at hSw
            first | (go_simp; done) | (go_simp; with_reducible rfl)
          try simp only [Act.put, List.getElem_toArray, List.getElem_cons_zero, List.getElem_cons_succ, List.setIfInBounds_toArray, List.set_cons_zero, List.set_cons_succ]
          refine upto_take (i := 2) (v := ?_) rfl (by kernel_rfl) (by kernel_rfl) (by kernel_rfl) (by kernel_rfl) (fun _ _ _ h => h) (by rfl) hS ?_ ?_
          rotate_left
          · intro wS hSw
            try dsimp only at hSw
            first | (go_simp; done) | (go_simp; with_reducible rfl)
          try simp only [Act.put, List.getElem_toArray, List.getElem_cons_zero, List.getElem_cons_succ, List.setIfInBounds_toArray, List.set_cons_zero, List.set_cons_succ]
          refine upto_take (i := 3) (v := ?_) rfl (by kernel_rfl) (by kernel_rfl) (by kernel_rfl) (by kernel_rfl) (fun _ _ _ h => h) (by rfl) hS ?_ ?_
          rotate_left
          · intro wS hSw
            try dsimp only at hSw
            first | (go_simp; done) | (go_simp; with_reducible rfl)
          try simp only [Act.put, List.getElem_toArray, List.getElem_cons_zero, List.getElem_cons_succ, List.setIfInBounds_toArray, List.set_cons_zero, List.set_cons_succ]
          refine upto_take (i := 4) (v := ?_) rfl (by kernel_rfl) (by kernel_rfl) (by kernel_rfl) (by kernel_rfl) (fun _ _ _ h => h) (by rfl) hS ?_ ?_
          rotate_left
          · intro wS hSw
            try dsimp only at hSw
            first | (go_simp; done) | (go_simp; with_reducible rfl)
          try simp only [Act.put, List.getElem_toArray, List.getElem_cons_zero, List.getElem_cons_succ, List.setIfInBounds_toArray, List.set_cons_zero, List.set_cons_succ]
          refine upto_take (i := 6) (v := ?_) rfl (by kernel_rfl) (by kernel_rfl) (by kernel_rfl) (by kernel_rfl) (fun _ _ _ h => h) (by rfl) hS ?_ ?_
          rotate_left
          · intro wS hSw
            try dsimp only at hSw
            first | (go_simp; done) | (go_simp; with_reducible rfl)
          try simp only [Act.put, List.getElem_toArray, List.getElem_cons_zero, List.getElem_cons_succ, List.setIfInBounds_toArray, List.set_cons_zero, List.set_cons_succ]
          refine upto_take (i := 9) (v := ?_) rfl (by kernel_rfl) (by kernel_rfl) (by kernel_rfl) (by kernel_rfl) (fun _ _ _ h => h) (by rfl) hS ?_ ?_
          rotate_left
          · intro wS hSw
            try dsimp only at hSw
            first | (go_simp; done) | (go_simp; with_reducible rfl)
          try simp only [Act.put, List.getElem_toArray, List.getElem_cons_zero, List.getElem_cons_succ, List.setIfInBounds_toArray, List.set_cons_zero, List.set_cons_succ]
          refine upto_take (i := 10) (v := ?_) rfl (by kernel_rfl) (by kernel_rfl) (by kernel_rfl) (by kernel_rfl) (fun _ _ _ h => h) (by rfl) hS ?_ ?_
          rotate_left
          · intro wS hSw
            try dsimp only at hSw
            first | (go_simp; done) | (go_simp; with_reducible rfl)
          try simp only [Act.put, List.getElem_toArray, List.getElem_cons_zero, List.getElem_cons_succ, List.setIfInBounds_toArray, List.set_cons_zero, List.set_cons_succ]
          refine upto_take (i := 11) (v := ?_) rfl (by kernel_rfl) (by kernel_rfl) (by kernel_rfl) (by kernel_rfl) (fun _ _ _ h => h) (by rfl) hS ?_ ?_
          rotate_left
          · intro wS hSw
            try dsimp only at hSw
            first | (go_simp; done) | (go_simp; with_reducible rfl)
          try simp only [Act.put, List.getElem_toArray, List.getElem_cons_zero, List.getElem_cons_succ, List.setIfInBounds_toArray, List.set_cons_zero, List.set_cons_succ]
          refine upto_take (i := 12) (v := ?_) rfl (by kernel_rfl) (by kernel_rfl) (by kernel_rfl) (by kernel_rfl) (fun _ _ _ h => h) (by rfl) hS ?_ ?_
          rotate_left
          · intro wS hSw
            try dsimp only at hSw
            first | (go_simp; done) | (go_simp; with_reducible rfl)
          try simp only [Act.put, List.getElem_toArray, List.getElem_cons_zero, List.getElem_cons_succ, List.setIfInBounds_toArray, List.set_cons_zero, List.set_cons_succ]
          have hZ0 : Below Z.heap.size Z Z.drew := Below.drew (Below.refl _ _)
          generalize Z.drew = W0 at *
          have hBz : Below w.heap.size w W0 := bstep hBw hZ0
          obtain ⟨cs, us, fs, hp, hFF⟩ := HO.out
          have hpW : PO sltR 91 6 lvSlt W0 (w.heap.size + 3) (.slice (some ⟨g, 0, none⟩) k cc) xs.length xs.length (fun i => xs.getD i default) cs us fs := hp.keep hZ0
          have hrow : ∀ W, Below W0.heap.size W0 W → W.ownsRow (w.heap.size + 3) 91 6 (.slice (some ⟨g, 0, none⟩) k cc) xs.length cs := fun W hW => (hpW.keep hW).row
          rw [HN.out] at hrow
          have hcl : cs.length = k * 6 := by have := hp.row.1; rw [HN.out] at this; exact this
          have HP1 : Hid ((cs.take (k * 6)).length = k * 6) := by show _ = _; rw [List.length_take, hcl]; try omega
          have HP2 : Hid ((cs.drop (k * 6)).length = (k - k) * 6) := by show _ = _; rw [List.length_drop, hcl]; try omega
          have H1c : Hid (∀ y ∈ cs, y.oneCell' = true) := slts_one hp
          have HR : Hid (∀ W, Below W0.heap.size W0 W → W.ownsRow (w.heap.size + 3) 91 6 (.slice (some ⟨g, 0, none⟩) k cc) k cs) := hrow
          have HPW : Hid (PO sltR 91 6 lvSlt W0 (w.heap.size + 3) (.slice (some ⟨g, 0, none⟩) k cc) xs.length xs.length (fun i => xs.getD i default) cs us fs) := hpW
          have HFF : Hid (∀ b, F1 b ↔ ((.slice (some ⟨g, 0, none⟩) k cc : Value).ownBlock = some b ∨ ∃ i, i < xs.length ∧ fs i b)) := hFF
          have HUW : Hid (sltR.O W0 base Fs (.agg #[.int .i64 s.con, .int .i64 s.sh, .int .i64 s.pr, .int .i64 s.lb, .int .i64 s.lv, .slice p s.cast.length q]) s) := sltR.keep HU.out hBz
          have hZZ : Z.heap.size ≤ W0.heap.size := hZ0.size
          have hwZ : w1.heap.size < W0.heap.size := Nat.lt_of_lt_of_le hzZ hZ0.size
          have hw13 : w.heap.size + 3 ≤ w1.heap.size := hz1
          clear hp hpW hrow hFF
          have HS1 : Hid (∀ W, Below W0.heap.size W0 W → AppAny W (.slice (some ⟨g, 0, none⟩) k cc) k (cs.take (k * 6))) := fun W hW => by
            have h := sltsAny_piece (HR.out W hW) 0 k (by omega) cc
            simpa using h
          have HS2 : Hid (∀ W, Below W0.heap.size W0 W → AppAny W (.slice (some ⟨g, k * 6, none⟩) 0 (cc - k)) (k - k) (cs.drop (k * 6))) := fun W hW => by
            have e0 : cs.drop (k * 6) = [] := List.eq_nil_of_length_eq_zero (by rw [HP2.out]; try omega)
            rw [e0, show k - k = 0 by omega]
            exact sltsAny_none _ _ _
          obtain ⟨P1, hP1⟩ : ∃ P, cs.take (k * 6) = P := ⟨_, rfl⟩
          obtain ⟨P2, hP2⟩ : ∃ P, cs.drop (k * 6) = P := ⟨_, rfl⟩
          have HP12 : Hid (cs.take (k * 6) = P1 ∧ cs.drop (k * 6) = P2) := ⟨hP1, hP2⟩
          have H1P2 : Hid (∀ y ∈ P2, y.oneCell' = true) := fun y hy => H1c.out y (List.mem_of_mem_drop (by rw [hP2]; exact hy))
          have H1P1 : Hid (∀ y ∈ P1, y.oneCell' = true) := fun y hy => H1c.out y (List.mem_of_mem_take (by rw [hP1]; exact hy))
          rw [hP1] at HS1 HP1
          rw [hP2] at HS2 HP2
          clear hP1 hP2
          refine upto_cons' [(0, 52), (5, 57), (7, 59), (8, 60), (13, 65), (14, 66)] insCX (insGX w1.heap.size W0.heap.size k k P1 [.int .i64 s.con, .int .i64 s.sh, .int .i64 s.pr, .int .i64 s.lb, .int .i64 s.lv, .slice p s.cast.length q] P2) (by kernel_rfl) hS ?_ ?_ ?_ ?_
          · intro F' W W' h hm hF
            obtain ⟨h1, h2, h3⟩ := h
            exact ⟨hm.below h1 h1.size (fun b hb => by have := hF b hb; omega), hm.cell h2 (fun e => by have := hF _ e; dsimp only at this; omega), hm.cell h3.1 (fun e => by have := hF _ e; dsimp only at this; omega), hm.cell h3.2.1 (fun e => by have := hF _ e; dsimp only at this; omega), hm.cell h3.2.2.1 (fun e => by have := hF _ e; dsimp only at this; omega), hm.cell h3.2.2.2.1 (fun e => by have := hF _ e; dsimp only at this; omega), hm.cell h3.2.2.2.2.1 (fun e => by have := hF _ e; dsimp only at this; omega), hm.cell h3.2.2.2.2.2 (fun e => by have := hF _ e; dsimp only at this; omega)⟩
          · intro pp hpp
            simp only [List.mem_cons, List.not_mem_nil, or_false] at hpp
            rcases hpp with rfl | rfl | rfl | rfl | rfl | rfl
            all_goals
              intro y y' F F' W W' h hi hm hap hF e _
              simp only [insGX] at h ⊢
              rw [e]
              first | exact ⟨hm.owns h.1 (fun b hb h2 => hap b h2 (by rw [h.2]; exact hb)), h.2⟩ | exact h
          · intro pp hpp
            simp only [List.mem_cons, List.not_mem_nil, or_false] at hpp
            rcases hpp with rfl | rfl | rfl | rfl | rfl | rfl
            all_goals
              refine ⟨_, rfl, rfl, ?_⟩
              intro y W Φ hSW hBW hd K hK
            · clear hd
              refine ⟨?_⟩
              simp only [over, Act.put, List.getElem_toArray, List.getElem_cons_zero, List.getElem_cons_succ, List.map_cons, List.map_nil, List.foldl_cons, List.foldl_nil, List.setIfInBounds_toArray, List.set_cons_zero, List.set_cons_succ] at hK ⊢
              go_simp
              refine hK _ _ (fun b => b = W.heap.size) (Mod.of_below (by (repeat (first | exact Below.refl _ _ | assumption | refine Below.drew ?_ | refine balloc ?_ _ | refine bset ?_ (by simp; omega) _ | refine bset ?_ (by simp) _ | refine bstep ?_ (by assumption))))) (fun b hb => .inr (by first | omega | (dsimp only at hb; omega) | (simp; omega))) ?_
              simp only [insGX, updV]
              refine ⟨World.ownsRow_lit (base := W0.heap.size) (e := 91) (size := 6) W #[] 0 hBW.size (by unfold maxLen; omega) rfl, ?_⟩
              funext b
              simp [Value.ownBlock, eq_comm]
            · have g0 := (hd (0, 52) (by simp) (by kernel_rfl) (.inl (by simp [insCX]))).2
              clear hd
              simp only [insGX] at g0
              refine ⟨?_⟩
              simp only [over, Act.put, List.getElem_toArray, List.getElem_cons_zero, List.getElem_cons_succ, List.map_cons, List.map_nil, List.foldl_cons, List.foldl_nil, List.setIfInBounds_toArray, List.set_cons_zero, List.set_cons_succ] at hK ⊢
              have hsrc := HS1.out W hBW
              refine ite_wanted rfl ?_
              refine wp_appX W ?hg1 (.tmp 52) (.tmp 56) ?ho1 W0.heap.size (y 52) (Φ 0) 0 [] ?hs1 (.slice (some ⟨g, 0, none⟩) k cc) k P1 ?hx1 g0 hsrc HP1.out H1P1.out (by omega) hBW.size ?_
              case hg1 => rfl
              case ho1 => rfl
              case hs1 => rfl
              case hx1 => rfl
              intro v' w' hO hm hl
              refine hK _ _ (fun b => v'.ownBlock = some b) (hm.mono (fun b hb => ⟨0, by simp [insCX], hb⟩)) (fun b hb => (hl b hb).imp (fun h => ⟨0, by simp [insCX], h⟩) (fun h => h)) ?_
              simp only [insGX, updV]
              simpa using hO
            · clear hd
              obtain ⟨h1, h2, h3⟩ := hSW
              refine ⟨?_⟩
              simp only [over, Act.put, List.getElem_toArray, List.getElem_cons_zero, List.getElem_cons_succ, List.map_cons, List.map_nil, List.foldl_cons, List.foldl_nil, List.setIfInBounds_toArray, List.set_cons_zero, List.set_cons_succ] at hK ⊢
              go_simp
              refine hK _ _ (fun b => b = W.heap.size) (Mod.of_below (by (repeat (first | exact Below.refl _ _ | assumption | refine Below.drew ?_ | refine balloc ?_ _ | refine bset ?_ (by simp; omega) _ | refine bset ?_ (by simp) _ | refine bstep ?_ (by assumption))))) (fun b hb => .inr (by first | omega | (dsimp only at hb; omega) | (simp; omega))) ?_
              simp only [insGX, updV]
              refine ⟨World.ownsRow_lit (base := W0.heap.size) (e := 91) (size := 6) W #[.int .i64 s.con, .int .i64 s.sh, .int .i64 s.pr, .int .i64 s.lb, .int .i64 s.lv, .slice p s.cast.length q] 1 hBW.size (by unfold maxLen; omega) rfl, ?_⟩
              funext b
              simp [Value.ownBlock, eq_comm]
            · have g0 := (hd (5, 57) (by simp) (by kernel_rfl) (.inl (by simp [insCX]))).2
              have g1 := (hd (7, 59) (by simp) (by kernel_rfl) (.inr (by simp [insCX]))).2
              clear hd
              simp only [insGX] at g0 g1
              refine ⟨?_⟩
              simp only [over, Act.put, List.getElem_toArray, List.getElem_cons_zero, List.getElem_cons_succ, List.map_cons, List.map_nil, List.foldl_cons, List.foldl_nil, List.setIfInBounds_toArray, List.set_cons_zero, List.set_cons_succ] at hK ⊢
              refine ite_wanted rfl ?_
              refine wp_appX W ?hg2 (.tmp 57) (.tmp 59) ?ho2 W0.heap.size (y 57) (Φ 5) k P1 ?hs2 (y 59) 1 _ ?hx2 g0 (votsAny_own g1.1) rfl (fun y' hy' => by simp only [List.mem_cons, List.not_mem_nil, or_false] at hy'; rcases hy' with rfl | rfl | rfl | rfl | rfl | rfl <;> rfl) (by omega) hBW.size ?_
              case hg2 => rfl
              case ho2 => rfl
              case hs2 => rfl
              case hx2 => rfl
              intro v' w' hO hm hl
              refine hK _ _ (fun b => v'.ownBlock = some b) (hm.mono (fun b hb => ⟨5, by simp [insCX], hb⟩)) (fun b hb => (hl b hb).imp (fun h => ⟨5, by simp [insCX], h⟩) (fun h => h)) ?_
              simp only [insGX, updV]
              simpa using hO
            · have g0 := (hd (8, 60) (by simp) (by kernel_rfl) (.inl (by simp [insCX]))).2
              clear hd
              simp only [insGX] at g0
              refine ⟨?_⟩
              simp only [over, Act.put, List.getElem_toArray, List.getElem_cons_zero, List.getElem_cons_succ, List.map_cons, List.map_nil, List.foldl_cons, List.foldl_nil, List.setIfInBounds_toArray, List.set_cons_zero, List.set_cons_succ] at hK ⊢
              have hsrc := HS2.out W hBW
              refine ite_wanted rfl ?_
              refine wp_appX W ?hg3 (.tmp 60) (.tmp 64) ?ho3 W0.heap.size (y 60) (Φ 8) (k + 1) _ ?hs3 (.slice (some ⟨g, k * 6, none⟩) 0 (cc - k)) (k - k) P2 ?hx3 g0 hsrc HP2.out H1P2.out (by omega) hBW.size ?_
              case hg3 => rfl
              case ho3 => rfl
              case hs3 => rfl
              case hx3 => rfl
              intro v' w' hO hm hl
              refine hK _ _ (fun b => v'.ownBlock = some b) (hm.mono (fun b hb => ⟨8, by simp [insCX], hb⟩)) (fun b hb => (hl b hb).imp (fun h => ⟨8, by simp [insCX], h⟩) (fun h => h)) ?_
              simp only [insGX, updV]
              have e9 : k + 1 + (k - k) = k + 1 := by omega
              rw [e9] at hO
              simpa using hO
            · clear hd
              refine ⟨?_⟩
              simp only [over, Act.put, List.getElem_toArray, List.getElem_cons_zero, List.getElem_cons_succ, List.map_cons, List.map_nil, List.foldl_cons, List.foldl_nil, List.setIfInBounds_toArray, List.set_cons_zero, List.set_cons_succ] at hK ⊢
              go_simp
              refine hK _ _ (fun _ => False) (Mod.refl _ _) (fun b hb => hb.elim) ?_
              simp only [insGX, updV]
              rfl
          · refine ⟨_, rfl, ?_⟩
            intro y W Φ hSW hBW hd hap K hK
            have g13 := (hd (13, 65) (by simp) (by simp [insCX])).2
            have g14 := (hd (14, 66) (by simp) (by simp [insCX])).2
            clear hd hap
            simp only [insGX] at g13 g14
            have g13' := g13.1
            clear g13
            have hform : ∃ g9 c9, y 65 = .slice (some ⟨g9, 0, none⟩) (k + 1) c9 := by
              rcases g13'.2 with ⟨_, h⟩ | ⟨g9, c9, _, h, _⟩
              · omega
              · exact ⟨g9, c9, h⟩
            obtain ⟨g9, c9, e9⟩ := hform
            have hBw2 : Below w.heap.size w W := bstep hBz hBW
            have HIn : Hid (∃ F', sltsR.O W base F' (.slice (some ⟨g9, 0, none⟩) (k + 1) c9) (putS xs s) ∧ ∀ b, F' b → F1 b ∨ Fs b ∨ W0.heap.size ≤ b) := by
              have h1 : (fun (P Q : List Value) => W.ownsRow base 91 6 (.slice (some ⟨g9, 0, none⟩) (k + 1) c9) (xs.length + 1) (P ++ lvSlt (.agg #[.int .i64 s.con, .int .i64 s.sh, .int .i64 s.pr, .int .i64 s.lb, .int .i64 s.lv, .slice p s.cast.length q]) ++ Q)) (cs.take (k * 6)) (cs.drop (k * 6)) := by
                rw [HP12.out.1, HP12.out.2, HN.out, ← e9]
                exact owns_base g13' (by omega)
              have h0 : PO sltR 91 6 lvSlt W0 base (.slice (some ⟨g, 0, none⟩) k cc) xs.length xs.length (fun i => xs.getD i default) cs us fs := ⟨owns_base HPW.out.row (by omega), fun i hi => sltR.base (HPW.out.el i hi) (by omega), HPW.out.ln, HPW.out.cell, HPW.out.out, HPW.out.sep⟩
              have h2 := NO.ins h0 HFF.out (i := k) (by rw [HN.out]; omega) HUW.out rfl HDs.out h1 (Mod.of_below hBW) (fun b hb => .inr (by have := (g13'.lt b (by rw [e9]; exact hb)).1; omega))
              rw [HPut.out]
              exact h2
            refine ⟨?_⟩
            simp only [over, Act.put, List.getElem_toArray, List.getElem_cons_zero, List.getElem_cons_succ, List.map_cons, List.map_nil, List.foldl_cons, List.foldl_nil, List.setIfInBounds_toArray, List.set_cons_zero, List.set_cons_succ]
            simp only [e9, g14] at g13' ⊢
            obtain ⟨hs1, hs2, hs3⟩ := hSW
            have tfW : ∀ o, W.frozen? ⟨w1.heap.size, o, none⟩ = false := fun o => by rw [(bcell hBW).2 _ _ hwZ, (bcell hZ0).2 _ _ hzZ]; exact tf o
            have rW : W.cell? ⟨w.heap.size + 2, 0, none⟩ = some (.slice none 0 0) := cell_keep hBW (cell_keep hZ0 r0)
            have rfW : ∀ o, W.frozen? ⟨w.heap.size + 2, o, none⟩ = false := fun o => by rw [(bcell hBW).2 _ _ (by omega), (bcell hZ0).2 _ _ (by omega)]; exact rf o
            have zW : w1.heap.size < W.heap.size := World.block_lt_of_cell? W _ hs2
            go_simp
            refine hK _ _ ?_
            clear hK K
            refine NoPanic.normal ?_
            obtain ⟨F', o9, hF9⟩ := HIn.out
            have HO9 : Hid (sltsR.O W base F' (.slice (some ⟨g9, 0, none⟩) (k + 1) c9) (putS xs s)) := o9
            have HF9 : Hid (∀ b, F' b → b ≠ w1.heap.size ∧ b ≠ w.heap.size + 2) := fun b hb => by
              rcases hF9 b hb with h | h | h
              · have := HFl.out b h; omega
              · have := HFs.out b h; omega
              · omega
            have HF8 : Hid (∀ b, F' b → Fs b ∨ w.heap.size ≤ b) := fun b hb => by
              rcases hF9 b hb with h | h | h
              · have := HFl.out b h; exact .inr (by omega)
              · exact .inl h
              · exact .inr (by omega)
            clear o9 hF9 HIn g13' HS1 HS2 hS hs3
            go_wp2
            refine bodyPost_ret (v := .tuple #[.agg #[.slice (some ⟨g9, 0, none⟩) (k + 1) c9], .bool true]) (by simp [results, Try.results103, go_sem, rW, rfW, hs2, tfW]) rfl ?_
            refine ⟨_, _, _, by rw [hdec], by (repeat (first | refine bset ?_ (by simp; omega) _ | refine bset ?_ (by simp) _ | refine balloc ?_ _ | assumption)), fun _ => ⟨by rw [HD.out], F', ⟨_, F', rfl, ?_, fun b => Iff.rfl⟩, HF8.out⟩⟩
            exact Rep.setN _ (Rep.setN _ HO9.out _ (fun hb => (HF9.out _ hb).1 rfl)) _ (fun hb => (HF9.out _ hb).2 rfl)
end Go.Proofs.Ytncmdeijimgchaa

/-
  A new slot, said plainly.
-/
set_option linter.unusedSimpArgs false
set_option linter.unusedVariables false
namespace Go.Proofs.Ytncmdeijimgchaa
open Go.RowKit
set_option linter.unusedSectionVars false
variable [DecidableEq Vot] [Inhabited Vot] [DecidableEq Slt] [Inhabited Slt] [DecidableEq SltR] [Inhabited SltR] [DecidableEq Bal] [Inhabited Bal] [DecidableEq Ledg] [Inhabited Ledg] [DecidableEq Leg] [Inhabited Leg] [DecidableEq Acc] [Inhabited Acc] [DecidableEq AccR] [Inhabited AccR] [DecidableEq AccsR] [Inhabited AccsR] [DecidableEq SltsR] [Inhabited SltsR]
attribute [local go_sem ↓] Go.wp_at_zero Go.wp_at_succ

def NewE (c s : Int) (W : World) (e : Ending) (w' : World) : Prop :=
  ∃ p q F, e = .returned (.agg #[.int .i64 0, .int .i64 0, .int .i64 0, .int .i64 c, .int .i64 s, .int .i64 (-1), .int .i64 (-1), .int .i64 0, .slice p 0 q]) ∧ sltR.O w' W.heap.size F (.agg #[.int .i64 c, .int .i64 s, .int .i64 (-1), .int .i64 (-1), .int .i64 0, .slice p 0 q]) (freS c s) ∧ Below W.heap.size W w'
theorem slotField (a b c d e f g h : Int) (p : Option Addr) (n q : Nat) (w : World) : (Instr.field 93 (.agg #[.int .i64 a, .int .i64 b, .int .i64 c, .int .i64 d, .int .i64 e, .int .i64 f, .int .i64 g, .int .i64 h, .slice p n q]) 2).run Try.prog w = .ok (.agg #[.int .i64 d, .int .i64 e, .int .i64 f, .int .i64 g, .int .i64 h, .slice p n q]) w := by kernel_rfl
theorem newE_of {c s : Int} {W : World} {e : Ending} {w' : World} (h : ∃ v F, e = .returned v ∧ sltRR.O w' W.heap.size F v ⟨0, 0, 0, freS c s⟩ ∧ Below W.heap.size W w') : NewE c s W e w' := by
  obtain ⟨v, F, rfl, h, hb⟩ := h
  obtain ⟨u, F1, rfl, h1, _⟩ := h
  obtain ⟨p, q, e, _⟩ := slt_cells h1
  simp only [freS, Value.agg.injEq, Array.mk.injEq, List.cons.injEq, and_true, true_and, List.length_nil] at e
  subst e
  exact ⟨p, q, F1, rfl, h1, hb⟩
theorem specNew_ok (c s : Int) (W : World) (h : idOk c s = true) : Calls Try.prog 102 #[.int .i64 c, .int .i64 s] W (NewE c s W) := by
  refine (specNewS_u c s W).mono ?_
  intro e w' h1
  rw [newSlt_ok h] at h1
  exact newE_of h1
theorem implNew_ok (c s : Int) (W : World) (h : idOk c s = true) : Calls Try.prog 55 #[.int .i64 c, .int .i64 s] W (NewE c s W) := by
  refine (implNewS_u c s W).mono ?_
  intro e w' h1
  rw [newSlt_ok h] at h1
  exact newE_of h1
def NewB (W : World) (e : Ending) (w' : World) : Prop :=
  e = .returned (.agg #[.int .i64 3, .int .i64 0, .int .i64 0, .int .i64 0, .int .i64 0, .int .i64 0, .int .i64 0, .int .i64 0, .slice none 0 0]) ∧ Below W.heap.size W w'
set_option maxHeartbeats 1000000 in
theorem specNew_bad (c s : Int) (W : World) (h : idOk c s = false) : Calls Try.prog 102 #[.int .i64 c, .int .i64 s] W (NewB W) := by
  unfold idOk at h
  cases h1 : inB c 1 1000000000
  · go_enter Try.func102, Try.ntmps102
    go_wp2_with (first | (go_at_call 127; refine (l1Id_any _ _).mono ?_; rintro e w' ⟨rfl, rfl⟩; rw [h1]) | (go_at_call 99; refine (l1In_any _ _ _ _).mono ?_; rintro e w' ⟨rfl, rfl⟩))
    exact bodyPost_ret (v := .agg #[.int .i64 3, .int .i64 0, .int .i64 0, .int .i64 0, .int .i64 0, .int .i64 0, .int .i64 0, .int .i64 0, .slice none 0 0]) (by simp [results, Try.results102, go_sem]) rfl ⟨rfl, by (repeat (first | exact Below.refl _ _ | assumption | refine Below.drew ?_ | refine balloc ?_ _ | refine bset ?_ (by simp; omega) _ | refine bset ?_ (by simp) _ | refine bstep ?_ (by assumption)))⟩
  · rw [h1, Bool.true_and] at h
    go_enter Try.func102, Try.ntmps102
    go_wp2_with (first | (go_at_call 127; refine (l1Id_any _ _).mono ?_; rintro e w' ⟨rfl, rfl⟩; rw [h1]) | (go_at_call 99; refine (l1In_any _ _ _ _).mono ?_; rintro e w' ⟨rfl, rfl⟩; rw [h]))
    exact bodyPost_ret (v := .agg #[.int .i64 3, .int .i64 0, .int .i64 0, .int .i64 0, .int .i64 0, .int .i64 0, .int .i64 0, .int .i64 0, .slice none 0 0]) (by simp [results, Try.results102, go_sem]) rfl ⟨rfl, by (repeat (first | exact Below.refl _ _ | assumption | refine Below.drew ?_ | refine balloc ?_ _ | refine bset ?_ (by simp; omega) _ | refine bset ?_ (by simp) _ | refine bstep ?_ (by assumption)))⟩
set_option maxHeartbeats 1000000 in
theorem implNew_bad (c s : Int) (W : World) (h : idOk c s = false) : Calls Try.prog 55 #[.int .i64 c, .int .i64 s] W (NewB W) := by
  unfold idOk at h
  cases h1 : inB c 1 1000000000
  · go_enter Try.func55, Try.ntmps55
    go_wp2_with (first | (go_at_call 85; refine (isId_any _ _).mono ?_; rintro e w' ⟨rfl, rfl⟩; rw [h1]) | (go_at_call 97; refine (isShard_any _ _).mono ?_; rintro e w' ⟨rfl, rfl⟩))
    exact bodyPost_ret (v := .agg #[.int .i64 3, .int .i64 0, .int .i64 0, .int .i64 0, .int .i64 0, .int .i64 0, .int .i64 0, .int .i64 0, .slice none 0 0]) (by simp [results, Try.results55, go_sem]) rfl ⟨rfl, by (repeat (first | exact Below.refl _ _ | assumption | refine Below.drew ?_ | refine balloc ?_ _ | refine bset ?_ (by simp; omega) _ | refine bset ?_ (by simp) _ | refine bstep ?_ (by assumption)))⟩
  · rw [h1, Bool.true_and] at h
    go_enter Try.func55, Try.ntmps55
    go_wp2_with (first | (go_at_call 85; refine (isId_any _ _).mono ?_; rintro e w' ⟨rfl, rfl⟩; rw [h1]) | (go_at_call 97; refine (isShard_any _ _).mono ?_; rintro e w' ⟨rfl, rfl⟩; rw [h]))
    exact bodyPost_ret (v := .agg #[.int .i64 3, .int .i64 0, .int .i64 0, .int .i64 0, .int .i64 0, .int .i64 0, .int .i64 0, .int .i64 0, .slice none 0 0]) (by simp [results, Try.results55, go_sem]) rfl ⟨rfl, by (repeat (first | exact Below.refl _ _ | assumption | refine Below.drew ?_ | refine balloc ?_ _ | refine bset ?_ (by simp; omega) _ | refine bset ?_ (by simp) _ | refine bstep ?_ (by assumption)))⟩
end Go.Proofs.Ytncmdeijimgchaa

