import Derived.Test.YtncmdeijimgchaaPrnAcceptAtLaw13
import Derived.Test.YtncmdeijimgchaaPrnAcceptAtLaw8
import Derived.Test.YtncmdeijimgchaaPrnAcceptAtLaw11
import Derived.Test.YtncmdeijimgchaaPrnAcceptAtLaw4
import Derived.BigQuiet
import Derived.Deep.QuietTactic
import Derived.Deep.RegionHeld3
import Derived.Test.YtncmdeijimgchaaPrnAcceptAtLaw9
import Derived.Test.YtncmdeijimgchaaPrnAcceptAtLaw10
import Derived.Test.YtncmdeijimgchaaPrnAcceptAtLaw6
import Derived.Test.YtncmdeijimgchaaPrnAcceptAtLaw12

/-
  PromiseAt, AcceptAt, the document's.
-/
set_option linter.unusedSimpArgs false
set_option linter.unusedVariables false
namespace Go.Proofs.Ytncmdeijimgchaa
open Go.RowKit
set_option linter.unusedSectionVars false
variable [DecidableEq Vot] [Inhabited Vot] [DecidableEq Slt] [Inhabited Slt] [DecidableEq Bal] [Inhabited Bal] [DecidableEq Ledg] [Inhabited Ledg] [DecidableEq Leg] [Inhabited Leg] [DecidableEq Acc] [Inhabited Acc] [DecidableEq SltR] [Inhabited SltR] [DecidableEq AccR] [Inhabited AccR] [DecidableEq AccsR] [Inhabited AccsR] [DecidableEq SltsR] [Inhabited SltsR]
attribute [local go_sem ↓] Go.wp_at_zero Go.wp_at_succ

set_option maxRecDepth 20000 in
set_option maxHeartbeats 4000000 in
theorem specAccAt_u (x : Value) (d : Acc) (c s b vl : Int) (w : World) (hx : accR.V w x d) :
    Calls Try.prog 30 #[x, .int .i64 c, .int .i64 s, .int .i64 b, .int .i64 vl] w (AskE (accAtD d.slots c s b vl) w) := by
  have hX := hx
  obtain ⟨u1, rfl, hx⟩ := hx
  obtain ⟨xs⟩ := d
  dsimp only at hx hX ⊢
  have HAs : Hid (∀ W, Below w.heap.size w W → Calls Try.prog 65 #[.agg #[u1], .int .i64 c, .int .i64 s] W fun e w' => e = .returned (.int .i64 (if accF xs = 0 then (if idOk c s = true then 0 else 3) else accF xs)) ∧ Below W.heap.size W w') := fun W hW => l9Asked_any _ ⟨xs⟩ c s W (accR.below hX hW)
  have HSl : Hid (∀ W, Below w.heap.size w W → AccOk xs → idOk c s = true → Calls Try.prog 68 #[.agg #[u1], .int .i64 c, .int .i64 s] W fun e w' => ∃ v F, e = .returned v ∧ sltR.O w' W.heap.size F v (slotO xs (freS c s)) ∧ Below W.heap.size W w') := fun W hW hok hid => l9Slot_u _ ⟨xs⟩ c s W (accR.below hX hW) hid (accOk_cast hok)
  have HTd : Hid (∀ W r p q base F, Below w.heap.size w W → AccOk xs → sltR.O W base F (.agg #[.int .i64 r.slot.con, .int .i64 r.slot.sh, .int .i64 r.slot.pr, .int .i64 r.slot.lb, .int .i64 r.slot.lv, .slice p r.slot.cast.length q]) r.slot → base ≤ W.heap.size → Calls Try.prog 66 #[.agg #[u1], .agg #[.int .i64 r.code, .int .i64 r.ob, .int .i64 r.ov, .int .i64 r.slot.con, .int .i64 r.slot.sh, .int .i64 r.slot.pr, .int .i64 r.slot.lb, .int .i64 r.slot.lv, .slice p r.slot.cast.length q]] W (AskB (toldD xs r) base W)) := fun W r p q base F hW hok hu hb => l9Told_u _ ⟨xs⟩ r p q base F W (accR.below hX hW) hok hu hb
  clear hX
  obtain ⟨au, cu, rfl⟩ := slts_form hx
  clear hx
  generalize xs.length = n at *
  go_enter Try.func30, Try.ntmps30
  go_wp2_with fail
  refine (HAs.out _ (by (repeat (first | exact Below.refl _ _ | assumption | refine Below.drew ?_ | refine balloc ?_ _ | refine bset ?_ (by simp; omega) _ | refine bset ?_ (by simp) _ | refine bstep ?_ (by assumption))))).mono ?_
  rintro e w1 ⟨rfl, hb1⟩
  have hB1 : Below w.heap.size w w1 := by (repeat (first | exact Below.refl _ _ | assumption | refine Below.drew ?_ | refine balloc ?_ _ | refine bset ?_ (by simp; omega) _ | refine bset ?_ (by simp) _ | refine bstep ?_ (by assumption)))
  have hz1 := hb1.size
  simp at hz1
  obtain ⟨c1, f1⟩ := bcell hb1
  have y0 : w1.cell? ⟨w.heap.size, 0, none⟩ = some (.slice au n cu) := cell_keep hb1 (by simp [go_sem])
  have r0 : w1.cell? ⟨w.heap.size + 1, 0, none⟩ = some (.int .i64 0) := cell_keep hb1 (by simp [go_sem])
  have r1 : w1.cell? ⟨w.heap.size + 1, 1, none⟩ = some (.int .i64 0) := cell_keep hb1 (by simp [go_sem])
  have r2 : w1.cell? ⟨w.heap.size + 1, 2, none⟩ = some (.int .i64 0) := cell_keep hb1 (by simp [go_sem])
  have r3 : w1.cell? ⟨w.heap.size + 1, 3, none⟩ = some (.slice none 0 0) := cell_keep hb1 (by simp [go_sem])
  have rf : ∀ o, w1.frozen? ⟨w.heap.size + 1, o, none⟩ = false := fun o => by rw [f1 _ _ (by simp; try omega)]; simp [go_sem]
  clear hb1 c1 f1 HAs
  by_cases hf : accF xs = 0
  rotate_left
  · rw [if_neg hf]
    have HC : Hid (accAtD xs c s b vl = errA (accF xs)) := by show _ = _; unfold accAtD; rw [if_neg hf]
    clear HSl HTd
    generalize accF xs = k at *
    have hf' : (k != 0) = true := by simp [hf]
    go_wp2
    exact bodyPost_ret (v := .agg #[.int .i64 k, .int .i64 0, .int .i64 0, .slice none 0 0]) (by simp [results, Try.results30, go_sem, r0, r1, r2, r3, rf]) rfl (askE_err HC.out (by (repeat (first | refine bset ?_ (by simp; omega) _ | refine bset ?_ (by simp) _ | refine balloc ?_ _ | assumption))))
  rw [if_pos hf]
  have HOK : Hid (AccOk xs) := accOk_of hf
  have HF : Hid (accF xs = 0) := hf
  clear hf
  cases hid : idOk c s
  · have HC : Hid (accAtD xs c s b vl = errA 3) := by show _ = _; unfold accAtD; rw [if_pos HF.out, hid]; rfl
    rw [if_neg (by simp)]
    clear HSl HTd
    go_wp2
    exact bodyPost_ret (v := .agg #[.int .i64 3, .int .i64 0, .int .i64 0, .slice none 0 0]) (by simp [results, Try.results30, go_sem, r0, r1, r2, r3, rf]) rfl (askE_err HC.out (by (repeat (first | refine bset ?_ (by simp; omega) _ | refine bset ?_ (by simp) _ | refine balloc ?_ _ | assumption))))
  rw [if_pos rfl]
  have HD : Hid (∀ r, accD (slotO xs (freS c s)) b vl = r → accAtD xs c s b vl = toldD xs r) := fun r h => by unfold accAtD; rw [if_pos HF.out, hid, if_pos rfl, h]
  have HSf : Hid (sltFault (slotO xs (freS c s)) = 0) := slotO_ok HOK.out hid
  have HID : Hid (idOk c s = true) := hid
  clear hid HF
  have zy : w.heap.size < w1.heap.size := World.block_lt_of_cell? w1 _ y0
  have zr : w.heap.size + 1 < w1.heap.size := World.block_lt_of_cell? w1 _ r0
  go_wp2
  refine wp_region_noPanic ?_
  refine region_upto (fun W => Below w1.heap.size w1 W ∧ W.cell? ⟨w.heap.size, 0, none⟩ = some (.slice au n cu)) 9 (by kernel_rfl) ⟨by (repeat (first | exact Below.refl _ _ | assumption | refine Below.drew ?_ | refine balloc ?_ _ | refine bset ?_ (by simp; omega) _ | refine bset ?_ (by simp) _ | refine bstep ?_ (by assumption))), cell_keep (by (repeat (first | exact Below.refl _ _ | assumption | refine Below.drew ?_ | refine balloc ?_ _ | refine bset ?_ (by simp; omega) _ | refine bset ?_ (by simp) _ | refine bstep ?_ (by assumption)))) y0⟩ (fun hS => ?_)
  refine upto_take (i := 0) (v := ?_) rfl (by kernel_rfl) (by kernel_rfl) (by kernel_rfl) (by kernel_rfl) (fun _ _ _ h => h) (by rfl) hS ?_ ?_
  rotate_left
  · intro wS hSw
    try dsimp only at hSw
    first | (go_simp; done) | (go_simp; with_reducible rfl)
  try simp only [Act.put, List.getElem_toArray, List.getElem_cons_zero, List.getElem_cons_succ, List.setIfInBounds_toArray, List.set_cons_zero, List.set_cons_succ]
  refine upto_take (i := 1) (v := ?_) rfl (by kernel_rfl) (by kernel_rfl) (by kernel_rfl) (by kernel_rfl) (fun _ _ _ h => h) (by rfl) hS ?_ ?_
  rotate_left
  · intro wS hSw
    try dsimp only at hSw
    first | (go_simp; done) | (go_simp; with_reducible rfl)
  try simp only [Act.put, List.getElem_toArray, List.getElem_cons_zero, List.getElem_cons_succ, List.setIfInBounds_toArray, List.set_cons_zero, List.set_cons_succ]
  refine upto_take (i := 2) (v := ?_) rfl (by kernel_rfl) (by kernel_rfl) (by kernel_rfl) (by kernel_rfl) (fun _ _ _ h => h) (by rfl) hS ?_ ?_
  rotate_left
  · intro wS hSw
    try dsimp only at hSw
    first | (go_simp; done) | (go_simp; with_reducible rfl)
  try simp only [Act.put, List.getElem_toArray, List.getElem_cons_zero, List.getElem_cons_succ, List.setIfInBounds_toArray, List.set_cons_zero, List.set_cons_succ]
  refine upto_take (i := 3) (v := ?_) rfl (by kernel_rfl) (by kernel_rfl) (by kernel_rfl) (by kernel_rfl) (fun _ _ _ h => h) (by rfl) hS ?_ ?_
  rotate_left
  · intro wS hSw
    try dsimp only at hSw
    first | (go_simp; done) | (go_simp; with_reducible rfl)
  try simp only [Act.put, List.getElem_toArray, List.getElem_cons_zero, List.getElem_cons_succ, List.setIfInBounds_toArray, List.set_cons_zero, List.set_cons_succ]
  refine upto_take (i := 5) (v := ?_) rfl (by kernel_rfl) (by kernel_rfl) (by kernel_rfl) (by kernel_rfl) (fun _ _ _ h => h) (by rfl) hS ?_ ?_
  rotate_left
  · intro wS hSw
    try dsimp only at hSw
    first | (go_simp; done) | (go_simp; with_reducible rfl)
  try simp only [Act.put, List.getElem_toArray, List.getElem_cons_zero, List.getElem_cons_succ, List.setIfInBounds_toArray, List.set_cons_zero, List.set_cons_succ]
  refine upto_take (i := 6) (v := ?_) rfl (by kernel_rfl) (by kernel_rfl) (by kernel_rfl) (by kernel_rfl) (fun _ _ _ h => h) (by rfl) hS ?_ ?_
  rotate_left
  · intro wS hSw
    try dsimp only at hSw
    first | (go_simp; done) | (go_simp; with_reducible rfl)
  try simp only [Act.put, List.getElem_toArray, List.getElem_cons_zero, List.getElem_cons_succ, List.setIfInBounds_toArray, List.set_cons_zero, List.set_cons_succ]
  have hbd : Below w1.heap.size w1 w1.drew := Below.drew (Below.refl _ _)
  refine upto_step (i := 4) (by kernel_rfl) rfl ?_
  intro K hK
  go_simp
  refine (HSl.out _ (bstep hB1 hbd) HOK.out HID.out).mono ?_
  rintro e w2 ⟨v2, F2, rfl, o2, hb2⟩
  obtain ⟨d2, hd2⟩ : ∃ d2, d2 = slotO xs (freS c s) := ⟨_, rfl⟩
  rw [← hd2] at o2 HSf HD
  clear hd2
  obtain ⟨p2, q2, rfl, _⟩ := slt_cells o2
  have hB12 : Below w1.heap.size w1 w2 := bstep hbd hb2
  have hS2 : (fun W => Below w1.heap.size w1 W ∧ W.cell? ⟨w.heap.size, 0, none⟩ = some (.slice au n cu)) w2 := ⟨hB12, cell_keep hB12 y0⟩
  refine hK _ _ (fun _ => hS2) ?_
  clear hK K
  try simp only [Act.put, List.getElem_toArray, List.getElem_cons_zero, List.getElem_cons_succ, List.setIfInBounds_toArray, List.set_cons_zero, List.set_cons_succ]
  have HV2 : Hid (∀ W, Below w2.heap.size w2 W → Calls Try.prog 74 #[.agg #[.int .i64 d2.con, .int .i64 d2.sh, .int .i64 d2.pr, .int .i64 d2.lb, .int .i64 d2.lv, .slice p2 d2.cast.length q2], .int .i64 b, .int .i64 vl] W fun e w' => ∃ v F, e = .returned v ∧ sltRR.O w' W.heap.size F v (accD d2 b vl) ∧ Below W.heap.size W w') := fun W hW => specAcc_u _ d2 b vl W (sltR.below (sltR.ofO o2) hW) (by have := (sltOk_of HSf.out).len; unfold wtSlt wtVots; omega)
  refine upto_step (i := 7) (by kernel_rfl) rfl ?_
  intro K hK
  go_simp
  refine (HV2.out _ (Below.refl _ _)).mono ?_
  rintro e w3 ⟨v3, F3, rfl, o3, hb3⟩
  obtain ⟨r, hr⟩ : ∃ r, r = accD d2 b vl := ⟨_, rfl⟩
  rw [← hr] at o3
  have HDr : Hid (accAtD xs c s b vl = toldD xs r) := HD.out r hr.symm
  clear hr
  obtain ⟨p3, q3, rfl, o3s⟩ := sltR_cells o3
  have hB13 : Below w1.heap.size w1 w3 := bstep hB12 hb3
  have hS3 : (fun W => Below w1.heap.size w1 W ∧ W.cell? ⟨w.heap.size, 0, none⟩ = some (.slice au n cu)) w3 := ⟨hB13, cell_keep hB13 y0⟩
  refine hK _ _ (fun _ => hS3) ?_
  clear hK K HV2 HD HSf
  try simp only [Act.put, List.getElem_toArray, List.getElem_cons_zero, List.getElem_cons_succ, List.setIfInBounds_toArray, List.set_cons_zero, List.set_cons_succ]
  have hz3 := hB12.size
  have hz4 := hb3.size
  have hB3 : Below w.heap.size w w3 := bstep hB1 hB13
  have HT3 : Hid (Calls Try.prog 66 #[.agg #[.slice au n cu], .agg #[.int .i64 r.code, .int .i64 r.ob, .int .i64 r.ov, .int .i64 r.slot.con, .int .i64 r.slot.sh, .int .i64 r.slot.pr, .int .i64 r.slot.lb, .int .i64 r.slot.lv, .slice p3 r.slot.cast.length q3]] w3 (AskB (toldD xs r) (w.heap.size + 2) w3)) := HTd.out w3 r p3 q3 (w.heap.size + 2) F3 hB3 HOK.out (sltR.base o3s (by omega)) (by omega)
  refine upto_step (i := 8) (by kernel_rfl) rfl ?_
  intro K hK
  go_simp
  refine HT3.out.mono ?_
  rintro e w4 ⟨v4, F4, rfl, o4, hb4⟩
  obtain ⟨R, hR⟩ : ∃ R, R = accAtD xs c s b vl := ⟨_, rfl⟩
  rw [← HDr.out, ← hR] at o4
  have HRR : Hid (R = accAtD xs c s b vl) := hR
  clear hR HDr
  obtain ⟨av, cv, rfl, o5⟩ := accR_cells o4
  have hB14 : Below w1.heap.size w1 w4 := bstep hB13 hb4
  have hS4 : (fun W => Below w1.heap.size w1 W ∧ W.cell? ⟨w.heap.size, 0, none⟩ = some (.slice au n cu)) w4 := ⟨hB14, cell_keep hB14 y0⟩
  refine hK _ _ (fun _ => hS4) ?_
  clear hK K
  try simp only [Act.put, List.getElem_toArray, List.getElem_cons_zero, List.getElem_cons_succ, List.setIfInBounds_toArray, List.set_cons_zero, List.set_cons_succ]
  have hB4 : Below w.heap.size w w4 := bstep hB1 hB14
  replace r0 := cell_keep hB14 r0
  replace r1 := cell_keep hB14 r1
  replace r2 := cell_keep hB14 r2
  replace r3 := cell_keep hB14 r3
  replace rf : ∀ o, w4.frozen? ⟨w.heap.size + 1, o, none⟩ = false := fun o => by rw [(bcell hB14).2 _ _ (by omega)]; exact rf o
  have HFl : Hid (∀ b, F4 b → w.heap.size + 2 ≤ b) := fun b hb => (accR.rng o5 b hb).1
  have HO : Hid (accR.O w4 w.heap.size F4 (.agg #[.slice av R.acc.slots.length cv]) R.acc) := accR.base o5 (by omega)
  clear o4 o5 o3 o3s o2 HTd HSl HT3
  refine upto_step (i := 9) (by kernel_rfl) rfl ?_
  intro K hK
  go_simp
  refine hK _ _ (fun h => absurd rfl h) ?_
  clear hK K
  refine upto_done (by kernel_rfl) ?_
  refine NoPanic.normal ?_
  clear hS hS2 hS3 hS4
  generalize hm : R.acc.slots.length = m at *
  go_wp2
  refine bodyPost_ret (v := .agg #[.int .i64 R.code, .int .i64 R.ob, .int .i64 R.ov, .slice av m cv]) (by simp [results, Try.results30, go_sem, r0, r1, r2, r3, rf]) rfl ?_
  rw [← HRR.out]
  refine ⟨_, F4, rfl, ⟨_, F4, rfl, ?_, fun b => Iff.rfl⟩, by (repeat (first | refine bset ?_ (by simp; omega) _ | refine bset ?_ (by simp) _ | refine balloc ?_ _ | assumption))⟩
  have hk : ∀ (W : World) (u : Value) (j : Nat), accR.O W w.heap.size F4 (.agg #[.slice av m cv]) R.acc → accR.O (W.setCell ⟨w.heap.size + 1, j, none⟩ u) w.heap.size F4 (.agg #[.slice av m cv]) R.acc := fun W u j h => Rep.setN _ h u (fun hb => by have := HFl.out _ hb; dsimp only at this; omega)
  exact hk _ _ _ (hk _ _ _ (hk _ _ _ (hk _ _ _ HO.out)))
end Go.Proofs.Ytncmdeijimgchaa

/-
  A slot put in its place, the program's.
-/
set_option linter.unusedSimpArgs false
set_option linter.unusedVariables false
namespace Go.Proofs.Ytncmdeijimgchaa
open Go.RowKit
set_option linter.unusedSectionVars false
variable [DecidableEq Vot] [Inhabited Vot] [DecidableEq Slt] [Inhabited Slt] [DecidableEq Bal] [Inhabited Bal] [DecidableEq Ledg] [Inhabited Ledg] [DecidableEq Leg] [Inhabited Leg] [DecidableEq Acc] [Inhabited Acc] [DecidableEq SltR] [Inhabited SltR] [DecidableEq AccR] [Inhabited AccR] [DecidableEq AccsR] [Inhabited AccsR] [DecidableEq SltsR] [Inhabited SltsR]
attribute [local go_sem ↓] Go.wp_at_zero Go.wp_at_succ

set_option maxRecDepth 20000 in
set_option maxHeartbeats 4000000 in
theorem withSlot_u (x : Value) (d : Acc) (s : Slt) (p : Option Addr) (q base : Nat) (Fs : Nat → Prop) (w : World) (hx : accR.V w x d) (hok : AccOk d.slots) (hu : sltR.O w base Fs (.agg #[.int .i64 s.con, .int .i64 s.sh, .int .i64 s.pr, .int .i64 s.lb, .int .i64 s.lv, .slice p s.cast.length q]) s) (hbase : base ≤ w.heap.size) (hw : ∀ k, k < d.slots.length → (d.slots.getD k default).cast.length ≤ 1048576) :
    Calls Try.prog 108 #[x, .agg #[.int .i64 s.con, .int .i64 s.sh, .int .i64 s.pr, .int .i64 s.lb, .int .i64 s.lv, .slice p s.cast.length q]] w fun e w' => ∃ v F, e = .returned v ∧ accR.O w' base F v ⟨putS d.slots s⟩ ∧ Below w.heap.size w w' := by
  have hX := hx
  obtain ⟨u1, rfl, hx⟩ := hx
  obtain ⟨xs⟩ := d
  dsimp only at hx hok hX hw ⊢
  have hlen := hok.len
  have HCp : Hid (∀ W, Below w.heap.size w W → Calls Try.prog 48 #[.agg #[u1]] W fun e w' => ∃ v F, e = .returned v ∧ accR.O w' W.heap.size F v ⟨xs⟩ ∧ Below W.heap.size W w') := fun W hW => copiedAcc_u _ ⟨xs⟩ W (accR.below hX hW) (by dsimp only; omega) hw
  have HPl : Hid (∀ W y, accR.V W y ⟨xs⟩ → Calls Try.prog 135 #[y, .agg #[.int .i64 s.con, .int .i64 s.sh, .int .i64 s.pr, .int .i64 s.lb, .int .i64 s.lv, .slice p s.cast.length q]] W fun e w' => PlE xs s W e w') := fun W y hy => placeIn_any y ⟨xs⟩ s _ W hy hok
  have HU : Hid (sltR.O w base Fs (.agg #[.int .i64 s.con, .int .i64 s.sh, .int .i64 s.pr, .int .i64 s.lb, .int .i64 s.lv, .slice p s.cast.length q]) s) := hu
  clear hu hX hok hw
  obtain ⟨au, cu, rfl⟩ := slts_form hx
  clear hx
  obtain ⟨n, hn'⟩ : ∃ n, n = xs.length := ⟨_, rfl⟩
  have HN : Hid (xs.length = n) := hn'.symm
  rw [← hn'] at hlen HCp ⊢
  clear hn'
  go_enter Try.func108, Try.ntmps108
  go_wp2_with fail
  refine (HCp.out _ (by (repeat (first | exact Below.refl _ _ | assumption | refine Below.drew ?_ | refine balloc ?_ _ | refine bset ?_ (by simp; omega) _ | refine bset ?_ (by simp) _ | refine bstep ?_ (by assumption))))).mono ?_
  rintro e w1 ⟨v1, F1, rfl, o1, hb1⟩
  obtain ⟨ac, cc, rfl, _⟩ := acc_cells o1
  have hB1 : Below w.heap.size w w1 := by (repeat (first | exact Below.refl _ _ | assumption | refine Below.drew ?_ | refine balloc ?_ _ | refine bset ?_ (by simp; omega) _ | refine bset ?_ (by simp) _ | refine bstep ?_ (by assumption)))
  have hz1 := hb1.size
  simp at hz1
  obtain ⟨c1, f1⟩ := bcell hb1
  have q0 : w1.cell? ⟨w.heap.size + 1, 0, none⟩ = some (.int .i64 s.con) := cell_keep hb1 (by simp [go_sem])
  have q1 : w1.cell? ⟨w.heap.size + 1, 1, none⟩ = some (.int .i64 s.sh) := cell_keep hb1 (by simp [go_sem])
  have q2 : w1.cell? ⟨w.heap.size + 1, 2, none⟩ = some (.int .i64 s.pr) := cell_keep hb1 (by simp [go_sem])
  have q3 : w1.cell? ⟨w.heap.size + 1, 3, none⟩ = some (.int .i64 s.lb) := cell_keep hb1 (by simp [go_sem])
  have q4 : w1.cell? ⟨w.heap.size + 1, 4, none⟩ = some (.int .i64 s.lv) := cell_keep hb1 (by simp [go_sem])
  have q5 : w1.cell? ⟨w.heap.size + 1, 5, none⟩ = some (.slice p s.cast.length q) := cell_keep hb1 (by simp [go_sem])
  have r0 : w1.cell? ⟨w.heap.size + 2, 0, none⟩ = some (.slice none 0 0) := cell_keep hb1 (by simp [go_sem])
  have rf : ∀ o, w1.frozen? ⟨w.heap.size + 2, o, none⟩ = false := fun o => by rw [f1 _ _ (by simp; try omega)]; simp [go_sem]
  have HO1 : Hid (sltsR.O w1 (w.heap.size + 3) F1 (.slice ac n cc) xs) := by
    obtain ⟨u, F2, e, h1, hF⟩ := o1
    simp only [Value.agg.injEq, Array.mk.injEq, List.cons.injEq, and_true] at e
    subst e
    have hFF : F1 = F2 := by funext b; exact propext (hF b)
    subst hFF
    rw [← HN.out]
    exact sltsR.base h1 (by simp)
  have HV1 : Hid (∀ W, Below w1.heap.size w1 W → accR.V W (.agg #[.slice ac n cc]) ⟨xs⟩) := fun W hW => accR.below (by rw [← HN.out]; exact accR.ofO o1) hW
  clear o1 hb1 c1 f1 HCp
  dsimp only
  rw [HN.out]
  have zq : w.heap.size + 1 < w1.heap.size := World.block_lt_of_cell? w1 _ q0
  have zr : w.heap.size + 2 < w1.heap.size := World.block_lt_of_cell? w1 _ r0
  go_wp2_with fail
  refine (HPl.out _ _ (HV1.out _ (by (repeat (first | exact Below.refl _ _ | assumption | refine Below.drew ?_ | refine balloc ?_ _ | refine bset ?_ (by simp; omega) _ | refine bset ?_ (by simp) _ | refine bstep ?_ (by assumption)))))).mono ?_
  rintro e w2 ⟨i, hi, rfl, h1, h2, hb2⟩
  have HA : Hid (∀ k, k < i → cmpS (xs.getD k default) s < 0) := h1
  have HB : Hid (∀ k, i ≤ k → k < xs.length → 0 ≤ cmpS (xs.getD k default) s) := h2
  clear h1 h2 HPl HV1
  have hB2 : Below w1.heap.size w1 w2 := by (repeat (first | exact Below.refl _ _ | assumption | refine Below.drew ?_ | refine balloc ?_ _ | refine bset ?_ (by simp; omega) _ | refine bset ?_ (by simp) _ | refine bstep ?_ (by assumption)))
  have hBw : Below w.heap.size w w2 := bstep hB1 hB2
  have hz2 := hb2.size
  simp at hz2
  have t0 : w2.cell? ⟨w1.heap.size, 0, none⟩ = some (.slice ac n cc) := cell_keep hb2 (by simp [go_sem])
  have tf : ∀ o, w2.frozen? ⟨w1.heap.size, o, none⟩ = false := fun o => by rw [(bcell hb2).2 _ _ (by simp)]; simp [go_sem]
  replace q0 := cell_keep hB2 q0
  replace q1 := cell_keep hB2 q1
  replace q2 := cell_keep hB2 q2
  replace q3 := cell_keep hB2 q3
  replace q4 := cell_keep hB2 q4
  replace q5 := cell_keep hB2 q5
  replace r0 := cell_keep hB2 r0
  replace rf : ∀ o, w2.frozen? ⟨w.heap.size + 2, o, none⟩ = false := fun o => by rw [(bcell hB2).2 _ _ (by omega)]; exact rf o
  have HO2 : Hid (sltsR.O w2 (w.heap.size + 3) F1 (.slice ac n cc) xs) := sltsR.keep HO1.out hB2
  have HU2 : Hid (sltR.O w2 base Fs (.agg #[.int .i64 s.con, .int .i64 s.sh, .int .i64 s.pr, .int .i64 s.lb, .int .i64 s.lv, .slice p s.cast.length q]) s) := sltR.keep HU.out hBw
  have HFl : Hid (∀ b, F1 b → w.heap.size + 3 ≤ b ∧ b < w1.heap.size) := fun b hb => sltsR.rng HO1.out b hb
  have HFs : Hid (∀ b, Fs b → b < w.heap.size) := fun b hb => (sltR.rng HU.out b hb).2
  have HD : Hid (∀ b, F1 b → ¬ Fs b) := fun b h1 h2 => by have := HFl.out b h1; have := HFs.out b h2; omega
  have HO3 : Hid (sltsR.O w2 (w.heap.size + 3) F1 (.slice ac xs.length cc) xs) := by show sltsR.O _ _ _ _ _; rw [HN.out]; exact HO2.out
  clear hb2 HO1 HU
  rw [HN.out] at hi
  by_cases hD : i < xs.length ∧ cmpS (xs.getD i default) s = 0
  · rw [decide_eq_true hD]
    have HS : Hid (putS xs s = xs.set i s) := putS_found HA.out hD.1 hD.2
    have hin : i < n := by rw [← HN.out]; exact hD.1
    clear hD
    have hrow : ∃ g, ac = some ⟨g, 0, none⟩ ∧ F1 g ∧ ∀ o, w2.frozen? ⟨g, o, none⟩ = false := by
      obtain ⟨cs, us, fs, hp, hF⟩ := HO3.out
      rcases hp.row.2 with ⟨_, h⟩ | ⟨g, cap, cur, h, _⟩
      · rw [HN.out] at h; omega
      · simp only [Value.slice.injEq] at h
        obtain ⟨rfl, _, rfl⟩ := h
        exact ⟨g, rfl, (hF g).2 (.inl rfl), fun o => hp.row.frozenAt o⟩
    obtain ⟨g, rfl, hg, gf⟩ := hrow
    have hgr := HFl.out g hg
    have hst := slts_store (base := base) (i := i) (sltsR.base HO3.out (by omega)) (by rw [HN.out]; exact hin) HU2.out HD.out
    obtain ⟨F3, o3, hm3, hF3⟩ := hst
    rw [HN.out] at o3
    have gcell : ∀ j, j < n * 6 → ∃ v, w2.cell? ⟨g, j, none⟩ = some v := fun j hj => by
      obtain ⟨cs, us, fs, hp, hF⟩ := HO3.out
      have h1 := hp.row.cellAt j (by rw [HN.out]; exact hj)
      have hl : j < cs.length := by rw [hp.row.1, HN.out]; exact hj
      rw [List.getElem?_eq_getElem hl] at h1
      exact ⟨_, h1⟩
    obtain ⟨k0, e0⟩ := gcell (i * 6) (by omega)
    obtain ⟨k1, e1⟩ := gcell (i * 6 + 1) (by omega)
    obtain ⟨k2, e2⟩ := gcell (i * 6 + 2) (by omega)
    obtain ⟨k3, e3⟩ := gcell (i * 6 + 3) (by omega)
    obtain ⟨k4, e4⟩ := gcell (i * 6 + 4) (by omega)
    obtain ⟨k5, e5⟩ := gcell (i * 6 + 5) (by omega)
    clear gcell
    have zg : g < w2.heap.size := World.block_lt_of_cell? w2 _ e0
    go_wp2
    refine bodyPost_ret (v := .agg #[.slice (some ⟨g, 0, none⟩) n cc]) ?_ rfl ⟨_, F3, rfl, ⟨_, F3, rfl, ?_, fun b => Iff.rfl⟩, ?_⟩
    · simp [results, Try.results108, go_sem, r0, rf, e0, e1, e2, e3, e4, e5, gf]
    · rw [HS.out]
      exact Rep.setN _ o3 _ (fun hb => by
        rcases hF3 _ hb with h | h
        · have := HFl.out _ h; dsimp only at this; omega
        · have := HFs.out _ h; dsimp only at this; omega)
    · exact bset (hm3.below hBw (by omega) (fun b hb => by omega)) (by dsimp only; omega) _
  · rw [decide_eq_false hD]
    have HS : Hid (putS xs s = xs.take i ++ [s] ++ xs.drop i) := putS_miss (by rw [HN.out]; exact hi) HA.out HB.out hD
    clear hD
    have HI : Hid (∀ W, W = w2.alloc (.cells #[.int .i64 s.con, .int .i64 s.sh, .int .i64 s.pr, .int .i64 s.lb, .int .i64 s.lv, .slice p s.cast.length q] 91) → Calls Try.prog 143 #[.slice ac n cc, .int .i64 i, .slice (some ⟨w2.heap.size, 0, none⟩) 1 1] W fun e w' =>
        ∃ v' F', e = .returned v' ∧ sltsR.O w' base F' v' (xs.take i ++ [s] ++ xs.drop i) ∧ Mod (fun b => (Value.slice ac n cc).ownBlock = some b) W w' ∧ (∀ b, F' b → F1 b ∨ Fs b ∨ W.heap.size ≤ b)) := fun W hW => by
      subst hW
      refine insertS_any base _ i _ xs _ s F1 Fs _ (sltsR.alloc (sltsR.base HO2.out (by omega)) _) (by rw [HN.out]; exact hi) (by rw [HN.out]; omega) (by simp; omega) (sltR.alloc HU2.out _) HD.out (by rw [heap_newS]; rfl) (fun e => ?_)
      obtain ⟨cs, us, fs, hp, hF⟩ := HO2.out
      have := (hp.row.lt _ e).2
      omega
    have HOb : Hid (∀ b, (Value.slice ac n cc).ownBlock = some b → F1 b) := fun b hb => by
      obtain ⟨cs, us, fs, hp, hF⟩ := HO2.out
      exact (hF b).2 (.inl hb)
    go_wp2_with fail
    refine (HI.out _ rfl).mono ?_
    rintro e w5 ⟨v5, F5, rfl, o5, hm5, hF5⟩
    obtain ⟨a5, c5, rfl⟩ := slts_form (sltsR.ofO o5)
    have HO5 : Hid (sltsR.O w5 base F5 (.slice a5 (n + 1) c5) (xs.take i ++ [s] ++ xs.drop i)) := by
      show sltsR.O _ _ _ _ _
      rw [len_ins, HN.out] at o5
      exact o5
    have HF5 : Hid (∀ b, F5 b → F1 b ∨ Fs b ∨ w2.heap.size + 1 ≤ b) := fun b hb => by simpa using hF5 b hb
    rw [len_ins, HN.out]
    have t5 : w5.cell? ⟨w1.heap.size, 0, none⟩ = some (.slice ac n cc) := hm5.cell (cell_keep (balloc (Below.refl _ w2) _) t0) (fun e => by have := HFl.out _ (HOb.out _ e); dsimp only at this; omega)
    have tf5 : ∀ o, w5.frozen? ⟨w1.heap.size, o, none⟩ = false := fun o => (hm5.frozen9 (a := ⟨w1.heap.size, o, none⟩) (by simp; omega) (fun e => by have := HFl.out _ (HOb.out _ e); dsimp only at this; omega)).trans (by rw [(bcell (balloc (Below.refl _ w2) _)).2 _ _ (by omega)]; exact tf o)
    have r5 : w5.cell? ⟨w.heap.size + 2, 0, none⟩ = some (.slice none 0 0) := hm5.cell (cell_keep (balloc (Below.refl _ w2) _) r0) (fun e => by have := HFl.out _ (HOb.out _ e); dsimp only at this; omega)
    have rf5 : ∀ o, w5.frozen? ⟨w.heap.size + 2, o, none⟩ = false := fun o => (hm5.frozen9 (a := ⟨w.heap.size + 2, o, none⟩) (by simp; omega) (fun e => by have := HFl.out _ (HOb.out _ e); dsimp only at this; omega)).trans (by rw [(bcell (balloc (Below.refl _ w2) _)).2 _ _ (by omega)]; exact rf o)
    have hB5 : Below w.heap.size w w5 := hm5.below (balloc hBw _) (by simp; omega) (fun b e => by have := HFl.out _ (HOb.out _ e); omega)
    have z5 := hm5.size
    simp at z5
    clear o5 hm5 hF5 t0 tf r0 rf HI q0 q1 q2 q3 q4 q5
    go_wp2
    refine bodyPost_ret (v := .agg #[.slice a5 (n + 1) c5]) ?_ rfl ⟨_, F5, rfl, ⟨_, F5, rfl, ?_, fun b => Iff.rfl⟩, ?_⟩
    · simp [results, Try.results108, go_sem, r5, rf5, t5, tf5]
    · rw [HS.out]
      refine Rep.setN _ (Rep.setN _ HO5.out _ (fun hb => ?_)) _ (fun hb => ?_)
      · rcases HF5.out _ hb with h | h | h
        · have := HFl.out _ h; dsimp only at this; omega
        · have := HFs.out _ h; dsimp only at this; omega
        · dsimp only at h; omega
      · rcases HF5.out _ hb with h | h | h
        · have := HFl.out _ h; dsimp only at this; omega
        · have := HFs.out _ h; dsimp only at this; omega
        · dsimp only at h; omega
    · exact bset (bset hB5 (by dsimp only; omega) _) (by dsimp only; omega) _
end Go.Proofs.Ytncmdeijimgchaa

/-
  The slot that is asked, the program's.
-/
set_option linter.unusedSimpArgs false
set_option linter.unusedVariables false
namespace Go.Proofs.Ytncmdeijimgchaa
open Go.RowKit
set_option linter.unusedSectionVars false
variable [DecidableEq Vot] [Inhabited Vot] [DecidableEq Slt] [Inhabited Slt] [DecidableEq SltR] [Inhabited SltR] [DecidableEq Bal] [Inhabited Bal] [DecidableEq Ledg] [Inhabited Ledg] [DecidableEq Leg] [Inhabited Leg] [DecidableEq Acc] [Inhabited Acc] [DecidableEq AccR] [Inhabited AccR] [DecidableEq AccsR] [Inhabited AccsR] [DecidableEq SltsR] [Inhabited SltsR]
attribute [local go_sem ↓] Go.wp_at_zero Go.wp_at_succ

theorem slotO_found {xs : List Slt} {q : Slt} {i : Nat} (hi : i < xs.length) (h1 : ∀ k, k < i → cmpS (xs.getD k default) q < 0) (h : cmpS (xs.getD i default) q = 0) : slotO xs q = xs.getD i default := by
  refine slotO_at hi (fun k hk => ?_) (sameS_iff.2 (cmpS_eq.1 h))
  cases e : sameS (xs.getD k default) q with
  | false => rfl
  | true => have h2 := h1 k hk; rw [cmpS_eq.2 (sameS_iff.1 e)] at h2; omega
theorem slotO_miss {xs : List Slt} {q : Slt} {i : Nat} (hok : AccOk xs) (h1 : ∀ k, k < i → cmpS (xs.getD k default) q < 0) (h2 : ∀ k, i ≤ k → k < xs.length → 0 ≤ cmpS (xs.getD k default) q) (h : ¬ (i < xs.length ∧ cmpS (xs.getD i default) q = 0)) : slotO xs q = q := by
  refine slotO_none (fun k hk => ?_)
  cases e : sameS (xs.getD k default) q with
  | false => rfl
  | true =>
    exfalso
    have e0 := sameS_iff.1 e
    have e1 := cmpS_eq.2 e0
    rcases Nat.lt_trichotomy k i with h3 | h3 | h3
    · have := h1 k h3; omega
    · subst h3; exact h ⟨hk, e1⟩
    · have h4 := aheadS_iff.1 (hok.ord i k h3 hk)
      have h5 := h2 i (Nat.le_refl _) (by omega)
      have h6 : cmpS (xs.getD i default) q < 0 := by rw [cmpS_lt]; omega
      omega
set_option maxRecDepth 20000 in
set_option maxHeartbeats 4000000 in
theorem slotOr_any (x y : Value) (d : Acc) (q : Slt) (w : World) (hx : accR.V w x d) (hy : sltR.V w y q) (hok : AccOk d.slots) :
    Calls Try.prog 95 #[x, y] w fun e w' => ∃ v, e = .returned v ∧ sltR.V w' v (slotO d.slots q) ∧ Below w.heap.size w w' := by
  have hX := hx
  have hY := hy
  obtain ⟨u1, rfl, hx⟩ := hx
  obtain ⟨u2, rfl, hy⟩ := hy
  obtain ⟨ay, cy, rfl⟩ := vots_form hy
  clear hy
  obtain ⟨xs⟩ := d
  dsimp only at hx hok hX ⊢
  have HP : Hid (∀ W, Below w.heap.size w W → Calls Try.prog 135 #[.agg #[u1], .agg #[.int .i64 q.con, .int .i64 q.sh, .int .i64 q.pr, .int .i64 q.lb, .int .i64 q.lv, .slice ay q.cast.length cy]] W fun e w' => PlE xs q W e w') := fun W hW => placeIn_any _ ⟨xs⟩ q _ W (accR.below hX hW) hok
  have HOK : Hid (AccOk xs) := hok
  clear hX hok
  obtain ⟨au, cu, rfl, hcx, hmx, hx⟩ := hx
  unfold maxLen at hmx
  have hXs : Hid (∀ k, k < xs.length → ∃ b o p q, au = some ⟨b, o, none⟩ ∧ (w.cell? ⟨b, o + k * 6, none⟩ = some (.int .i64 (xs.getD k default).con) ∧ w.cell? ⟨b, o + k * 6 + 1, none⟩ = some (.int .i64 (xs.getD k default).sh) ∧ w.cell? ⟨b, o + k * 6 + 2, none⟩ = some (.int .i64 (xs.getD k default).pr) ∧ w.cell? ⟨b, o + k * 6 + 3, none⟩ = some (.int .i64 (xs.getD k default).lb) ∧ w.cell? ⟨b, o + k * 6 + 4, none⟩ = some (.int .i64 (xs.getD k default).lv) ∧ w.cell? ⟨b, o + k * 6 + 5, none⟩ = some (.slice p (xs.getD k default).cast.length q)) ∧ sltR.V w (.agg #[.int .i64 (xs.getD k default).con, .int .i64 (xs.getD k default).sh, .int .i64 (xs.getD k default).pr, .int .i64 (xs.getD k default).lb, .int .i64 (xs.getD k default).lv, .slice p (xs.getD k default).cast.length q]) (xs.getD k default)) := fun k hk => slts_at hx hk
  clear hx
  obtain ⟨n, hn'⟩ : ∃ n, n = xs.length := ⟨_, rfl⟩
  have HN : Hid (xs.length = n) := hn'.symm
  rw [← hn'] at hcx hXs HP ⊢
  clear hn'
  go_enter Try.func95, Try.ntmps95
  go_wp2_with fail
  refine (HP.out _ (by (repeat (first | exact Below.refl _ _ | assumption | refine Below.drew ?_ | refine balloc ?_ _ | refine bset ?_ (by simp; omega) _ | refine bset ?_ (by simp) _ | refine bstep ?_ (by assumption))))).mono ?_
  rintro e w1 ⟨i, hi, rfl, h1, h2, hb1⟩
  have hB1 : Below w.heap.size w w1 := by (repeat (first | exact Below.refl _ _ | assumption | refine Below.drew ?_ | refine balloc ?_ _ | refine bset ?_ (by simp; omega) _ | refine bset ?_ (by simp) _ | refine bstep ?_ (by assumption)))
  have HA : Hid (∀ k, k < i → cmpS (xs.getD k default) q < 0) := h1
  have HB : Hid (∀ k, i ≤ k → k < xs.length → 0 ≤ cmpS (xs.getD k default) q) := h2
  clear h1 h2 HP
  obtain ⟨c1, f1⟩ := bcell hb1
  have hz1 := hb1.size
  simp at hz1
  have y0 : w1.cell? ⟨w.heap.size, 0, none⟩ = some (.slice au n cu) := cell_keep hb1 (by simp [go_sem])
  have q0 : w1.cell? ⟨w.heap.size + 1, 0, none⟩ = some (.int .i64 q.con) := cell_keep hb1 (by simp [go_sem])
  have q1 : w1.cell? ⟨w.heap.size + 1, 1, none⟩ = some (.int .i64 q.sh) := cell_keep hb1 (by simp [go_sem])
  have q2 : w1.cell? ⟨w.heap.size + 1, 2, none⟩ = some (.int .i64 q.pr) := cell_keep hb1 (by simp [go_sem])
  have q3 : w1.cell? ⟨w.heap.size + 1, 3, none⟩ = some (.int .i64 q.lb) := cell_keep hb1 (by simp [go_sem])
  have q4 : w1.cell? ⟨w.heap.size + 1, 4, none⟩ = some (.int .i64 q.lv) := cell_keep hb1 (by simp [go_sem])
  have q5 : w1.cell? ⟨w.heap.size + 1, 5, none⟩ = some (.slice ay q.cast.length cy) := cell_keep hb1 (by simp [go_sem])
  have r0 : w1.cell? ⟨w.heap.size + 2, 0, none⟩ = some (.int .i64 0) := cell_keep hb1 (by simp [go_sem])
  have r1 : w1.cell? ⟨w.heap.size + 2, 1, none⟩ = some (.int .i64 0) := cell_keep hb1 (by simp [go_sem])
  have r2 : w1.cell? ⟨w.heap.size + 2, 2, none⟩ = some (.int .i64 0) := cell_keep hb1 (by simp [go_sem])
  have r3 : w1.cell? ⟨w.heap.size + 2, 3, none⟩ = some (.int .i64 0) := cell_keep hb1 (by simp [go_sem])
  have r4 : w1.cell? ⟨w.heap.size + 2, 4, none⟩ = some (.int .i64 0) := cell_keep hb1 (by simp [go_sem])
  have r5 : w1.cell? ⟨w.heap.size + 2, 5, none⟩ = some (.slice none 0 0) := cell_keep hb1 (by simp [go_sem])
  have rf : ∀ o, w1.frozen? ⟨w.heap.size + 2, o, none⟩ = false := fun o => by rw [f1 _ _ (by simp; try omega)]; simp [go_sem]
  clear hb1 c1 f1
  rw [HN.out] at hi
  by_cases hD : i < xs.length ∧ cmpS (xs.getD i default) q = 0
  · rw [decide_eq_true hD]
    have HS : Hid (slotO xs q = xs.getD i default) := slotO_found hD.1 HA.out hD.2
    have hin : i < n := by rw [← HN.out]; exact hD.1
    clear hD
    obtain ⟨b, o, pp, qq, rfl, hc, hV⟩ := hXs.out i hin
    obtain ⟨l, hl⟩ : ∃ l, l = xs.getD i default := ⟨_, rfl⟩
    rw [← hl] at hc hV HS
    clear hl hXs
    obtain ⟨g0, g1, g2, g3, g4, g5⟩ := (sltKeep2 hB1 hc hc).2.1
    clear hc
    have zb : b < w1.heap.size := World.block_lt_of_cell? w1 _ g0
    go_wp2
    refine bodyPost_ret (v := .agg #[.int .i64 l.con, .int .i64 l.sh, .int .i64 l.pr, .int .i64 l.lb, .int .i64 l.lv, .slice pp l.cast.length qq]) ?_ rfl ⟨_, rfl, by rw [HS.out]; exact sltR.below hV (by (repeat (first | refine bset ?_ (by simp; omega) _ | refine bset ?_ (by simp) _ | refine balloc ?_ _ | assumption))), by (repeat (first | refine bset ?_ (by simp; omega) _ | refine bset ?_ (by simp) _ | refine balloc ?_ _ | assumption))⟩
    simp [results, Try.results95, go_sem, r0, r1, r2, r3, r4, r5, rf]
  · rw [decide_eq_false hD]
    have HS : Hid (slotO xs q = q) := slotO_miss HOK.out HA.out HB.out hD
    clear hD hXs
    go_wp2
    refine bodyPost_ret (v := .agg #[.int .i64 q.con, .int .i64 q.sh, .int .i64 q.pr, .int .i64 q.lb, .int .i64 q.lv, .slice ay q.cast.length cy]) ?_ rfl ⟨_, rfl, by rw [HS.out]; exact sltR.below hY (by (repeat (first | refine bset ?_ (by simp; omega) _ | refine bset ?_ (by simp) _ | refine balloc ?_ _ | assumption))), by (repeat (first | refine bset ?_ (by simp; omega) _ | refine bset ?_ (by simp) _ | refine balloc ?_ _ | assumption))⟩
    simp [results, Try.results95, go_sem, r0, r1, r2, r3, r4, r5, rf]
end Go.Proofs.Ytncmdeijimgchaa

/-
  AcceptorFault, the program's.
-/
set_option linter.unusedSimpArgs false
set_option linter.unusedVariables false
namespace Go.Proofs.Ytncmdeijimgchaa
open Go.RowKit
set_option linter.unusedSectionVars false
variable [DecidableEq Vot] [Inhabited Vot] [DecidableEq Slt] [Inhabited Slt] [DecidableEq SltR] [Inhabited SltR] [DecidableEq Bal] [Inhabited Bal] [DecidableEq Ledg] [Inhabited Ledg] [DecidableEq Leg] [Inhabited Leg] [DecidableEq Acc] [Inhabited Acc] [DecidableEq AccR] [Inhabited AccR] [DecidableEq AccsR] [Inhabited AccsR] [DecidableEq SltsR] [Inhabited SltsR]
attribute [local go_sem ↓] Go.wp_at_zero Go.wp_at_succ

set_option maxRecDepth 20000 in
set_option maxHeartbeats 8000000 in
theorem implAccF_any (x : Value) (d : Acc) (w : World) (hx : accR.V w x d) :
    Calls Try.prog 93 #[x] w fun e w' => e = .returned (.int .i64 (accF d.slots)) ∧ Below w.heap.size w w' := by
  obtain ⟨u1, rfl, hx⟩ := hx
  obtain ⟨ax, cx, rfl, hcx, hmx, hx⟩ := hx
  unfold maxLen at hmx
  obtain ⟨xs⟩ := d
  dsimp only at hx hcx ⊢
  obtain ⟨n, hn'⟩ : ∃ n, n = xs.length := ⟨_, rfl⟩
  have HN : Hid (xs.length = n) := hn'.symm
  rw [← hn'] at hcx hx ⊢
  clear hn'
  by_cases h6 : 60 < n
  · have HC : Hid (accF xs = 2) := accF_many (by rw [HN.out]; exact h6)
    have h6' : (60 : Int) < n := by omega
    clear hx
    go_enter Try.func93, Try.ntmps93
    go_wp2
    go_ret
    exact ⟨by rw [HC.out]; rfl, by (repeat (first | exact Below.refl _ _ | assumption | refine Below.drew ?_ | refine balloc ?_ _ | refine bset ?_ (by simp; omega) _ | refine bset ?_ (by simp) _ | refine bstep ?_ (by assumption)))⟩
  have h6' : ¬ (60 : Int) < n := by omega
  have HH : Hid (∀ k c, k < n → scanI (accAt xs) k = 0 → accAt xs k = c → ¬ c = 0 → accF xs = c) := fun k c hk hs hc h0 => accF_hit (by rw [HN.out]; exact h6) (by rw [HN.out]; exact hk) hs hc h0
  have HE : Hid (scanI (accAt xs) n = 0 → accF xs = 0) := fun hs => accF_end (by rw [HN.out]; exact h6) (by rw [HN.out]; exact hs)
  clear h6
  go_enter Try.func93, Try.ntmps93
  go_wp2
  go_loopw [13] (fun i w' => ∃ k : Nat, k ≤ n ∧ i = .int .i64 k ∧ scanI (accAt xs) k = 0 ∧ w'.cell? ⟨w.heap.size, 0, none⟩ = some (.slice ax n cx) ∧ Below w.heap.size w w') (fun i _ => n - (intOf i).toNat)
  case atStart => exact ⟨0, Nat.zero_le _, rfl, rfl, by simp [go_sem], by (repeat (first | exact Below.refl _ _ | assumption | refine Below.drew ?_ | refine balloc ?_ _ | refine bset ?_ (by simp; omega) _ | refine bset ?_ (by simp) _ | refine bstep ?_ (by assumption)))⟩
  case round =>
    obtain ⟨k, hk, rfl, hs, hq, hbl⟩ := hrel
    have HS : Hid (scanI (accAt xs) k = 0) := hs
    clear hs
    by_cases hlt : k < n
    · obtain ⟨bxa, oxa, ua, rfl, _, pa, hva⟩ := hx k (by omega)
      obtain ⟨l, hla⟩ : ∃ l, l = xs.getD k default := ⟨_, rfl⟩
      rw [← hla] at hva
      have HLa : Hid (l = xs.getD k default) := hla
      clear hla
      have hVa := hva
      obtain ⟨sa, rfl, hca⟩ := hva
      obtain ⟨aua, cua, rfl⟩ := vots_form hca
      clear hca
      have ga0 : w.cell? ⟨bxa, oxa + k * 6, none⟩ = some (.int .i64 l.con) := pa 0 (by omega)
      have ga1 : w.cell? ⟨bxa, oxa + k * 6 + 1, none⟩ = some (.int .i64 l.sh) := pa 1 (by omega)
      have ga2 : w.cell? ⟨bxa, oxa + k * 6 + 2, none⟩ = some (.int .i64 l.pr) := pa 2 (by omega)
      have ga3 : w.cell? ⟨bxa, oxa + k * 6 + 3, none⟩ = some (.int .i64 l.lb) := pa 3 (by omega)
      have ga4 : w.cell? ⟨bxa, oxa + k * 6 + 4, none⟩ = some (.int .i64 l.lv) := pa 4 (by omega)
      have ga5 : w.cell? ⟨bxa, oxa + k * 6 + 5, none⟩ = some (.slice aua l.cast.length cua) := pa 5 (by omega)
      clear pa
      have HF : Hid (∀ W, Below w.heap.size w W → Calls Try.prog 133 #[.agg #[.int .i64 l.con, .int .i64 l.sh, .int .i64 l.pr, .int .i64 l.lb, .int .i64 l.lv, .slice aua l.cast.length cua]] W fun e w' => e = .returned (.int .i64 (sltFault l)) ∧ Below W.heap.size W w') := fun W h => implSlotF_any _ l W (sltR.below hVa h)
      clear hVa
      have hX : Hid (∀ i, i < n → ∃ b o u, some (⟨bxa, oxa, none⟩ : Addr) = some ⟨b, o, none⟩ ∧ (lvSlt u).length = 6 ∧ (∀ j, j < 6 → w.cell? ⟨b, o + i * 6 + j, none⟩ = (lvSlt u)[j]?) ∧ sltR.V w u (xs.getD i default)) := hx
      clear hx
      replace ga0 := cell_keep hbl ga0
      replace ga1 := cell_keep hbl ga1
      replace ga2 := cell_keep hbl ga2
      replace ga3 := cell_keep hbl ga3
      replace ga4 := cell_keep hbl ga4
      replace ga5 := cell_keep hbl ga5
      have zb : bxa < wr.heap.size := World.block_lt_of_cell? wr _ ga0
      have zq : w.heap.size < wr.heap.size := World.block_lt_of_cell? wr _ hq
      go_wp2_with fail
      refine (HF.out _ (by (repeat (first | exact Below.refl _ _ | assumption | refine Below.drew ?_ | refine balloc ?_ _ | refine bset ?_ (by simp; omega) _ | refine bset ?_ (by simp) _ | refine bstep ?_ (by assumption))))).mono ?_
      rintro e w1 ⟨rfl, hb1⟩
      have hB1 : Below w.heap.size w w1 := bstep (by (repeat (first | exact Below.refl _ _ | assumption | refine Below.drew ?_ | refine balloc ?_ _ | refine bset ?_ (by simp; omega) _ | refine bset ?_ (by simp) _ | refine bstep ?_ (by assumption)))) hb1
      have hq1 : w1.cell? ⟨w.heap.size, 0, none⟩ = some (.slice (some ⟨bxa, oxa, none⟩) n cx) := cell_keep hb1 (by simp [go_sem, hq, zq])
      have s0 : w1.cell? ⟨wr.heap.size, 0, none⟩ = some (.int .i64 l.con) := cell_keep hb1 (by simp [go_sem])
      have s1 : w1.cell? ⟨wr.heap.size, 1, none⟩ = some (.int .i64 l.sh) := cell_keep hb1 (by simp [go_sem])
      have s2 : w1.cell? ⟨wr.heap.size, 2, none⟩ = some (.int .i64 l.pr) := cell_keep hb1 (by simp [go_sem])
      have s3 : w1.cell? ⟨wr.heap.size, 3, none⟩ = some (.int .i64 l.lb) := cell_keep hb1 (by simp [go_sem])
      have s4 : w1.cell? ⟨wr.heap.size, 4, none⟩ = some (.int .i64 l.lv) := cell_keep hb1 (by simp [go_sem])
      have s5 : w1.cell? ⟨wr.heap.size, 5, none⟩ = some (.slice aua l.cast.length cua) := cell_keep hb1 (by simp [go_sem])
      replace ga0 := cell_keep hb1 (cell_keep (by (repeat (first | exact Below.refl _ _ | assumption | refine Below.drew ?_ | refine balloc ?_ _ | refine bset ?_ (by simp; omega) _ | refine bset ?_ (by simp) _ | refine bstep ?_ (by assumption)))) ga0)
      replace ga1 := cell_keep hb1 (cell_keep (by (repeat (first | exact Below.refl _ _ | assumption | refine Below.drew ?_ | refine balloc ?_ _ | refine bset ?_ (by simp; omega) _ | refine bset ?_ (by simp) _ | refine bstep ?_ (by assumption)))) ga1)
      replace ga2 := cell_keep hb1 (cell_keep (by (repeat (first | exact Below.refl _ _ | assumption | refine Below.drew ?_ | refine balloc ?_ _ | refine bset ?_ (by simp; omega) _ | refine bset ?_ (by simp) _ | refine bstep ?_ (by assumption)))) ga2)
      replace ga3 := cell_keep hb1 (cell_keep (by (repeat (first | exact Below.refl _ _ | assumption | refine Below.drew ?_ | refine balloc ?_ _ | refine bset ?_ (by simp; omega) _ | refine bset ?_ (by simp) _ | refine bstep ?_ (by assumption)))) ga3)
      replace ga4 := cell_keep hb1 (cell_keep (by (repeat (first | exact Below.refl _ _ | assumption | refine Below.drew ?_ | refine balloc ?_ _ | refine bset ?_ (by simp; omega) _ | refine bset ?_ (by simp) _ | refine bstep ?_ (by assumption)))) ga4)
      replace ga5 := cell_keep hb1 (cell_keep (by (repeat (first | exact Below.refl _ _ | assumption | refine Below.drew ?_ | refine balloc ?_ _ | refine bset ?_ (by simp; omega) _ | refine bset ?_ (by simp) _ | refine bstep ?_ (by assumption)))) ga5)
      clear hb1 hq
      have HX : Hid (accAt xs k = if sltFault l = 0 then (if k = 0 then 0 else if aheadS (xs.getD (k - 1) default) l = true then 0 else 1) else sltFault l) := by show _ = _; unfold accAt; rw [← HLa.out]
      by_cases hf : sltFault l = 0
      · rw [hf]
        have HX2 : Hid (accAt xs k = if k = 0 then 0 else if aheadS (xs.getD (k - 1) default) l = true then 0 else 1) := by show _ = _; rw [HX.out, if_pos hf]
        clear hf HX
        cases k with
        | zero =>
          have H0 : Hid (accAt xs 0 = 0) := by show _ = _; rw [HX2.out, if_pos rfl]
          clear HX2
          clear ga0 ga1 ga2 ga3 ga4 ga5 hX
          go_wp2
          go_quiet (fail)
          go_wp2
          exact ⟨⟨1, by omega, by go_num, scanI_succ HS.out H0.out, cell_keep (bdrewN (Below.refl _ _) _) hq1, bdrewN hB1 _⟩, by simp [intOf]; omega⟩
        | succ p =>
          have hx := hX.out
          clear hX
          have hxz := hx p (by omega)
          obtain ⟨bxz, oxz, uz, hez, _, pz, hvz⟩ := hxz
          simp only [Option.some.injEq, Addr.mk.injEq, and_true] at hez
          obtain ⟨rfl, rfl⟩ := hez
          obtain ⟨z, hlz⟩ : ∃ l, l = xs.getD p default := ⟨_, rfl⟩
          rw [← hlz] at hvz
          have HLz : Hid (z = xs.getD p default) := hlz
          clear hlz
          have hVz := hvz
          obtain ⟨sz, rfl, hcz⟩ := hvz
          obtain ⟨auz, cuz, rfl⟩ := vots_form hcz
          clear hcz
          have gz0 : w.cell? ⟨bxa, oxa + p * 6, none⟩ = some (.int .i64 z.con) := pz 0 (by omega)
          have gz1 : w.cell? ⟨bxa, oxa + p * 6 + 1, none⟩ = some (.int .i64 z.sh) := pz 1 (by omega)
          have gz2 : w.cell? ⟨bxa, oxa + p * 6 + 2, none⟩ = some (.int .i64 z.pr) := pz 2 (by omega)
          have gz3 : w.cell? ⟨bxa, oxa + p * 6 + 3, none⟩ = some (.int .i64 z.lb) := pz 3 (by omega)
          have gz4 : w.cell? ⟨bxa, oxa + p * 6 + 4, none⟩ = some (.int .i64 z.lv) := pz 4 (by omega)
          have gz5 : w.cell? ⟨bxa, oxa + p * 6 + 5, none⟩ = some (.slice auz z.cast.length cuz) := pz 5 (by omega)
          clear pz
          clear hx hVz
          replace gz0 := cell_keep hB1 gz0
          replace gz1 := cell_keep hB1 gz1
          replace gz2 := cell_keep hB1 gz2
          replace gz3 := cell_keep hB1 gz3
          replace gz4 := cell_keep hB1 gz4
          replace gz5 := cell_keep hB1 gz5
          have i1 : (p : Int) < (n : Int) := by omega
          have i2 : ((p + 1 : Nat) : Int) < (n : Int) := by omega
          have i3 : (0 : Int) < ((p + 1 : Nat) : Int) := by omega
          have i4 : decide (0 < p + 1) = true := decide_eq_true (by omega)
          have i5 : IntKind.i64.wrap (((p + 1 : Nat) : Int) - 1) = (p : Int) := by rw [IntKind.wrap_i64]; omega
          have i6 : (0 : Int) ≤ ((p + 1 : Nat) : Int) := by omega
          have i7 : (0 : Int) ≤ (p : Int) := by omega
          have i8 : (p : Int) + 1 < (n : Int) := by omega
          have i9 : (0 : Int) ≤ (p : Int) + 1 := by omega
          have i10 : ((p : Int) + 1).toNat = p + 1 := by omega
          have w1' : IntKind.i64.wrap (p : Int) = p := wrapId (by omega) (by omega)
          have HX3 : Hid (accAt xs (p + 1) = if aheadS z l = true then 0 else 1) := by show _ = _; rw [HX2.out, if_neg (by omega), Nat.add_sub_cancel, ← HLz.out]
          clear HX2
          obtain ⟨u, hu⟩ : ∃ u : Value, u = .slice aua l.cast.length cua := ⟨_, rfl⟩
          obtain ⟨u', hu'⟩ : ∃ u : Value, u = .slice auz z.cast.length cuz := ⟨_, rfl⟩
          have rA : w1.cell? ⟨wr.heap.size, 0, none⟩ = some (.int .i64 l.con) ∧ w1.cell? ⟨wr.heap.size, 0 + 1, none⟩ = some (.int .i64 l.sh) ∧ w1.cell? ⟨wr.heap.size, 0 + 2, none⟩ = some (.int .i64 l.pr) ∧ w1.cell? ⟨wr.heap.size, 0 + 3, none⟩ = some (.int .i64 l.lb) ∧ w1.cell? ⟨wr.heap.size, 0 + 4, none⟩ = some (.int .i64 l.lv) ∧ w1.cell? ⟨wr.heap.size, 0 + 5, none⟩ = some (.slice aua l.cast.length cua) := ⟨s0, s1, s2, s3, s4, s5⟩
          have rZ : w1.cell? ⟨bxa, oxa + p * 6, none⟩ = some (.int .i64 z.con) ∧ w1.cell? ⟨bxa, oxa + p * 6 + 1, none⟩ = some (.int .i64 z.sh) ∧ w1.cell? ⟨bxa, oxa + p * 6 + 2, none⟩ = some (.int .i64 z.pr) ∧ w1.cell? ⟨bxa, oxa + p * 6 + 3, none⟩ = some (.int .i64 z.lb) ∧ w1.cell? ⟨bxa, oxa + p * 6 + 4, none⟩ = some (.int .i64 z.lv) ∧ w1.cell? ⟨bxa, oxa + p * 6 + 5, none⟩ = some (.slice auz z.cast.length cuz) := ⟨gz0, gz1, gz2, gz3, gz4, gz5⟩
          clear ga0 gz0 s0 ga1 gz1 s1 ga2 gz2 s2 ga3 gz3 s3 ga4 gz4 s4 ga5 gz5 s5 hu hu'
          cases hah : aheadS z l
          · have hah' : aheadS z l = false := hah
            have hge : decide (0 ≤ cmpS z l) = true := by unfold aheadS at hah; have h' := of_decide_eq_false hah; exact decide_eq_true (by omega)
            have hg2 : 0 ≤ cmpS z l := of_decide_eq_true hge
            have HAH : Hid (aheadS z l = false) := hah'
            clear hah'
            go_wp2
            go_region_held3 (fun W => Below w1.heap.size w1 W ∧ (W.cell? ⟨wr.heap.size, 0, none⟩ = some (.int .i64 l.con) ∧ W.cell? ⟨wr.heap.size, 0 + 1, none⟩ = some (.int .i64 l.sh) ∧ W.cell? ⟨wr.heap.size, 0 + 2, none⟩ = some (.int .i64 l.pr) ∧ W.cell? ⟨wr.heap.size, 0 + 3, none⟩ = some (.int .i64 l.lb) ∧ W.cell? ⟨wr.heap.size, 0 + 4, none⟩ = some (.int .i64 l.lv) ∧ W.cell? ⟨wr.heap.size, 0 + 5, none⟩ = some (.slice aua l.cast.length cua)) ∧ (W.cell? ⟨bxa, oxa + p * 6, none⟩ = some (.int .i64 z.con) ∧ W.cell? ⟨bxa, oxa + p * 6 + 1, none⟩ = some (.int .i64 z.sh) ∧ W.cell? ⟨bxa, oxa + p * 6 + 2, none⟩ = some (.int .i64 z.pr) ∧ W.cell? ⟨bxa, oxa + p * 6 + 3, none⟩ = some (.int .i64 z.lb) ∧ W.cell? ⟨bxa, oxa + p * 6 + 4, none⟩ = some (.int .i64 z.lv) ∧ W.cell? ⟨bxa, oxa + p * 6 + 5, none⟩ = some (.slice auz z.cast.length cuz)) ∧ W.cell? ⟨w.heap.size, 0, none⟩ = some (.slice (some ⟨bxa, oxa, none⟩) n cx)) ((refine sltKeep3 ?_ rA rZ hq1; repeat (first | exact Below.refl _ _ | assumption | refine Below.drew ?_ | refine balloc ?_ _ | refine bstep ?_ (by assumption)))) (first | (go_at_call 134; refine (compareSlots_any z l _ _ _).mono ?_; rintro e wa ⟨rfl, hb2⟩))
            rename_i hH
            have hB2 := bstep hB1 hH.1
            have hq2 := hH.2.2.2
            clear hH
            have HC : Hid (accF xs = 1) := HH.out (p + 1) 1 hlt HS.out (by rw [HX3.out, HAH.out]; rfl) (by omega)
            go_wp2
            go_ret
            exact ⟨by rw [HC.out]; rfl, hB2⟩
          · have hah' : aheadS z l = true := hah
            have hge : decide (0 ≤ cmpS z l) = false := by unfold aheadS at hah; have h' := of_decide_eq_true hah; exact decide_eq_false (by omega)
            have hg2 : ¬ 0 ≤ cmpS z l := of_decide_eq_false hge
            have HAH : Hid (aheadS z l = true) := hah'
            clear hah'
            go_wp2
            go_region_held3 (fun W => Below w1.heap.size w1 W ∧ (W.cell? ⟨wr.heap.size, 0, none⟩ = some (.int .i64 l.con) ∧ W.cell? ⟨wr.heap.size, 0 + 1, none⟩ = some (.int .i64 l.sh) ∧ W.cell? ⟨wr.heap.size, 0 + 2, none⟩ = some (.int .i64 l.pr) ∧ W.cell? ⟨wr.heap.size, 0 + 3, none⟩ = some (.int .i64 l.lb) ∧ W.cell? ⟨wr.heap.size, 0 + 4, none⟩ = some (.int .i64 l.lv) ∧ W.cell? ⟨wr.heap.size, 0 + 5, none⟩ = some (.slice aua l.cast.length cua)) ∧ (W.cell? ⟨bxa, oxa + p * 6, none⟩ = some (.int .i64 z.con) ∧ W.cell? ⟨bxa, oxa + p * 6 + 1, none⟩ = some (.int .i64 z.sh) ∧ W.cell? ⟨bxa, oxa + p * 6 + 2, none⟩ = some (.int .i64 z.pr) ∧ W.cell? ⟨bxa, oxa + p * 6 + 3, none⟩ = some (.int .i64 z.lb) ∧ W.cell? ⟨bxa, oxa + p * 6 + 4, none⟩ = some (.int .i64 z.lv) ∧ W.cell? ⟨bxa, oxa + p * 6 + 5, none⟩ = some (.slice auz z.cast.length cuz)) ∧ W.cell? ⟨w.heap.size, 0, none⟩ = some (.slice (some ⟨bxa, oxa, none⟩) n cx)) ((refine sltKeep3 ?_ rA rZ hq1; repeat (first | exact Below.refl _ _ | assumption | refine Below.drew ?_ | refine balloc ?_ _ | refine bstep ?_ (by assumption)))) (first | (go_at_call 134; refine (compareSlots_any z l _ _ _).mono ?_; rintro e wa ⟨rfl, hb2⟩))
            rename_i hH
            have hB2 := bstep hB1 hH.1
            have hq2 := hH.2.2.2
            clear hH
            have H0 : Hid (accAt xs (p + 1) = 0) := by show _ = _; rw [HX3.out, HAH.out]; rfl
            go_wp2
            exact ⟨⟨p + 1 + 1, by omega, by go_num, scanI_succ HS.out H0.out, hq2, hB2⟩, by simp [intOf]; omega⟩
      · have HC : Hid (accF xs = sltFault l) := HH.out k _ hlt HS.out (by rw [HX.out, if_neg hf]) hf
        clear HX hX
        generalize sltFault l = c at *
        go_wp2
        go_ret
        exact ⟨by rw [HC.out]; rfl, hB1⟩
    · have hkn : k = n := by omega
      subst hkn
      have HC : Hid (accF xs = 0) := HE.out HS.out
      go_wp2
      go_ret
      exact ⟨by rw [HC.out]; rfl, by (repeat (first | exact Below.refl _ _ | assumption | refine Below.drew ?_ | refine balloc ?_ _ | refine bset ?_ (by simp; omega) _ | refine bset ?_ (by simp) _ | refine bstep ?_ (by assumption)))⟩
end Go.Proofs.Ytncmdeijimgchaa

