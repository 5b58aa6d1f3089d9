import Derived.Test.YteebglgbeijolaaPrnContractsLaw8
import Derived.Test.YteebglgbeijolaaPrnContractsLaw11
import Derived.Test.YteebglgbeijolaaPrnContractsLaw9
import Derived.Test.YteebglgbeijolaaPrnContractsLaw12

/-
  A contract turned round twice is as it was: the walk.
-/
namespace Go.Proofs.Yteebglgbeijolaa
open Go.RowKit
set_option linter.unusedSectionVars false
variable [DecidableEq Logg] [Inhabited Logg] [DecidableEq LoggR] [Inhabited LoggR] [DecidableEq BytesR] [Inhabited BytesR] [DecidableEq RecsR] [Inhabited RecsR] [DecidableEq Leg] [Inhabited Leg] [DecidableEq Cont] [Inhabited Cont]
set_option linter.unusedVariables false
set_option linter.unusedSimpArgs false
attribute [local go_sem ↓] Go.wp_at_zero Go.wp_at_succ

namespace contractsLaw
set_option maxRecDepth 20000 in
set_option maxHeartbeats 8000000 in
theorem walk (x0 : Value) (d0 : List Byte) (w : World) (hx0 : bytesR.V w x0 d0) :
    Calls Try.prog 3 #[x0] w fun e w' => e = .returned (.bool true) ∧ Below w.heap.size w w' := by
  have hX0 := hx0
  obtain ⟨ax, cx, rfl⟩ := bytes_form hx0
  go_enter Try.func3, Try.ntmps3
  go_wp2_with fail
  refine (lwBig_any _ d0 _ hX0).mono ?_
  rintro e w' ⟨rfl, hw⟩
  obtain rfl : w = w' := hw.symm
  by_cases hbig : 1048576 < d0.length
  · rw [decide_eq_true hbig]
    go_wp2
    go_ret
    exact ⟨rfl, Below.refl _ _⟩
  rw [decide_eq_false hbig]
  go_wp2_with fail
  refine (drawReverse_any _ d0 _ hX0 (by omega)).mono ?_
  rintro e w1 ⟨id, v1, xs, nid, rfl, hV, hl, hb1⟩
  obtain ⟨p, q, rfl⟩ := legs_form hV
  obtain ⟨n, hn⟩ : ∃ n, n = xs.length := ⟨_, rfl⟩
  have HN : Hid (xs.length = n) := hn.symm
  rw [← hn] at hV hl ⊢
  clear hn hX0 hx0
  have HV : Hid (∀ W, Below w1.heap.size w1 W → LegsV W (.slice p n q) xs) := fun W hW => LegsV_below hV hW
  clear hV
  go_wp2_with fail
  refine (implReverseOf_any id _ xs nid _ (HV.out _ (by (repeat (first | exact Below.refl _ _ | assumption | refine Below.drew ?_ | refine balloc ?_ _ | refine bset ?_ (by simp; omega) _ | refine bset ?_ (by simp) _ | refine bstep ?_ (by assumption)))))).mono ?_
  rintro e w2 ⟨v2, rfl, ho2, hb2⟩
  have c0 : w2.cell? ⟨w1.heap.size, 0, none⟩ = some (.int .i64 id) := cell_keep hb2 (by simp [go_sem])
  have c1 : w2.cell? ⟨w1.heap.size, 1, none⟩ = some (.slice p n q) := cell_keep hb2 (by simp [go_sem])
  have hB2 : Below w1.heap.size w1 w2 := by (repeat (first | exact Below.refl _ _ | assumption | refine Below.drew ?_ | refine balloc ?_ _ | refine bset ?_ (by simp; omega) _ | refine bset ?_ (by simp) _ | refine bstep ?_ (by assumption)))
  have z2 := World.block_lt_of_cell? _ _ c0
  dsimp only at z2
  have hV2 := LegsV_of_owns ho2
  clear ho2 hb2
  by_cases hcode : revCode id xs nid = 0
  rotate_left
  · have HS : Hid (∀ W, Below w1.heap.size w1 W → Calls Try.prog 11 #[.agg #[.int .i64 id, .slice p n q], .int .i64 nid] W fun e w' => ∃ r2 v3, e = .returned (.agg #[.int .i64 (revCode id xs nid), .int .i64 r2, v3]) ∧ Below W.heap.size W w') := fun W hW => (specReverseOf_any id _ xs nid W (HV.out W hW)).mono (by
      rintro e w' ⟨v, rfl, _, hb⟩
      exact ⟨_, _, rfl, hb⟩)
    obtain ⟨a2, g2, e2⟩ : ∃ a2 g2, v2 = .slice a2 (revLegs id xs nid).length g2 := by
      obtain ⟨a2, g2, e, _⟩ := hV2
      exact ⟨a2, g2, e⟩
    subst e2
    clear hV2
    generalize (revLegs id xs nid).length = m2
    generalize revId id xs nid = j2
    generalize revCode id xs nid = qc at *
    go_wp2
    refine wp_region_noPanic ?_
    refine region_upto (fun W => Below w1.heap.size w1 W ∧ W.cell? ⟨w2.heap.size, 0, none⟩ = some (.int .i64 qc) ∧ W.cell? ⟨w1.heap.size, 0, none⟩ = some (.int .i64 id) ∧ W.cell? ⟨w1.heap.size, 1, none⟩ = some (.slice p n q)) 7 (by kernel_rfl) ⟨by (repeat (first | exact Below.refl _ _ | assumption | refine Below.drew ?_ | refine balloc ?_ _ | refine bset ?_ (by simp; omega) _ | refine bset ?_ (by simp) _ | refine bstep ?_ (by assumption))), by simp [go_sem], cell_keep (by (repeat (first | exact Below.refl _ _ | assumption | refine Below.drew ?_ | refine balloc ?_ _ | refine bset ?_ (by simp; omega) _ | refine bset ?_ (by simp) _ | refine bstep ?_ (by assumption)))) c0, cell_keep (by (repeat (first | exact Below.refl _ _ | assumption | refine Below.drew ?_ | refine balloc ?_ _ | refine bset ?_ (by simp; omega) _ | refine bset ?_ (by simp) _ | refine bstep ?_ (by assumption)))) c1⟩ (fun hS => ?_)
    refine upto_take (i := 0) (v := ?_) rfl (by kernel_rfl) (by kernel_rfl) (by kernel_rfl) (by kernel_rfl) (fun _ _ _ h => h) (by rfl) hS ?_ ?_
    rotate_left
    · intro wS hSw
      try dsimp only at hSw
      first | (go_simp; done) | (go_simp; with_reducible rfl)
    try simp only [Act.put, List.getElem_toArray, List.getElem_cons_zero, List.getElem_cons_succ, List.setIfInBounds_toArray, List.set_cons_zero, List.set_cons_succ]
    refine upto_take (i := 1) (v := ?_) rfl (by kernel_rfl) (by kernel_rfl) (by kernel_rfl) (by kernel_rfl) (fun _ _ _ h => h) (by rfl) hS ?_ ?_
    rotate_left
    · intro wS hSw
      try dsimp only at hSw
      first | (go_simp; done) | (go_simp; with_reducible rfl)
    try simp only [Act.put, List.getElem_toArray, List.getElem_cons_zero, List.getElem_cons_succ, List.setIfInBounds_toArray, List.set_cons_zero, List.set_cons_succ]
    refine upto_take (i := 4) (v := ?_) rfl (by kernel_rfl) (by kernel_rfl) (by kernel_rfl) (by kernel_rfl) (fun _ _ _ h => h) (by rfl) hS ?_ ?_
    rotate_left
    · intro wS hSw
      try dsimp only at hSw
      first | (go_simp; done) | (go_simp; with_reducible rfl)
    try simp only [Act.put, List.getElem_toArray, List.getElem_cons_zero, List.getElem_cons_succ, List.setIfInBounds_toArray, List.set_cons_zero, List.set_cons_succ]
    refine upto_take (i := 5) (v := ?_) rfl (by kernel_rfl) (by kernel_rfl) (by kernel_rfl) (by kernel_rfl) (fun _ _ _ h => h) (by rfl) hS ?_ ?_
    rotate_left
    · intro wS hSw
      try dsimp only at hSw
      first | (go_simp; done) | (go_simp; with_reducible rfl)
    try simp only [Act.put, List.getElem_toArray, List.getElem_cons_zero, List.getElem_cons_succ, List.setIfInBounds_toArray, List.set_cons_zero, List.set_cons_succ]
    refine upto_step (i := 2) (by kernel_rfl) rfl ?_
    intro K hK
    go_simp
    refine (HS.out _ hS.1).mono ?_
    rintro e w3 ⟨r3, v3, rfl, hb3⟩
    have hS3 : (fun W => Below w1.heap.size w1 W ∧ W.cell? ⟨w2.heap.size, 0, none⟩ = some (.int .i64 qc) ∧ W.cell? ⟨w1.heap.size, 0, none⟩ = some (.int .i64 id) ∧ W.cell? ⟨w1.heap.size, 1, none⟩ = some (.slice p n q)) w3 := ⟨bstep hS.1 hb3, cell_keep hb3 hS.2.1, cell_keep hb3 hS.2.2.1, cell_keep hb3 hS.2.2.2⟩
    have hfd : ∀ w : World, (Instr.field 30 (.agg #[.int .i64 qc, .int .i64 r3, v3]) 0).run Try.prog w = .ok (.int .i64 qc) w := fun _ => by kernel_rfl
    refine hK _ _ (fun _ => hS3) ?_
    clear hK K hb3
    try simp only [Act.put, List.getElem_toArray, List.getElem_cons_zero, List.getElem_cons_succ, List.setIfInBounds_toArray, List.set_cons_zero, List.set_cons_succ]
    refine upto_take (i := 3) (v := (.int .i64 qc)) rfl (by kernel_rfl) (by kernel_rfl) (by kernel_rfl) (by kernel_rfl) (fun _ _ _ h => h) (by rfl) hS3 ?_ ?_
    · intro wS hSw
      try dsimp only at hSw
      go_simp
    try simp only [Act.put, List.getElem_toArray, List.getElem_cons_zero, List.getElem_cons_succ, List.setIfInBounds_toArray, List.set_cons_zero, List.set_cons_succ]
    refine upto_take (i := 6) (v := (.bool true)) rfl (by kernel_rfl) (by kernel_rfl) (by kernel_rfl) (by kernel_rfl) (fun _ _ _ h => h) (by rfl) hS3 ?_ ?_
    · intro wS hSw
      try dsimp only at hSw
      go_simp
    try simp only [Act.put, List.getElem_toArray, List.getElem_cons_zero, List.getElem_cons_succ, List.setIfInBounds_toArray, List.set_cons_zero, List.set_cons_succ]
    refine upto_step (i := 7) (by kernel_rfl) rfl ?_
    intro K hK
    go_simp
    refine hK _ _ (fun h => absurd rfl h) ?_
    clear hK K
    refine upto_done (by kernel_rfl) ?_
    refine NoPanic.normal ?_
    have hB3 := hS3.1
    clear hS hS3
    go_wp2
    go_ret
    exact ⟨rfl, by (repeat (first | exact Below.refl _ _ | assumption | refine Below.drew ?_ | refine balloc ?_ _ | refine bset ?_ (by simp; omega) _ | refine bset ?_ (by simp) _ | refine bstep ?_ (by assumption)))⟩
  have hcf : contractFault id xs = 0 ∧ inB nid 1 1000000000 = true := by
    unfold revCode at hcode
    split at hcode
    · rename_i h1
      split at hcode
      · rename_i h2
        exact ⟨h1, h2⟩
      · omega
    · rename_i h1
      exact absurd hcode h1
  obtain ⟨hcf, hnid⟩ := hcf
  have hok : revOk id xs nid = true := by unfold revOk; rw [decide_eq_true hcf, hnid]; rfl
  have hRI : revId id xs nid = nid := by unfold revId; rw [if_pos hok]
  have hRL : revLegs id xs nid = turn xs := by unfold revLegs; rw [if_pos hok]
  rw [hcode, hRI]
  rw [hRL] at hV2
  have hcf2 := turn_fault hcf hnid
  obtain ⟨hidB, hn2, hn8, _, _, _, _⟩ := cf_inv hcf
  have hok2 : revOk nid (turn xs) id = true := by unfold revOk; rw [decide_eq_true hcf2, hidB]; rfl
  have HR2 : Hid (revCode nid (turn xs) id = 0 ∧ revId nid (turn xs) id = id ∧ revLegs nid (turn xs) id = xs) := by
    refine ⟨?_, ?_, ?_⟩
    · unfold revCode; rw [if_pos hcf2, if_pos hidB]
    · unfold revId; rw [if_pos hok2]
    · unfold revLegs; rw [if_pos hok2, turn_turn]
  have HSH : Hid (shCode id xs = 0 ∧ shList id xs = shardsL xs) := ⟨hcf, by unfold shList; rw [if_pos hcf]⟩
  have HAT : Hid (∀ k, k < (shardsL xs).length → atLegs id xs ((shardsL xs).getD k 0) = onSh ((shardsL xs).getD k 0) xs ∧ 0 < (onSh ((shardsL xs).getD k 0) xs).length) := fun k hk => by
    have hm : (shardsL xs).getD k 0 ∈ shardsL xs := by
      have e : (shardsL xs).getD k 0 = (shardsL xs)[k] := by simp [List.getD, hk]
      rw [e]
      exact List.getElem_mem hk
    obtain ⟨h1, h2, h3⟩ := shards_mem hm
    refine ⟨?_, (onSh_pos xs _).2 h1⟩
    unfold atLegs
    rw [if_pos ⟨hcf, (inB_iff _ _ _).2 ⟨h2, h3⟩⟩]
  have HALL : Hid (legsTo xs (shardsL xs) (shardsL xs).length = xs.length) := legsTo_all hcf
  have HSUM : Hid (∀ a : Int, 0 ≤ a → a ≤ 2 → sumVal nid (turn xs) a = sumVal id xs a ∧ sumCode id xs a = 0 ∧ sumCode nid (turn xs) a = 0) := fun a h0 h2 => by
    obtain ⟨e1, e2, e3⟩ := turn_sum hcf hnid h0 h2
    exact ⟨e1.symm, e2, e3⟩
  have HCF2 : Hid (contractFault nid (turn xs) = 0) := hcf2
  have hsl : (shardsL xs).length ≤ 3 := sl_le _ _ _
  have HT : Hid ((turn xs).length = n) := by rw [Hid, turn_len]; exact HN.out
  rw [HN.out] at hn2 hn8
  obtain ⟨p2, q2, e2⟩ : ∃ p2 q2, v2 = .slice p2 n q2 := by
    obtain ⟨p2, q2, e, _⟩ := hV2
    rw [HT.out] at e
    exact ⟨p2, q2, e⟩
  subst e2
  have HV2 : Hid (∀ W, Below w2.heap.size w2 W → LegsV W (.slice p2 n q2) (turn xs)) := fun W hW => LegsV_below hV2 hW
  clear hV2 hcode hok hRI hRL hcf2 hok2 hcf hnid hidB
  go_wp2_with fail
  refine (implReverseOf_any nid _ (turn xs) id _ (HV2.out _ (by (repeat (first | exact Below.refl _ _ | assumption | refine Below.drew ?_ | refine balloc ?_ _ | refine bset ?_ (by simp; omega) _ | refine bset ?_ (by simp) _ | refine bstep ?_ (by assumption)))))).mono ?_
  rintro e w3 ⟨v3, rfl, ho3, hb3⟩
  rw [HR2.out.1, HR2.out.2.1]
  rw [HR2.out.2.2] at ho3
  replace c0 : w3.cell? ⟨w1.heap.size, 0, none⟩ = some (.int .i64 id) := cell_keep hb3 (cell_keep (by (repeat (first | exact Below.refl _ _ | assumption | refine Below.drew ?_ | refine balloc ?_ _ | refine bset ?_ (by simp; omega) _ | refine bset ?_ (by simp) _ | refine bstep ?_ (by assumption)))) c0)
  replace c1 : w3.cell? ⟨w1.heap.size, 1, none⟩ = some (.slice p n q) := cell_keep hb3 (cell_keep (by (repeat (first | exact Below.refl _ _ | assumption | refine Below.drew ?_ | refine balloc ?_ _ | refine bset ?_ (by simp; omega) _ | refine bset ?_ (by simp) _ | refine bstep ?_ (by assumption)))) c1)
  have k1 : w3.cell? ⟨w2.heap.size, 1, none⟩ = some (.int .i64 nid) := cell_keep hb3 (by simp [go_sem])
  have k2 : w3.cell? ⟨w2.heap.size, 2, none⟩ = some (.slice p2 n q2) := cell_keep hb3 (by simp [go_sem])
  have hB3 : Below w2.heap.size w2 w3 := by (repeat (first | exact Below.refl _ _ | assumption | refine Below.drew ?_ | refine balloc ?_ _ | refine bset ?_ (by simp; omega) _ | refine bset ?_ (by simp) _ | refine bstep ?_ (by assumption)))
  have z3 := World.block_lt_of_cell? _ _ k1
  dsimp only at z3
  have z13 := World.block_lt_of_cell? _ _ c0
  dsimp only at z13
  have hV3 := LegsV_of_owns ho3
  obtain ⟨p3, q3, e3⟩ : ∃ p3 q3, v3 = .slice p3 n q3 := by
    obtain ⟨p3, q3, e, _⟩ := hV3
    rw [HN.out] at e
    exact ⟨p3, q3, e⟩
  subst e3
  have HV3 : Hid (∀ W, Below w3.heap.size w3 W → LegsV W (.slice p3 n q3) xs) := fun W hW => LegsV_below hV3 hW
  clear hV3 ho3 hb3 HR2
  go_wp2_with fail
  refine (implShardsOf_any id _ xs _ (HV.out _ (by (repeat (first | exact Below.refl _ _ | assumption | refine Below.drew ?_ | refine balloc ?_ _ | refine bset ?_ (by simp; omega) _ | refine bset ?_ (by simp) _ | refine bstep ?_ (by assumption)))))).mono ?_
  rintro e w4 ⟨v4, rfl, ho4, hb4⟩
  rw [HSH.out.1]
  rw [HSH.out.2] at ho4
  replace c0 : w4.cell? ⟨w1.heap.size, 0, none⟩ = some (.int .i64 id) := cell_keep hb4 (cell_keep (by (repeat (first | exact Below.refl _ _ | assumption | refine Below.drew ?_ | refine balloc ?_ _ | refine bset ?_ (by simp; omega) _ | refine bset ?_ (by simp) _ | refine bstep ?_ (by assumption)))) c0)
  replace c1 : w4.cell? ⟨w1.heap.size, 1, none⟩ = some (.slice p n q) := cell_keep hb4 (cell_keep (by (repeat (first | exact Below.refl _ _ | assumption | refine Below.drew ?_ | refine balloc ?_ _ | refine bset ?_ (by simp; omega) _ | refine bset ?_ (by simp) _ | refine bstep ?_ (by assumption)))) c1)
  replace k1 : w4.cell? ⟨w2.heap.size, 1, none⟩ = some (.int .i64 nid) := cell_keep hb4 (cell_keep (by (repeat (first | exact Below.refl _ _ | assumption | refine Below.drew ?_ | refine balloc ?_ _ | refine bset ?_ (by simp; omega) _ | refine bset ?_ (by simp) _ | refine bstep ?_ (by assumption)))) k1)
  replace k2 : w4.cell? ⟨w2.heap.size, 2, none⟩ = some (.slice p2 n q2) := cell_keep hb4 (cell_keep (by (repeat (first | exact Below.refl _ _ | assumption | refine Below.drew ?_ | refine balloc ?_ _ | refine bset ?_ (by simp; omega) _ | refine bset ?_ (by simp) _ | refine bstep ?_ (by assumption)))) k2)
  have j0 : w4.cell? ⟨w3.heap.size, 0, none⟩ = some (.int .i64 0) := cell_keep hb4 (by simp [go_sem])
  have j1 : w4.cell? ⟨w3.heap.size, 1, none⟩ = some (.int .i64 id) := cell_keep hb4 (by simp [go_sem])
  have j2 : w4.cell? ⟨w3.heap.size, 2, none⟩ = some (.slice p3 n q3) := cell_keep hb4 (by simp [go_sem])
  have hB4 : Below w3.heap.size w3 w4 := by (repeat (first | exact Below.refl _ _ | assumption | refine Below.drew ?_ | refine balloc ?_ _ | refine bset ?_ (by simp; omega) _ | refine bset ?_ (by simp) _ | refine bstep ?_ (by assumption)))
  have z4 := World.block_lt_of_cell? _ _ j0
  dsimp only at z4
  have z14 := World.block_lt_of_cell? _ _ c0
  dsimp only at z14
  have z24 := World.block_lt_of_cell? _ _ k1
  dsimp only at z24
  have hV4 := IntsV_of_owns ho4
  generalize hss : shardsL xs = ss at *
  clear hss
  obtain ⟨m, hm⟩ : ∃ m, m = ss.length := ⟨_, rfl⟩
  have HM : Hid (ss.length = m) := hm.symm
  obtain ⟨p4, q4, e4⟩ : ∃ p4 q4, v4 = .slice p4 ss.length q4 := by
    obtain ⟨p4, q4, e, _⟩ := hV4
    exact ⟨p4, q4, e⟩
  subst e4
  have HI : Hid (∀ k, k < m → ∃ b o, p4 = some ⟨b, o, none⟩ ∧ w4.cell? ⟨b, o + k, none⟩ = some (.int .i64 (ss.getD k 0))) := fun k hk => by
    obtain ⟨a9, c9, e9, _, _, h9⟩ := hV4
    simp only [Value.slice.injEq] at e9
    rw [e9.1]
    exact h9 k (by rw [← hm]; exact hk)
  rw [← hm] at hsl ⊢
  clear hm hV4 ho4 hb4
  have HLT : Hid (∀ k, k ≤ m → legsTo xs ss k ≤ 8) := fun k hk => by
    have h1 := legsTo_mono xs ss (m - k) k (by rw [HM.out]; omega)
    have h2 := HALL.out
    rw [show k + (m - k) = ss.length by rw [HM.out]; omega, h2, HN.out] at h1
    omega
  go_wp2
  go_loopw [7, 9] (fun s i W => ∃ k : Nat, k ≤ m ∧ s = .int .i64 (legsTo xs ss k : Nat) ∧ i = .int .i64 k ∧ Below w4.heap.size w4 W ∧ W.cell? ⟨w4.heap.size, 1, none⟩ = some (.slice p4 m q4)) (fun _ i _ => m - (intOf i).toNat)
  case atStart => exact ⟨0, by omega, rfl, rfl, by (repeat (first | exact Below.refl _ _ | assumption | refine Below.drew ?_ | refine balloc ?_ _ | refine bset ?_ (by simp; omega) _ | refine bset ?_ (by simp) _ | refine bstep ?_ (by assumption))), by simp [go_sem]⟩
  case round =>
    obtain ⟨k, hk, rfl, rfl, hbr, f1⟩ := hrel
    rename World => w5
    by_cases hkm : k < m
    · have hk' : (k : Int) < m := by omega
      have hk0 : (0 : Int) ≤ k := by omega
      have hwk : IntKind.i64.wrap ((k : Int) + 1) = (k : Int) + 1 := wrapI _ (by omega) (by omega)
      obtain ⟨b, o, rfl, hc⟩ := HI.out k hkm
      obtain ⟨hat, hpos⟩ := HAT.out k (by rw [HM.out]; exact hkm)
      have hsu := legsTo_succ xs ss k (by rw [HM.out]; exact hkm)
      have hle := HLT.out (k + 1) (by omega)
      rw [hsu] at hle
      obtain ⟨s, hs⟩ : ∃ s, s = ss.getD k 0 := ⟨_, rfl⟩
      rw [← hs] at hc hat hpos hsu hle
      have HAL : Hid (∀ W, Below w4.heap.size w4 W → Calls Try.prog 13 #[.agg #[.int .i64 id, .slice p n q], .int .i64 s] W fun e w' => ∃ u cu, e = .returned (.agg #[.int .i64 (sumCode id xs s), .slice u (onSh s xs).length cu]) ∧ Below W.heap.size W w') := fun W hW => (implLegsAt_any id _ xs s W (HV.out W (bstep (bstep (bstep hB2 hB3) hB4) hW))).mono (by
        rintro e w' ⟨v, rfl, ho, hb⟩
        rw [hat] at ho
        obtain ⟨u, cu, e, _⟩ := LegsV_of_owns ho
        exact ⟨u, cu, by rw [e], hb⟩)
      clear hs hat
      generalize (onSh s xs).length = ln at *
      generalize sumCode id xs s = sc at *
      have HSU : Hid (legsTo xs ss (k + 1) = legsTo xs ss k + ln) := hsu
      clear hsu
      obtain ⟨A, hA⟩ : ∃ A, legsTo xs ss k = A := ⟨_, rfl⟩
      rw [hA] at hle HSU ⊢
      clear hA
      have hwA : IntKind.i64.wrap ((A : Int) + ln) = ((A + ln : Nat) : Int) := by rw [wrapI _ (by omega) (by omega)]; omega
      have hl0 : ¬ ((ln : Int) = 0) := by omega
      have c0' := cell_keep hbr c0
      have c1' := cell_keep hbr c1
      have hc' := cell_keep hbr hc
      have z5 := World.block_lt_of_cell? _ _ f1
      dsimp only at z5
      have z15 := World.block_lt_of_cell? _ _ c0'
      dsimp only at z15
      go_wp2
      refine wp_region_noPanic ?_
      refine region_upto (fun W => Below w4.heap.size w4 W ∧ W.cell? ⟨w1.heap.size, 0, none⟩ = some (.int .i64 id) ∧ W.cell? ⟨w1.heap.size, 1, none⟩ = some (.slice p n q) ∧ W.cell? ⟨w4.heap.size, 1, none⟩ = some (.slice (some ⟨b, o, none⟩) m q4) ∧ W.cell? ⟨b, o + k, none⟩ = some (.int .i64 s)) 8 (by kernel_rfl) ⟨by (repeat (first | exact Below.refl _ _ | assumption | refine Below.drew ?_ | refine balloc ?_ _ | refine bset ?_ (by simp; omega) _ | refine bset ?_ (by simp) _ | refine bstep ?_ (by assumption))), cell_keep (by (repeat (first | exact Below.refl _ _ | assumption | refine Below.drew ?_ | refine balloc ?_ _ | refine bset ?_ (by simp; omega) _ | refine bset ?_ (by simp) _ | refine bstep ?_ (by assumption)))) c0', cell_keep (by (repeat (first | exact Below.refl _ _ | assumption | refine Below.drew ?_ | refine balloc ?_ _ | refine bset ?_ (by simp; omega) _ | refine bset ?_ (by simp) _ | refine bstep ?_ (by assumption)))) c1', cell_keep (by (repeat (first | exact Below.refl _ _ | assumption | refine Below.drew ?_ | refine balloc ?_ _ | refine bset ?_ (by simp; omega) _ | refine bset ?_ (by simp) _ | refine bstep ?_ (by assumption)))) f1, cell_keep (by (repeat (first | exact Below.refl _ _ | assumption | refine Below.drew ?_ | refine balloc ?_ _ | refine bset ?_ (by simp; omega) _ | refine bset ?_ (by simp) _ | refine bstep ?_ (by assumption)))) hc'⟩ (fun hS => ?_)
      refine upto_take (i := 0) (v := ?_) rfl (by kernel_rfl) (by kernel_rfl) (by kernel_rfl) (by kernel_rfl) (fun _ _ _ h => h) (by rfl) hS ?_ ?_
      rotate_left
      · intro wS hSw
        try dsimp only at hSw
        first | (go_simp; done) | (go_simp; with_reducible rfl)
      try simp only [Act.put, List.getElem_toArray, List.getElem_cons_zero, List.getElem_cons_succ, List.setIfInBounds_toArray, List.set_cons_zero, List.set_cons_succ]
      refine upto_take (i := 1) (v := ?_) rfl (by kernel_rfl) (by kernel_rfl) (by kernel_rfl) (by kernel_rfl) (fun _ _ _ h => h) (by rfl) hS ?_ ?_
      rotate_left
      · intro wS hSw
        try dsimp only at hSw
        first | (go_simp; done) | (go_simp; with_reducible rfl)
      try simp only [Act.put, List.getElem_toArray, List.getElem_cons_zero, List.getElem_cons_succ, List.setIfInBounds_toArray, List.set_cons_zero, List.set_cons_succ]
      refine upto_take (i := 2) (v := ?_) rfl (by kernel_rfl) (by kernel_rfl) (by kernel_rfl) (by kernel_rfl) (fun _ _ _ h => h) (by rfl) hS ?_ ?_
      rotate_left
      · intro wS hSw
        try dsimp only at hSw
        first | (go_simp; done) | (go_simp; with_reducible rfl)
      try simp only [Act.put, List.getElem_toArray, List.getElem_cons_zero, List.getElem_cons_succ, List.setIfInBounds_toArray, List.set_cons_zero, List.set_cons_succ]
      refine upto_take (i := 3) (v := ?_) rfl (by kernel_rfl) (by kernel_rfl) (by kernel_rfl) (by kernel_rfl) (fun _ _ _ h => h) (by rfl) hS ?_ ?_
      rotate_left
      · intro wS hSw
        try dsimp only at hSw
        first | (go_simp; done) | (go_simp; with_reducible rfl)
      try simp only [Act.put, List.getElem_toArray, List.getElem_cons_zero, List.getElem_cons_succ, List.setIfInBounds_toArray, List.set_cons_zero, List.set_cons_succ]
      refine upto_take (i := 4) (v := ?_) rfl (by kernel_rfl) (by kernel_rfl) (by kernel_rfl) (by kernel_rfl) (fun _ _ _ h => h) (by rfl) hS ?_ ?_
      rotate_left
      · intro wS hSw
        try dsimp only at hSw
        first | (go_simp; done) | (go_simp; with_reducible rfl)
      try simp only [Act.put, List.getElem_toArray, List.getElem_cons_zero, List.getElem_cons_succ, List.setIfInBounds_toArray, List.set_cons_zero, List.set_cons_succ]
      refine upto_take (i := 5) (v := ?_) rfl (by kernel_rfl) (by kernel_rfl) (by kernel_rfl) (by kernel_rfl) (fun _ _ _ h => h) (by rfl) hS ?_ ?_
      rotate_left
      · intro wS hSw
        try dsimp only at hSw
        first | (go_simp; done) | (go_simp; with_reducible rfl)
      try simp only [Act.put, List.getElem_toArray, List.getElem_cons_zero, List.getElem_cons_succ, List.setIfInBounds_toArray, List.set_cons_zero, List.set_cons_succ]
      have keepS : ∀ {W W' : World}, Below W.heap.size W W' → (Below w4.heap.size w4 W ∧ W.cell? ⟨w1.heap.size, 0, none⟩ = some (.int .i64 id) ∧ W.cell? ⟨w1.heap.size, 1, none⟩ = some (.slice p n q) ∧ W.cell? ⟨w4.heap.size, 1, none⟩ = some (.slice (some ⟨b, o, none⟩) m q4) ∧ W.cell? ⟨b, o + k, none⟩ = some (.int .i64 s)) → (Below w4.heap.size w4 W' ∧ W'.cell? ⟨w1.heap.size, 0, none⟩ = some (.int .i64 id) ∧ W'.cell? ⟨w1.heap.size, 1, none⟩ = some (.slice p n q) ∧ W'.cell? ⟨w4.heap.size, 1, none⟩ = some (.slice (some ⟨b, o, none⟩) m q4) ∧ W'.cell? ⟨b, o + k, none⟩ = some (.int .i64 s)) := fun h hS => ⟨bstep hS.1 h, cell_keep h hS.2.1, cell_keep h hS.2.2.1, cell_keep h hS.2.2.2.1, cell_keep h hS.2.2.2.2⟩
      refine upto_two (i := 6) (j := 7) (by kernel_rfl) rfl rfl ?_ ?_
      · intro K hK
        go_simp
        refine (HAL.out _ hS.1).mono ?_
        rintro e w6 ⟨u6, g6, rfl, hb6⟩
        refine hK _ _ (fun _ => keepS hb6 hS) ?_
        have hS6 := keepS hb6 hS
        clear hK K hS hb6
        try simp only [Act.put, List.getElem_toArray, List.getElem_cons_zero, List.getElem_cons_succ, List.setIfInBounds_toArray, List.set_cons_zero, List.set_cons_succ]
        refine upto_step (i := 7) (by kernel_rfl) rfl ?_
        intro K hK
        go_simp
        refine hK _ _ (fun _ => keepS (balloc (Below.refl _ _) _) hS6) ?_
        clear hK K
        try simp only [Act.put, List.getElem_toArray, List.getElem_cons_zero, List.getElem_cons_succ, List.setIfInBounds_toArray, List.set_cons_zero, List.set_cons_succ]
        refine upto_step (i := 8) (by kernel_rfl) rfl ?_
        intro K hK
        go_simp
        refine hK _ _ (fun h => absurd rfl h) ?_
        clear hK K
        refine upto_done (by kernel_rfl) ?_
        refine NoPanic.normal ?_
        have hB6 := hS6.1
        have f6 := hS6.2.2.2.1
        have z6 := World.block_lt_of_cell? _ _ f6
        dsimp only at z6
        clear hS6 keepS
        go_wp2
        exact ⟨⟨k + 1, by omega, by rw [HSU.out]; exact congrArg (Value.int IntKind.i64) (by omega), by go_num, by (repeat (first | exact Below.refl _ _ | assumption | refine Below.drew ?_ | refine balloc ?_ _ | refine bset ?_ (by simp; omega) _ | refine bset ?_ (by simp) _ | refine bstep ?_ (by assumption))), cell_keep (by (repeat (first | exact Below.refl _ _ | assumption | refine Below.drew ?_ | refine balloc ?_ _ | refine bset ?_ (by simp; omega) _ | refine bset ?_ (by simp) _ | refine bstep ?_ (by assumption)))) f6⟩, by simp [intOf]; omega⟩
      · intro K hK
        go_simp
        refine hK _ _ (fun _ => ⟨by (repeat (first | exact Below.refl _ _ | assumption | refine Below.drew ?_ | refine balloc ?_ _ | refine bset ?_ (by simp; omega) _ | refine bset ?_ (by simp) _ | refine bstep ?_ (by assumption))), cell_keep (by (repeat (first | exact Below.refl _ _ | assumption | refine Below.drew ?_ | refine balloc ?_ _ | refine bset ?_ (by simp; omega) _ | refine bset ?_ (by simp) _ | refine bstep ?_ (by assumption)))) c0', cell_keep (by (repeat (first | exact Below.refl _ _ | assumption | refine Below.drew ?_ | refine balloc ?_ _ | refine bset ?_ (by simp; omega) _ | refine bset ?_ (by simp) _ | refine bstep ?_ (by assumption)))) c1', cell_keep (by (repeat (first | exact Below.refl _ _ | assumption | refine Below.drew ?_ | refine balloc ?_ _ | refine bset ?_ (by simp; omega) _ | refine bset ?_ (by simp) _ | refine bstep ?_ (by assumption)))) f1, cell_keep (by (repeat (first | exact Below.refl _ _ | assumption | refine Below.drew ?_ | refine balloc ?_ _ | refine bset ?_ (by simp; omega) _ | refine bset ?_ (by simp) _ | refine bstep ?_ (by assumption)))) hc'⟩) ?_
        clear hK K hS keepS
        try simp only [Act.put, List.getElem_toArray, List.getElem_cons_zero, List.getElem_cons_succ, List.setIfInBounds_toArray, List.set_cons_zero, List.set_cons_succ]
        refine upto_step (i := 6) (by kernel_rfl) rfl ?_
        intro K hK
        go_simp
        refine (HAL.out _ (by (repeat (first | exact Below.refl _ _ | assumption | refine Below.drew ?_ | refine balloc ?_ _ | refine bset ?_ (by simp; omega) _ | refine bset ?_ (by simp) _ | refine bstep ?_ (by assumption))))).mono ?_
        rintro e w6 ⟨u6, g6, rfl, hb6⟩
        have t0 : w6.cell? ⟨w5.heap.size, 0, none⟩ = some (.int .i64 0) := cell_keep hb6 (by simp [go_sem])
        have t1 : w6.cell? ⟨w5.heap.size, 1, none⟩ = some (.slice none 0 0) := cell_keep hb6 (by simp [go_sem])
        have tf : ∀ o, w6.frozen? ⟨w5.heap.size, o, none⟩ = false := fun o => by rw [(bcell hb6).2 _ _ (by simp)]; simp [go_sem]
        have f6 : w6.cell? ⟨w4.heap.size, 1, none⟩ = some (.slice (some ⟨b, o, none⟩) m q4) := cell_keep hb6 (cell_keep (by (repeat (first | exact Below.refl _ _ | assumption | refine Below.drew ?_ | refine balloc ?_ _ | refine bset ?_ (by simp; omega) _ | refine bset ?_ (by simp) _ | refine bstep ?_ (by assumption)))) f1)
        have hB6 : Below w4.heap.size w4 w6 := bstep (by (repeat (first | exact Below.refl _ _ | assumption | refine Below.drew ?_ | refine balloc ?_ _ | refine bset ?_ (by simp; omega) _ | refine bset ?_ (by simp) _ | refine bstep ?_ (by assumption)))) hb6
        refine hK _ _ (fun _ => ⟨hB6, cell_keep hb6 (cell_keep (by (repeat (first | exact Below.refl _ _ | assumption | refine Below.drew ?_ | refine balloc ?_ _ | refine bset ?_ (by simp; omega) _ | refine bset ?_ (by simp) _ | refine bstep ?_ (by assumption)))) c0'), cell_keep hb6 (cell_keep (by (repeat (first | exact Below.refl _ _ | assumption | refine Below.drew ?_ | refine balloc ?_ _ | refine bset ?_ (by simp; omega) _ | refine bset ?_ (by simp) _ | refine bstep ?_ (by assumption)))) c1'), f6, cell_keep hb6 (cell_keep (by (repeat (first | exact Below.refl _ _ | assumption | refine Below.drew ?_ | refine balloc ?_ _ | refine bset ?_ (by simp; omega) _ | refine bset ?_ (by simp) _ | refine bstep ?_ (by assumption)))) hc')⟩) ?_
        clear hK K hb6
        try simp only [Act.put, List.getElem_toArray, List.getElem_cons_zero, List.getElem_cons_succ, List.setIfInBounds_toArray, List.set_cons_zero, List.set_cons_succ]
        refine upto_step (i := 8) (by kernel_rfl) rfl ?_
        intro K hK
        go_simp
        refine hK _ _ (fun h => absurd rfl h) ?_
        clear hK K
        refine upto_done (by kernel_rfl) ?_
        refine NoPanic.normal ?_
        go_wp2
        exact ⟨⟨k + 1, by omega, by rw [HSU.out]; exact congrArg (Value.int IntKind.i64) (by omega), by go_num, by (repeat (first | exact Below.refl _ _ | assumption | refine Below.drew ?_ | refine balloc ?_ _ | refine bset ?_ (by simp; omega) _ | refine bset ?_ (by simp) _ | refine bstep ?_ (by assumption))), by rw [set_other (by first | (simp; done) | (simp; omega)), set_other (by first | (simp; done) | (simp; omega))]; exact f6⟩, by simp [intOf]; omega⟩
    · have hkm' : k = m := by omega
      subst hkm'
      have hk' : ¬ ((k : Int) < k) := by omega
      have hfin : legsTo xs ss k = n := by
        have h2 := HALL.out
        rw [HM.out, HN.out] at h2
        exact h2
      rw [hfin]
      clear hfin hsl
      go_wp2
      go_loopw [11] (fun i W => ∃ j : Nat, j ≤ 3 ∧ i = .int .i64 j ∧ Below w4.heap.size w4 W) (fun i _ => 3 - (intOf i).toNat)
      case atStart => exact ⟨0, by omega, rfl, hbr⟩
      case round =>
        obtain ⟨j, hj, rfl, hbj⟩ := hrel
        clear f1 hbr
        have c0' := cell_keep hbj c0
        have c1' := cell_keep hbj c1
        have k1' := cell_keep hbj k1
        have k2' := cell_keep hbj k2
        by_cases hj3 : j < 3
        · have hj' : (j : Int) < 3 := by omega
          have hwj : IntKind.i64.wrap ((j : Int) + 1) = (j : Int) + 1 := wrapI _ (by omega) (by omega)
          obtain ⟨hs1, hs2, hs3⟩ := HSUM.out j (by omega) (by omega)
          have HS1 : Hid (sumVal nid (turn xs) j = sumVal id xs j ∧ sumCode id xs j = 0 ∧ sumCode nid (turn xs) j = 0) := ⟨hs1, hs2, hs3⟩
          clear hs1 hs2 hs3
          go_wp2
          refine wp_region_noPanic ?_
          refine region_upto (fun W => Below w4.heap.size w4 W ∧ W.cell? ⟨w1.heap.size, 0, none⟩ = some (.int .i64 id) ∧ W.cell? ⟨w1.heap.size, 1, none⟩ = some (.slice p n q) ∧ W.cell? ⟨w2.heap.size, 1, none⟩ = some (.int .i64 nid) ∧ W.cell? ⟨w2.heap.size, 2, none⟩ = some (.slice p2 n q2)) 8 (by kernel_rfl) ⟨by (repeat (first | exact Below.refl _ _ | assumption | refine Below.drew ?_ | refine balloc ?_ _ | refine bset ?_ (by simp; omega) _ | refine bset ?_ (by simp) _ | refine bstep ?_ (by assumption))), cell_keep (by (repeat (first | exact Below.refl _ _ | assumption | refine Below.drew ?_ | refine balloc ?_ _ | refine bset ?_ (by simp; omega) _ | refine bset ?_ (by simp) _ | refine bstep ?_ (by assumption)))) c0', cell_keep (by (repeat (first | exact Below.refl _ _ | assumption | refine Below.drew ?_ | refine balloc ?_ _ | refine bset ?_ (by simp; omega) _ | refine bset ?_ (by simp) _ | refine bstep ?_ (by assumption)))) c1', cell_keep (by (repeat (first | exact Below.refl _ _ | assumption | refine Below.drew ?_ | refine balloc ?_ _ | refine bset ?_ (by simp; omega) _ | refine bset ?_ (by simp) _ | refine bstep ?_ (by assumption)))) k1', cell_keep (by (repeat (first | exact Below.refl _ _ | assumption | refine Below.drew ?_ | refine balloc ?_ _ | refine bset ?_ (by simp; omega) _ | refine bset ?_ (by simp) _ | refine bstep ?_ (by assumption)))) k2'⟩ (fun hS => ?_)
          refine upto_takeN (i := 0) (v := ?_) rfl (by kernel_rfl) (by kernel_rfl) (by kernel_rfl) (by kernel_rfl) (fun _ _ _ h => h) (by rfl) hS ?_ ?_
          rotate_left
          · intro wS hSw
            try dsimp only at hSw
            first | (go_simp; done) | (go_simp; with_reducible rfl)
          try simp only [Act.put, List.getElem_toArray, List.getElem_cons_zero, List.getElem_cons_succ, List.setIfInBounds_toArray, List.set_cons_zero, List.set_cons_succ]
          refine upto_takeN (i := 1) (v := ?_) rfl (by kernel_rfl) (by kernel_rfl) (by kernel_rfl) (by kernel_rfl) (fun _ _ _ h => h) (by rfl) hS ?_ ?_
          rotate_left
          · intro wS hSw
            try dsimp only at hSw
            first | (go_simp; done) | (go_simp; with_reducible rfl)
          try simp only [Act.put, List.getElem_toArray, List.getElem_cons_zero, List.getElem_cons_succ, List.setIfInBounds_toArray, List.set_cons_zero, List.set_cons_succ]
          refine upto_takeN (i := 3) (v := ?_) rfl (by kernel_rfl) (by kernel_rfl) (by kernel_rfl) (by kernel_rfl) (fun _ _ _ h => h) (by rfl) hS ?_ ?_
          rotate_left
          · intro wS hSw
            try dsimp only at hSw
            first | (go_simp; done) | (go_simp; with_reducible rfl)
          try simp only [Act.put, List.getElem_toArray, List.getElem_cons_zero, List.getElem_cons_succ, List.setIfInBounds_toArray, List.set_cons_zero, List.set_cons_succ]
          refine upto_takeN (i := 4) (v := ?_) rfl (by kernel_rfl) (by kernel_rfl) (by kernel_rfl) (by kernel_rfl) (fun _ _ _ h => h) (by rfl) hS ?_ ?_
          rotate_left
          · intro wS hSw
            try dsimp only at hSw
            first | (go_simp; done) | (go_simp; with_reducible rfl)
          try simp only [Act.put, List.getElem_toArray, List.getElem_cons_zero, List.getElem_cons_succ, List.setIfInBounds_toArray, List.set_cons_zero, List.set_cons_succ]
          refine upto_takeN (i := 5) (v := ?_) rfl (by kernel_rfl) (by kernel_rfl) (by kernel_rfl) (by kernel_rfl) (fun _ _ _ h => h) (by rfl) hS ?_ ?_
          rotate_left
          · intro wS hSw
            try dsimp only at hSw
            first | (go_simp; done) | (go_simp; with_reducible rfl)
          try simp only [Act.put, List.getElem_toArray, List.getElem_cons_zero, List.getElem_cons_succ, List.setIfInBounds_toArray, List.set_cons_zero, List.set_cons_succ]
          refine upto_step (i := 2) (by kernel_rfl) rfl ?_
          intro K hK
          go_simp
          refine (implSumOf_any id _ xs j _ (HV.out _ (bstep (bstep (bstep hB2 hB3) hB4) hS.1))).mono ?_
          rintro e w6 ⟨rfl, hb6⟩
          have hS6 : (fun W => Below w4.heap.size w4 W ∧ W.cell? ⟨w1.heap.size, 0, none⟩ = some (.int .i64 id) ∧ W.cell? ⟨w1.heap.size, 1, none⟩ = some (.slice p n q) ∧ W.cell? ⟨w2.heap.size, 1, none⟩ = some (.int .i64 nid) ∧ W.cell? ⟨w2.heap.size, 2, none⟩ = some (.slice p2 n q2)) w6 := ⟨bstep hS.1 hb6, cell_keep hb6 hS.2.1, cell_keep hb6 hS.2.2.1, cell_keep hb6 hS.2.2.2.1, cell_keep hb6 hS.2.2.2.2⟩
          rw [HS1.out.2.1]
          refine hK _ _ (fun _ => hS6) ?_
          clear hK K hS hb6
          try simp only [Act.put, List.getElem_toArray, List.getElem_cons_zero, List.getElem_cons_succ, List.setIfInBounds_toArray, List.set_cons_zero, List.set_cons_succ]
          refine upto_step (i := 6) (by kernel_rfl) rfl ?_
          intro K hK
          go_simp
          refine (implSumOf_any nid _ (turn xs) j _ (HV2.out _ (bstep (bstep hB3 hB4) hS6.1))).mono ?_
          rintro e w7 ⟨rfl, hb7⟩
          have hS7 : (fun W => Below w4.heap.size w4 W ∧ W.cell? ⟨w1.heap.size, 0, none⟩ = some (.int .i64 id) ∧ W.cell? ⟨w1.heap.size, 1, none⟩ = some (.slice p n q) ∧ W.cell? ⟨w2.heap.size, 1, none⟩ = some (.int .i64 nid) ∧ W.cell? ⟨w2.heap.size, 2, none⟩ = some (.slice p2 n q2)) w7 := ⟨bstep hS6.1 hb7, cell_keep hb7 hS6.2.1, cell_keep hb7 hS6.2.2.1, cell_keep hb7 hS6.2.2.2.1, cell_keep hb7 hS6.2.2.2.2⟩
          rw [HS1.out.2.2, HS1.out.1]
          refine hK _ _ (fun _ => hS7) ?_
          clear hK K hS6 hb7
          generalize sumVal id xs j = sv
          try simp only [Act.put, List.getElem_toArray, List.getElem_cons_zero, List.getElem_cons_succ, List.setIfInBounds_toArray, List.set_cons_zero, List.set_cons_succ]
          refine upto_takeN (i := 7) (v := (.bool false)) rfl (by kernel_rfl) (by kernel_rfl) (by kernel_rfl) (by kernel_rfl) (fun _ _ _ h => h) (by rfl) hS7 ?_ ?_
          · intro wS hSw
            try dsimp only at hSw
            go_simp
          try simp only [Act.put, List.getElem_toArray, List.getElem_cons_zero, List.getElem_cons_succ, List.setIfInBounds_toArray, List.set_cons_zero, List.set_cons_succ]
          refine upto_done (by kernel_rfl) ?_
          refine NoPanic.normal ?_
          have hB7 := hS7.1
          clear hS7
          go_wp2
          exact ⟨⟨j + 1, by omega, by go_num, hB7⟩, by simp [intOf]; omega⟩
        · have hj' : ¬ ((j : Int) < 3) := by omega
          go_wp2_with fail
          refine (implFault_any nid _ (turn xs) _ (HV2.out _ (bstep (bstep hB3 hB4) hbj))).mono ?_
          rintro e w6 ⟨rfl, hb6⟩
          rw [HCF2.out]
          have j0' := cell_keep hb6 (cell_keep hbj j0)
          have j1' := cell_keep hb6 (cell_keep hbj j1)
          have j2' := cell_keep hb6 (cell_keep hbj j2)
          replace c0' := cell_keep hb6 c0'
          replace c1' := cell_keep hb6 c1'
          have hB6 : Below w4.heap.size w4 w6 := bstep hbj hb6
          clear hb6 k1' k2'
          go_wp2_with fail
          refine (implSame_any id id _ _ xs xs _ (HV3.out _ (bstep hB4 hB6)) (HV.out _ (bstep (bstep (bstep hB2 hB3) hB4) hB6))).mono ?_
          rintro e w7 ⟨rfl, hb7⟩
          rw [decide_eq_true ⟨rfl, rfl⟩]
          replace c1' := cell_keep hb7 c1'
          have hB7 : Below w4.heap.size w4 w7 := bstep hB6 hb7
          clear hb7
          go_wp2
          go_ret
          exact ⟨rfl, bstep (bstep (bstep (bstep hb1 hB2) hB3) hB4) hB7⟩
end contractsLaw
end Go.Proofs.Yteebglgbeijolaa

