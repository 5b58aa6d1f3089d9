import Derived.Test.YteebglgbeijolaaPrnBytes9Law13
import Derived.Test.YteebglgbeijolaaPrnBytes9Law14

/-
  Numbers and contracts are read back: the walk.
-/
namespace Go.Proofs.Yteebglgbeijolaa
open Go.RowKit
set_option linter.unusedSectionVars false
variable [DecidableEq Logg] [Inhabited Logg] [DecidableEq LoggR] [Inhabited LoggR] [DecidableEq BytesR] [Inhabited BytesR] [DecidableEq RecsR] [Inhabited RecsR] [DecidableEq Leg] [Inhabited Leg] [DecidableEq Cont] [Inhabited Cont] [DecidableEq ContR] [Inhabited ContR]
set_option linter.unusedVariables false
set_option linter.unusedSimpArgs false
attribute [local go_sem ↓] Go.wp_at_zero Go.wp_at_succ

namespace bytes9Law
set_option maxRecDepth 20000 in
set_option maxHeartbeats 16000000 in
theorem walk (x0 : Value) (d0 : List Byte) (w : World) (hx0 : bytesR.V w x0 d0) :
    Calls Try.prog 4 #[x0] w fun e w' => e = .returned (.bool true) ∧ Below w.heap.size w w' := by
  have hX0 := hx0
  obtain ⟨ax, cx, rfl⟩ := bytes_form hx0
  go_enter Try.func4, Try.ntmps4
  go_wp2_with fail
  refine (lwBig_any _ d0 _ hX0).mono ?_
  rintro e w' ⟨rfl, hw⟩
  obtain rfl : w = w' := hw.symm
  by_cases hbig : 1048576 < d0.length
  · rw [decide_eq_true hbig]
    go_wp2
    go_ret
    exact ⟨rfl, Below.refl _ _⟩
  rw [decide_eq_false hbig]
  have HX : Hid (∀ W, Below w.heap.size w W → BytesV W (.slice ax d0.length cx) d0) := fun W hW => BytesV_below hX0 hW
  obtain ⟨N0, hN0⟩ : ∃ N0, N0 = d0.length := ⟨_, rfl⟩
  rw [← hN0] at HX ⊢
  have HN0 : Hid (d0.length ≤ 1048576) := by unfold Hid; omega
  clear hx0 hX0 hbig hN0
  go_wp2_with fail
  refine (drawPackN_any _ d0 _ (HX.out _ (Below.refl _ _)) HN0.out).mono ?_
  rintro e w1 ⟨r, rfl, hr0, hr1, hb1⟩
  have HR : Hid (unVal (hiB r 8) = r) := unVal_hiB r hr0 hr1
  clear hr0 hr1
  go_wp2_with fail
  refine (implPack_u r _).mono ?_
  rintro e w2 ⟨v2, F2, rfl, o2, hb2⟩
  obtain ⟨p2, q2, rfl⟩ := bytes_form (bytesR.ofO o2)
  rw [length_hiB]
  have HV2 : Hid (∀ W, Below w2.heap.size w2 W → bytesR.V W (.slice p2 8 q2) (hiB r 8)) := fun W hW => by
    have := bytesR.below (bytesR.ofO o2) hW
    rw [length_hiB] at this
    exact this
  have hB2 : Below w.heap.size w w2 := bstep hb1 hb2
  clear o2 hb1 hb2
  go_wp2_with fail
  refine (drawUnpack_any _ d0 _ (HX.out _ hB2) HN0.out).mono ?_
  rintro e w3 ⟨v3, ds, rfl, hV3, hl3, hb3⟩
  obtain ⟨p3, q3, rfl⟩ := bytes_form hV3
  obtain ⟨n3, hn3⟩ : ∃ n3, n3 = ds.length := ⟨_, rfl⟩
  rw [← hn3] at hV3 hl3 ⊢
  have HV3 : Hid (∀ W, Below w3.heap.size w3 W → bytesR.V W (.slice p3 n3 q3) ds) := fun W hW => bytesR.below hV3 hW
  have HN3 : Hid (ds.length = n3) := hn3.symm
  clear hV3 hn3
  go_wp2_with fail
  refine (implUnpC_u _ ds _ (HV3.out _ (Below.refl _ _))).mono ?_
  rintro e w4 ⟨v4, F4, rfl, o4, hb4⟩
  have hV4 := contRR.ofO o4
  clear o4
  have HSU : Hid (∀ W, Below w3.heap.size w3 W → Calls Try.prog 23 #[.slice p3 n3 q3] W fun e w' => ∃ v F, e = .returned v ∧ contRR.O w' W.heap.size F v (unpD ds) ∧ Below W.heap.size W w') := fun W hW => specUnpC_u _ ds W (HV3.out W hW)
  have hcv : ∀ W : World, Below w4.heap.size w4 W → (convert 22 9 (.slice p3 n3 q3)).run Try.prog W = .ok (.string (bstr ds)) W := fun W hW => conv_bytes (HV3.out W (bstep hb4 hW))
  obtain ⟨D, hD⟩ : ∃ D, unpD ds = D := ⟨_, rfl⟩
  have HD : Hid (unpD ds = D) := hD
  rw [hD] at hV4
  have hU : Hid (D.code = 0 → packD D.contract = ⟨0, ds⟩) := fun h => by
    rw [← hD] at h ⊢
    exact (packD_unpD h).1
  clear hD
  obtain ⟨p4, q4, e4⟩ := contR_form hV4
  have hC4 : contR.V w4 (.agg #[.int .i64 D.contract.id, .slice p4 D.contract.legs.length q4]) D.contract := by
    obtain ⟨u, e, h⟩ := hV4
    rw [e4] at e
    simp only [Value.agg.injEq, Array.mk.injEq, List.cons.injEq, and_true, true_and] at e
    rw [e]
    exact h
  subst e4
  clear hV4
  have HC4 : Hid (∀ W, Below w4.heap.size w4 W → Calls Try.prog 22 #[.agg #[.int .i64 D.contract.id, .slice p4 D.contract.legs.length q4]] W fun e w' => ∃ v F, e = .returned v ∧ bytesRR.O w' W.heap.size F v (packD D.contract) ∧ Below W.heap.size W w') := fun W hW => implPackC_u _ D.contract W (contR.below hC4 hW)
  clear hC4
  have hB4 : Below w.heap.size w w4 := bstep (bstep hB2 hb3) hb4
  have HB34 : Hid (Below w3.heap.size w3 w4) := hb4
  have HB24 : Hid (Below w2.heap.size w2 w4) := bstep hb3 hb4
  clear hB2 hb3 hb4
  obtain ⟨Dc, hDc⟩ : ∃ c, c = D.code := ⟨_, rfl⟩
  obtain ⟨Di, hDi⟩ : ∃ i, i = D.contract.id := ⟨_, rfl⟩
  obtain ⟨Dl, hDl⟩ : ∃ l, l = D.contract.legs.length := ⟨_, rfl⟩
  have HDc : Hid (D.code = Dc ∧ D.contract.id = Di ∧ D.contract.legs.length = Dl) := ⟨hDc.symm, hDi.symm, hDl.symm⟩
  rw [← hDi, ← hDl] at HC4
  rw [← hDc, ← hDi, ← hDl]
  rw [← hDc] at hU
  clear hDc hDi hDl
  by_cases hc0 : Dc = 0
  · subst hc0
    go_wp2
    refine wp_region_noPanic ?_
    refine region_upto (fun W => Below w4.heap.size w4 W ∧ W.cell? ⟨w4.heap.size, 0, none⟩ = some (.int .i64 0) ∧ W.cell? ⟨w4.heap.size, 1, none⟩ = some (.int .i64 Di) ∧ W.cell? ⟨w4.heap.size, 2, none⟩ = some (.slice p4 Dl q4)) 38 (by kernel_rfl) ⟨by (repeat (first | exact Below.refl _ _ | assumption | refine Below.drew ?_ | refine balloc ?_ _ | refine bset ?_ (by simp; omega) _ | refine bset ?_ (by simp) _ | refine bstep ?_ (by assumption))), by simp [go_sem], by simp [go_sem], by simp [go_sem]⟩ (fun hS => ?_)
    refine upto_takeN (i := 0) (v := ?_) rfl (by kernel_rfl) (by kernel_rfl) (by kernel_rfl) (by kernel_rfl) (fun _ _ _ h => h) (by rfl) hS ?_ ?_
    rotate_left
    · intro wS hSw
      try dsimp only at hSw
      first | (go_simp; done) | (go_simp; with_reducible rfl)
    try simp only [Act.put, List.getElem_toArray, List.getElem_cons_zero, List.getElem_cons_succ, List.setIfInBounds_toArray, List.set_cons_zero, List.set_cons_succ]
    refine upto_takeN (i := 1) (v := ?_) rfl (by kernel_rfl) (by kernel_rfl) (by kernel_rfl) (by kernel_rfl) (fun _ _ _ h => h) (by rfl) hS ?_ ?_
    rotate_left
    · intro wS hSw
      try dsimp only at hSw
      first | (go_simp; done) | (go_simp; with_reducible rfl)
    try simp only [Act.put, List.getElem_toArray, List.getElem_cons_zero, List.getElem_cons_succ, List.setIfInBounds_toArray, List.set_cons_zero, List.set_cons_succ]
    refine upto_takeN (i := 2) (v := (.bool false)) rfl (by kernel_rfl) (by kernel_rfl) (by kernel_rfl) (by kernel_rfl) (fun _ _ _ h => h) (by rfl) hS ?_ ?_
    · intro wS hSw
      try dsimp only at hSw
      go_simp
    try simp only [Act.put, List.getElem_toArray, List.getElem_cons_zero, List.getElem_cons_succ, List.setIfInBounds_toArray, List.set_cons_zero, List.set_cons_succ]
    refine upto_takeN (i := 3) (v := (.bool false)) rfl (by kernel_rfl) (by kernel_rfl) (by kernel_rfl) (by kernel_rfl) (fun _ _ _ h => h) (by rfl) hS ?_ ?_
    · intro wS hSw
      try dsimp only at hSw
      go_simp
    try simp only [Act.put, List.getElem_toArray, List.getElem_cons_zero, List.getElem_cons_succ, List.setIfInBounds_toArray, List.set_cons_zero, List.set_cons_succ]
    refine upto_takeN (i := 4) (v := ?_) rfl (by kernel_rfl) (by kernel_rfl) (by kernel_rfl) (by kernel_rfl) (fun _ _ _ h => h) (by rfl) hS ?_ ?_
    rotate_left
    · intro wS hSw
      try dsimp only at hSw
      first | (go_simp; done) | (go_simp; with_reducible rfl)
    try simp only [Act.put, List.getElem_toArray, List.getElem_cons_zero, List.getElem_cons_succ, List.setIfInBounds_toArray, List.set_cons_zero, List.set_cons_succ]
    refine upto_takeN (i := 7) (v := ?_) rfl (by kernel_rfl) (by kernel_rfl) (by kernel_rfl) (by kernel_rfl) (fun _ _ _ h => h) (by rfl) hS ?_ ?_
    rotate_left
    · intro wS hSw
      try dsimp only at hSw
      first | (go_simp; done) | (go_simp; with_reducible rfl)
    try simp only [Act.put, List.getElem_toArray, List.getElem_cons_zero, List.getElem_cons_succ, List.setIfInBounds_toArray, List.set_cons_zero, List.set_cons_succ]
    refine upto_step (i := 5) (by kernel_rfl) rfl ?_
    intro K hK
    go_simp
    refine (implUnpack_any _ (hiB r 8) _ (HV2.out _ (bstep HB24.out hS.1))).mono ?_
    rintro e w5 ⟨rfl, hb5⟩
    rw [HR.out]
    have hS5 : (fun W => Below w4.heap.size w4 W ∧ W.cell? ⟨w4.heap.size, 0, none⟩ = some (.int .i64 0) ∧ W.cell? ⟨w4.heap.size, 1, none⟩ = some (.int .i64 Di) ∧ W.cell? ⟨w4.heap.size, 2, none⟩ = some (.slice p4 Dl q4)) w5 := ⟨bstep hS.1 hb5, cell_keep hb5 hS.2.1, cell_keep hb5 hS.2.2.1, cell_keep hb5 hS.2.2.2⟩
    obtain ⟨uc, huc⟩ : ∃ uc, unCode (hiB r 8) = uc := ⟨_, rfl⟩
    rw [huc]
    clear huc
    have hf6 : ∀ w : World, (Instr.field 40 (.agg #[.int .i64 uc, .int .i64 r]) 1).run Try.prog w = .ok (.int .i64 r) w := fun _ => by kernel_rfl
    refine hK _ _ (fun _ => hS5) ?_
    clear hK K hS hb5
    try simp only [Act.put, List.getElem_toArray, List.getElem_cons_zero, List.getElem_cons_succ, List.setIfInBounds_toArray, List.set_cons_zero, List.set_cons_succ]
    refine upto_takeN (i := 6) (v := (.int .i64 r)) rfl (by kernel_rfl) (by kernel_rfl) (by kernel_rfl) (by kernel_rfl) (fun _ _ _ h => h) (by rfl) hS5 ?_ ?_
    · intro wS hSw
      try dsimp only at hSw
      go_simp
    try simp only [Act.put, List.getElem_toArray, List.getElem_cons_zero, List.getElem_cons_succ, List.setIfInBounds_toArray, List.set_cons_zero, List.set_cons_succ]
    refine upto_takeN (i := 8) (v := (.bool false)) rfl (by kernel_rfl) (by kernel_rfl) (by kernel_rfl) (by kernel_rfl) (fun _ _ _ h => h) (by rfl) hS5 ?_ ?_
    · intro wS hSw
      try dsimp only at hSw
      go_simp
    try simp only [Act.put, List.getElem_toArray, List.getElem_cons_zero, List.getElem_cons_succ, List.setIfInBounds_toArray, List.set_cons_zero, List.set_cons_succ]
    refine upto_takeN (i := 9) (v := (.bool false)) rfl (by kernel_rfl) (by kernel_rfl) (by kernel_rfl) (by kernel_rfl) (fun _ _ _ h => h) (by rfl) hS5 ?_ ?_
    · intro wS hSw
      try dsimp only at hSw
      go_simp
    try simp only [Act.put, List.getElem_toArray, List.getElem_cons_zero, List.getElem_cons_succ, List.setIfInBounds_toArray, List.set_cons_zero, List.set_cons_succ]
    refine upto_takeN (i := 10) (v := (.bool false)) rfl (by kernel_rfl) (by kernel_rfl) (by kernel_rfl) (by kernel_rfl) (fun _ _ _ h => h) (by rfl) hS5 ?_ ?_
    · intro wS hSw
      try dsimp only at hSw
      go_simp
    try simp only [Act.put, List.getElem_toArray, List.getElem_cons_zero, List.getElem_cons_succ, List.setIfInBounds_toArray, List.set_cons_zero, List.set_cons_succ]
    refine upto_takeN (i := 11) (v := ?_) rfl (by kernel_rfl) (by kernel_rfl) (by kernel_rfl) (by kernel_rfl) (fun _ _ _ h => h) (by rfl) hS5 ?_ ?_
    rotate_left
    · intro wS hSw
      try dsimp only at hSw
      first | (go_simp; done) | (go_simp; with_reducible rfl)
    try simp only [Act.put, List.getElem_toArray, List.getElem_cons_zero, List.getElem_cons_succ, List.setIfInBounds_toArray, List.set_cons_zero, List.set_cons_succ]
    refine upto_takeN (i := 12) (v := ?_) rfl (by kernel_rfl) (by kernel_rfl) (by kernel_rfl) (by kernel_rfl) (fun _ _ _ h => h) (by rfl) hS5 ?_ ?_
    rotate_left
    · intro wS hSw
      try dsimp only at hSw
      first | (go_simp; done) | (go_simp; with_reducible rfl)
    try simp only [Act.put, List.getElem_toArray, List.getElem_cons_zero, List.getElem_cons_succ, List.setIfInBounds_toArray, List.set_cons_zero, List.set_cons_succ]
    refine upto_takeN (i := 13) (v := (.bool true)) rfl (by kernel_rfl) (by kernel_rfl) (by kernel_rfl) (by kernel_rfl) (fun _ _ _ h => h) (by rfl) hS5 ?_ ?_
    · intro wS hSw
      try dsimp only at hSw
      go_simp
    try simp only [Act.put, List.getElem_toArray, List.getElem_cons_zero, List.getElem_cons_succ, List.setIfInBounds_toArray, List.set_cons_zero, List.set_cons_succ]
    refine upto_takeN (i := 14) (v := (.bool true)) rfl (by kernel_rfl) (by kernel_rfl) (by kernel_rfl) (by kernel_rfl) (fun _ _ _ h => h) (by rfl) hS5 ?_ ?_
    · intro wS hSw
      try dsimp only at hSw
      go_simp
    try simp only [Act.put, List.getElem_toArray, List.getElem_cons_zero, List.getElem_cons_succ, List.setIfInBounds_toArray, List.set_cons_zero, List.set_cons_succ]
    refine upto_takeN (i := 15) (v := ?_) rfl (by kernel_rfl) (by kernel_rfl) (by kernel_rfl) (by kernel_rfl) (fun _ _ _ h => h) (by rfl) hS5 ?_ ?_
    rotate_left
    · intro wS hSw
      try dsimp only at hSw
      first | (go_simp; done) | (go_simp; with_reducible rfl)
    try simp only [Act.put, List.getElem_toArray, List.getElem_cons_zero, List.getElem_cons_succ, List.setIfInBounds_toArray, List.set_cons_zero, List.set_cons_succ]
    refine upto_takeN (i := 16) (v := ?_) rfl (by kernel_rfl) (by kernel_rfl) (by kernel_rfl) (by kernel_rfl) (fun _ _ _ h => h) (by rfl) hS5 ?_ ?_
    rotate_left
    · intro wS hSw
      try dsimp only at hSw
      first | (go_simp; done) | (go_simp; with_reducible rfl)
    try simp only [Act.put, List.getElem_toArray, List.getElem_cons_zero, List.getElem_cons_succ, List.setIfInBounds_toArray, List.set_cons_zero, List.set_cons_succ]
    refine upto_takeN (i := 20) (v := ?_) rfl (by kernel_rfl) (by kernel_rfl) (by kernel_rfl) (by kernel_rfl) (fun _ _ _ h => h) (by rfl) hS5 ?_ ?_
    rotate_left
    · intro wS hSw
      try dsimp only at hSw
      first | (go_simp; done) | (go_simp; with_reducible rfl)
    try simp only [Act.put, List.getElem_toArray, List.getElem_cons_zero, List.getElem_cons_succ, List.setIfInBounds_toArray, List.set_cons_zero, List.set_cons_succ]
    refine upto_takeN (i := 21) (v := (.string (bstr ds))) rfl (by kernel_rfl) (by kernel_rfl) (by kernel_rfl) (by kernel_rfl) (fun _ _ _ h => h) (by rfl) hS5 ?_ ?_
    · intro wS hSw
      try dsimp only at hSw
      have qc := hcv wS hSw.1
      go_simp
    try simp only [Act.put, List.getElem_toArray, List.getElem_cons_zero, List.getElem_cons_succ, List.setIfInBounds_toArray, List.set_cons_zero, List.set_cons_succ]
    refine upto_step (i := 17) (by kernel_rfl) rfl ?_
    intro K hK
    go_simp
    refine (HC4.out _ hS5.1).mono ?_
    rintro e w6 ⟨v6, F6, rfl, o6, hb6⟩
    have hPD : packD D.contract = ⟨0, ds⟩ := by first | exact hU.out rfl | exact hU.out trivial
    rw [hPD] at o6
    clear hPD
    have hV6 := bytesRR.ofO o6
    obtain ⟨p6, q6, e6⟩ := bytesR_form hV6
    have hb6V : bytesR.V w6 (.slice p6 ds.length q6) ds := by
      obtain ⟨u, e, h⟩ := hV6
      rw [e6] at e
      simp only [Value.agg.injEq, Array.mk.injEq, List.cons.injEq, and_true, true_and] at e
      rw [e]
      exact h
    subst e6
    dsimp only
    rw [HN3.out] at hb6V ⊢
    have hcv6 : ∀ W : World, Below w6.heap.size w6 W → (convert 22 9 (.slice p6 n3 q6)).run Try.prog W = .ok (.string (bstr ds)) W := fun W hW => conv_bytes (bytesR.below hb6V hW)
    have hf18 : ∀ w : World, (Instr.field 50 (.agg #[.int .i64 0, .slice p6 n3 q6]) 1).run Try.prog w = .ok (.slice p6 n3 q6) w := fun _ => by kernel_rfl
    have hS6 : (fun W => Below w4.heap.size w4 W ∧ W.cell? ⟨w4.heap.size, 0, none⟩ = some (.int .i64 0) ∧ W.cell? ⟨w4.heap.size, 1, none⟩ = some (.int .i64 Di) ∧ W.cell? ⟨w4.heap.size, 2, none⟩ = some (.slice p4 Dl q4)) w6 := ⟨bstep hS5.1 hb6, cell_keep hb6 hS5.2.1, cell_keep hb6 hS5.2.2.1, cell_keep hb6 hS5.2.2.2⟩
    have hq19 := hcv6 w6 (Below.refl _ _)
    refine hK _ _ (fun _ => hS6) ?_
    clear hK K hS5 hb6 o6 hV6 hcv6
    try simp only [Act.put, List.getElem_toArray, List.getElem_cons_zero, List.getElem_cons_succ, List.setIfInBounds_toArray, List.set_cons_zero, List.set_cons_succ]
    refine upto_takeN (i := 18) (v := (.slice p6 n3 q6)) rfl (by kernel_rfl) (by kernel_rfl) (by kernel_rfl) (by kernel_rfl) (fun _ _ _ h => h) (by rfl) hS6 ?_ ?_
    · intro wS hSw
      try dsimp only at hSw
      go_simp
    try simp only [Act.put, List.getElem_toArray, List.getElem_cons_zero, List.getElem_cons_succ, List.setIfInBounds_toArray, List.set_cons_zero, List.set_cons_succ]
    refine upto_step (i := 19) (by kernel_rfl) rfl ?_
    intro K hK
    go_simp
    refine hK _ _ (fun _ => hS6) ?_
    clear hK K hq19
    try simp only [Act.put, List.getElem_toArray, List.getElem_cons_zero, List.getElem_cons_succ, List.setIfInBounds_toArray, List.set_cons_zero, List.set_cons_succ]
    refine upto_takeN (i := 22) (v := (.bool false)) rfl (by kernel_rfl) (by kernel_rfl) (by kernel_rfl) (by kernel_rfl) (fun _ _ _ h => h) (by rfl) hS6 ?_ ?_
    · intro wS hSw
      try dsimp only at hSw
      go_simp
    try simp only [Act.put, List.getElem_toArray, List.getElem_cons_zero, List.getElem_cons_succ, List.setIfInBounds_toArray, List.set_cons_zero, List.set_cons_succ]
    refine upto_takeN (i := 23) (v := (.bool false)) rfl (by kernel_rfl) (by kernel_rfl) (by kernel_rfl) (by kernel_rfl) (fun _ _ _ h => h) (by rfl) hS6 ?_ ?_
    · intro wS hSw
      try dsimp only at hSw
      go_simp
    try simp only [Act.put, List.getElem_toArray, List.getElem_cons_zero, List.getElem_cons_succ, List.setIfInBounds_toArray, List.set_cons_zero, List.set_cons_succ]
    refine upto_takeN (i := 24) (v := (.bool false)) rfl (by kernel_rfl) (by kernel_rfl) (by kernel_rfl) (by kernel_rfl) (fun _ _ _ h => h) (by rfl) hS6 ?_ ?_
    · intro wS hSw
      try dsimp only at hSw
      go_simp
    try simp only [Act.put, List.getElem_toArray, List.getElem_cons_zero, List.getElem_cons_succ, List.setIfInBounds_toArray, List.set_cons_zero, List.set_cons_succ]
    refine upto_takeN (i := 25) (v := (.bool false)) rfl (by kernel_rfl) (by kernel_rfl) (by kernel_rfl) (by kernel_rfl) (fun _ _ _ h => h) (by rfl) hS6 ?_ ?_
    · intro wS hSw
      try dsimp only at hSw
      go_simp
    try simp only [Act.put, List.getElem_toArray, List.getElem_cons_zero, List.getElem_cons_succ, List.setIfInBounds_toArray, List.set_cons_zero, List.set_cons_succ]
    refine upto_takeN (i := 26) (v := ?_) rfl (by kernel_rfl) (by kernel_rfl) (by kernel_rfl) (by kernel_rfl) (fun _ _ _ h => h) (by rfl) hS6 ?_ ?_
    rotate_left
    · intro wS hSw
      try dsimp only at hSw
      first | (go_simp; done) | (go_simp; with_reducible rfl)
    try simp only [Act.put, List.getElem_toArray, List.getElem_cons_zero, List.getElem_cons_succ, List.setIfInBounds_toArray, List.set_cons_zero, List.set_cons_succ]
    refine upto_takeN (i := 27) (v := ?_) rfl (by kernel_rfl) (by kernel_rfl) (by kernel_rfl) (by kernel_rfl) (fun _ _ _ h => h) (by rfl) hS6 ?_ ?_
    rotate_left
    · intro wS hSw
      try dsimp only at hSw
      first | (go_simp; done) | (go_simp; with_reducible rfl)
    try simp only [Act.put, List.getElem_toArray, List.getElem_cons_zero, List.getElem_cons_succ, List.setIfInBounds_toArray, List.set_cons_zero, List.set_cons_succ]
    refine upto_takeN (i := 28) (v := (.bool false)) rfl (by kernel_rfl) (by kernel_rfl) (by kernel_rfl) (by kernel_rfl) (fun _ _ _ h => h) (by rfl) hS6 ?_ ?_
    · intro wS hSw
      try dsimp only at hSw
      go_simp
    try simp only [Act.put, List.getElem_toArray, List.getElem_cons_zero, List.getElem_cons_succ, List.setIfInBounds_toArray, List.set_cons_zero, List.set_cons_succ]
    refine upto_takeN (i := 29) (v := (.bool false)) rfl (by kernel_rfl) (by kernel_rfl) (by kernel_rfl) (by kernel_rfl) (fun _ _ _ h => h) (by rfl) hS6 ?_ ?_
    · intro wS hSw
      try dsimp only at hSw
      go_simp
    try simp only [Act.put, List.getElem_toArray, List.getElem_cons_zero, List.getElem_cons_succ, List.setIfInBounds_toArray, List.set_cons_zero, List.set_cons_succ]
    refine upto_skipN (i := 30) rfl (by kernel_rfl) (by kernel_rfl) (by kernel_rfl) (by kernel_rfl) (fun _ _ _ h => h) (by rfl) hS6 (fun q30 => ?_)
    try simp only [Act.put, List.getElem_toArray, List.getElem_cons_zero, List.getElem_cons_succ, List.setIfInBounds_toArray, List.set_cons_zero, List.set_cons_succ]
    refine upto_skipN (i := 31) rfl (by kernel_rfl) (by kernel_rfl) (by kernel_rfl) (by kernel_rfl) (fun _ _ _ h => h) (by rfl) hS6 (fun q31 => ?_)
    try simp only [Act.put, List.getElem_toArray, List.getElem_cons_zero, List.getElem_cons_succ, List.setIfInBounds_toArray, List.set_cons_zero, List.set_cons_succ]
    refine upto_skipN (i := 32) rfl (by kernel_rfl) (by kernel_rfl) (by kernel_rfl) (by kernel_rfl) (fun _ _ _ h => h) (by rfl) hS6 (fun q32 => ?_)
    try simp only [Act.put, List.getElem_toArray, List.getElem_cons_zero, List.getElem_cons_succ, List.setIfInBounds_toArray, List.set_cons_zero, List.set_cons_succ]
    refine upto_skipN (i := 33) rfl (by kernel_rfl) (by kernel_rfl) (by kernel_rfl) (by kernel_rfl) (fun _ _ _ h => h) (by rfl) hS6 (fun q33 => ?_)
    try simp only [Act.put, List.getElem_toArray, List.getElem_cons_zero, List.getElem_cons_succ, List.setIfInBounds_toArray, List.set_cons_zero, List.set_cons_succ]
    refine upto_skipN (i := 34) rfl (by kernel_rfl) (by kernel_rfl) (by kernel_rfl) (by kernel_rfl) (fun _ _ _ h => h) (by rfl) hS6 (fun q34 => ?_)
    try simp only [Act.put, List.getElem_toArray, List.getElem_cons_zero, List.getElem_cons_succ, List.setIfInBounds_toArray, List.set_cons_zero, List.set_cons_succ]
    refine upto_skipN (i := 35) rfl (by kernel_rfl) (by kernel_rfl) (by kernel_rfl) (by kernel_rfl) (fun _ _ _ h => h) (by rfl) hS6 (fun q35 => ?_)
    try simp only [Act.put, List.getElem_toArray, List.getElem_cons_zero, List.getElem_cons_succ, List.setIfInBounds_toArray, List.set_cons_zero, List.set_cons_succ]
    refine upto_takeN (i := 36) (v := (.bool false)) rfl (by kernel_rfl) (by kernel_rfl) (by kernel_rfl) (by kernel_rfl) (fun _ _ _ h => h) (by rfl) hS6 ?_ ?_
    · intro wS hSw
      try dsimp only at hSw
      go_simp
    try simp only [Act.put, List.getElem_toArray, List.getElem_cons_zero, List.getElem_cons_succ, List.setIfInBounds_toArray, List.set_cons_zero, List.set_cons_succ]
    refine upto_takeN (i := 37) (v := (.bool false)) rfl (by kernel_rfl) (by kernel_rfl) (by kernel_rfl) (by kernel_rfl) (fun _ _ _ h => h) (by rfl) hS6 ?_ ?_
    · intro wS hSw
      try dsimp only at hSw
      go_simp
    try simp only [Act.put, List.getElem_toArray, List.getElem_cons_zero, List.getElem_cons_succ, List.setIfInBounds_toArray, List.set_cons_zero, List.set_cons_succ]
    refine upto_done (by kernel_rfl) ?_
    refine NoPanic.normal ?_
    have hB6 : Below w.heap.size w _ := bstep hB4 hS6.1
    clear hS6 hb6V hf6 hf18 hcv
    go_wp2_with fail
    refine (drawPackC_any _ d0 _ (HX.out _ hB6) HN0.out).mono ?_
    rintro e w7 ⟨id, v7, xs, rfl, hV7, hl7, hb7⟩
    obtain ⟨p7, q7, rfl⟩ := legs_form hV7
    have hB7 : Below w.heap.size w w7 := bstep hB6 hb7
    clear hB6 hb7
    have HV7 : Hid (∀ W, Below w7.heap.size w7 W → legsR.V W (.slice p7 xs.length q7) xs) := fun W hW => legsR.below hV7 hW
    obtain ⟨n7, hn7⟩ : ∃ n7, n7 = xs.length := ⟨_, rfl⟩
    rw [← hn7] at HV7 hl7 ⊢
    clear hV7
    have HP7 : Hid (∀ W, Below w7.heap.size w7 W → Calls Try.prog 22 #[.agg #[.int .i64 id, .slice p7 n7 q7]] W fun e w' => ∃ v F, e = .returned v ∧ bytesRR.O w' W.heap.size F v (packD ⟨id, xs⟩) ∧ Below W.heap.size W w') := fun W hW => implPackC_u _ ⟨id, xs⟩ W ⟨_, rfl, HV7.out W hW⟩
    clear hn7
    go_wp2_with fail
    refine (HP7.out _ (by (repeat (first | exact Below.refl _ _ | assumption | refine Below.drew ?_ | refine balloc ?_ _ | refine bset ?_ (by simp; omega) _ | refine bset ?_ (by simp) _ | refine bstep ?_ (by assumption))))).mono ?_
    rintro e w8 ⟨v8, F8, rfl, o8, hb8⟩
    have hV8 := bytesRR.ofO o8
    have x0 : w8.cell? ⟨w7.heap.size, 0, none⟩ = some (.int .i64 id) := cell_keep hb8 (by simp [go_sem])
    have x1 : w8.cell? ⟨w7.heap.size, 1, none⟩ = some (.slice p7 n7 q7) := cell_keep hb8 (by simp [go_sem])
    have hB8 : Below w7.heap.size w7 w8 := by (repeat (first | exact Below.refl _ _ | assumption | refine Below.drew ?_ | refine balloc ?_ _ | refine bset ?_ (by simp; omega) _ | refine bset ?_ (by simp) _ | refine bstep ?_ (by assumption)))
    have z8 := World.block_lt_of_cell? _ _ x0
    dsimp only at z8
    clear o8 hb8 HP7
    by_cases hcf : contractFault id xs = 0
    · have hpd : packD ⟨id, xs⟩ = ⟨0, contBy id xs⟩ := by unfold packD; rw [if_pos hcf]
      have HUP : Hid (unpD (contBy id xs) = ⟨0, ⟨id, xs⟩⟩) := unpD_packD (c := ⟨id, xs⟩) hcf
      rw [hpd] at hV8
      clear hpd hcf
      obtain ⟨p8, q8, e8⟩ := bytesR_form hV8
      have hb8V : bytesR.V w8 (.slice p8 (contBy id xs).length q8) (contBy id xs) := by
        obtain ⟨u, e, h⟩ := hV8
        rw [e8] at e
        simp only [Value.agg.injEq, Array.mk.injEq, List.cons.injEq, and_true, true_and] at e
        rw [e]
        exact h
      subst e8
      clear hV8
      dsimp only
      generalize contBy id xs = cb at *
      obtain ⟨n8, hn8⟩ : ∃ n8, n8 = cb.length := ⟨_, rfl⟩
      rw [← hn8] at hb8V ⊢
      clear hn8
      go_wp2_with fail
      refine (implUnpC_u _ cb _ (bytesR.below hb8V (by (repeat (first | exact Below.refl _ _ | assumption | refine Below.drew ?_ | refine balloc ?_ _ | refine bset ?_ (by simp; omega) _ | refine bset ?_ (by simp) _ | refine bstep ?_ (by assumption)))))).mono ?_
      rintro e w9 ⟨v9, F9, rfl, o9, hb9⟩
      rw [HUP.out] at o9
      obtain ⟨p9, q9, e9⟩ := contR_form (contRR.ofO o9)
      have hV9 : legsR.V w9 (.slice p9 xs.length q9) xs := by
        obtain ⟨u, e, ⟨u', e', h⟩⟩ := contRR.ofO o9
        rw [e9] at e
        simp only [Value.agg.injEq, Array.mk.injEq, List.cons.injEq, and_true, true_and] at e e'
        rw [e, e']
        exact h
      subst e9
      clear o9
      dsimp only
      generalize xs.length = n9 at *
      replace x0 := cell_keep hb9 (cell_keep (by (repeat (first | exact Below.refl _ _ | assumption | refine Below.drew ?_ | refine balloc ?_ _ | refine bset ?_ (by simp; omega) _ | refine bset ?_ (by simp) _ | refine bstep ?_ (by assumption)))) x0)
      replace x1 := cell_keep hb9 (cell_keep (by (repeat (first | exact Below.refl _ _ | assumption | refine Below.drew ?_ | refine balloc ?_ _ | refine bset ?_ (by simp; omega) _ | refine bset ?_ (by simp) _ | refine bstep ?_ (by assumption)))) x1)
      have z9 := World.block_lt_of_cell? _ _ x0
      dsimp only at z9
      have hB9 : Below w7.heap.size w7 w9 := bstep (by (repeat (first | exact Below.refl _ _ | assumption | refine Below.drew ?_ | refine balloc ?_ _ | refine bset ?_ (by simp; omega) _ | refine bset ?_ (by simp) _ | refine bstep ?_ (by assumption)))) hb9
      clear hb9 hb8V
      go_wp2_with fail
      refine (implSame_any id id _ _ xs xs _ (LegsV_below hV9 (by (repeat (first | exact Below.refl _ _ | assumption | refine Below.drew ?_ | refine balloc ?_ _ | refine bset ?_ (by simp; omega) _ | refine bset ?_ (by simp) _ | refine bstep ?_ (by assumption))))) (HV7.out _ (by (repeat (first | exact Below.refl _ _ | assumption | refine Below.drew ?_ | refine balloc ?_ _ | refine bset ?_ (by simp; omega) _ | refine bset ?_ (by simp) _ | refine bstep ?_ (by assumption)))))).mono ?_
      rintro e w10 ⟨rfl, hb10⟩
      rw [decide_eq_true ⟨rfl, rfl⟩]
      have hB10 : Below w.heap.size w w10 := by (repeat (first | exact Below.refl _ _ | assumption | refine Below.drew ?_ | refine balloc ?_ _ | refine bset ?_ (by simp; omega) _ | refine bset ?_ (by simp) _ | refine bstep ?_ (by assumption)))
      clear hb10
      go_wp2
      go_ret
      exact ⟨rfl, hB10⟩
    · have hpd : packD ⟨id, xs⟩ = ⟨contractFault id xs, []⟩ := by unfold packD; rw [if_neg hcf]
      rw [hpd] at hV8
      clear hpd
      obtain ⟨p8, q8, rfl⟩ := bytesR_form hV8
      clear hV8
      dsimp only [List.length_nil]
      have HF : Hid (∀ W, Below w7.heap.size w7 W → Calls Try.prog 25 #[.agg #[.int .i64 id, .slice p7 n7 q7]] W fun e w' => e = .returned (.int .i64 (contractFault id xs)) ∧ Below W.heap.size W w') := fun W hW => specFault_any id _ xs W (HV7.out W hW)
      generalize contractFault id xs = qc at *
      go_wp2
      refine wp_region_noPanic ?_
      refine region_upto (fun W => Below w7.heap.size w7 W ∧ W.cell? ⟨w8.heap.size, 0, none⟩ = some (.int .i64 qc) ∧ W.cell? ⟨w7.heap.size, 0, none⟩ = some (.int .i64 id) ∧ W.cell? ⟨w7.heap.size, 1, none⟩ = some (.slice p7 n7 q7)) 5 (by kernel_rfl) ⟨by (repeat (first | exact Below.refl _ _ | assumption | refine Below.drew ?_ | refine balloc ?_ _ | refine bset ?_ (by simp; omega) _ | refine bset ?_ (by simp) _ | refine bstep ?_ (by assumption))), by simp [go_sem], cell_keep (by (repeat (first | exact Below.refl _ _ | assumption | refine Below.drew ?_ | refine balloc ?_ _ | refine bset ?_ (by simp; omega) _ | refine bset ?_ (by simp) _ | refine bstep ?_ (by assumption)))) x0, cell_keep (by (repeat (first | exact Below.refl _ _ | assumption | refine Below.drew ?_ | refine balloc ?_ _ | refine bset ?_ (by simp; omega) _ | refine bset ?_ (by simp) _ | refine bstep ?_ (by assumption)))) x1⟩ (fun hS => ?_)
      refine upto_take (i := 0) (v := ?_) rfl (by kernel_rfl) (by kernel_rfl) (by kernel_rfl) (by kernel_rfl) (fun _ _ _ h => h) (by rfl) hS ?_ ?_
      rotate_left
      · intro wS hSw
        try dsimp only at hSw
        first | (go_simp; done) | (go_simp; with_reducible rfl)
      try simp only [Act.put, List.getElem_toArray, List.getElem_cons_zero, List.getElem_cons_succ, List.setIfInBounds_toArray, List.set_cons_zero, List.set_cons_succ]
      refine upto_take (i := 2) (v := ?_) rfl (by kernel_rfl) (by kernel_rfl) (by kernel_rfl) (by kernel_rfl) (fun _ _ _ h => h) (by rfl) hS ?_ ?_
      rotate_left
      · intro wS hSw
        try dsimp only at hSw
        first | (go_simp; done) | (go_simp; with_reducible rfl)
      try simp only [Act.put, List.getElem_toArray, List.getElem_cons_zero, List.getElem_cons_succ, List.setIfInBounds_toArray, List.set_cons_zero, List.set_cons_succ]
      refine upto_take (i := 3) (v := ?_) rfl (by kernel_rfl) (by kernel_rfl) (by kernel_rfl) (by kernel_rfl) (fun _ _ _ h => h) (by rfl) hS ?_ ?_
      rotate_left
      · intro wS hSw
        try dsimp only at hSw
        first | (go_simp; done) | (go_simp; with_reducible rfl)
      try simp only [Act.put, List.getElem_toArray, List.getElem_cons_zero, List.getElem_cons_succ, List.setIfInBounds_toArray, List.set_cons_zero, List.set_cons_succ]
      refine upto_step (i := 1) (by kernel_rfl) rfl ?_
      intro K hK
      go_simp
      refine (HF.out _ hS.1).mono ?_
      rintro e w9 ⟨rfl, hb9⟩
      have hS9 : (fun W => Below w7.heap.size w7 W ∧ W.cell? ⟨w8.heap.size, 0, none⟩ = some (.int .i64 qc) ∧ W.cell? ⟨w7.heap.size, 0, none⟩ = some (.int .i64 id) ∧ W.cell? ⟨w7.heap.size, 1, none⟩ = some (.slice p7 n7 q7)) w9 := ⟨bstep hS.1 hb9, cell_keep hb9 hS.2.1, cell_keep hb9 hS.2.2.1, cell_keep hb9 hS.2.2.2⟩
      refine hK _ _ (fun _ => hS9) ?_
      clear hK K hb9
      try simp only [Act.put, List.getElem_toArray, List.getElem_cons_zero, List.getElem_cons_succ, List.setIfInBounds_toArray, List.set_cons_zero, List.set_cons_succ]
      refine upto_take (i := 4) (v := (.bool true)) rfl (by kernel_rfl) (by kernel_rfl) (by kernel_rfl) (by kernel_rfl) (fun _ _ _ h => h) (by rfl) hS9 ?_ ?_
      · intro wS hSw
        try dsimp only at hSw
        go_simp
      try simp only [Act.put, List.getElem_toArray, List.getElem_cons_zero, List.getElem_cons_succ, List.setIfInBounds_toArray, List.set_cons_zero, List.set_cons_succ]
      refine upto_step (i := 5) (by kernel_rfl) rfl ?_
      intro K hK
      go_simp
      refine hK _ _ (fun h => absurd rfl h) ?_
      clear hK K
      refine upto_done (by kernel_rfl) ?_
      refine NoPanic.normal ?_
      have hB9 := hS9.1
      clear hS hS9
      go_wp2
      go_ret
      exact ⟨rfl, by (repeat (first | exact Below.refl _ _ | assumption | refine Below.drew ?_ | refine balloc ?_ _ | refine bset ?_ (by simp; omega) _ | refine bset ?_ (by simp) _ | refine bstep ?_ (by assumption)))⟩
  · skip
    go_wp2
    refine wp_region_noPanic ?_
    refine region_upto (fun W => Below w4.heap.size w4 W ∧ W.cell? ⟨w4.heap.size, 0, none⟩ = some (.int .i64 Dc) ∧ W.cell? ⟨w4.heap.size, 1, none⟩ = some (.int .i64 Di) ∧ W.cell? ⟨w4.heap.size, 2, none⟩ = some (.slice p4 Dl q4)) 38 (by kernel_rfl) ⟨by (repeat (first | exact Below.refl _ _ | assumption | refine Below.drew ?_ | refine balloc ?_ _ | refine bset ?_ (by simp; omega) _ | refine bset ?_ (by simp) _ | refine bstep ?_ (by assumption))), by simp [go_sem], by simp [go_sem], by simp [go_sem]⟩ (fun hS => ?_)
    refine upto_takeN (i := 0) (v := ?_) rfl (by kernel_rfl) (by kernel_rfl) (by kernel_rfl) (by kernel_rfl) (fun _ _ _ h => h) (by rfl) hS ?_ ?_
    rotate_left
    · intro wS hSw
      try dsimp only at hSw
      first | (go_simp; done) | (go_simp; with_reducible rfl)
    try simp only [Act.put, List.getElem_toArray, List.getElem_cons_zero, List.getElem_cons_succ, List.setIfInBounds_toArray, List.set_cons_zero, List.set_cons_succ]
    refine upto_takeN (i := 1) (v := ?_) rfl (by kernel_rfl) (by kernel_rfl) (by kernel_rfl) (by kernel_rfl) (fun _ _ _ h => h) (by rfl) hS ?_ ?_
    rotate_left
    · intro wS hSw
      try dsimp only at hSw
      first | (go_simp; done) | (go_simp; with_reducible rfl)
    try simp only [Act.put, List.getElem_toArray, List.getElem_cons_zero, List.getElem_cons_succ, List.setIfInBounds_toArray, List.set_cons_zero, List.set_cons_succ]
    refine upto_takeN (i := 2) (v := (.bool false)) rfl (by kernel_rfl) (by kernel_rfl) (by kernel_rfl) (by kernel_rfl) (fun _ _ _ h => h) (by rfl) hS ?_ ?_
    · intro wS hSw
      try dsimp only at hSw
      go_simp
    try simp only [Act.put, List.getElem_toArray, List.getElem_cons_zero, List.getElem_cons_succ, List.setIfInBounds_toArray, List.set_cons_zero, List.set_cons_succ]
    refine upto_takeN (i := 3) (v := (.bool false)) rfl (by kernel_rfl) (by kernel_rfl) (by kernel_rfl) (by kernel_rfl) (fun _ _ _ h => h) (by rfl) hS ?_ ?_
    · intro wS hSw
      try dsimp only at hSw
      go_simp
    try simp only [Act.put, List.getElem_toArray, List.getElem_cons_zero, List.getElem_cons_succ, List.setIfInBounds_toArray, List.set_cons_zero, List.set_cons_succ]
    refine upto_takeN (i := 4) (v := ?_) rfl (by kernel_rfl) (by kernel_rfl) (by kernel_rfl) (by kernel_rfl) (fun _ _ _ h => h) (by rfl) hS ?_ ?_
    rotate_left
    · intro wS hSw
      try dsimp only at hSw
      first | (go_simp; done) | (go_simp; with_reducible rfl)
    try simp only [Act.put, List.getElem_toArray, List.getElem_cons_zero, List.getElem_cons_succ, List.setIfInBounds_toArray, List.set_cons_zero, List.set_cons_succ]
    refine upto_takeN (i := 7) (v := ?_) rfl (by kernel_rfl) (by kernel_rfl) (by kernel_rfl) (by kernel_rfl) (fun _ _ _ h => h) (by rfl) hS ?_ ?_
    rotate_left
    · intro wS hSw
      try dsimp only at hSw
      first | (go_simp; done) | (go_simp; with_reducible rfl)
    try simp only [Act.put, List.getElem_toArray, List.getElem_cons_zero, List.getElem_cons_succ, List.setIfInBounds_toArray, List.set_cons_zero, List.set_cons_succ]
    refine upto_step (i := 5) (by kernel_rfl) rfl ?_
    intro K hK
    go_simp
    refine (implUnpack_any _ (hiB r 8) _ (HV2.out _ (bstep HB24.out hS.1))).mono ?_
    rintro e w5 ⟨rfl, hb5⟩
    rw [HR.out]
    have hS5 : (fun W => Below w4.heap.size w4 W ∧ W.cell? ⟨w4.heap.size, 0, none⟩ = some (.int .i64 Dc) ∧ W.cell? ⟨w4.heap.size, 1, none⟩ = some (.int .i64 Di) ∧ W.cell? ⟨w4.heap.size, 2, none⟩ = some (.slice p4 Dl q4)) w5 := ⟨bstep hS.1 hb5, cell_keep hb5 hS.2.1, cell_keep hb5 hS.2.2.1, cell_keep hb5 hS.2.2.2⟩
    obtain ⟨uc, huc⟩ : ∃ uc, unCode (hiB r 8) = uc := ⟨_, rfl⟩
    rw [huc]
    clear huc
    have hf6 : ∀ w : World, (Instr.field 40 (.agg #[.int .i64 uc, .int .i64 r]) 1).run Try.prog w = .ok (.int .i64 r) w := fun _ => by kernel_rfl
    refine hK _ _ (fun _ => hS5) ?_
    clear hK K hS hb5
    try simp only [Act.put, List.getElem_toArray, List.getElem_cons_zero, List.getElem_cons_succ, List.setIfInBounds_toArray, List.set_cons_zero, List.set_cons_succ]
    refine upto_takeN (i := 6) (v := (.int .i64 r)) rfl (by kernel_rfl) (by kernel_rfl) (by kernel_rfl) (by kernel_rfl) (fun _ _ _ h => h) (by rfl) hS5 ?_ ?_
    · intro wS hSw
      try dsimp only at hSw
      go_simp
    try simp only [Act.put, List.getElem_toArray, List.getElem_cons_zero, List.getElem_cons_succ, List.setIfInBounds_toArray, List.set_cons_zero, List.set_cons_succ]
    refine upto_takeN (i := 8) (v := (.bool false)) rfl (by kernel_rfl) (by kernel_rfl) (by kernel_rfl) (by kernel_rfl) (fun _ _ _ h => h) (by rfl) hS5 ?_ ?_
    · intro wS hSw
      try dsimp only at hSw
      go_simp
    try simp only [Act.put, List.getElem_toArray, List.getElem_cons_zero, List.getElem_cons_succ, List.setIfInBounds_toArray, List.set_cons_zero, List.set_cons_succ]
    refine upto_takeN (i := 9) (v := (.bool false)) rfl (by kernel_rfl) (by kernel_rfl) (by kernel_rfl) (by kernel_rfl) (fun _ _ _ h => h) (by rfl) hS5 ?_ ?_
    · intro wS hSw
      try dsimp only at hSw
      go_simp
    try simp only [Act.put, List.getElem_toArray, List.getElem_cons_zero, List.getElem_cons_succ, List.setIfInBounds_toArray, List.set_cons_zero, List.set_cons_succ]
    refine upto_takeN (i := 10) (v := (.bool false)) rfl (by kernel_rfl) (by kernel_rfl) (by kernel_rfl) (by kernel_rfl) (fun _ _ _ h => h) (by rfl) hS5 ?_ ?_
    · intro wS hSw
      try dsimp only at hSw
      go_simp
    try simp only [Act.put, List.getElem_toArray, List.getElem_cons_zero, List.getElem_cons_succ, List.setIfInBounds_toArray, List.set_cons_zero, List.set_cons_succ]
    refine upto_takeN (i := 11) (v := ?_) rfl (by kernel_rfl) (by kernel_rfl) (by kernel_rfl) (by kernel_rfl) (fun _ _ _ h => h) (by rfl) hS5 ?_ ?_
    rotate_left
    · intro wS hSw
      try dsimp only at hSw
      first | (go_simp; done) | (go_simp; with_reducible rfl)
    try simp only [Act.put, List.getElem_toArray, List.getElem_cons_zero, List.getElem_cons_succ, List.setIfInBounds_toArray, List.set_cons_zero, List.set_cons_succ]
    refine upto_takeN (i := 12) (v := ?_) rfl (by kernel_rfl) (by kernel_rfl) (by kernel_rfl) (by kernel_rfl) (fun _ _ _ h => h) (by rfl) hS5 ?_ ?_
    rotate_left
    · intro wS hSw
      try dsimp only at hSw
      first | (go_simp; done) | (go_simp; with_reducible rfl)
    try simp only [Act.put, List.getElem_toArray, List.getElem_cons_zero, List.getElem_cons_succ, List.setIfInBounds_toArray, List.set_cons_zero, List.set_cons_succ]
    refine upto_takeN (i := 13) (v := (.bool false)) rfl (by kernel_rfl) (by kernel_rfl) (by kernel_rfl) (by kernel_rfl) (fun _ _ _ h => h) (by rfl) hS5 ?_ ?_
    · intro wS hSw
      try dsimp only at hSw
      go_simp
    try simp only [Act.put, List.getElem_toArray, List.getElem_cons_zero, List.getElem_cons_succ, List.setIfInBounds_toArray, List.set_cons_zero, List.set_cons_succ]
    refine upto_takeN (i := 14) (v := (.bool false)) rfl (by kernel_rfl) (by kernel_rfl) (by kernel_rfl) (by kernel_rfl) (fun _ _ _ h => h) (by rfl) hS5 ?_ ?_
    · intro wS hSw
      try dsimp only at hSw
      go_simp
    try simp only [Act.put, List.getElem_toArray, List.getElem_cons_zero, List.getElem_cons_succ, List.setIfInBounds_toArray, List.set_cons_zero, List.set_cons_succ]
    refine upto_skipN (i := 15) rfl (by kernel_rfl) (by kernel_rfl) (by kernel_rfl) (by kernel_rfl) (fun _ _ _ h => h) (by rfl) hS5 (fun q15 => ?_)
    try simp only [Act.put, List.getElem_toArray, List.getElem_cons_zero, List.getElem_cons_succ, List.setIfInBounds_toArray, List.set_cons_zero, List.set_cons_succ]
    refine upto_skipN (i := 16) rfl (by kernel_rfl) (by kernel_rfl) (by kernel_rfl) (by kernel_rfl) (fun _ _ _ h => h) (by rfl) hS5 (fun q16 => ?_)
    try simp only [Act.put, List.getElem_toArray, List.getElem_cons_zero, List.getElem_cons_succ, List.setIfInBounds_toArray, List.set_cons_zero, List.set_cons_succ]
    refine upto_skipN (i := 17) rfl (by kernel_rfl) (by kernel_rfl) (by kernel_rfl) (by kernel_rfl) (fun _ _ _ h => h) (by rfl) hS5 (fun q17 => ?_)
    try simp only [Act.put, List.getElem_toArray, List.getElem_cons_zero, List.getElem_cons_succ, List.setIfInBounds_toArray, List.set_cons_zero, List.set_cons_succ]
    refine upto_skipN (i := 18) rfl (by kernel_rfl) (by kernel_rfl) (by kernel_rfl) (by kernel_rfl) (fun _ _ _ h => h) (by rfl) hS5 (fun q18 => ?_)
    try simp only [Act.put, List.getElem_toArray, List.getElem_cons_zero, List.getElem_cons_succ, List.setIfInBounds_toArray, List.set_cons_zero, List.set_cons_succ]
    refine upto_skipN (i := 19) rfl (by kernel_rfl) (by kernel_rfl) (by kernel_rfl) (by kernel_rfl) (fun _ _ _ h => h) (by rfl) hS5 (fun q19 => ?_)
    try simp only [Act.put, List.getElem_toArray, List.getElem_cons_zero, List.getElem_cons_succ, List.setIfInBounds_toArray, List.set_cons_zero, List.set_cons_succ]
    refine upto_skipN (i := 20) rfl (by kernel_rfl) (by kernel_rfl) (by kernel_rfl) (by kernel_rfl) (fun _ _ _ h => h) (by rfl) hS5 (fun q20 => ?_)
    try simp only [Act.put, List.getElem_toArray, List.getElem_cons_zero, List.getElem_cons_succ, List.setIfInBounds_toArray, List.set_cons_zero, List.set_cons_succ]
    refine upto_skipN (i := 21) rfl (by kernel_rfl) (by kernel_rfl) (by kernel_rfl) (by kernel_rfl) (fun _ _ _ h => h) (by rfl) hS5 (fun q21 => ?_)
    try simp only [Act.put, List.getElem_toArray, List.getElem_cons_zero, List.getElem_cons_succ, List.setIfInBounds_toArray, List.set_cons_zero, List.set_cons_succ]
    refine upto_skipN (i := 22) rfl (by kernel_rfl) (by kernel_rfl) (by kernel_rfl) (by kernel_rfl) (fun _ _ _ h => h) (by rfl) hS5 (fun q22 => ?_)
    try simp only [Act.put, List.getElem_toArray, List.getElem_cons_zero, List.getElem_cons_succ, List.setIfInBounds_toArray, List.set_cons_zero, List.set_cons_succ]
    refine upto_takeN (i := 23) (v := (.bool false)) rfl (by kernel_rfl) (by kernel_rfl) (by kernel_rfl) (by kernel_rfl) (fun _ _ _ h => h) (by rfl) hS5 ?_ ?_
    · intro wS hSw
      try dsimp only at hSw
      go_simp
    try simp only [Act.put, List.getElem_toArray, List.getElem_cons_zero, List.getElem_cons_succ, List.setIfInBounds_toArray, List.set_cons_zero, List.set_cons_succ]
    refine upto_takeN (i := 24) (v := (.bool false)) rfl (by kernel_rfl) (by kernel_rfl) (by kernel_rfl) (by kernel_rfl) (fun _ _ _ h => h) (by rfl) hS5 ?_ ?_
    · intro wS hSw
      try dsimp only at hSw
      go_simp
    try simp only [Act.put, List.getElem_toArray, List.getElem_cons_zero, List.getElem_cons_succ, List.setIfInBounds_toArray, List.set_cons_zero, List.set_cons_succ]
    refine upto_takeN (i := 25) (v := (.bool false)) rfl (by kernel_rfl) (by kernel_rfl) (by kernel_rfl) (by kernel_rfl) (fun _ _ _ h => h) (by rfl) hS5 ?_ ?_
    · intro wS hSw
      try dsimp only at hSw
      go_simp
    try simp only [Act.put, List.getElem_toArray, List.getElem_cons_zero, List.getElem_cons_succ, List.setIfInBounds_toArray, List.set_cons_zero, List.set_cons_succ]
    refine upto_takeN (i := 26) (v := ?_) rfl (by kernel_rfl) (by kernel_rfl) (by kernel_rfl) (by kernel_rfl) (fun _ _ _ h => h) (by rfl) hS5 ?_ ?_
    rotate_left
    · intro wS hSw
      try dsimp only at hSw
      first | (go_simp; done) | (go_simp; with_reducible rfl)
    try simp only [Act.put, List.getElem_toArray, List.getElem_cons_zero, List.getElem_cons_succ, List.setIfInBounds_toArray, List.set_cons_zero, List.set_cons_succ]
    refine upto_takeN (i := 27) (v := ?_) rfl (by kernel_rfl) (by kernel_rfl) (by kernel_rfl) (by kernel_rfl) (fun _ _ _ h => h) (by rfl) hS5 ?_ ?_
    rotate_left
    · intro wS hSw
      try dsimp only at hSw
      first | (go_simp; done) | (go_simp; with_reducible rfl)
    try simp only [Act.put, List.getElem_toArray, List.getElem_cons_zero, List.getElem_cons_succ, List.setIfInBounds_toArray, List.set_cons_zero, List.set_cons_succ]
    refine upto_takeN (i := 28) (v := (.bool true)) rfl (by kernel_rfl) (by kernel_rfl) (by kernel_rfl) (by kernel_rfl) (fun _ _ _ h => h) (by rfl) hS5 ?_ ?_
    · intro wS hSw
      try dsimp only at hSw
      go_simp
    try simp only [Act.put, List.getElem_toArray, List.getElem_cons_zero, List.getElem_cons_succ, List.setIfInBounds_toArray, List.set_cons_zero, List.set_cons_succ]
    refine upto_takeN (i := 29) (v := (.bool true)) rfl (by kernel_rfl) (by kernel_rfl) (by kernel_rfl) (by kernel_rfl) (fun _ _ _ h => h) (by rfl) hS5 ?_ ?_
    · intro wS hSw
      try dsimp only at hSw
      go_simp
    try simp only [Act.put, List.getElem_toArray, List.getElem_cons_zero, List.getElem_cons_succ, List.setIfInBounds_toArray, List.set_cons_zero, List.set_cons_succ]
    refine upto_takeN (i := 30) (v := ?_) rfl (by kernel_rfl) (by kernel_rfl) (by kernel_rfl) (by kernel_rfl) (fun _ _ _ h => h) (by rfl) hS5 ?_ ?_
    rotate_left
    · intro wS hSw
      try dsimp only at hSw
      first | (go_simp; done) | (go_simp; with_reducible rfl)
    try simp only [Act.put, List.getElem_toArray, List.getElem_cons_zero, List.getElem_cons_succ, List.setIfInBounds_toArray, List.set_cons_zero, List.set_cons_succ]
    refine upto_takeN (i := 33) (v := ?_) rfl (by kernel_rfl) (by kernel_rfl) (by kernel_rfl) (by kernel_rfl) (fun _ _ _ h => h) (by rfl) hS5 ?_ ?_
    rotate_left
    · intro wS hSw
      try dsimp only at hSw
      first | (go_simp; done) | (go_simp; with_reducible rfl)
    try simp only [Act.put, List.getElem_toArray, List.getElem_cons_zero, List.getElem_cons_succ, List.setIfInBounds_toArray, List.set_cons_zero, List.set_cons_succ]
    refine upto_takeN (i := 34) (v := ?_) rfl (by kernel_rfl) (by kernel_rfl) (by kernel_rfl) (by kernel_rfl) (fun _ _ _ h => h) (by rfl) hS5 ?_ ?_
    rotate_left
    · intro wS hSw
      try dsimp only at hSw
      first | (go_simp; done) | (go_simp; with_reducible rfl)
    try simp only [Act.put, List.getElem_toArray, List.getElem_cons_zero, List.getElem_cons_succ, List.setIfInBounds_toArray, List.set_cons_zero, List.set_cons_succ]
    refine upto_step (i := 31) (by kernel_rfl) rfl ?_
    intro K hK
    go_simp
    refine (HSU.out _ (bstep HB34.out hS5.1)).mono ?_
    rintro e w6 ⟨v6, F6, rfl, o6, hb6⟩
    rw [HD.out] at o6
    obtain ⟨p6, q6, e6⟩ := contR_form (contRR.ofO o6)
    subst e6
    rw [HDc.out.1, HDc.out.2.1, HDc.out.2.2]
    have hf32 : ∀ w : World, (Instr.field 30 (.agg #[.int .i64 Dc, .int .i64 Di, .slice p6 Dl q6]) 0).run Try.prog w = .ok (.int .i64 Dc) w := fun _ => by kernel_rfl
    have hS6 : (fun W => Below w4.heap.size w4 W ∧ W.cell? ⟨w4.heap.size, 0, none⟩ = some (.int .i64 Dc) ∧ W.cell? ⟨w4.heap.size, 1, none⟩ = some (.int .i64 Di) ∧ W.cell? ⟨w4.heap.size, 2, none⟩ = some (.slice p4 Dl q4)) w6 := ⟨bstep hS5.1 hb6, cell_keep hb6 hS5.2.1, cell_keep hb6 hS5.2.2.1, cell_keep hb6 hS5.2.2.2⟩
    refine hK _ _ (fun _ => hS6) ?_
    clear hK K hS5 hb6 o6
    try simp only [Act.put, List.getElem_toArray, List.getElem_cons_zero, List.getElem_cons_succ, List.setIfInBounds_toArray, List.set_cons_zero, List.set_cons_succ]
    refine upto_takeN (i := 32) (v := (.int .i64 Dc)) rfl (by kernel_rfl) (by kernel_rfl) (by kernel_rfl) (by kernel_rfl) (fun _ _ _ h => h) (by rfl) hS6 ?_ ?_
    · intro wS hSw
      try dsimp only at hSw
      go_simp
    try simp only [Act.put, List.getElem_toArray, List.getElem_cons_zero, List.getElem_cons_succ, List.setIfInBounds_toArray, List.set_cons_zero, List.set_cons_succ]
    refine upto_takeN (i := 35) (v := (.bool false)) rfl (by kernel_rfl) (by kernel_rfl) (by kernel_rfl) (by kernel_rfl) (fun _ _ _ h => h) (by rfl) hS6 ?_ ?_
    · intro wS hSw
      try dsimp only at hSw
      go_simp
    try simp only [Act.put, List.getElem_toArray, List.getElem_cons_zero, List.getElem_cons_succ, List.setIfInBounds_toArray, List.set_cons_zero, List.set_cons_succ]
    refine upto_takeN (i := 36) (v := (.bool false)) rfl (by kernel_rfl) (by kernel_rfl) (by kernel_rfl) (by kernel_rfl) (fun _ _ _ h => h) (by rfl) hS6 ?_ ?_
    · intro wS hSw
      try dsimp only at hSw
      go_simp
    try simp only [Act.put, List.getElem_toArray, List.getElem_cons_zero, List.getElem_cons_succ, List.setIfInBounds_toArray, List.set_cons_zero, List.set_cons_succ]
    refine upto_takeN (i := 37) (v := (.bool false)) rfl (by kernel_rfl) (by kernel_rfl) (by kernel_rfl) (by kernel_rfl) (fun _ _ _ h => h) (by rfl) hS6 ?_ ?_
    · intro wS hSw
      try dsimp only at hSw
      go_simp
    try simp only [Act.put, List.getElem_toArray, List.getElem_cons_zero, List.getElem_cons_succ, List.setIfInBounds_toArray, List.set_cons_zero, List.set_cons_succ]
    refine upto_done (by kernel_rfl) ?_
    refine NoPanic.normal ?_
    have hB6 : Below w.heap.size w _ := bstep hB4 hS6.1
    clear hS6 hf6 hf32 hcv
    go_wp2_with fail
    refine (drawPackC_any _ d0 _ (HX.out _ hB6) HN0.out).mono ?_
    rintro e w7 ⟨id, v7, xs, rfl, hV7, hl7, hb7⟩
    obtain ⟨p7, q7, rfl⟩ := legs_form hV7
    have hB7 : Below w.heap.size w w7 := bstep hB6 hb7
    clear hB6 hb7
    have HV7 : Hid (∀ W, Below w7.heap.size w7 W → legsR.V W (.slice p7 xs.length q7) xs) := fun W hW => legsR.below hV7 hW
    obtain ⟨n7, hn7⟩ : ∃ n7, n7 = xs.length := ⟨_, rfl⟩
    rw [← hn7] at HV7 hl7 ⊢
    clear hV7
    have HP7 : Hid (∀ W, Below w7.heap.size w7 W → Calls Try.prog 22 #[.agg #[.int .i64 id, .slice p7 n7 q7]] W fun e w' => ∃ v F, e = .returned v ∧ bytesRR.O w' W.heap.size F v (packD ⟨id, xs⟩) ∧ Below W.heap.size W w') := fun W hW => implPackC_u _ ⟨id, xs⟩ W ⟨_, rfl, HV7.out W hW⟩
    clear hn7
    go_wp2_with fail
    refine (HP7.out _ (by (repeat (first | exact Below.refl _ _ | assumption | refine Below.drew ?_ | refine balloc ?_ _ | refine bset ?_ (by simp; omega) _ | refine bset ?_ (by simp) _ | refine bstep ?_ (by assumption))))).mono ?_
    rintro e w8 ⟨v8, F8, rfl, o8, hb8⟩
    have hV8 := bytesRR.ofO o8
    have x0 : w8.cell? ⟨w7.heap.size, 0, none⟩ = some (.int .i64 id) := cell_keep hb8 (by simp [go_sem])
    have x1 : w8.cell? ⟨w7.heap.size, 1, none⟩ = some (.slice p7 n7 q7) := cell_keep hb8 (by simp [go_sem])
    have hB8 : Below w7.heap.size w7 w8 := by (repeat (first | exact Below.refl _ _ | assumption | refine Below.drew ?_ | refine balloc ?_ _ | refine bset ?_ (by simp; omega) _ | refine bset ?_ (by simp) _ | refine bstep ?_ (by assumption)))
    have z8 := World.block_lt_of_cell? _ _ x0
    dsimp only at z8
    clear o8 hb8 HP7
    by_cases hcf : contractFault id xs = 0
    · have hpd : packD ⟨id, xs⟩ = ⟨0, contBy id xs⟩ := by unfold packD; rw [if_pos hcf]
      have HUP : Hid (unpD (contBy id xs) = ⟨0, ⟨id, xs⟩⟩) := unpD_packD (c := ⟨id, xs⟩) hcf
      rw [hpd] at hV8
      clear hpd hcf
      obtain ⟨p8, q8, e8⟩ := bytesR_form hV8
      have hb8V : bytesR.V w8 (.slice p8 (contBy id xs).length q8) (contBy id xs) := by
        obtain ⟨u, e, h⟩ := hV8
        rw [e8] at e
        simp only [Value.agg.injEq, Array.mk.injEq, List.cons.injEq, and_true, true_and] at e
        rw [e]
        exact h
      subst e8
      clear hV8
      dsimp only
      generalize contBy id xs = cb at *
      obtain ⟨n8, hn8⟩ : ∃ n8, n8 = cb.length := ⟨_, rfl⟩
      rw [← hn8] at hb8V ⊢
      clear hn8
      go_wp2_with fail
      refine (implUnpC_u _ cb _ (bytesR.below hb8V (by (repeat (first | exact Below.refl _ _ | assumption | refine Below.drew ?_ | refine balloc ?_ _ | refine bset ?_ (by simp; omega) _ | refine bset ?_ (by simp) _ | refine bstep ?_ (by assumption)))))).mono ?_
      rintro e w9 ⟨v9, F9, rfl, o9, hb9⟩
      rw [HUP.out] at o9
      obtain ⟨p9, q9, e9⟩ := contR_form (contRR.ofO o9)
      have hV9 : legsR.V w9 (.slice p9 xs.length q9) xs := by
        obtain ⟨u, e, ⟨u', e', h⟩⟩ := contRR.ofO o9
        rw [e9] at e
        simp only [Value.agg.injEq, Array.mk.injEq, List.cons.injEq, and_true, true_and] at e e'
        rw [e, e']
        exact h
      subst e9
      clear o9
      dsimp only
      generalize xs.length = n9 at *
      replace x0 := cell_keep hb9 (cell_keep (by (repeat (first | exact Below.refl _ _ | assumption | refine Below.drew ?_ | refine balloc ?_ _ | refine bset ?_ (by simp; omega) _ | refine bset ?_ (by simp) _ | refine bstep ?_ (by assumption)))) x0)
      replace x1 := cell_keep hb9 (cell_keep (by (repeat (first | exact Below.refl _ _ | assumption | refine Below.drew ?_ | refine balloc ?_ _ | refine bset ?_ (by simp; omega) _ | refine bset ?_ (by simp) _ | refine bstep ?_ (by assumption)))) x1)
      have z9 := World.block_lt_of_cell? _ _ x0
      dsimp only at z9
      have hB9 : Below w7.heap.size w7 w9 := bstep (by (repeat (first | exact Below.refl _ _ | assumption | refine Below.drew ?_ | refine balloc ?_ _ | refine bset ?_ (by simp; omega) _ | refine bset ?_ (by simp) _ | refine bstep ?_ (by assumption)))) hb9
      clear hb9 hb8V
      go_wp2_with fail
      refine (implSame_any id id _ _ xs xs _ (LegsV_below hV9 (by (repeat (first | exact Below.refl _ _ | assumption | refine Below.drew ?_ | refine balloc ?_ _ | refine bset ?_ (by simp; omega) _ | refine bset ?_ (by simp) _ | refine bstep ?_ (by assumption))))) (HV7.out _ (by (repeat (first | exact Below.refl _ _ | assumption | refine Below.drew ?_ | refine balloc ?_ _ | refine bset ?_ (by simp; omega) _ | refine bset ?_ (by simp) _ | refine bstep ?_ (by assumption)))))).mono ?_
      rintro e w10 ⟨rfl, hb10⟩
      rw [decide_eq_true ⟨rfl, rfl⟩]
      have hB10 : Below w.heap.size w w10 := by (repeat (first | exact Below.refl _ _ | assumption | refine Below.drew ?_ | refine balloc ?_ _ | refine bset ?_ (by simp; omega) _ | refine bset ?_ (by simp) _ | refine bstep ?_ (by assumption)))
      clear hb10
      go_wp2
      go_ret
      exact ⟨rfl, hB10⟩
    · have hpd : packD ⟨id, xs⟩ = ⟨contractFault id xs, []⟩ := by unfold packD; rw [if_neg hcf]
      rw [hpd] at hV8
      clear hpd
      obtain ⟨p8, q8, rfl⟩ := bytesR_form hV8
      clear hV8
      dsimp only [List.length_nil]
      have HF : Hid (∀ W, Below w7.heap.size w7 W → Calls Try.prog 25 #[.agg #[.int .i64 id, .slice p7 n7 q7]] W fun e w' => e = .returned (.int .i64 (contractFault id xs)) ∧ Below W.heap.size W w') := fun W hW => specFault_any id _ xs W (HV7.out W hW)
      generalize contractFault id xs = qc at *
      go_wp2
      refine wp_region_noPanic ?_
      refine region_upto (fun W => Below w7.heap.size w7 W ∧ W.cell? ⟨w8.heap.size, 0, none⟩ = some (.int .i64 qc) ∧ W.cell? ⟨w7.heap.size, 0, none⟩ = some (.int .i64 id) ∧ W.cell? ⟨w7.heap.size, 1, none⟩ = some (.slice p7 n7 q7)) 5 (by kernel_rfl) ⟨by (repeat (first | exact Below.refl _ _ | assumption | refine Below.drew ?_ | refine balloc ?_ _ | refine bset ?_ (by simp; omega) _ | refine bset ?_ (by simp) _ | refine bstep ?_ (by assumption))), by simp [go_sem], cell_keep (by (repeat (first | exact Below.refl _ _ | assumption | refine Below.drew ?_ | refine balloc ?_ _ | refine bset ?_ (by simp; omega) _ | refine bset ?_ (by simp) _ | refine bstep ?_ (by assumption)))) x0, cell_keep (by (repeat (first | exact Below.refl _ _ | assumption | refine Below.drew ?_ | refine balloc ?_ _ | refine bset ?_ (by simp; omega) _ | refine bset ?_ (by simp) _ | refine bstep ?_ (by assumption)))) x1⟩ (fun hS => ?_)
      refine upto_take (i := 0) (v := ?_) rfl (by kernel_rfl) (by kernel_rfl) (by kernel_rfl) (by kernel_rfl) (fun _ _ _ h => h) (by rfl) hS ?_ ?_
      rotate_left
      · intro wS hSw
        try dsimp only at hSw
        first | (go_simp; done) | (go_simp; with_reducible rfl)
      try simp only [Act.put, List.getElem_toArray, List.getElem_cons_zero, List.getElem_cons_succ, List.setIfInBounds_toArray, List.set_cons_zero, List.set_cons_succ]
      refine upto_take (i := 2) (v := ?_) rfl (by kernel_rfl) (by kernel_rfl) (by kernel_rfl) (by kernel_rfl) (fun _ _ _ h => h) (by rfl) hS ?_ ?_
      rotate_left
      · intro wS hSw
        try dsimp only at hSw
        first | (go_simp; done) | (go_simp; with_reducible rfl)
      try simp only [Act.put, List.getElem_toArray, List.getElem_cons_zero, List.getElem_cons_succ, List.setIfInBounds_toArray, List.set_cons_zero, List.set_cons_succ]
      refine upto_take (i := 3) (v := ?_) rfl (by kernel_rfl) (by kernel_rfl) (by kernel_rfl) (by kernel_rfl) (fun _ _ _ h => h) (by rfl) hS ?_ ?_
      rotate_left
      · intro wS hSw
        try dsimp only at hSw
        first | (go_simp; done) | (go_simp; with_reducible rfl)
      try simp only [Act.put, List.getElem_toArray, List.getElem_cons_zero, List.getElem_cons_succ, List.setIfInBounds_toArray, List.set_cons_zero, List.set_cons_succ]
      refine upto_step (i := 1) (by kernel_rfl) rfl ?_
      intro K hK
      go_simp
      refine (HF.out _ hS.1).mono ?_
      rintro e w9 ⟨rfl, hb9⟩
      have hS9 : (fun W => Below w7.heap.size w7 W ∧ W.cell? ⟨w8.heap.size, 0, none⟩ = some (.int .i64 qc) ∧ W.cell? ⟨w7.heap.size, 0, none⟩ = some (.int .i64 id) ∧ W.cell? ⟨w7.heap.size, 1, none⟩ = some (.slice p7 n7 q7)) w9 := ⟨bstep hS.1 hb9, cell_keep hb9 hS.2.1, cell_keep hb9 hS.2.2.1, cell_keep hb9 hS.2.2.2⟩
      refine hK _ _ (fun _ => hS9) ?_
      clear hK K hb9
      try simp only [Act.put, List.getElem_toArray, List.getElem_cons_zero, List.getElem_cons_succ, List.setIfInBounds_toArray, List.set_cons_zero, List.set_cons_succ]
      refine upto_take (i := 4) (v := (.bool true)) rfl (by kernel_rfl) (by kernel_rfl) (by kernel_rfl) (by kernel_rfl) (fun _ _ _ h => h) (by rfl) hS9 ?_ ?_
      · intro wS hSw
        try dsimp only at hSw
        go_simp
      try simp only [Act.put, List.getElem_toArray, List.getElem_cons_zero, List.getElem_cons_succ, List.setIfInBounds_toArray, List.set_cons_zero, List.set_cons_succ]
      refine upto_step (i := 5) (by kernel_rfl) rfl ?_
      intro K hK
      go_simp
      refine hK _ _ (fun h => absurd rfl h) ?_
      clear hK K
      refine upto_done (by kernel_rfl) ?_
      refine NoPanic.normal ?_
      have hB9 := hS9.1
      clear hS hS9
      go_wp2
      go_ret
      exact ⟨rfl, by (repeat (first | exact Below.refl _ _ | assumption | refine Below.drew ?_ | refine balloc ?_ _ | refine bset ?_ (by simp; omega) _ | refine bset ?_ (by simp) _ | refine bstep ?_ (by assumption)))⟩
end bytes9Law
end Go.Proofs.Yteebglgbeijolaa

