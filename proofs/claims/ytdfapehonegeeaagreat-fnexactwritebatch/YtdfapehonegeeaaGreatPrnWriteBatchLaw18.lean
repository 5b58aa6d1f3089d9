import Derived.Test.YtdfapehonegeeaaGreatPrnWriteBatchLaw17
import Derived.Test.YtdfapehonegeeaaGreatPrnWriteBatchLaw5
import Derived.Test.YtdfapehonegeeaaGreatPrnWriteBatchLaw4
import Derived.Deep.RegionHeld3
import Derived.Shelf.Abstract
import Derived.Test.YtdfapehonegeeaaGreatPrnWriteBatchLaw7
import Derived.Test.YtdfapehonegeeaaGreatPrnWriteBatchLaw8

/-
  The bytes of writes: the program's side.
-/
namespace Go.Proofs.YtdfapehonegeeaaGreat
open Go.RowKit
set_option linter.unusedSectionVars false
variable [DecidableEq Wri] [Inhabited Wri] [DecidableEq BytesR] [Inhabited BytesR] [DecidableEq Rw] [Inhabited Rw]
set_option linter.unusedVariables false
set_option linter.unusedSimpArgs false
attribute [local go_sem ↓] Go.wp_at_zero Go.wp_at_succ

set_option maxHeartbeats 4000000 in
theorem bytesOf_any (v : Int) (x : Value) (ws : List Wri) (w : World) (hx : wrisR.V w x ws) (hn : ws.length ≤ 8) :
    Calls Tryz.prog 72 #[.int .i64 v, x] w fun e w' => ∃ r F, e = .returned r ∧ bytesR.O w' w.heap.size F r (packB v ws) ∧ Below w.heap.size w w' := by
  obtain ⟨hx, hfit⟩ := hx
  obtain ⟨ax, cx, rfl, hcx, hmx, hx⟩ := hx
  unfold maxLen at hmx
  have hT := packP_take v ws
  have HF : Hid ((packP v (ws.take ws.length)).flatten = packB v ws) := by unfold Hid; rw [List.take_length]; rfl
  have HL : Hid (∀ k, k ≤ ws.length → (packP v (ws.take k)).length ≤ 25) := fun k hk => by
    have := packP_len v (ws.take k)
    have := List.length_take (i := k) (l := ws)
    omega
  have HFL : Hid ((packP v (ws.take ws.length)).flatten.length ≤ 1073741824) := by
    rw [Hid, HF.out]
    have := packB_len v ws
    omega
  have HFT : Hid (∀ k, k < ws.length → (ws.getD k default).key.size ≤ maxLen ∧ (ws.getD k default).val.size ≤ maxLen) := hfit
  clear hfit
  generalize hn' : ws.length = n at *
  have HT : Hid (∀ k, k < n → packP v (ws.take (k + 1)) = packP v (ws.take k) ++ wrP (ws.getD k default)) := hT
  clear hn' hT
  go_enter Tryz.func72, Tryz.ntmps72
  go_wp2_with fail
  refine (implPack_u v _).mono ?_
  rintro e w2 ⟨v2, F2, rfl, o2, hB2⟩
  obtain ⟨p, q, rfl⟩ := bytes_form (bytesR.ofO o2)
  have HR0 : Hid (RowsB (w2.alloc (.cells #[.slice p (hiB v 8).length q] 22)) w.heap.size (.slice (some ⟨w2.heap.size, 0, none⟩) 1 1) (packP v (ws.take 0))) := rowsB_one o2 hB2.size
  clear o2
  go_wp2
  go_loopw [5, 13] (fun r i w' => ∃ k : Nat, k ≤ n ∧ i = .int .i64 k ∧ RowsB w' w.heap.size r (packP v (ws.take k)) ∧ Below w.heap.size w w') (fun _ i _ => n - (intOf i).toNat)
  case atStart => exact ⟨0, Nat.zero_le _, rfl, HR0.out, by (repeat (first | exact Below.refl _ _ | assumption | refine Below.drew ?_ | refine balloc ?_ _ | refine bset ?_ (by simp; omega) _ | refine bset ?_ (by simp) _ | refine bstep ?_ (by assumption)))⟩
  case round =>
    clear hB2 HR0
    obtain ⟨k, hk, rfl, hro, hbl⟩ := hrel
    have hbs : w.heap.size ≤ wr.heap.size := hbl.size
    obtain ⟨av, cv, rfl⟩ := rowsB_form hro
    by_cases hlt : k < n
    · obtain ⟨bx, ox, rfl, g1⟩ := hx k hlt
      have e1 := HT.out k hlt
      have hlen := HL.out k (by omega)
      obtain ⟨hf1, hf2⟩ := HFT.out k hlt
      obtain ⟨l, hl⟩ : ∃ l, l = ws.getD k default := ⟨_, rfl⟩
      rw [← hl] at g1 e1 hf1 hf2
      clear hl hx
      obtain ⟨a1, a2, a3⟩ := wriCells_below hbl g1
      have hti : (k : Int) < (n : Int) := by omega
      have HE : Hid (packP v (ws.take (k + 1)) = packP v (ws.take k) ++ wrP l) := e1
      generalize packP v (ws.take k) = out at *
      have hol : out.length ≤ 1048576 := by omega
      have hne : some wr.heap.size ≠ (Value.slice av out.length cv).ownBlock := own_not (rowsB_own hro) (.inr (Nat.le_refl _))
      have hbl0 : Below w.heap.size w wr := hbl
      clear e1 g1
      obtain ⟨lk, lv, lg⟩ := l
      dsimp only at *
      cases lg
      · have HW : Hid (wrP ⟨lk, lv, false⟩ = (List.range 3).map (fun i => if i = 0 then [toB 0] else if i = 1 then (textD lk).bytes else (textD lv).bytes)) := by simp [Hid, wrP, List.range_succ]
        go_wp2
        have h0 : Below wr.heap.size wr (wr.alloc (.cells #[.string lk, .string lv, .bool false] 96)) := balloc (Below.refl _ _) _
        have k0 : (wr.alloc (.cells #[.string lk, .string lv, .bool false] 96)).cell? ⟨wr.heap.size, 0, none⟩ = some (.string lk) := by simp [go_sem]
        have k1 : (wr.alloc (.cells #[.string lk, .string lv, .bool false] 96)).cell? ⟨wr.heap.size, 1, none⟩ = some (.string lv) := by simp [go_sem]
        generalize wr.alloc (.cells #[.string lk, .string lv, .bool false] 96) = W at *
        refine wp_region_noPanic ?_
        refine region_upto (fun W' => W'.cell? ⟨wr.heap.size, 0, none⟩ = some (.string lk) ∧ W'.cell? ⟨wr.heap.size, 1, none⟩ = some (.string lv)) 13 (by kernel_rfl) ⟨cell_keep (by (repeat (first | exact Below.refl _ _ | assumption | refine Below.drew ?_ | refine balloc ?_ _ | refine bset ?_ (by simp; omega) _ | refine bset ?_ (by simp) _ | refine bstep ?_ (by assumption)))) k0, cell_keep (by (repeat (first | exact Below.refl _ _ | assumption | refine Below.drew ?_ | refine balloc ?_ _ | refine bset ?_ (by simp; omega) _ | refine bset ?_ (by simp) _ | refine bstep ?_ (by assumption)))) k1⟩ (fun hS => ?_)
        refine upto_take (i := 0) (v := ?_) rfl (by kernel_rfl) (by kernel_rfl) (by kernel_rfl) (by kernel_rfl) (fun _ _ _ h => h) (by rfl) hS ?_ ?_
        rotate_left
        · intro wS hSw
          try dsimp only at hSw
          first | (go_simp; done) | (go_simp; with_reducible rfl)
        try simp only [Act.put, List.getElem_toArray, List.getElem_cons_zero, List.getElem_cons_succ, List.setIfInBounds_toArray, List.set_cons_zero, List.set_cons_succ]
        refine upto_take (i := 3) (v := ?_) rfl (by kernel_rfl) (by kernel_rfl) (by kernel_rfl) (by kernel_rfl) (fun _ _ _ h => h) (by rfl) hS ?_ ?_
        rotate_left
        · intro wS hSw
          try dsimp only at hSw
          first | (go_simp; done) | (go_simp; with_reducible rfl)
        try simp only [Act.put, List.getElem_toArray, List.getElem_cons_zero, List.getElem_cons_succ, List.setIfInBounds_toArray, List.set_cons_zero, List.set_cons_succ]
        refine upto_take (i := 4) (v := ?_) rfl (by kernel_rfl) (by kernel_rfl) (by kernel_rfl) (by kernel_rfl) (fun _ _ _ h => h) (by rfl) hS ?_ ?_
        rotate_left
        · intro wS hSw
          try dsimp only at hSw
          first | (go_simp; done) | (go_simp; with_reducible rfl)
        try simp only [Act.put, List.getElem_toArray, List.getElem_cons_zero, List.getElem_cons_succ, List.setIfInBounds_toArray, List.set_cons_zero, List.set_cons_succ]
        refine upto_take (i := 7) (v := ?_) rfl (by kernel_rfl) (by kernel_rfl) (by kernel_rfl) (by kernel_rfl) (fun _ _ _ h => h) (by rfl) hS ?_ ?_
        rotate_left
        · intro wS hSw
          try dsimp only at hSw
          first | (go_simp; done) | (go_simp; with_reducible rfl)
        try simp only [Act.put, List.getElem_toArray, List.getElem_cons_zero, List.getElem_cons_succ, List.setIfInBounds_toArray, List.set_cons_zero, List.set_cons_succ]
        refine upto_take (i := 8) (v := ?_) rfl (by kernel_rfl) (by kernel_rfl) (by kernel_rfl) (by kernel_rfl) (fun _ _ _ h => h) (by rfl) hS ?_ ?_
        rotate_left
        · intro wS hSw
          try dsimp only at hSw
          first | (go_simp; done) | (go_simp; with_reducible rfl)
        try simp only [Act.put, List.getElem_toArray, List.getElem_cons_zero, List.getElem_cons_succ, List.setIfInBounds_toArray, List.set_cons_zero, List.set_cons_succ]
        have hb0 : Below wr.heap.size wr W.drew := Below.drew h0
        have hz0 : wr.heap.size ≤ W.drew.heap.size := hb0.size
        generalize W.drew = W0 at *
        clear h0 k0 k1 a1 a2 a3
        refine upto_step (i := 1) (by kernel_rfl) rfl ?_
        intro K hK
        go_simp
        have hba : Below W0.heap.size W0 (W0.alloc (.cells #[.int .i64 0] 2)) := balloc (Below.refl _ _) _
        have hS1 := And.intro (cell_keep hba hS.1) (cell_keep hba hS.2)
        refine hK _ _ (fun _ => hS1) ?_
        clear hK K
        try simp only [Act.put, List.getElem_toArray, List.getElem_cons_zero, List.getElem_cons_succ, List.setIfInBounds_toArray, List.set_cons_zero, List.set_cons_succ]
        refine upto_step (i := 2) (by kernel_rfl) rfl ?_
        intro K hK
        go_simp
        refine (singles_any _ [0] _ (nums1 (g := W0.heap.size) (by simp [go_sem])) (by simp)).mono ?_
        rintro e w3 ⟨v3, F3, rfl, o3, hb3⟩
        rw [show [(0 : Int)].map toB = [toB 0] from rfl] at o3
        obtain ⟨p3, q3, rfl⟩ := bytes_form (bytesR.ofO o3)
        have hS3 := And.intro (cell_keep hb3 hS1.1) (cell_keep hb3 hS1.2)
        have hb03 : Below wr.heap.size wr w3 := bstep (bstep hb0 hba) hb3
        have hz3 : W0.heap.size ≤ w3.heap.size := Nat.le_trans hba.size hb3.size
        replace o3 := bytesR.base (base' := wr.heap.size) o3 (by have := hba.size; omega)
        clear hb3 hba hS1
        refine hK _ _ (fun _ => hS3) ?_
        clear hK K
        try simp only [Act.put, List.getElem_toArray, List.getElem_cons_zero, List.getElem_cons_succ, List.setIfInBounds_toArray, List.set_cons_zero, List.set_cons_succ]
        have r3 : ∀ b, F3 b → b < w3.heap.size := fun b hb => (bytesR.rng o3 b hb).2
        refine upto_step (i := 5) (by kernel_rfl) rfl ?_
        intro K hK
        go_simp
        refine (implText_u lk hf1 _).mono ?_
        rintro e w4 ⟨v4, G4, rfl, oo4, hb4⟩
        obtain ⟨u4, F4, rfl, o4, -⟩ := oo4
        obtain ⟨p4, q4, rfl⟩ := bytes_form (bytesR.ofO o4)
        have hS4 := And.intro (cell_keep hb4 hS3.1) (cell_keep hb4 hS3.2)
        have hb04 : Below wr.heap.size wr w4 := bstep hb03 hb4
        have hz4 : w3.heap.size ≤ w4.heap.size := hb4.size
        replace o3 := bytesR.keep o3 hb4
        have s34 : ∀ b, F3 b → ¬ F4 b := fun b p q => absurd (r3 b p) (Nat.not_lt_of_ge (Nat.le_trans (Nat.le_refl _) (bytesR.rng o4 b q).1))
        have r4 : ∀ b, F4 b → b < w4.heap.size := fun b hb => (bytesR.rng o4 b hb).2
        replace o4 := bytesR.base (base' := wr.heap.size) o4 hb03.size
        clear hb4
        refine hK _ _ (fun _ => hS4) ?_
        clear hK K
        try simp only [Act.put, List.getElem_toArray, List.getElem_cons_zero, List.getElem_cons_succ, List.setIfInBounds_toArray, List.set_cons_zero, List.set_cons_succ]
        have hfd := bytesField
        refine upto_take (i := 6) (v := ?_) rfl (by kernel_rfl) (by kernel_rfl) (by kernel_rfl) (by kernel_rfl) (fun _ _ _ h => h) (by rfl) hS4 ?_ ?_
        rotate_left
        · intro wS hSw
          try dsimp only at hSw
          first | (go_simp; done) | (go_simp; with_reducible rfl)
        try simp only [Act.put, List.getElem_toArray, List.getElem_cons_zero, List.getElem_cons_succ, List.setIfInBounds_toArray, List.set_cons_zero, List.set_cons_succ]
        clear hfd
        refine upto_step (i := 9) (by kernel_rfl) rfl ?_
        intro K hK
        go_simp
        refine (implText_u lv hf2 _).mono ?_
        rintro e w5 ⟨v5, G5, rfl, oo5, hb5⟩
        obtain ⟨u5, F5, rfl, o5, -⟩ := oo5
        obtain ⟨p5, q5, rfl⟩ := bytes_form (bytesR.ofO o5)
        have hS5 := And.intro (cell_keep hb5 hS4.1) (cell_keep hb5 hS4.2)
        have hb05 : Below wr.heap.size wr w5 := bstep hb04 hb5
        have hz5 : w4.heap.size ≤ w5.heap.size := hb5.size
        replace o3 := bytesR.keep o3 hb5
        replace o4 := bytesR.keep o4 hb5
        have s35 : ∀ b, F3 b → ¬ F5 b := fun b p q => absurd (r3 b p) (Nat.not_lt_of_ge (Nat.le_trans hz4 (bytesR.rng o5 b q).1))
        have s45 : ∀ b, F4 b → ¬ F5 b := fun b p q => absurd (r4 b p) (Nat.not_lt_of_ge (Nat.le_trans (Nat.le_refl _) (bytesR.rng o5 b q).1))
        have r5 : ∀ b, F5 b → b < w5.heap.size := fun b hb => (bytesR.rng o5 b hb).2
        replace o5 := bytesR.base (base' := wr.heap.size) o5 hb04.size
        clear hb5
        refine hK _ _ (fun _ => hS5) ?_
        clear hK K
        try simp only [Act.put, List.getElem_toArray, List.getElem_cons_zero, List.getElem_cons_succ, List.setIfInBounds_toArray, List.set_cons_zero, List.set_cons_succ]
        have hfd := bytesField
        refine upto_take (i := 10) (v := ?_) rfl (by kernel_rfl) (by kernel_rfl) (by kernel_rfl) (by kernel_rfl) (fun _ _ _ h => h) (by rfl) hS5 ?_ ?_
        rotate_left
        · intro wS hSw
          try dsimp only at hSw
          first | (go_simp; done) | (go_simp; with_reducible rfl)
        try simp only [Act.put, List.getElem_toArray, List.getElem_cons_zero, List.getElem_cons_succ, List.setIfInBounds_toArray, List.set_cons_zero, List.set_cons_succ]
        clear hfd
        refine upto_step (i := 11) (by kernel_rfl) rfl ?_
        intro K hK
        go_simp
        refine hK _ _ (fun _ => ⟨cell_keep (balloc (Below.refl _ _) _) hS5.1, cell_keep (balloc (Below.refl _ _) _) hS5.2⟩) ?_
        clear hK K
        try simp only [Act.put, List.getElem_toArray, List.getElem_cons_zero, List.getElem_cons_succ, List.setIfInBounds_toArray, List.set_cons_zero, List.set_cons_succ]
        refine upto_step (i := 12) (by kernel_rfl) rfl ?_
        intro K hK
        refine step_pushN wr _ rfl _ _ rfl w.heap.size _ out rfl 3 w5.heap.size rfl hro hbs (balloc hb05 _) (fun i => if i = 0 then Value.slice p3 [toB 0].length q3 else if i = 1 then Value.slice p4 (textD lk).bytes.length q4 else Value.slice p5 (textD lv).bytes.length q5) (fun i => if i = 0 then F3 else if i = 1 then F4 else F5) (fun i => if i = 0 then [toB 0] else if i = 1 then (textD lk).bytes else (textD lv).bytes) ?_ ?_ ?_ (by omega) hol ?_
        · intro i hi
          match i, hi with
          | 0, _ => exact bytesR.alloc o3 _
          | 1, _ => exact bytesR.alloc o4 _
          | 2, _ => exact bytesR.alloc o5 _
        · intro i j hi hj hij b
          match i, j, hi, hj, hij with
          | 0, 0, _, _, h => exact absurd rfl h
          | 0, 1, _, _, _ => exact s34 b
          | 0, 2, _, _, _ => exact s35 b
          | 1, 0, _, _, _ => exact fun p q => s34 b q p
          | 1, 1, _, _, h => exact absurd rfl h
          | 1, 2, _, _, _ => exact s45 b
          | 2, 0, _, _, _ => exact fun p q => s35 b q p
          | 2, 1, _, _, _ => exact fun p q => s45 b q p
          | 2, 2, _, _, h => exact absurd rfl h
        · intro i hi
          match i, hi with
          | 0, _ => simp [go_sem]
          | 1, _ => simp [go_sem]
          | 2, _ => simp [go_sem]
        intro v6 w6 hR6 hg6 hB6
        have hS6 : w6.cell? ⟨wr.heap.size, 0, none⟩ = some (.string lk) ∧ w6.cell? ⟨wr.heap.size, 1, none⟩ = some (.string lv) := ⟨hg6.cell (cell_keep (balloc (Below.refl _ _) _) hS5.1) hne, hg6.cell (cell_keep (balloc (Below.refl _ _) _) hS5.2) hne⟩
        refine hK _ _ (fun _ => hS6) ?_
        clear hK K
        try simp only [Act.put, List.getElem_toArray, List.getElem_cons_zero, List.getElem_cons_succ, List.setIfInBounds_toArray, List.set_cons_zero, List.set_cons_succ]
        refine upto_step (i := 13) (by kernel_rfl) rfl ?_
        intro K hK
        go_simp
        refine hK _ _ (fun h => absurd rfl h) ?_
        clear hK K
        refine upto_done (by kernel_rfl) ?_
        refine NoPanic.normal ?_
        have hb6 := hB6 w hbl0
        have HR6 : Hid (RowsB w6 w.heap.size v6 (packP v (ws.take (k + 1)))) := by
          rw [Hid, HE.out, HW.out]
          exact hR6
        clear hS hS6 hg6 hB6 hR6 hro hbl o3 hS3 r3 o4 hS4 r4 o5 hS5 r5
        go_wp2
        exact ⟨⟨k + 1, by omega, by go_num, HR6.out, hb6⟩, by simp [intOf]; omega⟩
      · have HW : Hid (wrP ⟨lk, lv, true⟩ = (List.range 2).map (fun i => if i = 0 then [toB 1] else (textD lk).bytes)) := by simp [Hid, wrP, List.range_succ]
        go_wp2
        have h0 : Below wr.heap.size wr (wr.alloc (.cells #[.string lk, .string lv, .bool true] 96)) := balloc (Below.refl _ _) _
        have k0 : (wr.alloc (.cells #[.string lk, .string lv, .bool true] 96)).cell? ⟨wr.heap.size, 0, none⟩ = some (.string lk) := by simp [go_sem]
        have k1 : (wr.alloc (.cells #[.string lk, .string lv, .bool true] 96)).cell? ⟨wr.heap.size, 1, none⟩ = some (.string lv) := by simp [go_sem]
        generalize wr.alloc (.cells #[.string lk, .string lv, .bool true] 96) = W at *
        refine wp_region_noPanic ?_
        refine region_upto (fun W' => W'.cell? ⟨wr.heap.size, 0, none⟩ = some (.string lk) ∧ W'.cell? ⟨wr.heap.size, 1, none⟩ = some (.string lv)) 9 (by kernel_rfl) ⟨cell_keep (by (repeat (first | exact Below.refl _ _ | assumption | refine Below.drew ?_ | refine balloc ?_ _ | refine bset ?_ (by simp; omega) _ | refine bset ?_ (by simp) _ | refine bstep ?_ (by assumption)))) k0, cell_keep (by (repeat (first | exact Below.refl _ _ | assumption | refine Below.drew ?_ | refine balloc ?_ _ | refine bset ?_ (by simp; omega) _ | refine bset ?_ (by simp) _ | refine bstep ?_ (by assumption)))) k1⟩ (fun hS => ?_)
        refine upto_take (i := 0) (v := ?_) rfl (by kernel_rfl) (by kernel_rfl) (by kernel_rfl) (by kernel_rfl) (fun _ _ _ h => h) (by rfl) hS ?_ ?_
        rotate_left
        · intro wS hSw
          try dsimp only at hSw
          first | (go_simp; done) | (go_simp; with_reducible rfl)
        try simp only [Act.put, List.getElem_toArray, List.getElem_cons_zero, List.getElem_cons_succ, List.setIfInBounds_toArray, List.set_cons_zero, List.set_cons_succ]
        refine upto_take (i := 3) (v := ?_) rfl (by kernel_rfl) (by kernel_rfl) (by kernel_rfl) (by kernel_rfl) (fun _ _ _ h => h) (by rfl) hS ?_ ?_
        rotate_left
        · intro wS hSw
          try dsimp only at hSw
          first | (go_simp; done) | (go_simp; with_reducible rfl)
        try simp only [Act.put, List.getElem_toArray, List.getElem_cons_zero, List.getElem_cons_succ, List.setIfInBounds_toArray, List.set_cons_zero, List.set_cons_succ]
        refine upto_take (i := 4) (v := ?_) rfl (by kernel_rfl) (by kernel_rfl) (by kernel_rfl) (by kernel_rfl) (fun _ _ _ h => h) (by rfl) hS ?_ ?_
        rotate_left
        · intro wS hSw
          try dsimp only at hSw
          first | (go_simp; done) | (go_simp; with_reducible rfl)
        try simp only [Act.put, List.getElem_toArray, List.getElem_cons_zero, List.getElem_cons_succ, List.setIfInBounds_toArray, List.set_cons_zero, List.set_cons_succ]
        have hb0 : Below wr.heap.size wr W.drew := Below.drew h0
        have hz0 : wr.heap.size ≤ W.drew.heap.size := hb0.size
        generalize W.drew = W0 at *
        clear h0 k0 k1 a1 a2 a3
        refine upto_step (i := 1) (by kernel_rfl) rfl ?_
        intro K hK
        go_simp
        have hba : Below W0.heap.size W0 (W0.alloc (.cells #[.int .i64 1] 2)) := balloc (Below.refl _ _) _
        have hS1 := And.intro (cell_keep hba hS.1) (cell_keep hba hS.2)
        refine hK _ _ (fun _ => hS1) ?_
        clear hK K
        try simp only [Act.put, List.getElem_toArray, List.getElem_cons_zero, List.getElem_cons_succ, List.setIfInBounds_toArray, List.set_cons_zero, List.set_cons_succ]
        refine upto_step (i := 2) (by kernel_rfl) rfl ?_
        intro K hK
        go_simp
        refine (singles_any _ [1] _ (nums1 (g := W0.heap.size) (by simp [go_sem])) (by simp)).mono ?_
        rintro e w3 ⟨v3, F3, rfl, o3, hb3⟩
        rw [show [(1 : Int)].map toB = [toB 1] from rfl] at o3
        obtain ⟨p3, q3, rfl⟩ := bytes_form (bytesR.ofO o3)
        have hS3 := And.intro (cell_keep hb3 hS1.1) (cell_keep hb3 hS1.2)
        have hb03 : Below wr.heap.size wr w3 := bstep (bstep hb0 hba) hb3
        have hz3 : W0.heap.size ≤ w3.heap.size := Nat.le_trans hba.size hb3.size
        replace o3 := bytesR.base (base' := wr.heap.size) o3 (by have := hba.size; omega)
        clear hb3 hba hS1
        refine hK _ _ (fun _ => hS3) ?_
        clear hK K
        try simp only [Act.put, List.getElem_toArray, List.getElem_cons_zero, List.getElem_cons_succ, List.setIfInBounds_toArray, List.set_cons_zero, List.set_cons_succ]
        have r3 : ∀ b, F3 b → b < w3.heap.size := fun b hb => (bytesR.rng o3 b hb).2
        refine upto_step (i := 5) (by kernel_rfl) rfl ?_
        intro K hK
        go_simp
        refine (implText_u lk hf1 _).mono ?_
        rintro e w4 ⟨v4, G4, rfl, oo4, hb4⟩
        obtain ⟨u4, F4, rfl, o4, -⟩ := oo4
        obtain ⟨p4, q4, rfl⟩ := bytes_form (bytesR.ofO o4)
        have hS4 := And.intro (cell_keep hb4 hS3.1) (cell_keep hb4 hS3.2)
        have hb04 : Below wr.heap.size wr w4 := bstep hb03 hb4
        have hz4 : w3.heap.size ≤ w4.heap.size := hb4.size
        replace o3 := bytesR.keep o3 hb4
        have s34 : ∀ b, F3 b → ¬ F4 b := fun b p q => absurd (r3 b p) (Nat.not_lt_of_ge (Nat.le_trans (Nat.le_refl _) (bytesR.rng o4 b q).1))
        have r4 : ∀ b, F4 b → b < w4.heap.size := fun b hb => (bytesR.rng o4 b hb).2
        replace o4 := bytesR.base (base' := wr.heap.size) o4 hb03.size
        clear hb4
        refine hK _ _ (fun _ => hS4) ?_
        clear hK K
        try simp only [Act.put, List.getElem_toArray, List.getElem_cons_zero, List.getElem_cons_succ, List.setIfInBounds_toArray, List.set_cons_zero, List.set_cons_succ]
        have hfd := bytesField
        refine upto_take (i := 6) (v := ?_) rfl (by kernel_rfl) (by kernel_rfl) (by kernel_rfl) (by kernel_rfl) (fun _ _ _ h => h) (by rfl) hS4 ?_ ?_
        rotate_left
        · intro wS hSw
          try dsimp only at hSw
          first | (go_simp; done) | (go_simp; with_reducible rfl)
        try simp only [Act.put, List.getElem_toArray, List.getElem_cons_zero, List.getElem_cons_succ, List.setIfInBounds_toArray, List.set_cons_zero, List.set_cons_succ]
        clear hfd
        refine upto_step (i := 7) (by kernel_rfl) rfl ?_
        intro K hK
        go_simp
        refine hK _ _ (fun _ => ⟨cell_keep (balloc (Below.refl _ _) _) hS4.1, cell_keep (balloc (Below.refl _ _) _) hS4.2⟩) ?_
        clear hK K
        try simp only [Act.put, List.getElem_toArray, List.getElem_cons_zero, List.getElem_cons_succ, List.setIfInBounds_toArray, List.set_cons_zero, List.set_cons_succ]
        refine upto_step (i := 8) (by kernel_rfl) rfl ?_
        intro K hK
        refine step_pushN wr _ rfl _ _ rfl w.heap.size _ out rfl 2 w4.heap.size rfl hro hbs (balloc hb04 _) (fun i => if i = 0 then Value.slice p3 [toB 1].length q3 else Value.slice p4 (textD lk).bytes.length q4) (fun i => if i = 0 then F3 else F4) (fun i => if i = 0 then [toB 1] else (textD lk).bytes) ?_ ?_ ?_ (by omega) hol ?_
        · intro i hi
          match i, hi with
          | 0, _ => exact bytesR.alloc o3 _
          | 1, _ => exact bytesR.alloc o4 _
        · intro i j hi hj hij b
          match i, j, hi, hj, hij with
          | 0, 0, _, _, h => exact absurd rfl h
          | 0, 1, _, _, _ => exact s34 b
          | 1, 0, _, _, _ => exact fun p q => s34 b q p
          | 1, 1, _, _, h => exact absurd rfl h
        · intro i hi
          match i, hi with
          | 0, _ => simp [go_sem]
          | 1, _ => simp [go_sem]
        intro v6 w6 hR6 hg6 hB6
        have hS6 : w6.cell? ⟨wr.heap.size, 0, none⟩ = some (.string lk) ∧ w6.cell? ⟨wr.heap.size, 1, none⟩ = some (.string lv) := ⟨hg6.cell (cell_keep (balloc (Below.refl _ _) _) hS4.1) hne, hg6.cell (cell_keep (balloc (Below.refl _ _) _) hS4.2) hne⟩
        refine hK _ _ (fun _ => hS6) ?_
        clear hK K
        try simp only [Act.put, List.getElem_toArray, List.getElem_cons_zero, List.getElem_cons_succ, List.setIfInBounds_toArray, List.set_cons_zero, List.set_cons_succ]
        refine upto_step (i := 9) (by kernel_rfl) rfl ?_
        intro K hK
        go_simp
        refine hK _ _ (fun h => absurd rfl h) ?_
        clear hK K
        refine upto_done (by kernel_rfl) ?_
        refine NoPanic.normal ?_
        have hb6 := hB6 w hbl0
        have HR6 : Hid (RowsB w6 w.heap.size v6 (packP v (ws.take (k + 1)))) := by
          rw [Hid, HE.out, HW.out]
          exact hR6
        clear hS hS6 hg6 hB6 hR6 hro hbl o3 hS3 r3 o4 hS4 r4
        go_wp2
        exact ⟨⟨k + 1, by omega, by go_num, HR6.out, hb6⟩, by simp [intOf]; omega⟩
    · have hk2 : k = n := by omega
      subst hk2
      obtain ⟨F, hO⟩ := rowsB_O hro
      go_wp2_with fail
      refine (joined_any _ _ _ (bytessR.ofO hO) HFL.out).mono ?_
      rintro e w6 ⟨v6, F6, rfl, o6, hb6⟩
      have o6' := bytesR.base (base' := w.heap.size) o6 hbs
      rw [HF.out] at o6'
      have hB6 := bstep hbl hb6
      clear hO hro o6 hb6
      go_wp2
      go_ret
      first | exact ⟨_, _, rfl, o6', hB6⟩ | exact ⟨_, rfl, ⟨_, o6'⟩, hB6⟩
end Go.Proofs.YtdfapehonegeeaaGreat

/-
  Is a key among writes?
-/
namespace Go.Proofs.YtdfapehonegeeaaGreat
open Go.RowKit
set_option linter.unusedSectionVars false
variable [DecidableEq Wri] [Inhabited Wri] [DecidableEq BytesR] [Inhabited BytesR] [DecidableEq Rw] [Inhabited Rw]
set_option linter.unusedVariables false
set_option linter.unusedSimpArgs false
attribute [local go_sem ↓] Go.wp_at_zero Go.wp_at_succ

set_option maxHeartbeats 400000 in
theorem keyIs_any (x : Wri) (s : ByteArray) (B : Nat) (w : World) (hc : w.cell? ⟨B, 0, none⟩ = some (.string s)) :
    Calls Tryz.prog 171 #[.agg #[.string x.key, .string x.val, .bool x.gone], .pointer (some ⟨B, 0, none⟩)] w fun e w' => e = .returned (.bool (decide (x.key = s))) ∧ Below w.heap.size w w' := by
  have hlt := World.block_lt_of_cell? _ _ hc
  dsimp only at hlt
  by_cases h : x.key = s
  · rw [decide_eq_true h]
    have h1 : (x.key.toList == s.toList) = true := by rw [h]; simp
    have h2 : x.key.toList = s.toList := by rw [h]
    have HH : Hid (x.key = s) := h
    clear h
    go_enter Tryz.func171, Tryz.ntmps171
    go_wp2
    go_ret
    exact ⟨rfl, balloc (Below.refl _ _) _⟩
  · rw [decide_eq_false h]
    have h1 : (x.key.toList == s.toList) = false := by rw [beq_eq_false_iff_ne, Ne, tl_inj]; exact h
    have h2 : ¬ x.key.toList = s.toList := by rw [tl_inj]; exact h
    go_enter Tryz.func171, Tryz.ntmps171
    go_wp2
    go_ret
    exact ⟨rfl, balloc (Below.refl _ _) _⟩
set_option maxHeartbeats 1000000 in
theorem indexKey_any (x : Value) (xs : List Wri) (s : ByteArray) (B : Nat) (w : World) (hx : WrisV w x xs) (hc : w.cell? ⟨B, 0, none⟩ = some (.string s)) :
    Calls Tryz.prog 180 #[x, .func (.func 171) #[] #[.pointer (some ⟨B, 0, none⟩)]] w fun e w' => (∃ r : Int, e = .returned (.int .i64 r) ∧ ((r = -1 ∧ hasK xs xs.length s = false) ∨ (0 ≤ r ∧ hasK xs xs.length s = true))) ∧ Below w.heap.size w w' := by
  obtain ⟨ax, cx, rfl, hcx, hmx, hx⟩ := hx
  unfold maxLen at hmx
  generalize hn' : xs.length = n at *
  clear hn'
  go_enter Tryz.func180, Tryz.ntmps180
  go_wp2
  go_loopw [8] (fun i w' => ∃ k : Nat, k ≤ n ∧ i = .int .i64 k ∧ Hid (∀ j, j < k → (xs.getD j default).key ≠ s) ∧ Below w.heap.size w w') (fun i _ => n - (intOf i).toNat)
  case atStart => exact ⟨0, Nat.zero_le _, rfl, fun j hj => absurd hj (Nat.not_lt_zero _), Below.refl _ _⟩
  case round =>
    obtain ⟨k, hk, rfl, HP, hbl⟩ := hrel
    by_cases hlt : k < n
    · obtain ⟨bx, ox, rfl, g1⟩ := hx k hlt
      obtain ⟨l, hl⟩ : ∃ l, l = xs.getD k default := ⟨_, rfl⟩
      rw [← hl] at g1
      have HLE : Hid (l = xs.getD k default) := hl
      clear hl hx
      obtain ⟨a1, a2, a3⟩ := wriCells_below hbl g1
      have hc2 := cell_keep hbl hc
      have hti : (k : Int) < (n : Int) := by omega
      have eg : ∀ args w, (callFunc 171 args).run Tryz.prog w = .ok (.enter 171 args) w := enters_of Tryz.func171 (by kernel_rfl) rfl
      clear g1
      go_wp2_with fail
      refine (keyIs_any l s B _ hc2).mono ?_
      rintro e w1 ⟨rfl, hb1⟩
      have hB := bstep hbl hb1
      clear eg hb1 a1 a2 a3
      by_cases hq : l.key = s
      · rw [decide_eq_true hq]
        have HQ : Hid (hasK xs n s = true) := hasK_of hlt (by rw [← HLE.out]; exact hq)
        clear hq
        go_wp2
        go_ret
        exact ⟨⟨k, rfl, .inr ⟨by omega, HQ.out⟩⟩, hB⟩
      · rw [decide_eq_false hq]
        have HQ : Hid (∀ j, j < k + 1 → (xs.getD j default).key ≠ s) := fun j hj => by
          by_cases e : j = k
          · rw [e, ← HLE.out]; exact hq
          · exact HP.out j (by omega)
        clear hq
        go_wp2
        exact ⟨⟨k + 1, by omega, by go_num, HQ, hB⟩, by simp [intOf]; omega⟩
    · obtain rfl : k = n := by omega
      have hti : ¬ (k : Int) < (k : Int) := by omega
      go_wp2
      go_ret
      exact ⟨⟨-1, rfl, .inl ⟨rfl, hasK_none HP.out⟩⟩, hbl⟩
set_option maxHeartbeats 1000000 in
theorem containsKey_any (x : Value) (xs : List Wri) (s : ByteArray) (B : Nat) (w : World) (hx : WrisV w x xs) (hc : w.cell? ⟨B, 0, none⟩ = some (.string s)) :
    Calls Tryz.prog 170 #[x, .func (.func 171) #[] #[.pointer (some ⟨B, 0, none⟩)]] w fun e w' => e = .returned (.bool (hasK xs xs.length s)) ∧ Below w.heap.size w w' := by
  have hX := hx
  obtain ⟨ax, cx, rfl, _⟩ := hx
  go_enter Tryz.func170, Tryz.ntmps170
  go_wp2_with fail
  refine (indexKey_any _ xs s B _ hX hc).mono ?_
  rintro e w1 ⟨⟨r, rfl, hr⟩, hb1⟩
  rcases hr with ⟨rfl, hr⟩ | ⟨hr0, hr⟩
  · have HR : Hid (_ = _) := hr
    clear hr
    go_wp2
    go_ret
    exact ⟨by rw [HR.out]; rfl, hb1⟩
  · have HR : Hid (_ = _) := hr
    clear hr
    go_wp2
    go_ret
    exact ⟨by rw [HR.out]; rfl, hb1⟩
set_option maxHeartbeats 1000000 in
theorem hasKey_any (x : Value) (xs : List Wri) (s : ByteArray) (w : World) (hx : WrisV w x xs) :
    Calls Tryz.prog 154 #[x, .string s] w fun e w' => e = .returned (.bool (hasK xs xs.length s)) ∧ Below w.heap.size w w' := by
  have hX := hx
  obtain ⟨ax, cx, rfl, _⟩ := hx
  go_enter Tryz.func154, Tryz.ntmps154
  go_wp2_with fail
  refine (containsKey_any _ xs s w.heap.size _ (WrisV_below hX (by (repeat (first | exact Below.refl _ _ | assumption | refine Below.drew ?_ | refine balloc ?_ _ | refine bset ?_ (by simp; omega) _ | refine bset ?_ (by simp) _ | refine bstep ?_ (by assumption))))) (by simp [go_sem])).mono ?_
  rintro e w1 ⟨rfl, hb1⟩
  go_wp2
  go_ret
  exact ⟨rfl, by (repeat (first | exact Below.refl _ _ | assumption | refine Below.drew ?_ | refine balloc ?_ _ | refine bset ?_ (by simp; omega) _ | refine bset ?_ (by simp) _ | refine bstep ?_ (by assumption)))⟩
theorem wris_takeV {w : World} {a : Option Addr} {n c k : Nat} {xs : List Wri} (h : WrisV w (.slice a n c) xs) (hk : k ≤ xs.length) : WrisV w (.slice a k c) (xs.take k) := by
  obtain ⟨a', c', e, h1, h2, h3⟩ := h
  simp only [Value.slice.injEq] at e
  obtain ⟨rfl, rfl, rfl⟩ := e
  have hl : (xs.take k).length = k := by rw [List.length_take]; omega
  refine ⟨a, c, by rw [hl], by omega, h2, fun i hi => ?_⟩
  rw [hl] at hi
  obtain ⟨b, o, e, g⟩ := h3 i (by omega)
  refine ⟨b, o, e, ?_⟩
  have e2 : (xs.take k).getD i default = xs.getD i default := by simp [List.getD, hi]
  rw [e2]
  exact g
theorem hasK_take {xs : List Wri} {k : Nat} {s : ByteArray} (hk : k ≤ xs.length) : hasK (xs.take k) (xs.take k).length s = hasK xs k s := by
  have hl : (xs.take k).length = k := by rw [List.length_take]; omega
  rw [hl]
  unfold hasK
  rw [Bool.eq_iff_iff, List.any_eq_true, List.any_eq_true]
  have e2 : ∀ i, i < k → (xs.take k).getD i default = xs.getD i default := fun i hi => by simp [List.getD, hi]
  constructor
  · rintro ⟨j, hj, h⟩
    rw [e2 j (List.mem_range.1 hj)] at h
    exact ⟨j, hj, h⟩
  · rintro ⟨j, hj, h⟩
    refine ⟨j, hj, ?_⟩
    rw [e2 j (List.mem_range.1 hj)]
    exact h
end Go.Proofs.YtdfapehonegeeaaGreat

/-
  The fault of writes: the program's side.
-/
namespace Go.Proofs.YtdfapehonegeeaaGreat
open Go.RowKit
set_option linter.unusedSectionVars false
variable [DecidableEq Wri] [Inhabited Wri] [DecidableEq BytesR] [Inhabited BytesR] [DecidableEq Rw] [Inhabited Rw]
set_option linter.unusedVariables false
set_option linter.unusedSimpArgs false
attribute [local go_sem ↓] Go.wp_at_zero Go.wp_at_succ

set_option maxHeartbeats 400000 in
theorem rowAt_any (v : Int) (l : Wri) (w : World) :
    Calls Tryz.prog 131 #[.int .i64 v, .agg #[.string l.key, .string l.val, .bool l.gone]] w fun e w' => e = .returned (.agg #[.string l.key, .int .i64 v, .string l.val, .bool l.gone]) ∧ Below w.heap.size w w' := by
  go_enter Tryz.func131, Tryz.ntmps131
  go_wp2
  exact bodyPost_ret (v := .agg #[.string l.key, .int .i64 v, .string l.val, .bool l.gone]) (by simp [results, Tryz.results131, go_sem]) rfl ⟨rfl, by (repeat (first | exact Below.refl _ _ | assumption | refine Below.drew ?_ | refine balloc ?_ _ | refine bset ?_ (by simp; omega) _ | refine bset ?_ (by simp) _ | refine bstep ?_ (by assumption)))⟩
theorem boxKey {w w' : World} {a : Addr} {v : Value} (hb : Below w.heap.size w w') (h : w.cell? a = some v) : Below w.heap.size w w' ∧ w'.cell? a = some v := ⟨hb, cell_keep hb h⟩
set_option maxHeartbeats 4000000 in
theorem implWf_any (x : Value) (ws : List Wri) (w : World) (hx : wrisR.V w x ws) :
    Calls Tryz.prog 119 #[x] w fun e w' => e = .returned (.int .i64 (wrF ws)) ∧ Below w.heap.size w w' := by
  have HX : Hid (wrisR.V w x ws) := hx
  obtain ⟨hx, -⟩ := hx
  have HV : Hid (WrisV w x ws) := hx
  obtain ⟨ax, cx, rfl, hcx, hmx, hx⟩ := hx
  unfold maxLen at hmx
  by_cases hn : ws.length < 1 ∨ 8 < ws.length
  · rw [wrF_many hn]
    clear hx HX HV
    generalize ws.length = n at *
    rcases hn with hn | hn
    · have h1 : (n : Int) < 1 := by omega
      go_enter Tryz.func119, Tryz.ntmps119
      go_wp2
      go_ret
      exact ⟨rfl, Below.refl _ _⟩
    · have h1 : ¬ (n : Int) < 1 := by omega
      have h2 : (8 : Int) < n := by omega
      go_enter Tryz.func119, Tryz.ntmps119
      go_wp2
      go_ret
      exact ⟨rfl, Below.refl _ _⟩
  have HC : Hid (∀ k, k < ws.length → (∀ j, j < k → wrAt ws j = 0) → wrAt ws k ≠ 0 → wrF ws = wrAt ws k) := fun k hk h hc => wrF_at hn hk h hc
  have HZ : Hid ((∀ j, j < ws.length → wrAt ws j = 0) → wrF ws = if 500 < (packB 1 ws).length then 2 else 0) := wrF_end hn
  have HPK : Hid (∀ W, Below w.heap.size w W → Calls Tryz.prog 72 #[.int .i64 1, .slice ax ws.length cx] W fun e w' => ∃ r F, e = .returned r ∧ bytesR.O w' W.heap.size F r (packB 1 ws) ∧ Below W.heap.size W w') := fun W hb => bytesOf_any 1 _ ws W (wrisR.below HX.out hb) (by omega)
  have HKC : Hid (∀ k s W, k ≤ ws.length → Below w.heap.size w W → Calls Tryz.prog 154 #[.slice ax k cx, .string s] W fun e w' => e = .returned (.bool (hasK ws k s)) ∧ Below W.heap.size W w') := fun k s W hk hb => by
    have h := hasKey_any (.slice ax k cx) (ws.take k) s W (WrisV_below (wris_takeV HV.out hk) hb)
    rw [hasK_take hk] at h
    exact h
  have HB : Hid ((packB 1 ws).length ≤ 3300) := by
    have := packB_len 1 ws
    rw [Hid]
    omega
  clear HX HV
  generalize ws.length = n at *
  have h1 : ¬ (n : Int) < 1 := by omega
  have h2 : ¬ (8 : Int) < n := by omega
  have hn8 : n ≤ 8 := by omega
  clear hn
  go_enter Tryz.func119, Tryz.ntmps119
  go_wp2
  go_loopw [16] (fun i w' => ∃ k : Nat, k ≤ n ∧ i = .int .i64 k ∧ Hid (∀ j, j < k → wrAt ws j = 0) ∧ Below w.heap.size w w') (fun i _ => n - (intOf i).toNat)
  case atStart => exact ⟨0, Nat.zero_le _, rfl, fun j h => absurd h (Nat.not_lt_zero _), Below.refl _ _⟩
  case round =>
    obtain ⟨k, hk, rfl, HP, hbl⟩ := hrel
    by_cases hlt : k < n
    · obtain ⟨bx, ox, rfl, g1⟩ := hx k hlt
      have HC2 : Hid (wrAt ws k ≠ 0 → wrF ws = wrAt ws k) := fun hc => HC.out k hlt HP.out hc
      have HK : Hid (wrAt ws k = if rowFault (wrRow 1 (ws.getD k default)) ≠ 0 then rowFault (wrRow 1 (ws.getD k default)) else if hasK ws k (ws.getD k default).key = true then 7 else 0) := rfl
      have hKC := fun s W hb => HKC.out k s W hk hb
      obtain ⟨l, hl⟩ : ∃ l, l = ws.getD k default := ⟨_, rfl⟩
      rw [← hl] at g1 HK
      clear hl hx HC HKC
      obtain ⟨a1, a2, a3⟩ := wriCells_below hbl g1
      have hti : (k : Int) < (n : Int) := by omega
      clear g1
      have HKK : Hid (∀ s W, Below w.heap.size w W → Calls Tryz.prog 154 #[.slice (some ⟨bx, ox, none⟩) k cx, .string s] W fun e w' => e = .returned (.bool (hasK ws k s)) ∧ Below W.heap.size W w') := hKC
      clear hKC
      go_wp2_with fail
      refine (rowAt_any 1 l _).mono ?_
      rintro e wz ⟨rfl, hbz⟩
      have q0 : wz.cell? ⟨wr.heap.size, 0, none⟩ = some (.string l.key) := cell_keep hbz (by simp [go_sem])
      have hBz : Below w.heap.size w wz := by (repeat (first | exact Below.refl _ _ | assumption | refine Below.drew ?_ | refine balloc ?_ _ | refine bset ?_ (by simp; omega) _ | refine bset ?_ (by simp) _ | refine bstep ?_ (by assumption)))
      clear hbz
      go_wp2_with fail
      refine (implRowFault_any (wrRow 1 l) _).mono ?_
      rintro e wa ⟨rfl, hba⟩
      replace q0 := cell_keep hba q0
      have hB : Below w.heap.size w wa := bstep hBz hba
      have hzb := World.block_lt_of_cell? _ _ q0
      dsimp only at hzb
      clear hba a1 a2 a3 hbl hBz
      generalize wr.heap.size = N at *
      by_cases hf : rowFault (wrRow 1 l) = 0
      · rw [hf]
        have HK2 : Hid (wrAt ws k = if hasK ws k l.key = true then 7 else 0) := by
          rw [Hid, HK.out, if_neg (by simp [hf])]
        have hi5 : (0 : Int) ≤ k := by omega
        have hi6 : (k : Int) ≤ cx := by omega
        clear hf HK
        go_wp2
        obtain ⟨q, hq⟩ : ∃ q, hasK ws k l.key = q := ⟨_, rfl⟩
        have HQ : Hid (hasK ws k l.key = q) := hq
        have hcall := fun W hb => HKK.out l.key W hb
        rw [hq] at hcall
        clear hq
        have HCALL : Hid (∀ W, Below w.heap.size w W → Calls Tryz.prog 154 #[.slice (some ⟨bx, ox, none⟩) k cx, .string l.key] W fun e w' => e = .returned (.bool q) ∧ Below W.heap.size W w') := hcall
        clear hcall HKK
        go_region_held3 (fun w' => Below wa.heap.size wa w' ∧ w'.cell? ⟨N, 0, none⟩ = some (.string l.key)) ((refine boxKey ?_ q0; repeat (first | exact Below.refl _ _ | assumption | refine Below.drew ?_ | refine balloc ?_ _ | refine bstep ?_ (by assumption))))
          (first | (go_at_call 154; refine (HCALL.out _ ?_).mono ?_; (focus (repeat (first | exact Below.refl _ _ | assumption | refine Below.drew ?_ | refine balloc ?_ _ | refine bstep ?_ (by assumption)))); rintro e w' ⟨rfl, hb1⟩))
        rename_i hH
        have hB2 := bstep hB hH.1
        clear hH
        cases q
        · have HQ2 : Hid (∀ j, j < k + 1 → wrAt ws j = 0) := fun j hj => by
            by_cases e : j = k
            · rw [e, HK2.out, if_neg (by rw [HQ.out]; decide)]
            · exact HP.out j (by omega)
          go_wp2
          exact ⟨⟨k + 1, by omega, by go_num, HQ2, hB2⟩, by simp [intOf]; omega⟩
        · have HQ2 : Hid (wrF ws = 7) := by
            have hh : wrAt ws k = 7 := by rw [HK2.out, if_pos HQ.out]
            rw [Hid, HC2.out (by rw [hh]; decide), hh]
          go_wp2
          go_ret
          exact ⟨by rw [HQ2.out]; rfl, hB2⟩
      · have HQ : Hid (wrF ws = rowFault (wrRow 1 l)) := by
          have hh : wrAt ws k = rowFault (wrRow 1 l) := by rw [HK.out, if_pos hf]
          rw [Hid, HC2.out (by rw [hh]; exact hf), hh]
        clear HK HC2
        generalize rowFault (wrRow 1 l) = c at *
        have hf2 : (c == 0) = false := by simpa using hf
        go_wp2
        go_ret
        exact ⟨by rw [HQ.out]; rfl, hB⟩
    · obtain rfl : k = n := by omega
      have hti : ¬ (k : Int) < (k : Int) := by omega
      have HE := HZ.out HP.out
      have HEE : Hid (wrF ws = if 500 < (packB 1 ws).length then 2 else 0) := HE
      clear HE HZ HC hx HKC
      go_wp2_with fail
      refine (HPK.out _ hbl).mono ?_
      rintro e w1 ⟨r, F, rfl, o1, hb1⟩
      obtain ⟨p, q, rfl⟩ := bytes_form (bytesR.ofO o1)
      have hB := bstep hbl hb1
      have hbb := HB.out
      clear o1 hb1 HPK HB
      generalize (packB 1 ws).length = L at *
      by_cases h5 : 500 < L
      · have h6 : (500 : Int) < (L : Int) := by omega
        go_wp2
        go_ret
        exact ⟨by rw [HEE.out, if_pos h5]; rfl, hB⟩
      · have h6 : ¬ (500 : Int) < (L : Int) := by omega
        go_wp2
        go_ret
        exact ⟨by rw [HEE.out, if_neg h5]; rfl, hB⟩
end Go.Proofs.YtdfapehonegeeaaGreat

/-
  Writes as rows of one version: the program's iterator rowsAt.
-/
namespace Go.Proofs.YtdfapehonegeeaaGreat
open Go.RowKit Go.Shelf
set_option linter.unusedSectionVars false
variable [DecidableEq Wri] [Inhabited Wri] [DecidableEq BytesR] [Inhabited BytesR] [DecidableEq Rw] [Inhabited Rw]
set_option linter.unusedVariables false
set_option linter.unusedSimpArgs false
attribute [local go_sem] Oper.semAt_some

def WriAt (R : Nat → Prop) (W : World) (v : Value) (ws : List Wri) : Prop :=
  ∃ a cap, v = .slice a ws.length cap ∧ ws.length ≤ cap ∧ cap ≤ maxLen ∧ ∀ i, i < ws.length → ∃ b o, a = some ⟨b, o, none⟩ ∧ R b ∧ wriCells W b (o + i * 3) (ws.getD i default)
theorem wriCells_mod {F : Nat → Prop} {w w' : World} {b o : Nat} {x : Wri} (hm : Mod F w w') (hb : ¬ F b) (h : wriCells w b o x) : wriCells w' b o x :=
  ⟨hm.cell h.1 hb, hm.cell h.2.1 hb, hm.cell h.2.2 hb⟩
theorem WriAt.mod {R F : Nat → Prop} {w w' : World} {v : Value} {ws : List Wri} (h : WriAt R w v ws) (hm : Mod F w w') (hF : ∀ b, R b → ¬ F b) : WriAt R w' v ws := by
  obtain ⟨a, cap, e, h1, h2, h3⟩ := h
  refine ⟨a, cap, e, h1, h2, fun i hi => ?_⟩
  obtain ⟨b, o, ha, hb, hc⟩ := h3 i hi
  exact ⟨b, o, ha, hb, wriCells_mod hm (hF b hb) hc⟩
theorem WriAt.of {R : Nat → Prop} {w : World} {v : Value} {ws : List Wri} (h : WrisV w v ws) (hR : ∀ b, b < w.heap.size → R b) : WriAt R w v ws := by
  obtain ⟨a, cap, e, h1, h2, h3⟩ := h
  refine ⟨a, cap, e, h1, h2, fun i hi => ?_⟩
  obtain ⟨b, o, ha, hc⟩ := h3 i hi
  exact ⟨b, o, ha, hR b (World.block_lt_of_cell? _ _ hc.1), hc⟩
set_option maxHeartbeats 1000000 in
theorem rowsAt_any (v : Int) (a : Option Addr) (n c : Nat) (w : World) :
    Calls Tryz.prog 78 #[.int .i64 v, .slice a n c] w fun e w' => e = .returned (.func (.func 130) #[] #[.pointer (some ⟨w.heap.size + 1, 0, none⟩), .pointer (some ⟨w.heap.size, 0, none⟩)]) ∧ w' = (w.alloc (.cells #[.int .i64 v] 2)).alloc (.cells #[.slice a n c] 44) := by
  go_enter Tryz.func78, Tryz.ntmps78
  go_wp2
  go_ret
  exact ⟨by simp, rfl⟩
set_option maxRecDepth 100000 in
set_option maxHeartbeats 2000000 in
theorem rowsAt_seq (Bl Bv : Nat) (lv : Value) (ws : List Wri) (ver : Int) (R : Nat → Prop) (w : World) (hB : w.cell? ⟨Bl, 0, none⟩ = some lv) (hV : w.cell? ⟨Bv, 0, none⟩ = some (.int .i64 ver)) (hRB : R Bl) (hRV : R Bv) (hT : WriAt R w lv ws) (hn : ws.length ≤ 200) :
    Seqx Tryz.prog 130 #[.pointer (some ⟨Bl, 0, none⟩), .pointer (some ⟨Bv, 0, none⟩)] rowV (ws.map (wrRow ver)) R w := by
  intro l J Jx W X hm hXa hJ hJx hY h0
  have hBW := hm.cell hB (fun h => h hRB)
  have hVW := hm.cell hV (fun h => h hRV)
  have hTW := hT.mod hm (fun b hb h => h hb)
  clear hB hT hV
  obtain ⟨a, cap, rfl, hc1, hc2, hrow⟩ := hTW
  unfold maxLen at hc2
  have HQ : Hid (∀ k, k < ws.length → (ws.map (wrRow ver)).getD k default = wrRow ver (ws.getD k default)) := fun k hk => by simp [List.getD, hk]
  have HNN : Hid ((ws.map (wrRow ver)).length = ws.length) := List.length_map _
  obtain ⟨xs, hxs⟩ : ∃ xs, ws.map (wrRow ver) = xs := ⟨_, rfl⟩
  rw [hxs] at HQ HNN hY ⊢
  have HP : Hid (∀ k, k < ws.length → xs.take k ++ [xs.getD k default] = xs.take (k + 1)) := fun k hk => take_snoc xs (by rw [HNN.out]; exact hk)
  have HA : Hid (∀ k, xs.take k <+: xs) := fun k => List.take_prefix _ _
  have HE : Hid (xs.take ws.length = xs) := by rw [Hid, ← HNN.out]; exact List.take_length
  clear hxs HNN
  generalize ws.length = n at *
  refine callsIn_of_wp Tryz.func130 rfl trivial ?_ rfl
  simp only [Tryz.ntmps130, List.size_toArray, List.length_cons, List.length_nil, Nat.reduceAdd, Nat.reduceSub, Array.replicate_succ, Array.replicate_zero, List.push_toArray, List.append_toArray, List.nil_append, List.cons_append]
  gi_wp2
  gi_loopw [8] (fun i wr => ∃ k : Nat, k ≤ n ∧ i = .int .i64 k ∧ Hid (J (xs.take k) wr X) ∧ Hid (∀ b, X b → b < wr.heap.size) ∧ Mod (fun b => ¬ R b) W wr) (fun i _ => n - (intOf i).toNat)
  case atStart => exact ⟨0, Nat.zero_le _, rfl, (show J [] W X from h0), hXa, Mod.refl _ _⟩
  case round =>
    obtain ⟨k, hk, rfl, HJ, HXa, hmr⟩ := hrel
    by_cases hlt : k < n
    · obtain ⟨b, o, rfl, hRb, hc⟩ := hrow k hlt
      obtain ⟨q, hq⟩ : ∃ q, q = ws.getD k default := ⟨_, rfl⟩
      have hP := HP.out k hlt
      have hQ := HQ.out k hlt
      rw [← hq] at hc hQ
      rw [hQ] at hP
      have HPk : Hid (xs.take k ++ [wrRow ver q] = xs.take (k + 1)) := hP
      obtain ⟨c0, c1, c2⟩ := wriCells_mod hmr (fun h => h hRb) hc
      have hvr := hmr.cell hVW (fun h => h hRV)
      have zb := World.block_lt_of_cell? _ _ c0
      have zv := World.block_lt_of_cell? _ _ hvr
      dsimp only at zb zv
      clear hP hq hrow hc hQ
      gi_wp2
      refine ⟨trivial, rfl, (callsIn_wide.2 (rowAt_any ver q _)).mono ?_⟩
      rintro e W2 ⟨rfl, hb2⟩
      have hm2 : ∀ F, Mod F wr W2 := fun F => (mod_alloc F _ _).trans (Mod.of_below hb2)
      have hs2 := (hm2 (fun _ => False)).size
      have hJ2 : J (xs.take k) W2 X := hJ _ _ _ _ _ HJ.out (hm2 _) (fun _ h => h) (fun b h => ⟨.inl h, by have := HXa.out b h; omega⟩)
      obtain ⟨fn, tmps, assign, body, hy, hR2⟩ := hY _ (wrRow ver q) W2 X hJ2 (fun _ h => h) (fun b h => by have := HXa.out b h; omega) (by rw [HPk.out]; exact HA.out _)
      unfold rowV wrRow at hy
      dsimp only at hy
      clear hb2
      gi_wp2
      refine ⟨rfl, hR2.mono ?_⟩
      rintro e W3 (⟨rfl, hJ3, hk3⟩ | ⟨rfl, hJx3, hk3⟩)
      · gi_wp2
        go_roundw
        case rel =>
          have hs := hk3.size
          refine ⟨k + 1, by omega, by simp, ?_, fun b h => ?_, (hmr.trans (hm2 _)).trans (hk3.mono (fun b h hr => h (.inl hr)))⟩
          · rw [Hid, ← HPk.out]
            exact hJ3
          · have := HXa.out b h
            omega
        case measure => simp [intOf]; omega
      · gi_wp2
        refine bodyPost_ret (results_none rfl _ _ _) rfl ?_
        exact ⟨⟨_, rfl⟩, X, fun _ h => h, .inr ⟨_, by rw [HPk.out]; exact HA.out _, hJx3⟩⟩
    · obtain rfl : k = n := by omega
      gi_wp2
      go_end0
      refine ⟨⟨_, rfl⟩, X, fun _ h => h, .inl ?_⟩
      have hj := HJ.out
      rw [HE.out] at hj
      exact hj
end Go.Proofs.YtdfapehonegeeaaGreat

