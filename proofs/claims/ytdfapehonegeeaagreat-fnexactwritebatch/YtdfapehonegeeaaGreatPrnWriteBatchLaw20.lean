import Derived.Test.YtdfapehonegeeaaGreatPrnWriteBatchLaw19
import Derived.Test.YtdfapehonegeeaaGreatPrnWriteBatchLaw18
import Derived.Test.YtdfapehonegeeaaGreatPrnWriteBatchLaw14

/-
  PackWrites, on both sides.
-/
namespace Go.Proofs.YtdfapehonegeeaaGreat
open Go.RowKit
set_option linter.unusedSectionVars false
variable [DecidableEq Wri] [Inhabited Wri] [DecidableEq BytesR] [Inhabited BytesR] [DecidableEq Rw] [Inhabited Rw]
set_option linter.unusedVariables false
set_option linter.unusedSimpArgs false
attribute [local go_sem ↓] Go.wp_at_zero Go.wp_at_succ

def packWD (v : Int) (ws : List Wri) : BytesR := if inR v 1 1000000 = true then if wrF ws ≠ 0 then ⟨wrF ws, []⟩ else ⟨0, packB v ws⟩ else ⟨3, []⟩
set_option maxHeartbeats 2000000 in
theorem specPackW_u (v : Int) (x : Value) (ws : List Wri) (w : World) (hx : wrisR.V w x ws) :
    Calls Tryz.prog 147 #[.int .i64 v, x] w fun e w' => ∃ r F, e = .returned r ∧ bytesRR.O w' w.heap.size F r (packWD v ws) ∧ Below w.heap.size w w' := by
  have hX := hx
  obtain ⟨ax, cx, rfl⟩ := wris_form hx
  cases hin : inR v 1 1000000
  · have HD : Hid (packWD v ws = ⟨3, []⟩) := by unfold Hid packWD; rw [hin, if_neg (by decide)]
    go_enter Tryz.func147, Tryz.ntmps147
    go_wp2_with (go_at_call 44; refine (l1InR_any _ _ _ _).mono ?_; rintro e w' ⟨rfl, rfl⟩; rw [hin])
    refine bodyPost_ret (v := .agg #[.int .i64 3, .slice none 0 0]) (by simp [results, Tryz.results147, go_sem]) rfl ?_
    rw [HD.out]
    first | exact ⟨_, none_, rfl, bytesR_nil _ _ _, by (repeat (first | exact Below.refl _ _ | assumption | refine Below.drew ?_ | refine balloc ?_ _ | refine bset ?_ (by simp; omega) _ | refine bset ?_ (by simp) _ | refine bstep ?_ (by assumption)))⟩ | exact ⟨_, rfl, ⟨none_, bytesR_nil _ _ _⟩, by (repeat (first | exact Below.refl _ _ | assumption | refine Below.drew ?_ | refine balloc ?_ _ | refine bset ?_ (by simp; omega) _ | refine bset ?_ (by simp) _ | refine bstep ?_ (by assumption)))⟩
  · have HL : Hid (wrF ws = 0 → ws.length ≤ 8) := fun h => (wrF_inv h).2.1
    go_enter Tryz.func147, Tryz.ntmps147
    go_wp2_with (first | (go_at_call 44; refine (l1InR_any _ _ _ _).mono ?_; rintro e w' ⟨rfl, rfl⟩; rw [hin]) | fail)
    refine (specWf_any _ ws _ (wrisR.below hX (by (repeat (first | exact Below.refl _ _ | assumption | refine Below.drew ?_ | refine balloc ?_ _ | refine bset ?_ (by simp; omega) _ | refine bset ?_ (by simp) _ | refine bstep ?_ (by assumption)))))).mono ?_
    rintro e w1 ⟨rfl, hb1⟩
    have hB1 : Below w.heap.size w w1 := by (repeat (first | exact Below.refl _ _ | assumption | refine Below.drew ?_ | refine balloc ?_ _ | refine bset ?_ (by simp; omega) _ | refine bset ?_ (by simp) _ | refine bstep ?_ (by assumption)))
    have hr0 : w1.cell? ⟨w.heap.size, 0, none⟩ = some (.int .i64 0) := cell_keep hb1 (by simp [go_sem])
    have hr1 : w1.cell? ⟨w.heap.size, 1, none⟩ = some (.slice none 0 0) := cell_keep hb1 (by simp [go_sem])
    obtain ⟨hrf, hlt⟩ : (∀ o, w1.frozen? ⟨w.heap.size, o, none⟩ = false) ∧ w.heap.size < w1.heap.size := (boxNew2 hb1 (by simp)).2.2
    clear hb1
    by_cases hf : wrF ws = 0
    · have hl8 := HL.out hf
      have HDD : Hid (packWD v ws = ⟨0, packB v ws⟩) := by unfold Hid packWD; rw [hin, if_pos rfl, if_neg (by simpa using hf)]
      rw [hf]
      clear hf HL
      go_wp2_with fail
      refine (l6Pack_any v _ ws _ (wrisR.below hX (by (repeat (first | exact Below.refl _ _ | assumption | refine Below.drew ?_ | refine balloc ?_ _ | refine bset ?_ (by simp; omega) _ | refine bset ?_ (by simp) _ | refine bstep ?_ (by assumption))))) hl8).mono ?_
      rintro e w2 ⟨r, F, rfl, o2, hb2⟩
      have hB2 := bstep hB1 hb2
      replace hr0 := cell_keep hb2 hr0
      replace hr1 := cell_keep hb2 hr1
      obtain ⟨hrf2, hlt2⟩ := boxKeep ⟨hrf, hlt⟩ hb2
      have o3 := bytesR.base (base' := w.heap.size + 1) o2 (by omega)
      obtain ⟨p, q, rfl⟩ := bytes_form (bytesR.ofO o3)
      clear o2 hb2 hrf hB1 hX
      obtain ⟨D, hD⟩ : ∃ D, packB v ws = D := ⟨_, rfl⟩
      have HD : Hid (packB v ws = D) := hD
      rw [hD] at o3
      rw [hD]
      clear hD
      go_wp2
      refine bodyPost_ret (v := .agg #[.int .i64 0, .slice p D.length q]) ?_ rfl ?_
      · simp [results, Tryz.results147, go_sem, hr0, hr1]
      · rw [HDD.out, HD.out]
        first | refine ⟨_, F, rfl, ?_, by (repeat (first | exact Below.refl _ _ | assumption | refine Below.drew ?_ | refine balloc ?_ _ | refine bset ?_ (by simp; omega) _ | refine bset ?_ (by simp) _ | refine bstep ?_ (by assumption)))⟩ | refine ⟨_, rfl, ⟨F, ?_⟩, by (repeat (first | exact Below.refl _ _ | assumption | refine Below.drew ?_ | refine balloc ?_ _ | refine bset ?_ (by simp; omega) _ | refine bset ?_ (by simp) _ | refine bstep ?_ (by assumption)))⟩
        exact ⟨_, F, rfl, bytesR.base (base := w.heap.size + 1) (bytesR.set (bytesR.set o3 _ (by simp)) _ (by simp)) (by omega), fun b => Iff.rfl⟩
    · have HDD : Hid (packWD v ws = ⟨wrF ws, []⟩) := by unfold Hid packWD; rw [hin, if_pos rfl, if_pos hf]
      have hc : (wrF ws == 0) = false := by simpa using hf
      clear HL
      generalize wrF ws = c at *
      go_wp2
      refine bodyPost_ret (v := .agg #[.int .i64 c, .slice none 0 0]) ?_ rfl ?_
      · simp [results, Tryz.results147, go_sem, hr0, hr1]
      · rw [HDD.out]
        first | exact ⟨_, none_, rfl, bytesR_nil _ _ _, by (repeat (first | exact Below.refl _ _ | assumption | refine Below.drew ?_ | refine balloc ?_ _ | refine bset ?_ (by simp; omega) _ | refine bset ?_ (by simp) _ | refine bstep ?_ (by assumption)))⟩ | exact ⟨_, rfl, ⟨none_, bytesR_nil _ _ _⟩, by (repeat (first | exact Below.refl _ _ | assumption | refine Below.drew ?_ | refine balloc ?_ _ | refine bset ?_ (by simp; omega) _ | refine bset ?_ (by simp) _ | refine bstep ?_ (by assumption)))⟩
end Go.Proofs.YtdfapehonegeeaaGreat

/-
  UnpackWrites: the specification's side.
-/
namespace Go.Proofs.YtdfapehonegeeaaGreat
open Go.RowKit
set_option linter.unusedSectionVars false
variable [DecidableEq Wri] [Inhabited Wri] [DecidableEq BytesR] [Inhabited BytesR] [DecidableEq Rw] [Inhabited Rw] [DecidableEq TabR] [Inhabited TabR]
set_option linter.unusedVariables false
set_option linter.unusedSimpArgs false
attribute [local go_sem ↓] Go.wp_at_zero Go.wp_at_succ

set_option maxHeartbeats 4000000 in
theorem l6Rows_any (v : Int) (x : Value) (ws : List Wri) (w : World) (hx : WrisV w x ws) (hn : ws.length ≤ 200) :
    Calls Tryz.prog 67 #[.int .i64 v, x] w fun e w' => ∃ r, e = .returned r ∧ w'.ownsRow w.heap.size 76 4 r ws.length (rwsC (ws.map (wrRow v))) ∧ Below w.heap.size w w' := by
  obtain ⟨ax, cx, rfl, hcx, hmx, hx⟩ := hx
  unfold maxLen at hmx
  have HT : Hid (∀ k, k < ws.length → (ws.take (k + 1)).map (wrRow v) = (ws.take k).map (wrRow v) ++ [wrRow v (ws.getD k default)]) := fun k hk => by
    rw [wri_take_eq ws k hk, List.map_append]
    rfl
  have HL : Hid (∀ k, k ≤ ws.length → ((ws.take k).map (wrRow v)).length = k) := fun k hk => by
    rw [List.length_map, List.length_take]
    omega
  have HA : Hid (ws.take ws.length = ws) := List.take_length
  generalize ws.length = n at *
  go_enter Tryz.func67, Tryz.ntmps67
  go_wp2
  go_loopw [5, 6] (fun r i W => ∃ k : Nat, k ≤ n ∧ i = .int .i64 k ∧ W.ownsRow w.heap.size 76 4 r ((ws.take k).map (wrRow v)).length (rwsC ((ws.take k).map (wrRow v))) ∧ Below w.heap.size w W) (fun _ i _ => n - (intOf i).toNat)
  case atStart => exact ⟨0, Nat.zero_le _, rfl, World.ownsRow_lit (base := w.heap.size) (e := 76) (size := 4) w #[] 0 (by simp) (by unfold maxLen; omega) rfl, balloc (Below.refl _ _) _⟩
  case round =>
    obtain ⟨k, hk, rfl, ho, hbl⟩ := hrel
    have hz : w.heap.size ≤ wr.heap.size := hbl.size
    by_cases hlt : k < n
    · obtain ⟨bx, ox, rfl, g1⟩ := hx k hlt
      have e1 := HT.out k hlt
      have hlen := HL.out k hk
      obtain ⟨l, hl⟩ : ∃ l, l = ws.getD k default := ⟨_, rfl⟩
      rw [← hl] at g1 e1
      clear hl hx
      have hrow := wriCells_below hbl g1
      have hzb := World.block_lt_of_cell? _ _ g1.1
      dsimp only at hzb
      have hti : (k : Int) < (n : Int) := by omega
      have hi1 : (0 : Int) ≤ (k : Int) := by omega
      have HE : Hid ((ws.take (k + 1)).map (wrRow v) = (ws.take k).map (wrRow v) ++ [wrRow v l]) := e1
      generalize (ws.take k).map (wrRow v) = out at *
      have hol : out.length ≤ 1048576 := by omega
      have HLen : Hid (out.length = k) := hlen
      obtain ⟨au, cu, rfl⟩ := owns_form ho
      clear e1 g1 hlen
      go_wp2
      refine wp_region_noPanic ?_
      refine region_upto (fun W' => W'.cell? ⟨bx, ox + k * 3, none⟩ = some (.string l.key) ∧ W'.cell? ⟨bx, ox + k * 3 + 1, none⟩ = some (.string l.val) ∧ W'.cell? ⟨bx, ox + k * 3 + 2, none⟩ = some (.bool l.gone)) 20 (by kernel_rfl) (wriCells_below (by (repeat (first | exact Below.refl _ _ | assumption | refine Below.drew ?_ | refine balloc ?_ _ | refine bset ?_ (by simp; omega) _ | refine bset ?_ (by simp) _ | refine bstep ?_ (by assumption)))) hrow) (fun hS => ?_)
      refine upto_take (i := 0) (v := ?_) rfl (by kernel_rfl) (by kernel_rfl) (by kernel_rfl) (by kernel_rfl) (fun _ _ _ h => h) (by rfl) hS ?_ ?_
      rotate_left
      · intro wS hSw
        try dsimp only at hSw
        first | (go_simp; done) | (go_simp; with_reducible rfl)
      try simp only [Act.put, List.getElem_toArray, List.getElem_cons_zero, List.getElem_cons_succ, List.setIfInBounds_toArray, List.set_cons_zero, List.set_cons_succ]
      refine upto_take (i := 1) (v := ?_) rfl (by kernel_rfl) (by kernel_rfl) (by kernel_rfl) (by kernel_rfl) (fun _ _ _ h => h) (by rfl) hS ?_ ?_
      rotate_left
      · intro wS hSw
        try dsimp only at hSw
        first | (go_simp; done) | (go_simp; with_reducible rfl)
      try simp only [Act.put, List.getElem_toArray, List.getElem_cons_zero, List.getElem_cons_succ, List.setIfInBounds_toArray, List.set_cons_zero, List.set_cons_succ]
      refine upto_take (i := 2) (v := ?_) rfl (by kernel_rfl) (by kernel_rfl) (by kernel_rfl) (by kernel_rfl) (fun _ _ _ h => h) (by rfl) hS ?_ ?_
      rotate_left
      · intro wS hSw
        try dsimp only at hSw
        first | (go_simp; done) | (go_simp; with_reducible rfl)
      try simp only [Act.put, List.getElem_toArray, List.getElem_cons_zero, List.getElem_cons_succ, List.setIfInBounds_toArray, List.set_cons_zero, List.set_cons_succ]
      refine upto_take (i := 3) (v := ?_) rfl (by kernel_rfl) (by kernel_rfl) (by kernel_rfl) (by kernel_rfl) (fun _ _ _ h => h) (by rfl) hS ?_ ?_
      rotate_left
      · intro wS hSw
        try dsimp only at hSw
        first | (go_simp; done) | (go_simp; with_reducible rfl)
      try simp only [Act.put, List.getElem_toArray, List.getElem_cons_zero, List.getElem_cons_succ, List.setIfInBounds_toArray, List.set_cons_zero, List.set_cons_succ]
      refine upto_take (i := 4) (v := ?_) rfl (by kernel_rfl) (by kernel_rfl) (by kernel_rfl) (by kernel_rfl) (fun _ _ _ h => h) (by rfl) hS ?_ ?_
      rotate_left
      · intro wS hSw
        try dsimp only at hSw
        first | (go_simp; done) | (go_simp; with_reducible rfl)
      try simp only [Act.put, List.getElem_toArray, List.getElem_cons_zero, List.getElem_cons_succ, List.setIfInBounds_toArray, List.set_cons_zero, List.set_cons_succ]
      refine upto_take (i := 5) (v := ?_) rfl (by kernel_rfl) (by kernel_rfl) (by kernel_rfl) (by kernel_rfl) (fun _ _ _ h => h) (by rfl) hS ?_ ?_
      rotate_left
      · intro wS hSw
        try dsimp only at hSw
        first | (go_simp; done) | (go_simp; with_reducible rfl)
      try simp only [Act.put, List.getElem_toArray, List.getElem_cons_zero, List.getElem_cons_succ, List.setIfInBounds_toArray, List.set_cons_zero, List.set_cons_succ]
      refine upto_take (i := 6) (v := ?_) rfl (by kernel_rfl) (by kernel_rfl) (by kernel_rfl) (by kernel_rfl) (fun _ _ _ h => h) (by rfl) hS ?_ ?_
      rotate_left
      · intro wS hSw
        try dsimp only at hSw
        first | (go_simp; done) | (go_simp; with_reducible rfl)
      try simp only [Act.put, List.getElem_toArray, List.getElem_cons_zero, List.getElem_cons_succ, List.setIfInBounds_toArray, List.set_cons_zero, List.set_cons_succ]
      refine upto_take (i := 7) (v := ?_) rfl (by kernel_rfl) (by kernel_rfl) (by kernel_rfl) (by kernel_rfl) (fun _ _ _ h => h) (by rfl) hS ?_ ?_
      rotate_left
      · intro wS hSw
        try dsimp only at hSw
        first | (go_simp; done) | (go_simp; with_reducible rfl)
      try simp only [Act.put, List.getElem_toArray, List.getElem_cons_zero, List.getElem_cons_succ, List.setIfInBounds_toArray, List.set_cons_zero, List.set_cons_succ]
      refine upto_take (i := 8) (v := ?_) rfl (by kernel_rfl) (by kernel_rfl) (by kernel_rfl) (by kernel_rfl) (fun _ _ _ h => h) (by rfl) hS ?_ ?_
      rotate_left
      · intro wS hSw
        try dsimp only at hSw
        first | (go_simp; done) | (go_simp; with_reducible rfl)
      try simp only [Act.put, List.getElem_toArray, List.getElem_cons_zero, List.getElem_cons_succ, List.setIfInBounds_toArray, List.set_cons_zero, List.set_cons_succ]
      refine upto_take (i := 9) (v := ?_) rfl (by kernel_rfl) (by kernel_rfl) (by kernel_rfl) (by kernel_rfl) (fun _ _ _ h => h) (by rfl) hS ?_ ?_
      rotate_left
      · intro wS hSw
        try dsimp only at hSw
        first | (go_simp; done) | (go_simp; with_reducible rfl)
      try simp only [Act.put, List.getElem_toArray, List.getElem_cons_zero, List.getElem_cons_succ, List.setIfInBounds_toArray, List.set_cons_zero, List.set_cons_succ]
      refine upto_take (i := 10) (v := ?_) rfl (by kernel_rfl) (by kernel_rfl) (by kernel_rfl) (by kernel_rfl) (fun _ _ _ h => h) (by rfl) hS ?_ ?_
      rotate_left
      · intro wS hSw
        try dsimp only at hSw
        first | (go_simp; done) | (go_simp; with_reducible rfl)
      try simp only [Act.put, List.getElem_toArray, List.getElem_cons_zero, List.getElem_cons_succ, List.setIfInBounds_toArray, List.set_cons_zero, List.set_cons_succ]
      refine upto_take (i := 11) (v := ?_) rfl (by kernel_rfl) (by kernel_rfl) (by kernel_rfl) (by kernel_rfl) (fun _ _ _ h => h) (by rfl) hS ?_ ?_
      rotate_left
      · intro wS hSw
        try dsimp only at hSw
        first | (go_simp; done) | (go_simp; with_reducible rfl)
      try simp only [Act.put, List.getElem_toArray, List.getElem_cons_zero, List.getElem_cons_succ, List.setIfInBounds_toArray, List.set_cons_zero, List.set_cons_succ]
      refine upto_take (i := 12) (v := ?_) rfl (by kernel_rfl) (by kernel_rfl) (by kernel_rfl) (by kernel_rfl) (fun _ _ _ h => h) (by rfl) hS ?_ ?_
      rotate_left
      · intro wS hSw
        try dsimp only at hSw
        first | (go_simp; done) | (go_simp; with_reducible rfl)
      try simp only [Act.put, List.getElem_toArray, List.getElem_cons_zero, List.getElem_cons_succ, List.setIfInBounds_toArray, List.set_cons_zero, List.set_cons_succ]
      refine upto_take (i := 13) (v := ?_) rfl (by kernel_rfl) (by kernel_rfl) (by kernel_rfl) (by kernel_rfl) (fun _ _ _ h => h) (by rfl) hS ?_ ?_
      rotate_left
      · intro wS hSw
        try dsimp only at hSw
        first | (go_simp; done) | (go_simp; with_reducible rfl)
      try simp only [Act.put, List.getElem_toArray, List.getElem_cons_zero, List.getElem_cons_succ, List.setIfInBounds_toArray, List.set_cons_zero, List.set_cons_succ]
      refine upto_take (i := 14) (v := ?_) rfl (by kernel_rfl) (by kernel_rfl) (by kernel_rfl) (by kernel_rfl) (fun _ _ _ h => h) (by rfl) hS ?_ ?_
      rotate_left
      · intro wS hSw
        try dsimp only at hSw
        first | (go_simp; done) | (go_simp; with_reducible rfl)
      try simp only [Act.put, List.getElem_toArray, List.getElem_cons_zero, List.getElem_cons_succ, List.setIfInBounds_toArray, List.set_cons_zero, List.set_cons_succ]
      refine upto_take (i := 15) (v := ?_) rfl (by kernel_rfl) (by kernel_rfl) (by kernel_rfl) (by kernel_rfl) (fun _ _ _ h => h) (by rfl) hS ?_ ?_
      rotate_left
      · intro wS hSw
        try dsimp only at hSw
        first | (go_simp; done) | (go_simp; with_reducible rfl)
      try simp only [Act.put, List.getElem_toArray, List.getElem_cons_zero, List.getElem_cons_succ, List.setIfInBounds_toArray, List.set_cons_zero, List.set_cons_succ]
      refine upto_take (i := 16) (v := ?_) rfl (by kernel_rfl) (by kernel_rfl) (by kernel_rfl) (by kernel_rfl) (fun _ _ _ h => h) (by rfl) hS ?_ ?_
      rotate_left
      · intro wS hSw
        try dsimp only at hSw
        first | (go_simp; done) | (go_simp; with_reducible rfl)
      try simp only [Act.put, List.getElem_toArray, List.getElem_cons_zero, List.getElem_cons_succ, List.setIfInBounds_toArray, List.set_cons_zero, List.set_cons_succ]
      refine upto_take (i := 17) (v := ?_) rfl (by kernel_rfl) (by kernel_rfl) (by kernel_rfl) (by kernel_rfl) (fun _ _ _ h => h) (by rfl) hS ?_ ?_
      rotate_left
      · intro wS hSw
        try dsimp only at hSw
        first | (go_simp; done) | (go_simp; with_reducible rfl)
      try simp only [Act.put, List.getElem_toArray, List.getElem_cons_zero, List.getElem_cons_succ, List.setIfInBounds_toArray, List.set_cons_zero, List.set_cons_succ]
      refine upto_step (i := 18) (by kernel_rfl) rfl ?_
      intro K hK
      go_simp
      refine hK _ _ (fun _ => wriCells_below (balloc (Below.refl _ _) _) hS) ?_
      clear hK K
      try simp only [Act.put, List.getElem_toArray, List.getElem_cons_zero, List.getElem_cons_succ, List.setIfInBounds_toArray, List.set_cons_zero, List.set_cons_succ]
      refine upto_step (i := 19) (by kernel_rfl) rfl ?_
      intro K hK
      refine step_pushRow _ rfl _ _ rfl w.heap.size _ out rfl (wrRow v l) _ rfl (owns_below ho (balloc (Below.drew (Below.refl _ _)) _)) ?_ hol ?_ ?_
      · exact .inr ⟨_, _, rfl, rowC_cells (b := wr.heap.size) (o := 0) ⟨by simp [go_sem, wrRow], by simp [go_sem, wrRow], by simp [go_sem, wrRow], by simp [go_sem, wrRow]⟩⟩
      · simp
        omega
      intro v5 w5 o5 hg5 hB5
      have hB : Below w.heap.size w w5 := hB5 w (by (repeat (first | exact Below.refl _ _ | assumption | refine Below.drew ?_ | refine balloc ?_ _ | refine bset ?_ (by simp; omega) _ | refine bset ?_ (by simp) _ | refine bstep ?_ (by assumption))))
      have hS5 : wriCells w5 bx (ox + k * 3) l := by
        have mg : Mod (fun b => (Value.slice au out.length cu).ownBlock = some b) wr w5 := (Mod.of_below (balloc (Below.drew (Below.refl _ _)) _)).trans (Mod.of_grown hg5)
        exact wriCells_mod mg (fun e => by have := (ho.lt bx e).1; omega) hrow
      refine hK _ _ (fun _ => hS5) ?_
      clear hK K
      try simp only [Act.put, List.getElem_toArray, List.getElem_cons_zero, List.getElem_cons_succ, List.setIfInBounds_toArray, List.set_cons_zero, List.set_cons_succ]
      refine upto_step (i := 20) (by kernel_rfl) rfl ?_
      intro K hK
      go_simp
      refine hK _ _ (fun h => absurd rfl h) ?_
      clear hK K
      refine upto_done (by kernel_rfl) ?_
      refine NoPanic.normal ?_
      have HO5 : Hid (World.ownsRow w5 w.heap.size 76 4 v5 (out ++ [wrRow v l]).length (rwsC (out ++ [wrRow v l]))) := by
        rw [Hid]
        simpa using o5
      clear hS hS5 hg5 hB5 o5 ho hrow
      go_wp2
      refine ⟨⟨k + 1, by omega, by go_num, ?_, hB⟩, by simp [intOf]; omega⟩
      rw [HE.out]
      exact HO5.out
    · obtain rfl : k = n := by omega
      have hti : ¬ (k : Int) < (k : Int) := by omega
      have hlen := HL.out k hk
      rw [hlen, HA.out] at ho
      clear hlen
      obtain ⟨au, cu, rfl⟩ := owns_form ho
      go_wp2
      go_ret
      exact ⟨_, rfl, ho, hbl⟩
def UwP (d : List Byte) (base : Nat) (w' : World) (e : Ending) : Prop :=
  if d.length < 8 then e = .returned (.tuple #[.int .i64 0, .slice none 0 0, .bool false]) else
  match writesL (d.drop 8) with
  | none => e = .returned (.tuple #[.int .i64 0, .slice none 0 0, .bool false])
  | some ws => ∃ v, e = .returned (.tuple #[.int .i64 (unwV d), v, .bool (decide ((packWD (unwV d) ws).code = 0))]) ∧ w'.ownsRow base 96 3 v ws.length (wrisC ws)
theorem uwP_short {d : List Byte} {base : Nat} {w' : World} {e : Ending} (h : d.length < 8) : UwP d base w' e = (e = .returned (.tuple #[.int .i64 0, .slice none 0 0, .bool false])) := by unfold UwP; rw [if_pos h]
theorem uwP_none {d : List Byte} {base : Nat} {w' : World} {e : Ending} (h8 : 8 ≤ d.length) (h : writesL (d.drop 8) = none) : UwP d base w' e = (e = .returned (.tuple #[.int .i64 0, .slice none 0 0, .bool false])) := by unfold UwP; rw [if_neg (by omega), h]
theorem uwP_some {d : List Byte} {base : Nat} {w' : World} {e : Ending} {ws : List Wri} (h8 : 8 ≤ d.length) (h : writesL (d.drop 8) = some ws) : UwP d base w' e = (∃ v, e = .returned (.tuple #[.int .i64 (unwV d), v, .bool (decide ((packWD (unwV d) ws).code = 0))]) ∧ w'.ownsRow base 96 3 v ws.length (wrisC ws)) := by unfold UwP; rw [if_neg (by omega), h]
theorem mset {F : Nat → Prop} {w w' : World} (h : Mod F w w') (a : Addr) (v : Value) (ha : F a.block) : Mod F w (w'.setCell a v) := h.trans ((Mod.of_set w' a v).mono (fun b e => by rw [e]; exact ha))
theorem bytesField0 (c : Int) (a : Option Addr) (n k : Nat) (w : World) : (Instr.field 146 (.agg #[.int .i64 c, .slice a n k]) 0).run Tryz.prog w = .ok (.int .i64 c) w := by kernel_rfl
theorem txS_some {d r : List Byte} {s : ByteArray} (h : textL d = some (s, r)) : txS d = s := by unfold txS; rw [h]
theorem txE_some {a : Nat} {d r : List Byte} {s : ByteArray} (h : textL d = some (s, r)) : txE a d = (a : Int) + 1 + s.size := by unfold txE; rw [h]
theorem txE_none {a : Nat} {d : List Byte} (h : textL d = none) : txE a d = -1 := by unfold txE; rw [h]
theorem txS_none {d : List Byte} (h : textL d = none) : txS d = ⟨#[]⟩ := by unfold txS; rw [h]
set_option maxHeartbeats 4000000 in
theorem l6Unpack_any (x : Value) (d : List Byte) (w : World) (hx : BytesV w x d) (hn : d.length ≤ 1048576) :
    Calls Tryz.prog 104 #[x] w fun e w' => UwP d w.heap.size w' e ∧ Below w.heap.size w w' := by
  have HX : Hid (BytesV w x d) := hx
  obtain ⟨ax, cx, rfl, hcx, hmx, hx⟩ := hx
  unfold maxLen at hmx
  by_cases hs : d.length < 8
  · have HD : Hid (∀ w' e, UwP d w.heap.size w' e = (e = .returned (.tuple #[.int .i64 0, .slice none 0 0, .bool false]))) := fun w' e => uwP_short hs
    have i1 : (d.length : Int) < 8 := by omega
    clear HX hx
    generalize d.length = n at *
    go_enter Tryz.func104, Tryz.ntmps104
    go_wp2
    refine bodyPost_ret (v := .tuple #[.int .i64 0, .slice none 0 0, .bool false]) (by simp [results, Tryz.results104, go_sem]) rfl ?_
    rw [HD.out]
    exact ⟨rfl, Below.refl _ _⟩
  have i1 : ¬ (d.length : Int) < 8 := by omega
  have H8 : Hid (8 ≤ d.length) := by rw [Hid]; omega
  have HLD : Hid ((d.drop 8).length = d.length - 8) := List.length_drop
  obtain ⟨a2, c2, run2, V2⟩ := cutH (a := ax) (n := d.length) (cap := cx) 8 (by omega) (by omega) hcx
  have HV2 : Hid (∀ W, Below w.heap.size w W → BytesV W (.slice a2 8 c2) (d.take 8)) := fun W hW => V2 W d rfl (BytesV_below HX.out hW)
  have run2' : ∀ w : World, (Instr.sliceAt 22 (.slice ax d.length cx) none (some (.int .i64 8)) none).run Tryz.prog w = .ok (.slice a2 8 c2) w := run2
  have HVV : Hid (IntKind.i64.wrap (hiN ((d.take 8).take 8)) = unwV d) := by rw [Hid, List.take_take]; rfl
  have HT8 : Hid (8 ≤ (d.take 8).length) := by rw [Hid, List.length_take]; omega
  have HTX : Hid (∀ (a : Nat) (i : Int) W, i = a → a ≤ d.length → Below w.heap.size w W → Calls Tryz.prog 146 #[.slice ax d.length cx, .int .i64 i] W fun e w' => e = .returned (.tuple #[.string (txS (d.drop a)), .int .i64 (txE a (d.drop a))]) ∧ w' = W) := fun a i W hi ha hW => by rw [hi]; exact l6Text_any _ d a W (BytesV_below HX.out hW) ha hn
  have hlo : 8 ≤ d.length := by omega
  clear run2 V2 HX
  obtain ⟨n, hnn⟩ : ∃ n, d.length = n := ⟨_, rfl⟩
  have HNN : Hid (d.length = n) := hnn
  rw [hnn] at run2' HTX i1 hcx hn hx hs hlo HLD ⊢
  clear hnn hs
  go_enter Tryz.func104, Tryz.ntmps104
  go_wp2_with fail
  refine (l3Number_any _ (d.take 8) _ (HV2.out _ (by (repeat (first | exact Below.refl _ _ | assumption | refine Below.drew ?_ | refine balloc ?_ _ | refine bset ?_ (by simp; omega) _ | refine bset ?_ (by simp) _ | refine bstep ?_ (by assumption))))) HT8.out).mono ?_
  rintro e W1 ⟨rfl, hEq⟩
  obtain rfl := hEq.symm
  rw [HVV.out]
  generalize hvr : unwV d = ver
  have HVR : Hid (unwV d = ver) := hvr
  clear hvr HVV HV2 HT8 run2'
  go_wp2
  go_loopw [6, 7] (fun r i W => ∃ (p : Nat) (out : List Wri), 8 ≤ p ∧ p ≤ n ∧ i = .int .i64 (p : Int) ∧ Hid (WrSo (d.drop 8) (p - 8) out) ∧ out.length ≤ n ∧ W.ownsRow w.heap.size 96 3 r out.length (wrisC out) ∧ Below w.heap.size w W) (fun _ i _ => n - (intOf i).toNat)
  case atStart => exact ⟨8, [], by omega, by omega, rfl, wrSo_start _, by simp, World.ownsRow_lit (base := w.heap.size) (e := 96) (size := 3) w #[] 0 (by simp) (by unfold maxLen; omega) rfl, balloc (Below.refl _ _) _⟩
  case round =>
    obtain ⟨p, out, h8p, hpn, rfl, HSo, hol, ho, hbl⟩ := hrel
    have hz : w.heap.size ≤ wr.heap.size := hbl.size
    by_cases hlt : p < n
    · obtain ⟨b, o, rfl, g⟩ := hx p (by omega)
      obtain ⟨m, hm⟩ : ∃ m, (d.getD p 0).val = m := ⟨_, rfl⟩
      have hm6 : m < 256 := by rw [← hm]; exact (d.getD p 0).isLt
      rw [hm] at g
      replace g := cell_keep hbl g
      have hzb := World.block_lt_of_cell? _ _ g
      dsimp only at hzb
      have HQ0 : Hid (((d.drop p).getD 0 0).val = m) := by
        rw [Hid, ← hm]
        simp [List.getD]
      have HQP : Hid (0 < (d.drop p).length) := by
        rw [Hid, List.length_drop, HNN.out]
        omega
      have HQ1 : Hid ((d.drop p).drop 1 = d.drop (p + 1)) := List.drop_drop
      have HQ8 : Hid ((d.drop 8).drop (p - 8) = d.drop p) := by
        rw [Hid, List.drop_drop, show 8 + (p - 8) = p by omega]
      have HKL : Hid (p - 8 < (d.drop 8).length) := by rw [Hid, HLD.out]; omega
      have HBad : Hid (writeL (d.drop p) = none → ∀ w' e, UwP d w.heap.size w' e = (e = .returned (.tuple #[.int .i64 0, .slice none 0 0, .bool false]))) := fun h w' e => uwP_none H8.out (wrSo_bad HSo.out HKL.out (by rw [HQ8.out]; exact h))
      have HGood : Hid (∀ y r, writeL (d.drop p) = some (y, r) → WrSo (d.drop 8) (p - 8 + wrN y) (out ++ [y])) := fun y r h => (wrSo_step HSo.out HKL.out (by rw [HQ8.out]; exact h)).2
      have v1 : IntKind.i64.wrap ((p : Int) + 1) = p + 1 := by rw [IntKind.wrap_i64]; omega
      have i2 : (p : Int) < (n : Int) := by omega
      clear hx hm
      by_cases hm1 : 1 < m
      · have HB : Hid (∀ w' e, UwP d w.heap.size w' e = (e = .returned (.tuple #[.int .i64 0, .slice none 0 0, .bool false]))) := HBad.out (by
          cases hT : textL ((d.drop p).drop 1) with
          | none => exact wl_none1 HQP.out hT
          | some q => exact wl_big HQP.out (k := q.1) (r := q.2) hT (by rw [HQ0.out]; exact hm1))
        have j1 : (1 : Int) < (m : Int) := by omega
        have j2 : ((m : Int) == 1) = false := by rw [beq_eq_false_iff_ne]; omega
        have j3 : ¬ (m : Int) = 1 := by omega
        go_wp2
        refine bodyPost_ret (v := .tuple #[.int .i64 0, .slice none 0 0, .bool false]) (by simp [results, Tryz.results104, go_sem]) rfl ?_
        rw [HB.out]
        exact ⟨rfl, by (repeat (first | exact Below.refl _ _ | assumption | refine Below.drew ?_ | refine balloc ?_ _ | refine bset ?_ (by simp; omega) _ | refine bset ?_ (by simp) _ | refine bstep ?_ (by assumption)))⟩
      · have hmm : m = 1 ∨ m = 0 := by omega
        rcases hmm with hmm | hmm
        · subst hmm
          clear hm1
          go_wp2_with fail
          refine (HTX.out (p + 1) _ _ (by push_cast; rfl) (by omega) (by (repeat (first | exact Below.refl _ _ | assumption | refine Below.drew ?_ | refine balloc ?_ _ | refine bset ?_ (by simp; omega) _ | refine bset ?_ (by simp) _ | refine bstep ?_ (by assumption))))).mono ?_
          rintro e W2 ⟨rfl, hEq⟩
          obtain rfl := hEq.symm
          clear hEq
          cases hT : textL (d.drop (p + 1)) with
          | none =>
            have HB : Hid (∀ w' e, UwP d w.heap.size w' e = (e = .returned (.tuple #[.int .i64 0, .slice none 0 0, .bool false]))) := HBad.out (wl_none1 HQP.out (by rw [HQ1.out]; exact hT))
            rw [txS_none hT, txE_none hT]
            clear hT
            go_wp2
            refine bodyPost_ret (v := .tuple #[.int .i64 0, .slice none 0 0, .bool false]) (by simp [results, Tryz.results104, go_sem]) rfl ?_
            rw [HB.out]
            exact ⟨rfl, by (repeat (first | exact Below.refl _ _ | assumption | refine Below.drew ?_ | refine balloc ?_ _ | refine bset ?_ (by simp; omega) _ | refine bset ?_ (by simp) _ | refine bstep ?_ (by assumption)))⟩
          | some q =>
            obtain ⟨ky, r⟩ := q
            have HT1 : Hid (textL ((d.drop p).drop 1) = some (ky, r)) := by rw [Hid, HQ1.out]; exact hT
            have hrl := (textL_len hT).1
            have hrd := textL_drop hT
            rw [List.length_drop, HNN.out] at hrl
            rw [List.drop_drop] at hrd
            obtain ⟨q, hq⟩ : ∃ q, p + 1 + (1 + ky.size) = q := ⟨_, rfl⟩
            rw [hq] at hrd
            have HRD : Hid (r = d.drop q) := hrd
            have hE : txE (p + 1) (d.drop (p + 1)) = (q : Int) := by rw [txE_some hT]; omega
            rw [txS_some hT, hE]
            have hqn : q ≤ n := by omega
            have HQQ : Hid (p + 1 + (1 + ky.size) = q) := hq
            clear hT hrl hrd hE hq
            have HW : Hid (writeL (d.drop p) = some (⟨ky, ⟨#[]⟩, true⟩, r)) := wl_gone HQP.out HT1.out HQ0.out
            have HS2 : Hid (WrSo (d.drop 8) (q - 8) (out ++ [⟨ky, ⟨#[]⟩, true⟩])) := by
              have h := HGood.out _ _ HW.out
              have e : p - 8 + wrN ⟨ky, ⟨#[]⟩, true⟩ = q - 8 := by
                have := HQQ.out
                dsimp only [wrN]
                rw [if_pos rfl]
                omega
              rw [e] at h
              exact h
            have hz2 : w.heap.size ≤ wr.heap.size := hz
            go_wp2_with (at_builtin; refine wpList_pushWri _ rfl _ _ rfl w.heap.size _ out rfl ⟨ky, ⟨#[]⟩, true⟩ _ rfl ?c0 ?c1 (by omega) ?c3 ?_)
            case c0 => exact Mod.owns (F := fun b => b = wr.heap.size) (by (repeat (first | exact Mod.refl _ _ | refine Mod.alloc ?_ _ | refine mset ?_ _ _ rfl))) ho (fun b hb e => by have := (ho.lt b hb).2; omega)
            case c1 => exact .inr ⟨_, _, rfl, wriC_cells (b := wr.heap.size + 1) (o := 0) ⟨by simp [go_sem], by simp [go_sem], by simp [go_sem]⟩⟩
            case c3 => simp; omega
            intro v4 w4 o4 hg hB
            have hB4 : Below w.heap.size w w4 := hB w (by (repeat (first | exact Below.refl _ _ | assumption | refine Below.drew ?_ | refine balloc ?_ _ | refine bset ?_ (by simp; omega) _ | refine bset ?_ (by simp) _ | refine bstep ?_ (by assumption))))
            have HO4 : Hid (World.ownsRow w4 w.heap.size 96 3 v4 (out ++ [(⟨ky, ⟨#[]⟩, true⟩ : Wri)]).length (wrisC (out ++ [(⟨ky, ⟨#[]⟩, true⟩ : Wri)]))) := by
              rw [Hid]
              simpa using o4
            have HOL : Hid ((out ++ [(⟨ky, ⟨#[]⟩, true⟩ : Wri)]).length ≤ n) := by
              have h1 := HS2.out.2.2.1
              rw [Hid]
              omega
            clear o4 hg hB ho
            go_wp2
            refine ⟨⟨q, _, ?_, ?_, rfl, HS2, HOL.out, HO4.out, hB4⟩, ?_⟩
            · have := HQQ.out
              omega
            · omega
            · have := HQQ.out
              simp [intOf]
              omega
        · subst hmm
          clear hm1
          go_wp2_with fail
          refine (HTX.out (p + 1) _ _ (by push_cast; rfl) (by omega) (by (repeat (first | exact Below.refl _ _ | assumption | refine Below.drew ?_ | refine balloc ?_ _ | refine bset ?_ (by simp; omega) _ | refine bset ?_ (by simp) _ | refine bstep ?_ (by assumption))))).mono ?_
          rintro e W2 ⟨rfl, hEq⟩
          obtain rfl := hEq.symm
          clear hEq
          cases hT : textL (d.drop (p + 1)) with
          | none =>
            have HB : Hid (∀ w' e, UwP d w.heap.size w' e = (e = .returned (.tuple #[.int .i64 0, .slice none 0 0, .bool false]))) := HBad.out (wl_none1 HQP.out (by rw [HQ1.out]; exact hT))
            rw [txS_none hT, txE_none hT]
            clear hT
            go_wp2
            refine bodyPost_ret (v := .tuple #[.int .i64 0, .slice none 0 0, .bool false]) (by simp [results, Tryz.results104, go_sem]) rfl ?_
            rw [HB.out]
            exact ⟨rfl, by (repeat (first | exact Below.refl _ _ | assumption | refine Below.drew ?_ | refine balloc ?_ _ | refine bset ?_ (by simp; omega) _ | refine bset ?_ (by simp) _ | refine bstep ?_ (by assumption)))⟩
          | some q =>
            obtain ⟨ky, r⟩ := q
            have HT1 : Hid (textL ((d.drop p).drop 1) = some (ky, r)) := by rw [Hid, HQ1.out]; exact hT
            have hrl := (textL_len hT).1
            have hrd := textL_drop hT
            rw [List.length_drop, HNN.out] at hrl
            rw [List.drop_drop] at hrd
            obtain ⟨q, hq⟩ : ∃ q, p + 1 + (1 + ky.size) = q := ⟨_, rfl⟩
            rw [hq] at hrd
            have HRD : Hid (r = d.drop q) := hrd
            have hE : txE (p + 1) (d.drop (p + 1)) = (q : Int) := by rw [txE_some hT]; omega
            rw [txS_some hT, hE]
            have hqn : q ≤ n := by omega
            have HQQ : Hid (p + 1 + (1 + ky.size) = q) := hq
            clear hT hrl hrd hE hq
            go_wp2_with fail
            refine (HTX.out q _ _ rfl hqn (by (repeat (first | exact Below.refl _ _ | assumption | refine Below.drew ?_ | refine balloc ?_ _ | refine bset ?_ (by simp; omega) _ | refine bset ?_ (by simp) _ | refine bstep ?_ (by assumption))))).mono ?_
            rintro e W2 ⟨rfl, hEq⟩
            obtain rfl := hEq.symm
            clear hEq
            cases hT : textL (d.drop q) with
            | none =>
              have HB : Hid (∀ w' e, UwP d w.heap.size w' e = (e = .returned (.tuple #[.int .i64 0, .slice none 0 0, .bool false]))) := HBad.out (wl_none2 HQP.out HT1.out HQ0.out (by rw [HRD.out]; exact hT))
              rw [txS_none hT, txE_none hT]
              clear hT
              go_wp2
              refine bodyPost_ret (v := .tuple #[.int .i64 0, .slice none 0 0, .bool false]) (by simp [results, Tryz.results104, go_sem]) rfl ?_
              rw [HB.out]
              exact ⟨rfl, by (repeat (first | exact Below.refl _ _ | assumption | refine Below.drew ?_ | refine balloc ?_ _ | refine bset ?_ (by simp; omega) _ | refine bset ?_ (by simp) _ | refine bstep ?_ (by assumption)))⟩
            | some q2 =>
              obtain ⟨vl, r2⟩ := q2
              have HW : Hid (writeL (d.drop p) = some (⟨ky, vl, false⟩, r2)) := wl_val HQP.out HT1.out HQ0.out (by rw [HRD.out]; exact hT)
              have hrl := (textL_len hT).1
              rw [List.length_drop, HNN.out] at hrl
              obtain ⟨s, hs⟩ : ∃ s, q + (1 + vl.size) = s := ⟨_, rfl⟩
              have hE : txE q (d.drop q) = (s : Int) := by rw [txE_some hT]; omega
              rw [txS_some hT, hE]
              have hsn : s ≤ n := by omega
              have HSS : Hid (q + (1 + vl.size) = s) := hs
              clear hT hrl hE hs
              have HS2 : Hid (WrSo (d.drop 8) (s - 8) (out ++ [⟨ky, vl, false⟩])) := by
                have h := HGood.out _ _ HW.out
                have e : p - 8 + wrN ⟨ky, vl, false⟩ = s - 8 := by
                  have := HQQ.out
                  have := HSS.out
                  dsimp only [wrN]
                  rw [if_neg (by decide)]
                  omega
                rw [e] at h
                exact h
              have hz2 : w.heap.size ≤ wr.heap.size := hz
              go_wp2_with (at_builtin; refine wpList_pushWri _ rfl _ _ rfl w.heap.size _ out rfl ⟨ky, vl, false⟩ _ rfl ?c0 ?c1 (by omega) ?c3 ?_)
              case c0 => exact Mod.owns (F := fun b => b = wr.heap.size) (by (repeat (first | exact Mod.refl _ _ | refine Mod.alloc ?_ _ | refine mset ?_ _ _ rfl))) ho (fun b hb e => by have := (ho.lt b hb).2; omega)
              case c1 => exact .inr ⟨_, _, rfl, wriC_cells (b := wr.heap.size + 1) (o := 0) ⟨by simp [go_sem], by simp [go_sem], by simp [go_sem]⟩⟩
              case c3 => simp; omega
              intro v4 w4 o4 hg hB
              have hB4 : Below w.heap.size w w4 := hB w (by (repeat (first | exact Below.refl _ _ | assumption | refine Below.drew ?_ | refine balloc ?_ _ | refine bset ?_ (by simp; omega) _ | refine bset ?_ (by simp) _ | refine bstep ?_ (by assumption))))
              have HO4 : Hid (World.ownsRow w4 w.heap.size 96 3 v4 (out ++ [(⟨ky, vl, false⟩ : Wri)]).length (wrisC (out ++ [(⟨ky, vl, false⟩ : Wri)]))) := by
                rw [Hid]
                simpa using o4
              have HOL : Hid ((out ++ [(⟨ky, vl, false⟩ : Wri)]).length ≤ n) := by
                have h1 := HS2.out.2.2.1
                rw [Hid]
                omega
              clear o4 hg hB ho
              go_wp2
              refine ⟨⟨s, _, ?_, ?_, rfl, HS2, HOL.out, HO4.out, hB4⟩, ?_⟩
              · have := HQQ.out
                have := HSS.out
                omega
              · omega
              · have := HQQ.out
                have := HSS.out
                simp [intOf]
                omega
    · obtain rfl : p = n := by omega
      have hti : ¬ (p : Int) < (p : Int) := by omega
      have HWS : Hid (writesL (d.drop 8) = some out) := by
        have h := HSo.out
        rw [show p - 8 = (d.drop 8).length from HLD.out.symm] at h
        exact wrSo_end h
      obtain ⟨-, hsz⟩ := writesL_len _ _ (Nat.lt_succ_self _) out HWS.out
      obtain ⟨au, cu, rfl⟩ := owns_form ho
      have hV : wrisR.V wr (.slice au out.length cu) out := ⟨WrisV_of_owns ho, fit_wri hsz⟩
      clear hx hsz
      go_wp2_with fail
      refine (specPackW_u ver _ out _ hV).mono ?_
      rintro e W2 ⟨r, F, rfl, o2, hb2⟩
      obtain ⟨u, F2, rfl, o3, -⟩ := o2
      obtain ⟨p2, r2, rfl⟩ := bytes_form (bytesR.ofO o3)
      have ho2 := owns_below ho hb2
      have hB2 := bstep hbl hb2
      have HC : Hid (UwP d w.heap.size = UwP d w.heap.size) := rfl
      clear o3 hb2 hV ho
      obtain ⟨c, hc⟩ : ∃ c, (packWD ver out).code = c := ⟨_, rfl⟩
      have HCC : Hid ((packWD ver out).code = c) := hc
      rw [hc]
      clear hc
      generalize (packWD ver out).bytes.length = L at *
      have hfd := bytesField0
      by_cases hc0 : c = 0
      · subst hc0
        go_wp2
        refine bodyPost_ret (v := .tuple #[.int .i64 ver, .slice au out.length cu, .bool true]) (by simp [results, Tryz.results104, go_sem]) rfl ?_
        rw [uwP_some H8.out HWS.out, HVR.out, HCC.out]
        exact ⟨⟨_, rfl, ho2⟩, hB2⟩
      · have hc1 : (c == 0) = false := by simpa using hc0
        go_wp2
        refine bodyPost_ret (v := .tuple #[.int .i64 ver, .slice au out.length cu, .bool false]) (by simp [results, Tryz.results104, go_sem]) rfl ?_
        rw [uwP_some H8.out HWS.out, HVR.out, HCC.out, decide_eq_false hc0]
        exact ⟨⟨_, rfl, ho2⟩, hB2⟩
theorem code_packWD (v : Int) (ws : List Wri) : ((packWD v ws).code = 0) ↔ (inR v 1 1000000 = true ∧ wrF ws = 0) := by
  unfold packWD
  cases h : inR v 1 1000000
  · simp
  · by_cases hf : wrF ws = 0
    · simp [hf]
    · simp [hf]
end Go.Proofs.YtdfapehonegeeaaGreat

/-
  A log: the program's parts.
-/
namespace Go.Proofs.YtdfapehonegeeaaGreat
open Go.RowKit
set_option linter.unusedSectionVars false
variable [DecidableEq Logg] [Inhabited Logg] [DecidableEq LoggR] [Inhabited LoggR] [DecidableEq BytesR] [Inhabited BytesR] [DecidableEq RecsR] [Inhabited RecsR] [DecidableEq Leg] [Inhabited Leg]
set_option linter.unusedSimpArgs false
attribute [local go_sem ↓] Go.wp_at_zero Go.wp_at_succ

theorem cutHL {a : Option Addr} {n cap : Nat} (h : Int) (h0 : 0 ≤ h) (h2 : h ≤ n) (hn : n ≤ cap) :
    ∃ a' c', (∀ w : World, (Instr.sliceAt 162 (.slice a n cap) none (some (.int .i64 h)) none).run Tryz.prog w = .ok (.slice a' h.toNat c') w) ∧
      ∀ (w : World) (xs : List Byte), xs.length = n → BytesV w (.slice a n cap) xs → BytesV w (.slice a' h.toNat c') (xs.take h.toNat) := by
  have und : Tryz.prog.underlying 162 = some (.slice (Tryz.prog.elem 162)) := by kernel_rfl
  have cel : (sizeOf (Tryz.prog.elem 162)).run Tryz.prog = fun w => .ok 1 w := by
    have he : Tryz.prog.elem 162 = 5 := by kernel_rfl
    obtain ⟨i0, hi, hz0, hz1, hz2⟩ := info_parts infoByte
    funext w
    simp [sizeOf, typeInfo, he, hi, hz1]
  refine ⟨if cap = 0 then a else a.map (·.add (0 * 1)), cap - 0, fun w => ?_, fun w xs e hx => ?_⟩
  · rw [run_sliceAt_slice (h := und), run_slice_h (ht := und) (h0 := h0) (h2 := by omega), cel]
    simp only [Result.andThen, sliced]
    rw [Nat.sub_zero]
  · subst e
    have := bytes_cut hx 0 h.toNat (by omega) (by omega)
    rw [Nat.sub_zero, List.drop_zero] at this
    exact this
set_option maxHeartbeats 2000000 in
theorem readerOf_any (x : Value) (d : Logg) (w : World) (hx : loggR.V w x d) (hn : wtLogg d ≤ 1048576) :
    Calls Tryz.prog 141 #[x] w fun e w' => ∃ v F, e = .returned (.agg #[v, .int .i64 d.synced.length]) ∧ bytesR.O w' w.heap.size F v (d.synced ++ d.loose) ∧ Below w.heap.size w w' := by
  have hX := hx
  obtain ⟨u1, u2, rfl, h1, h2⟩ := hx
  obtain ⟨a1, c1, rfl⟩ := bytes_form h1
  obtain ⟨a2, c2, rfl⟩ := bytes_form h2
  unfold wtLogg wtBytes at hn
  have u1 : IntKind.i64.wrap (d.synced.length : Int) = d.synced.length := by rw [IntKind.wrap_i64]; omega
  have HL : Hid ([d.synced, d.loose].flatten = d.synced ++ d.loose) := by simp [Hid]
  go_enter Tryz.func141, Tryz.ntmps141
  go_wp2
  refine wp_region_noPanic ?_
  refine region_upto (fun w' => Below w.heap.size w w' ∧ w'.cell? ⟨w.heap.size, 0, none⟩ = some (.slice a1 d.synced.length c1) ∧ w'.cell? ⟨w.heap.size, 1, none⟩ = some (.slice a2 d.loose.length c2)) 10 (by kernel_rfl) ⟨by (repeat (first | exact Below.refl _ _ | assumption | refine Below.drew ?_ | refine balloc ?_ _ | refine bset ?_ (by simp; omega) _ | refine bset ?_ (by simp) _ | refine bstep ?_ (by assumption))), by simp [go_sem], by simp [go_sem]⟩ (fun hS => ?_)
  refine upto_take (i := 0) (v := ?_) rfl (by kernel_rfl) (by kernel_rfl) (by kernel_rfl) (by kernel_rfl) (fun _ _ _ h => h) (by rfl) hS ?_ ?_
  rotate_left
  · intro wS hSw
    try dsimp only at hSw
    first | (go_simp; done) | (go_simp; with_reducible rfl)
  try simp only [Act.put, List.getElem_toArray, List.getElem_cons_zero, List.getElem_cons_succ, List.setIfInBounds_toArray, List.set_cons_zero, List.set_cons_succ]
  refine upto_take (i := 1) (v := ?_) rfl (by kernel_rfl) (by kernel_rfl) (by kernel_rfl) (by kernel_rfl) (fun _ _ _ h => h) (by rfl) hS ?_ ?_
  rotate_left
  · intro wS hSw
    try dsimp only at hSw
    first | (go_simp; done) | (go_simp; with_reducible rfl)
  try simp only [Act.put, List.getElem_toArray, List.getElem_cons_zero, List.getElem_cons_succ, List.setIfInBounds_toArray, List.set_cons_zero, List.set_cons_succ]
  refine upto_take (i := 2) (v := ?_) rfl (by kernel_rfl) (by kernel_rfl) (by kernel_rfl) (by kernel_rfl) (fun _ _ _ h => h) (by rfl) hS ?_ ?_
  rotate_left
  · intro wS hSw
    try dsimp only at hSw
    first | (go_simp; done) | (go_simp; with_reducible rfl)
  try simp only [Act.put, List.getElem_toArray, List.getElem_cons_zero, List.getElem_cons_succ, List.setIfInBounds_toArray, List.set_cons_zero, List.set_cons_succ]
  refine upto_take (i := 3) (v := ?_) rfl (by kernel_rfl) (by kernel_rfl) (by kernel_rfl) (by kernel_rfl) (fun _ _ _ h => h) (by rfl) hS ?_ ?_
  rotate_left
  · intro wS hSw
    try dsimp only at hSw
    first | (go_simp; done) | (go_simp; with_reducible rfl)
  try simp only [Act.put, List.getElem_toArray, List.getElem_cons_zero, List.getElem_cons_succ, List.setIfInBounds_toArray, List.set_cons_zero, List.set_cons_succ]
  refine upto_take (i := 6) (v := ?_) rfl (by kernel_rfl) (by kernel_rfl) (by kernel_rfl) (by kernel_rfl) (fun _ _ _ h => h) (by rfl) hS ?_ ?_
  rotate_left
  · intro wS hSw
    try dsimp only at hSw
    first | (go_simp; done) | (go_simp; with_reducible rfl)
  try simp only [Act.put, List.getElem_toArray, List.getElem_cons_zero, List.getElem_cons_succ, List.setIfInBounds_toArray, List.set_cons_zero, List.set_cons_succ]
  refine upto_take (i := 7) (v := ?_) rfl (by kernel_rfl) (by kernel_rfl) (by kernel_rfl) (by kernel_rfl) (fun _ _ _ h => h) (by rfl) hS ?_ ?_
  rotate_left
  · intro wS hSw
    try dsimp only at hSw
    first | (go_simp; done) | (go_simp; with_reducible rfl)
  try simp only [Act.put, List.getElem_toArray, List.getElem_cons_zero, List.getElem_cons_succ, List.setIfInBounds_toArray, List.set_cons_zero, List.set_cons_succ]
  refine upto_take (i := 8) (v := ?_) rfl (by kernel_rfl) (by kernel_rfl) (by kernel_rfl) (by kernel_rfl) (fun _ _ _ h => h) (by rfl) hS ?_ ?_
  rotate_left
  · intro wS hSw
    try dsimp only at hSw
    first | (go_simp; done) | (go_simp; with_reducible rfl)
  try simp only [Act.put, List.getElem_toArray, List.getElem_cons_zero, List.getElem_cons_succ, List.setIfInBounds_toArray, List.set_cons_zero, List.set_cons_succ]
  refine upto_step (i := 4) (by kernel_rfl) rfl ?_
  intro K hK
  go_simp
  refine hK _ _ (fun _ => ⟨by (repeat (first | exact Below.refl _ _ | assumption | refine Below.drew ?_ | refine balloc ?_ _ | refine bset ?_ (by simp; omega) _ | refine bset ?_ (by simp) _ | refine bstep ?_ (by assumption))), by simp [go_sem], by simp [go_sem]⟩) ?_
  clear hK K
  try simp only [Act.put, List.getElem_toArray, List.getElem_cons_zero, List.getElem_cons_succ, List.setIfInBounds_toArray, List.set_cons_zero, List.set_cons_succ]
  refine upto_step (i := 5) (by kernel_rfl) rfl ?_
  intro K hK
  go_simp
  refine (joined_any _ [d.synced, d.loose] _ (bytess2 (g := w.heap.size + 1 + 1) (by simp [go_sem]; done) (by simp [go_sem]; done) (bytesR.below h1 (by (repeat (first | exact Below.refl _ _ | assumption | refine Below.drew ?_ | refine balloc ?_ _ | refine bset ?_ (by simp; omega) _ | refine bset ?_ (by simp) _ | refine bstep ?_ (by assumption))))) (bytesR.below h2 (by (repeat (first | exact Below.refl _ _ | assumption | refine Below.drew ?_ | refine balloc ?_ _ | refine bset ?_ (by simp; omega) _ | refine bset ?_ (by simp) _ | refine bstep ?_ (by assumption)))))) (by rw [HL.out]; simp; omega)).mono ?_
  rintro e w3 ⟨v, F, rfl, o3, hb3⟩
  rw [HL.out] at o3
  obtain ⟨a3, c3, rfl⟩ := bytes_form (bytesR.ofO o3)
  have hS3 : (fun w' => Below w.heap.size w w' ∧ w'.cell? ⟨w.heap.size, 0, none⟩ = some (.slice a1 d.synced.length c1) ∧ w'.cell? ⟨w.heap.size, 1, none⟩ = some (.slice a2 d.loose.length c2)) w3 := ⟨by (repeat (first | exact Below.refl _ _ | assumption | refine Below.drew ?_ | refine balloc ?_ _ | refine bset ?_ (by simp; omega) _ | refine bset ?_ (by simp) _ | refine bstep ?_ (by assumption))), cell_keep hb3 (by simp [go_sem]), cell_keep hb3 (by simp [go_sem])⟩
  have r0 : w3.cell? ⟨w.heap.size + 1, 0, none⟩ = some (.slice none 0 0) := cell_keep hb3 (by simp [go_sem])
  have r1 : w3.cell? ⟨w.heap.size + 1, 1, none⟩ = some (.int .i64 0) := cell_keep hb3 (by simp [go_sem])
  have rf : ∀ o, w3.frozen? ⟨w.heap.size + 1, o, none⟩ = false := fun o => by rw [(bcell hb3).2 _ _ (by simp)]; simp [go_sem]
  have hB3 : Below w.heap.size w w3 := hS3.1
  have HO : Hid (bytesR.O w3 (w.heap.size + 2) F (.slice a3 (d.synced ++ d.loose).length c3) (d.synced ++ d.loose)) := bytesR.base o3 (by simp)
  refine hK _ _ (fun _ => hS3) ?_
  clear hK K o3 hb3
  try simp only [Act.put, List.getElem_toArray, List.getElem_cons_zero, List.getElem_cons_succ, List.setIfInBounds_toArray, List.set_cons_zero, List.set_cons_succ]
  refine upto_take (i := 9) (v := ?_) rfl (by kernel_rfl) (by kernel_rfl) (by kernel_rfl) (by kernel_rfl) (fun _ _ _ h => h) (by rfl) hS3 ?_ ?_
  rotate_left
  · intro wS hSw
    try dsimp only at hSw
    first | (go_simp; done) | (go_simp; with_reducible rfl)
  try simp only [Act.put, List.getElem_toArray, List.getElem_cons_zero, List.getElem_cons_succ, List.setIfInBounds_toArray, List.set_cons_zero, List.set_cons_succ]
  refine upto_step (i := 10) (by kernel_rfl) rfl ?_
  intro K hK
  go_simp
  refine hK _ _ (fun h => absurd rfl h) ?_
  clear hK K
  refine upto_done (by kernel_rfl) ?_
  refine NoPanic.normal ?_
  clear hS hS3
  go_wp2
  have ho : bytesR.O w3 (w.heap.size + 2) F (.slice a3 (d.synced.length + d.loose.length) c3) (d.synced ++ d.loose) := by have h := HO.out; simpa using h
  refine bodyPost_ret (v := .agg #[.slice a3 (d.synced.length + d.loose.length) c3, .int .i64 d.synced.length]) ?_ rfl ⟨_, F, rfl, bytesR.base (bytesR.set (bytesR.set ho _ (by simp)) _ (by simp)) (by omega), by (repeat (first | exact Below.refl _ _ | assumption | refine Below.drew ?_ | refine balloc ?_ _ | refine bset ?_ (by simp; omega) _ | refine bset ?_ (by simp) _ | refine bstep ?_ (by assumption)))⟩
  simp [results, Tryz.results141, go_sem, r0, r1]
set_option maxHeartbeats 1000000 in
theorem records_any (x : Value) (xs : List Byte) (w : World) (hx : bytesR.V w x xs) :
    Calls Tryz.prog 143 #[x] w fun e w' => ∃ v F, e = .returned v ∧ recsRR.O w' w.heap.size F v (recsD xs) ∧ Below w.heap.size w w' := by
  have hX := hx
  obtain ⟨ax, cx, rfl⟩ := bytes_form hx
  go_enter Tryz.func143, Tryz.ntmps143
  go_wp2_with fail
  refine (implUnframe_u _ xs _ (bytesR.below hX (by (repeat (first | exact Below.refl _ _ | assumption | refine Below.drew ?_ | refine balloc ?_ _ | refine bset ?_ (by simp; omega) _ | refine bset ?_ (by simp) _ | refine bstep ?_ (by assumption)))))).mono ?_
  rintro e w1 ⟨v, F, rfl, ho, hb⟩
  have fv := recsRR.ofO ho
  obtain ⟨a1, c1, rfl⟩ := recsR_form fv
  obtain ⟨c2, f2⟩ := bcell hb
  have ho' := recsRR.base (base' := w.heap.size + 1) ho (by simp)
  go_wp2
  refine bodyPost_ret (v := .agg #[.int .i64 (recsD xs).code, .int .i64 (recsD xs).used, .slice a1 (recsD xs).records.length c1]) ?_ rfl ⟨_, F, rfl, recsRR.base (recsRR.set (recsRR.set (recsRR.set ho' _ (by simp)) _ (by simp)) _ (by simp)) (by omega), by (repeat (first | exact Below.refl _ _ | assumption | refine Below.drew ?_ | refine balloc ?_ _ | refine bset ?_ (by simp; omega) _ | refine bset ?_ (by simp) _ | refine bstep ?_ (by assumption)))⟩
  simp [results, Tryz.results143, go_sem, c2]
set_option maxHeartbeats 1000000 in
theorem syncedUpTo_any (x : Value) (xs : List Byte) (k : Nat) (w : World) (hx : bytesR.V w x xs) (hk : k ≤ xs.length) (hn : xs.length ≤ 1048576) :
    Calls Tryz.prog 142 #[x, .int .i64 k] w fun e w' => ∃ v F, e = .returned v ∧ loggR.O w' w.heap.size F v ⟨xs.take k, []⟩ ∧ Below w.heap.size w w' := by
  have hX := hx
  obtain ⟨ax, cx, rfl⟩ := bytes_form hx
  have hcap : xs.length ≤ cx := by
    obtain ⟨_, _, e, h, _⟩ := hx
    simp only [Value.slice.injEq, true_and] at e
    omega
  obtain ⟨a3, c3, run3, V3⟩ := cutHL (a := ax) (n := xs.length) (cap := cx) (k : Int) (by omega) (by omega) hcap
  have ek : (k : Int).toNat = k := by omega
  have V1 : bytesR.V w (.slice a3 k c3) (xs.take k) := by have h := V3 _ xs rfl hX; rw [ek] at h; exact h
  rw [ek] at run3
  have hl : (xs.take k).length = k := by rw [List.length_take]; omega
  generalize xs.take k = ys at *
  clear V3 ek hcap
  have HL : Hid ([ys].flatten = ys) := by simp [Hid]
  go_enter Tryz.func142, Tryz.ntmps142
  go_wp2_with fail
  refine (joined_any _ [ys] _ (bytess1 (g := w.heap.size + 1) (by simp [go_sem]; done) (bytesR.below V1 (by (repeat (first | exact Below.refl _ _ | assumption | refine Below.drew ?_ | refine balloc ?_ _ | refine bset ?_ (by simp; omega) _ | refine bset ?_ (by simp) _ | refine bstep ?_ (by assumption)))))) (by rw [HL.out]; omega)).mono ?_
  rintro e w3 ⟨v, F, rfl, o3, hb3⟩
  rw [HL.out] at o3
  obtain ⟨a4, c4, rfl⟩ := bytes_form (bytesR.ofO o3)
  have r0 : w3.cell? ⟨w.heap.size, 0, none⟩ = some (.slice none 0 0) := cell_keep hb3 (by simp [go_sem])
  have r1 : w3.cell? ⟨w.heap.size, 1, none⟩ = some (.slice none 0 0) := cell_keep hb3 (by simp [go_sem])
  have rf : ∀ o, w3.frozen? ⟨w.heap.size, o, none⟩ = false := fun o => by rw [(bcell hb3).2 _ _ (by simp; omega)]; simp [go_sem]
  have hB3 : Below w.heap.size w w3 := by (repeat (first | exact Below.refl _ _ | assumption | refine Below.drew ?_ | refine balloc ?_ _ | refine bset ?_ (by simp; omega) _ | refine bset ?_ (by simp) _ | refine bstep ?_ (by assumption)))
  have HO : Hid (bytesR.O w3 (w.heap.size + 1) F (.slice a4 ys.length c4) ys) := bytesR.base o3 (by simp)
  clear o3 hb3 V1 run3 hX hx
  go_wp2
  have ho := HO.out
  rw [hl] at ho
  refine bodyPost_ret (v := .agg #[.slice a4 k c4, .slice none 0 0]) ?_ rfl ⟨_, F, rfl, logg_one (bytesR.base (bytesR.set (bytesR.set ho _ (by simp)) _ (by simp)) (by omega)), by (repeat (first | exact Below.refl _ _ | assumption | refine Below.drew ?_ | refine balloc ?_ _ | refine bset ?_ (by simp; omega) _ | refine bset ?_ (by simp) _ | refine bstep ?_ (by assumption)))⟩
  simp [results, Tryz.results142, go_sem, r0, r1, hl]
end Go.Proofs.YtdfapehonegeeaaGreat

/-
  A log: what is told of it, on both sides.
-/
namespace Go.Proofs.YtdfapehonegeeaaGreat
open Go.RowKit
set_option linter.unusedSectionVars false
variable [DecidableEq Logg] [Inhabited Logg] [DecidableEq LoggR] [Inhabited LoggR] [DecidableEq BytesR] [Inhabited BytesR] [DecidableEq RecsR] [Inhabited RecsR] [DecidableEq Leg] [Inhabited Leg]
set_option linter.unusedSimpArgs false
attribute [local go_sem ↓] Go.wp_at_zero Go.wp_at_succ

def codeD (c : Int) : LoggR := ⟨c, ⟨[], []⟩⟩
def syncD (d : Logg) : LoggR := if logF d = 0 then ⟨0, ⟨d.synced ++ d.loose, []⟩⟩ else codeD 2
def crashD (d : Logg) (k : Int) : LoggR := if logF d = 0 then (if 0 ≤ k ∧ k ≤ d.loose.length then ⟨0, ⟨d.synced ++ d.loose.take k.toNat, []⟩⟩ else codeD 3) else codeD 2
def readD (d : Logg) : RecsR := if logF d = 0 then recsD (d.synced ++ d.loose) else ⟨2, 0, []⟩
theorem logF_cases (d : Logg) : (logF d = 0 ∧ d.synced.length + d.loose.length ≤ 6000) ∨ logF d = 2 := by
  unfold logF
  split
  · exact .inr rfl
  · exact .inl ⟨rfl, by omega⟩
theorem syncD_crash (d : Logg) : crashD d d.loose.length = syncD d := by
  unfold crashD syncD
  split
  · rw [if_pos ⟨by omega, by omega⟩, show ((d.loose.length : Int)).toNat = d.loose.length by omega, List.take_length]
  · rfl
set_option maxHeartbeats 2000000 in
theorem implCrash_u (x : Value) (d : Logg) (k : Int) (w : World) (hx : loggR.V w x d) (hn : wtLogg d ≤ 1048576) :
    Calls Tryz.prog 96 #[x, .int .i64 k] w fun e w' => ∃ v F, e = .returned v ∧ loggRR.O w' w.heap.size F v (crashD d k) ∧ Below w.heap.size w w' := by
  have hX := hx
  obtain ⟨a1, a2, c1, c2, rfl⟩ := logg_form hx
  have u1 : IntKind.i64.wrap (d.loose.length : Int) = d.loose.length := by unfold wtLogg wtBytes at hn; rw [IntKind.wrap_i64]; omega
  go_enter Tryz.func96, Tryz.ntmps96
  go_wp2_with fail
  refine (implLogF_any _ d _ (loggR.below hX (by (repeat (first | exact Below.refl _ _ | assumption | refine Below.drew ?_ | refine balloc ?_ _ | refine bset ?_ (by simp; omega) _ | refine bset ?_ (by simp) _ | refine bstep ?_ (by assumption))))) hn).mono ?_
  rintro e w1 ⟨rfl, hb1⟩
  have x0 : w1.cell? ⟨w.heap.size, 0, none⟩ = some (.slice a1 d.synced.length c1) := cell_keep hb1 (by simp [go_sem])
  have x1 : w1.cell? ⟨w.heap.size, 1, none⟩ = some (.slice a2 d.loose.length c2) := cell_keep hb1 (by simp [go_sem])
  have r0 : w1.cell? ⟨w.heap.size + 1, 0, none⟩ = some (.int .i64 0) := cell_keep hb1 (by simp [go_sem])
  have r1 : w1.cell? ⟨w.heap.size + 1, 1, none⟩ = some (.slice none 0 0) := cell_keep hb1 (by simp [go_sem])
  have r2 : w1.cell? ⟨w.heap.size + 1, 2, none⟩ = some (.slice none 0 0) := cell_keep hb1 (by simp [go_sem])
  have rf : ∀ o, w1.frozen? ⟨w.heap.size + 1, o, none⟩ = false := fun o => by rw [(bcell hb1).2 _ _ (by simp)]; simp [go_sem]
  have s1 := hb1.size
  simp only [World.size_alloc] at s1
  have hB1 : Below w.heap.size w w1 := by (repeat (first | exact Below.refl _ _ | assumption | refine Below.drew ?_ | refine balloc ?_ _ | refine bset ?_ (by simp; omega) _ | refine bset ?_ (by simp) _ | refine bstep ?_ (by assumption)))
  clear hb1
  have z0 : w.heap.size < w1.heap.size := by omega
  have z1 : w.heap.size + 1 < w1.heap.size := by omega
  rcases logF_cases d with ⟨h0, hl⟩ | h0
  rotate_left
  · have HD : Hid (crashD d k = codeD 2) := by unfold Hid crashD; rw [if_neg (by omega)]
    rw [h0]
    go_wp2
    refine bodyPost_ret (v := .agg #[.int .i64 2, .slice none 0 0, .slice none 0 0]) ?_ rfl ?_
    · simp [results, Tryz.results96, go_sem, r0, r1, r2]
    · rw [HD.out]
      exact ⟨_, none_, rfl, loggR_code _ _ _, by (repeat (first | exact Below.refl _ _ | assumption | refine Below.drew ?_ | refine balloc ?_ _ | refine bset ?_ (by simp; omega) _ | refine bset ?_ (by simp) _ | refine bstep ?_ (by assumption)))⟩
  rw [h0]
  have hXw := loggR.below hX hB1
  clear hX hx
  go_wp2_with fail
  refine (within_any _ _ _ _).mono ?_
  rintro e w2 ⟨rfl, rfl⟩
  by_cases hk : 0 ≤ k ∧ k ≤ d.loose.length
  rotate_left
  · have HD : Hid (crashD d k = codeD 3) := by unfold Hid crashD; rw [if_pos h0, if_neg hk]
    have hin : inB k 0 d.loose.length = false := by unfold inB; simp; omega
    rw [hin]
    go_wp2
    refine bodyPost_ret (v := .agg #[.int .i64 3, .slice none 0 0, .slice none 0 0]) ?_ rfl ?_
    · simp [results, Tryz.results96, go_sem, r0, r1, r2]
    · rw [HD.out]
      exact ⟨_, none_, rfl, loggR_code _ _ _, by (repeat (first | exact Below.refl _ _ | assumption | refine Below.drew ?_ | refine balloc ?_ _ | refine bset ?_ (by simp; omega) _ | refine bset ?_ (by simp) _ | refine bstep ?_ (by assumption)))⟩
  obtain ⟨k0, k1⟩ := hk
  have hin : inB k 0 d.loose.length = true := by unfold inB; simp [k0, k1]
  rw [hin]
  obtain ⟨n, rfl⟩ : ∃ n : Nat, k = n := ⟨k.toNat, by omega⟩
  have HD : Hid (crashD d n = ⟨0, ⟨(d.synced ++ d.loose).take (d.synced.length + n), []⟩⟩) := by
    unfold Hid crashD
    rw [if_pos h0, if_pos ⟨k0, k1⟩, List.take_length_add_append]
    rfl
  go_wp2_with fail
  refine (readerOf_any _ d _ hXw hn).mono ?_
  rintro e w3 ⟨v, F, rfl, ho, hb⟩
  have hB2 : Below w.heap.size w w3 := bstep hB1 hb
  have V3 := bytesR.ofO ho
  obtain ⟨a3, c3, rfl⟩ := bytes_form V3
  have hbl : (d.synced ++ d.loose).length ≤ 6000 := by rw [List.length_append]; exact hl
  have hbn : d.synced.length + n ≤ (d.synced ++ d.loose).length := by rw [List.length_append]; omega
  have u2 : IntKind.i64.wrap ((d.synced.length : Int) + n) = ((d.synced.length + n : Nat) : Int) := by rw [IntKind.wrap_i64]; omega
  have HLN : Hid ((d.synced ++ d.loose).length = d.synced.length + d.loose.length) := List.length_append
  generalize d.synced ++ d.loose = bs at *
  have qx0 := cell_keep hb x0
  have qx1 := cell_keep hb x1
  have qr0 := cell_keep hb r0
  have qr1 := cell_keep hb r1
  have qr2 := cell_keep hb r2
  have qrf := (boxKeep ⟨rf, z1⟩ hb).1
  have qz0 := Nat.lt_of_lt_of_le z0 hb.size
  have qz1 := Nat.lt_of_lt_of_le z1 hb.size
  clear x0 x1 r0 r1 r2 rf z0 z1
  clear ho hb hB1 hXw
  go_wp2_with fail
  refine (syncedUpTo_any _ bs (d.synced.length + n) _ (bytesR.below V3 (by (repeat (first | exact Below.refl _ _ | assumption | refine Below.drew ?_ | refine balloc ?_ _ | refine bset ?_ (by simp; omega) _ | refine bset ?_ (by simp) _ | refine bstep ?_ (by assumption))))) hbn (by omega)).mono ?_
  rintro e w4 ⟨v, F4, rfl, ho, hb⟩
  have hB3 : Below w.heap.size w w4 := bstep (by (repeat (first | exact Below.refl _ _ | assumption | refine Below.drew ?_ | refine balloc ?_ _ | refine bset ?_ (by simp; omega) _ | refine bset ?_ (by simp) _ | refine bstep ?_ (by assumption)))) hb
  have ofm := loggR.ofO ho
  obtain ⟨a4, a5, c4, c5, rfl⟩ := logg_form ofm
  have hc := hb
  replace hb : Below w3.heap.size w3 w4 := bstep (by (repeat (first | exact Below.refl _ _ | assumption | refine Below.drew ?_ | refine balloc ?_ _ | refine bset ?_ (by simp; omega) _ | refine bset ?_ (by simp) _ | refine bstep ?_ (by assumption)))) hc
  have hz3 : w.heap.size + 2 ≤ w3.heap.size := qz1
  have px0 := cell_keep hb qx0
  have px1 := cell_keep hb qx1
  have pr0 := cell_keep hb qr0
  have pr1 := cell_keep hb qr1
  have pr2 := cell_keep hb qr2
  have prf := (boxKeep ⟨qrf, qz1⟩ hb).1
  have pz0 := Nat.lt_of_lt_of_le qz0 hb.size
  have pz1 := Nat.lt_of_lt_of_le qz1 hb.size
  clear qx0 qx1 qr0 qr1 qr2 qrf qz0 qz1
  have ho2 := loggR.base (base' := w.heap.size + 2) ho (by simp; omega)
  clear ho hb hB2 hc V3
  go_wp2
  have HO2 := loggR_of ho2
  refine bodyPost_ret (v := .agg #[.int .i64 0, .slice a4 (List.take (d.synced.length + n) bs).length c4, .slice a5 0 c5]) ?_ rfl ?_
  · simp [results, Tryz.results96, go_sem, pr0, pr1, pr2]
    try omega
  · first | refine ⟨_, F4, rfl, ?_, by (repeat (first | exact Below.refl _ _ | assumption | refine Below.drew ?_ | refine balloc ?_ _ | refine bset ?_ (by simp; omega) _ | refine bset ?_ (by simp) _ | refine bstep ?_ (by assumption)))⟩ | refine ⟨_, rfl, ⟨F4, ?_⟩, by (repeat (first | exact Below.refl _ _ | assumption | refine Below.drew ?_ | refine balloc ?_ _ | refine bset ?_ (by simp; omega) _ | refine bset ?_ (by simp) _ | refine bstep ?_ (by assumption)))⟩
    rw [HD.out]
    exact loggRR.base (base := w.heap.size + 2) (by (repeat (first | assumption | refine Rep.set _ ?_ _ (by simp; omega) | refine Rep.set _ ?_ _ (by simp) | refine Rep.alloc _ ?_ _ | refine Rep.keep _ ?_ (by assumption)))) (by omega)
set_option maxHeartbeats 1000000 in
theorem implSync_u (x : Value) (d : Logg) (w : World) (hx : loggR.V w x d) (hn : wtLogg d ≤ 1048576) :
    Calls Tryz.prog 73 #[x] w fun e w' => ∃ v F, e = .returned v ∧ loggRR.O w' w.heap.size F v (syncD d) ∧ Below w.heap.size w w' := by
  have hX := hx
  obtain ⟨a1, a2, c1, c2, rfl⟩ := logg_form hx
  have u1 : IntKind.i64.wrap (d.loose.length : Int) = d.loose.length := by unfold wtLogg wtBytes at hn; rw [IntKind.wrap_i64]; omega
  go_enter Tryz.func73, Tryz.ntmps73
  go_wp2_with fail
  refine (implCrash_u _ d d.loose.length _ (loggR.below hX (by (repeat (first | exact Below.refl _ _ | assumption | refine Below.drew ?_ | refine balloc ?_ _ | refine bset ?_ (by simp; omega) _ | refine bset ?_ (by simp) _ | refine bstep ?_ (by assumption))))) hn).mono ?_
  rintro e w1 ⟨v, F, rfl, ho, hb1⟩
  rw [syncD_crash] at ho
  have ofm := loggRR.ofO ho
  obtain ⟨a3, a4, c3, c4, rfl⟩ := loggR_form ofm
  have r0 : w1.cell? ⟨w.heap.size + 1, 0, none⟩ = some (.int .i64 0) := cell_keep hb1 (by simp [go_sem])
  have r1 : w1.cell? ⟨w.heap.size + 1, 1, none⟩ = some (.slice none 0 0) := cell_keep hb1 (by simp [go_sem])
  have r2 : w1.cell? ⟨w.heap.size + 1, 2, none⟩ = some (.slice none 0 0) := cell_keep hb1 (by simp [go_sem])
  have rf : ∀ o, w1.frozen? ⟨w.heap.size + 1, o, none⟩ = false := fun o => by rw [(bcell hb1).2 _ _ (by simp)]; simp [go_sem]
  have hB1 : Below w.heap.size w w1 := by (repeat (first | exact Below.refl _ _ | assumption | refine Below.drew ?_ | refine balloc ?_ _ | refine bset ?_ (by simp; omega) _ | refine bset ?_ (by simp) _ | refine bstep ?_ (by assumption)))
  have ho2 := loggRR.base (base' := w.heap.size + 2) ho (by simp)
  obtain ⟨D, hD⟩ : ∃ D, syncD d = D := ⟨_, rfl⟩
  have ED : Hid (syncD d = D) := hD
  rw [hD] at ho2 ofm ⊢
  clear hD
  clear ho hb1 hX hx
  go_wp2
  refine bodyPost_ret (v := .agg #[.int .i64 D.code, .slice a3 D.log.synced.length c3, .slice a4 D.log.loose.length c4]) ?_ rfl ⟨_, F, rfl, ?_, by (repeat (first | exact Below.refl _ _ | assumption | refine Below.drew ?_ | refine balloc ?_ _ | refine bset ?_ (by simp; omega) _ | refine bset ?_ (by simp) _ | refine bstep ?_ (by assumption)))⟩
  · simp [results, Tryz.results73, go_sem, r0, r1, r2]
  · rw [ED.out]
    exact loggRR.base (base := w.heap.size + 2) (loggRR.set (loggRR.set (loggRR.set ho2 _ (by simp)) _ (by simp)) _ (by simp)) (by omega)
set_option maxHeartbeats 2000000 in
theorem implRead_u (x : Value) (d : Logg) (w : World) (hx : loggR.V w x d) (hn : wtLogg d ≤ 1048576) :
    Calls Tryz.prog 150 #[x] w fun e w' => ∃ v F, e = .returned v ∧ recsRR.O w' w.heap.size F v (readD d) ∧ Below w.heap.size w w' := by
  have hX := hx
  obtain ⟨a1, a2, c1, c2, rfl⟩ := logg_form hx
  go_enter Tryz.func150, Tryz.ntmps150
  go_wp2_with fail
  refine (implLogF_any _ d _ (loggR.below hX (by (repeat (first | exact Below.refl _ _ | assumption | refine Below.drew ?_ | refine balloc ?_ _ | refine bset ?_ (by simp; omega) _ | refine bset ?_ (by simp) _ | refine bstep ?_ (by assumption))))) hn).mono ?_
  rintro e w1 ⟨rfl, hb1⟩
  have x0 : w1.cell? ⟨w.heap.size, 0, none⟩ = some (.slice a1 d.synced.length c1) := cell_keep hb1 (by simp [go_sem])
  have x1 : w1.cell? ⟨w.heap.size, 1, none⟩ = some (.slice a2 d.loose.length c2) := cell_keep hb1 (by simp [go_sem])
  have r0 : w1.cell? ⟨w.heap.size + 1, 0, none⟩ = some (.int .i64 0) := cell_keep hb1 (by simp [go_sem])
  have r1 : w1.cell? ⟨w.heap.size + 1, 1, none⟩ = some (.int .i64 0) := cell_keep hb1 (by simp [go_sem])
  have r2 : w1.cell? ⟨w.heap.size + 1, 2, none⟩ = some (.slice none 0 0) := cell_keep hb1 (by simp [go_sem])
  have rf : ∀ o, w1.frozen? ⟨w.heap.size + 1, o, none⟩ = false := fun o => by rw [(bcell hb1).2 _ _ (by simp)]; simp [go_sem]
  have s1 := hb1.size
  simp only [World.size_alloc] at s1
  have hB1 : Below w.heap.size w w1 := by (repeat (first | exact Below.refl _ _ | assumption | refine Below.drew ?_ | refine balloc ?_ _ | refine bset ?_ (by simp; omega) _ | refine bset ?_ (by simp) _ | refine bstep ?_ (by assumption)))
  clear hb1
  have z0 : w.heap.size < w1.heap.size := by omega
  have z1 : w.heap.size + 1 < w1.heap.size := by omega
  rcases logF_cases d with ⟨h0, hl⟩ | h0
  rotate_left
  · have HD : Hid (readD d = ⟨2, 0, []⟩) := by unfold Hid readD; rw [if_neg (by omega)]
    rw [h0]
    go_wp2
    refine bodyPost_ret (v := .agg #[.int .i64 2, .int .i64 0, .slice none 0 0]) ?_ rfl ?_
    · simp [results, Tryz.results150, go_sem, r0, r1, r2]
    · rw [HD.out]
      exact ⟨_, none_, rfl, recsR_nil _ _ _ _, by (repeat (first | exact Below.refl _ _ | assumption | refine Below.drew ?_ | refine balloc ?_ _ | refine bset ?_ (by simp; omega) _ | refine bset ?_ (by simp) _ | refine bstep ?_ (by assumption)))⟩
  rw [h0]
  have hXw := loggR.below hX hB1
  clear hX hx
  have HD : Hid (readD d = recsD (d.synced ++ d.loose)) := by unfold Hid readD; rw [if_pos h0]
  go_wp2_with fail
  refine (readerOf_any _ d _ hXw hn).mono ?_
  rintro e w2 ⟨v, F, rfl, ho, hb⟩
  have hB2 : Below w.heap.size w w2 := bstep hB1 hb
  have V3 := bytesR.ofO ho
  generalize d.synced ++ d.loose = bs at *
  obtain ⟨a3, c3, rfl⟩ := bytes_form V3
  have hfd : ∀ w : World, (Instr.field 164 (.agg #[.slice a3 bs.length c3, .int .i64 (d.synced.length : Int)]) 0).run Tryz.prog w = .ok (.slice a3 bs.length c3) w := fun _ => by kernel_rfl
  have qx0 := cell_keep hb x0
  have qx1 := cell_keep hb x1
  have qr0 := cell_keep hb r0
  have qr1 := cell_keep hb r1
  have qr2 := cell_keep hb r2
  have qrf := (boxKeep ⟨rf, z1⟩ hb).1
  have qz0 := Nat.lt_of_lt_of_le z0 hb.size
  have qz1 := Nat.lt_of_lt_of_le z1 hb.size
  clear x0 x1 r0 r1 r2 rf z0 z1
  clear ho hb hB1 hXw
  go_wp2_with fail
  refine (records_any _ bs _ V3).mono ?_
  rintro e w4 ⟨v, F4, rfl, ho, hb⟩
  have hB3 : Below w.heap.size w w4 := bstep hB2 hb
  have fv := recsRR.ofO ho
  obtain ⟨a5, c5, rfl⟩ := recsR_form fv
  have hz3 : w.heap.size + 2 ≤ w2.heap.size := qz1
  have px0 := cell_keep hb qx0
  have px1 := cell_keep hb qx1
  have pr0 := cell_keep hb qr0
  have pr1 := cell_keep hb qr1
  have pr2 := cell_keep hb qr2
  have prf := (boxKeep ⟨qrf, qz1⟩ hb).1
  have pz0 := Nat.lt_of_lt_of_le qz0 hb.size
  have pz1 := Nat.lt_of_lt_of_le qz1 hb.size
  clear qx0 qx1 qr0 qr1 qr2 qrf qz0 qz1
  have ho2 := recsRR.base (base' := w.heap.size + 2) ho hz3
  rw [← HD.out] at ho2 ⊢
  obtain ⟨D, hD⟩ : ∃ D, readD d = D := ⟨_, rfl⟩
  have ED : Hid (readD d = D) := hD
  rw [hD] at ho2 ⊢
  clear hD
  clear ho hb hB2 fv HD V3
  go_wp2
  refine bodyPost_ret (v := .agg #[.int .i64 D.code, .int .i64 D.used, .slice a5 D.records.length c5]) ?_ rfl ⟨_, F4, rfl, ?_, by (repeat (first | exact Below.refl _ _ | assumption | refine Below.drew ?_ | refine balloc ?_ _ | refine bset ?_ (by simp; omega) _ | refine bset ?_ (by simp) _ | refine bstep ?_ (by assumption)))⟩
  · simp [results, Tryz.results150, go_sem, pr0, pr1, pr2]
  · rw [ED.out]
    exact recsRR.base (base := w.heap.size + 2) (recsRR.set (recsRR.set (recsRR.set ho2 _ (by simp)) _ (by simp)) _ (by simp)) (by omega)
end Go.Proofs.YtdfapehonegeeaaGreat

