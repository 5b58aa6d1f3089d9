/-
  Proved: laws.FnExactPackText answers true at every argument, and its arguments read behind the call as they read before. No condition. (The walk.)
-/
import Derived.Test.YthikaieobdhckaaText
import Derived.Test.YthikaieobdhckaaKeeps
import Derived.Deep.RegionHeld3
import Derived.Deep.DrawnRows
namespace Go.Proofs.Ythikaieobdhckaa.packTextLaw
open Go.RowKit
set_option linter.unusedSectionVars false
variable [DecidableEq BytesR] [Inhabited BytesR]
attribute [local go_sem ↓] Go.wp_at_zero Go.wp_at_succ

set_option maxHeartbeats 4000000 in
theorem walk (s0 : ByteArray) (hs0 : s0.size ≤ maxLen) (w : World) :
    Calls Try.prog 10 #[.string s0] w fun e w' => e = .returned (.bool true) ∧ Below w.heap.size w w' := by
  have hs1 := hs0
  unfold maxLen at hs1
  by_cases hsz : 1048576 < s0.size
  · go_enter Try.func10, Try.ntmps10
    go_wp2
    go_ret
    exact ⟨rfl, by (repeat (first | exact Below.refl _ _ | assumption | refine Below.drew ?_ | refine balloc ?_ _ | refine bset ?_ (by simp; omega) _ | refine bset ?_ (by simp) _ | refine bstep ?_ (by assumption)))⟩
  have hwR : wtBytesR (textD s0) ≤ 1048576 := by have := textD_le s0; unfold wtBytesR wtBytes; omega
  have hcR : (1 : Int) + cntBytesR (textD s0) ≤ 1073741824 := by have := textD_le s0; unfold cntBytesR cntBytes; omega
  have hk2 : ¬ (1 : Int) + cntBytesR (textD s0) < 0 := by omega
  have hSp : ∀ w : World, Calls Try.prog 43 #[.string s0] w fun e w' => ∃ v F, e = .returned v ∧ bytesRR.O w' w.heap.size F v (textD s0) ∧ Below w.heap.size w w' := fun w => specText_u s0 hs0 w
  have hIm : ∀ w : World, Calls Try.prog 44 #[.string s0] w fun e w' => ∃ v F, e = .returned v ∧ bytesRR.O w' w.heap.size F v (textD s0) ∧ Below w.heap.size w w' := fun w => implText_u s0 hs0 w
  generalize textD s0 = D0 at *
  go_enter Try.func10, Try.ntmps10
  go_wp2_with fail
  refine (hSp _).mono ?_
  rintro e w1 ⟨vW, FW, rfl, oW, hb1⟩
  have hB1 : Below w.heap.size w w1 := by (repeat (first | exact Below.refl _ _ | assumption | refine Below.drew ?_ | refine balloc ?_ _ | refine bset ?_ (by simp; omega) _ | refine bset ?_ (by simp) _ | refine bstep ?_ (by assumption)))
  have s1 := hb1.size
  try simp only [World.size_alloc] at s1
  have roW : ∀ b, FW b → w.heap.size ≤ b ∧ b < w1.heap.size := fun b hb => by
    have := bytesRR.rng oW b hb
    try simp only [World.size_alloc] at this
    omega
  clear hb1
  have fW := bytesRR.ofO oW
  obtain ⟨aw1, cw1, rfl⟩ := bytesR_form fW
  go_wp2_with fail
  refine (hIm _).mono ?_
  rintro e w2 ⟨vG, FG, rfl, oG, hb2⟩
  have hB2 : Below w.heap.size w w2 := by (repeat (first | exact Below.refl _ _ | assumption | refine Below.drew ?_ | refine balloc ?_ _ | refine bset ?_ (by simp; omega) _ | refine bset ?_ (by simp) _ | refine bstep ?_ (by assumption)))
  have s2 := hb2.size
  try simp only [World.size_alloc] at s2
  have q_0 : w2.cell? ⟨w1.heap.size, 0, none⟩ = some (.int .i64 (D0).code) := cell_keep hb2 (by simp [go_sem])
  have q_1 : w2.cell? ⟨w1.heap.size, 1, none⟩ = some (.slice aw1 (D0).bytes.length cw1) := cell_keep hb2 (by simp [go_sem])
  replace oW := bytesRR.keep2 oW (by (repeat (first | exact Below.refl _ _ | assumption | refine Below.drew ?_ | refine balloc ?_ _ | refine bset ?_ (by simp; omega) _ | refine bset ?_ (by simp) _ | refine bstep ?_ (by assumption)))) hb2
  clear hB1
  have roG : ∀ b, FG b → w1.heap.size + 1 ≤ b ∧ b < w2.heap.size := fun b hb => by
    have := bytesRR.rng oG b hb
    try simp only [World.size_alloc] at this
    omega
  clear hb2
  have fG := bytesRR.ofO oG
  obtain ⟨ag1, cg1, rfl⟩ := bytesR_form fG
  have z0 := World.block_lt_of_cell? _ _ q_0
  dsimp only at z0
  go_wp2_with fail
  refine (eqBytesResult_u _ _ (D0) (D0) _ (bytesRR.below (bytesRR.ofO oG) (by (repeat (first | exact Below.refl _ _ | assumption | refine Below.drew ?_ | refine balloc ?_ _ | refine bset ?_ (by simp; omega) _ | refine bset ?_ (by simp) _ | refine bstep ?_ (by assumption))))) (bytesRR.below (bytesRR.ofO oW) (by (repeat (first | exact Below.refl _ _ | assumption | refine Below.drew ?_ | refine balloc ?_ _ | refine bset ?_ (by simp; omega) _ | refine bset ?_ (by simp) _ | refine bstep ?_ (by assumption)))))).mono ?_
  rintro e w3 ⟨rfl, hb3⟩
  have hB3 : Below w.heap.size w w3 := by (repeat (first | exact Below.refl _ _ | assumption | refine Below.drew ?_ | refine balloc ?_ _ | refine bset ?_ (by simp; omega) _ | refine bset ?_ (by simp) _ | refine bstep ?_ (by assumption)))
  have s3 := hb3.size
  try simp only [World.size_alloc] at s3
  replace q_0 := cell_keep hb3 (cell_keep (by (repeat (first | exact Below.refl _ _ | assumption | refine Below.drew ?_ | refine balloc ?_ _ | refine bset ?_ (by simp; omega) _ | refine bset ?_ (by simp) _ | refine bstep ?_ (by assumption)))) q_0)
  replace q_1 := cell_keep hb3 (cell_keep (by (repeat (first | exact Below.refl _ _ | assumption | refine Below.drew ?_ | refine balloc ?_ _ | refine bset ?_ (by simp; omega) _ | refine bset ?_ (by simp) _ | refine bstep ?_ (by assumption)))) q_1)
  have g_0 : w3.cell? ⟨w2.heap.size, 0, none⟩ = some (.int .i64 (D0).code) := cell_keep hb3 (by simp [go_sem])
  have g_1 : w3.cell? ⟨w2.heap.size, 1, none⟩ = some (.slice ag1 (D0).bytes.length cg1) := cell_keep hb3 (by simp [go_sem])
  replace oW := bytesRR.keep2 oW (by (repeat (first | exact Below.refl _ _ | assumption | refine Below.drew ?_ | refine balloc ?_ _ | refine bset ?_ (by simp; omega) _ | refine bset ?_ (by simp) _ | refine bstep ?_ (by assumption)))) hb3
  replace oG := bytesRR.keep2 oG (by (repeat (first | exact Below.refl _ _ | assumption | refine Below.drew ?_ | refine balloc ?_ _ | refine bset ?_ (by simp; omega) _ | refine bset ?_ (by simp) _ | refine bstep ?_ (by assumption)))) hb3
  clear hB2
  clear hb3
  clear z0
  have z0 := World.block_lt_of_cell? _ _ q_0
  dsimp only at z0
  have z2 := World.block_lt_of_cell? _ _ g_0
  dsimp only at z2
  go_wp2_with fail
  refine (markBytesResult_u _ (D0) _ FG 1 _ oG hwR hcR (by omega)).mono ?_
  rintro e w4 ⟨rfl, oGm, m4⟩
  have hB4 : Below w.heap.size w w4 := m4.below hB3 hB3.size (fun b hb => by have := roG b hb; omega)
  have s4 := m4.size
  replace q_0 := m4.cell q_0 (fun hf => by have := roG _ hf; dsimp only at this; omega)
  replace q_1 := m4.cell q_1 (fun hf => by have := roG _ hf; dsimp only at this; omega)
  replace g_0 := m4.cell g_0 (fun hf => by have := roG _ hf; dsimp only at this; omega)
  replace g_1 := m4.cell g_1 (fun hf => by have := roG _ hf; dsimp only at this; omega)
  replace oW := bytesRR.mod oW m4 (fun b p q => by have := roW b p; have := roG b q; omega)
  clear hB3 oG m4
  clear z0 z2
  have z0 := World.block_lt_of_cell? _ _ q_0
  dsimp only at z0
  have z2 := World.block_lt_of_cell? _ _ g_0
  dsimp only at z2
  go_wp2_with fail
  refine (heldBytesResult_u _ (D0) 1 _ (bytesRR.below (bytesRR.ofO oGm) (by (repeat (first | exact Below.refl _ _ | assumption | refine Below.drew ?_ | refine balloc ?_ _ | refine bset ?_ (by simp; omega) _ | refine bset ?_ (by simp) _ | refine bstep ?_ (by assumption))))) hwR hcR (by omega)).mono ?_
  rintro e w5 ⟨rfl, hb5⟩
  have hB5 : Below w.heap.size w w5 := by (repeat (first | exact Below.refl _ _ | assumption | refine Below.drew ?_ | refine balloc ?_ _ | refine bset ?_ (by simp; omega) _ | refine bset ?_ (by simp) _ | refine bstep ?_ (by assumption)))
  have s5 := hb5.size
  try simp only [World.size_alloc] at s5
  replace q_0 := cell_keep hb5 (cell_keep (by (repeat (first | exact Below.refl _ _ | assumption | refine Below.drew ?_ | refine balloc ?_ _ | refine bset ?_ (by simp; omega) _ | refine bset ?_ (by simp) _ | refine bstep ?_ (by assumption)))) q_0)
  replace q_1 := cell_keep hb5 (cell_keep (by (repeat (first | exact Below.refl _ _ | assumption | refine Below.drew ?_ | refine balloc ?_ _ | refine bset ?_ (by simp; omega) _ | refine bset ?_ (by simp) _ | refine bstep ?_ (by assumption)))) q_1)
  replace g_0 := cell_keep hb5 (cell_keep (by (repeat (first | exact Below.refl _ _ | assumption | refine Below.drew ?_ | refine balloc ?_ _ | refine bset ?_ (by simp; omega) _ | refine bset ?_ (by simp) _ | refine bstep ?_ (by assumption)))) g_0)
  replace g_1 := cell_keep hb5 (cell_keep (by (repeat (first | exact Below.refl _ _ | assumption | refine Below.drew ?_ | refine balloc ?_ _ | refine bset ?_ (by simp; omega) _ | refine bset ?_ (by simp) _ | refine bstep ?_ (by assumption)))) g_1)
  replace oW := bytesRR.keep2 oW (by (repeat (first | exact Below.refl _ _ | assumption | refine Below.drew ?_ | refine balloc ?_ _ | refine bset ?_ (by simp; omega) _ | refine bset ?_ (by simp) _ | refine bstep ?_ (by assumption)))) hb5
  replace oGm := bytesRR.keep2 oGm (by (repeat (first | exact Below.refl _ _ | assumption | refine Below.drew ?_ | refine balloc ?_ _ | refine bset ?_ (by simp; omega) _ | refine bset ?_ (by simp) _ | refine bstep ?_ (by assumption)))) hb5
  clear hB4
  clear hb5
  clear z0 z2
  have z0 := World.block_lt_of_cell? _ _ q_0
  dsimp only at z0
  have z2 := World.block_lt_of_cell? _ _ g_0
  dsimp only at z2
  go_wp2_with fail
  refine (hIm _).mono ?_
  rintro e w6 ⟨vI, FI, rfl, oI, hb6⟩
  have hB6 : Below w.heap.size w w6 := by (repeat (first | exact Below.refl _ _ | assumption | refine Below.drew ?_ | refine balloc ?_ _ | refine bset ?_ (by simp; omega) _ | refine bset ?_ (by simp) _ | refine bstep ?_ (by assumption)))
  have s6 := hb6.size
  try simp only [World.size_alloc] at s6
  replace q_0 := cell_keep hb6 (cell_keep (by (repeat (first | exact Below.refl _ _ | assumption | refine Below.drew ?_ | refine balloc ?_ _ | refine bset ?_ (by simp; omega) _ | refine bset ?_ (by simp) _ | refine bstep ?_ (by assumption)))) q_0)
  replace q_1 := cell_keep hb6 (cell_keep (by (repeat (first | exact Below.refl _ _ | assumption | refine Below.drew ?_ | refine balloc ?_ _ | refine bset ?_ (by simp; omega) _ | refine bset ?_ (by simp) _ | refine bstep ?_ (by assumption)))) q_1)
  replace g_0 := cell_keep hb6 (cell_keep (by (repeat (first | exact Below.refl _ _ | assumption | refine Below.drew ?_ | refine balloc ?_ _ | refine bset ?_ (by simp; omega) _ | refine bset ?_ (by simp) _ | refine bstep ?_ (by assumption)))) g_0)
  replace g_1 := cell_keep hb6 (cell_keep (by (repeat (first | exact Below.refl _ _ | assumption | refine Below.drew ?_ | refine balloc ?_ _ | refine bset ?_ (by simp; omega) _ | refine bset ?_ (by simp) _ | refine bstep ?_ (by assumption)))) g_1)
  replace oW := bytesRR.keep2 oW (by (repeat (first | exact Below.refl _ _ | assumption | refine Below.drew ?_ | refine balloc ?_ _ | refine bset ?_ (by simp; omega) _ | refine bset ?_ (by simp) _ | refine bstep ?_ (by assumption)))) hb6
  replace oGm := bytesRR.keep2 oGm (by (repeat (first | exact Below.refl _ _ | assumption | refine Below.drew ?_ | refine balloc ?_ _ | refine bset ?_ (by simp; omega) _ | refine bset ?_ (by simp) _ | refine bstep ?_ (by assumption)))) hb6
  clear hB5
  clear hb6
  have fI := bytesRR.ofO oI
  obtain ⟨ai1, ci1, rfl⟩ := bytesR_form fI
  clear z0 z2
  have z0 := World.block_lt_of_cell? _ _ q_0
  dsimp only at z0
  have z2 := World.block_lt_of_cell? _ _ g_0
  dsimp only at z2
  go_wp2_with fail
  refine (eqBytesResult_u _ _ (D0) (D0) _ (bytesRR.below (bytesRR.ofO oI) (by (repeat (first | exact Below.refl _ _ | assumption | refine Below.drew ?_ | refine balloc ?_ _ | refine bset ?_ (by simp; omega) _ | refine bset ?_ (by simp) _ | refine bstep ?_ (by assumption))))) (bytesRR.below (bytesRR.ofO oW) (by (repeat (first | exact Below.refl _ _ | assumption | refine Below.drew ?_ | refine balloc ?_ _ | refine bset ?_ (by simp; omega) _ | refine bset ?_ (by simp) _ | refine bstep ?_ (by assumption)))))).mono ?_
  rintro e w7 ⟨rfl, hb7⟩
  have hB7 : Below w.heap.size w w7 := by (repeat (first | exact Below.refl _ _ | assumption | refine Below.drew ?_ | refine balloc ?_ _ | refine bset ?_ (by simp; omega) _ | refine bset ?_ (by simp) _ | refine bstep ?_ (by assumption)))
  have s7 := hb7.size
  try simp only [World.size_alloc] at s7
  replace q_0 := cell_keep hb7 (cell_keep (by (repeat (first | exact Below.refl _ _ | assumption | refine Below.drew ?_ | refine balloc ?_ _ | refine bset ?_ (by simp; omega) _ | refine bset ?_ (by simp) _ | refine bstep ?_ (by assumption)))) q_0)
  replace q_1 := cell_keep hb7 (cell_keep (by (repeat (first | exact Below.refl _ _ | assumption | refine Below.drew ?_ | refine balloc ?_ _ | refine bset ?_ (by simp; omega) _ | refine bset ?_ (by simp) _ | refine bstep ?_ (by assumption)))) q_1)
  replace g_0 := cell_keep hb7 (cell_keep (by (repeat (first | exact Below.refl _ _ | assumption | refine Below.drew ?_ | refine balloc ?_ _ | refine bset ?_ (by simp; omega) _ | refine bset ?_ (by simp) _ | refine bstep ?_ (by assumption)))) g_0)
  replace g_1 := cell_keep hb7 (cell_keep (by (repeat (first | exact Below.refl _ _ | assumption | refine Below.drew ?_ | refine balloc ?_ _ | refine bset ?_ (by simp; omega) _ | refine bset ?_ (by simp) _ | refine bstep ?_ (by assumption)))) g_1)
  replace oW := bytesRR.keep2 oW (by (repeat (first | exact Below.refl _ _ | assumption | refine Below.drew ?_ | refine balloc ?_ _ | refine bset ?_ (by simp; omega) _ | refine bset ?_ (by simp) _ | refine bstep ?_ (by assumption)))) hb7
  replace oGm := bytesRR.keep2 oGm (by (repeat (first | exact Below.refl _ _ | assumption | refine Below.drew ?_ | refine balloc ?_ _ | refine bset ?_ (by simp; omega) _ | refine bset ?_ (by simp) _ | refine bstep ?_ (by assumption)))) hb7
  clear hB6
  clear hb7
  clear oI
  clear z0 z2
  have z0 := World.block_lt_of_cell? _ _ q_0
  dsimp only at z0
  have z2 := World.block_lt_of_cell? _ _ g_0
  dsimp only at z2
  go_wp2_with fail
  refine (heldBytesResult_u _ (D0) 1 _ (bytesRR.below (bytesRR.ofO oGm) (by (repeat (first | exact Below.refl _ _ | assumption | refine Below.drew ?_ | refine balloc ?_ _ | refine bset ?_ (by simp; omega) _ | refine bset ?_ (by simp) _ | refine bstep ?_ (by assumption))))) hwR hcR (by omega)).mono ?_
  rintro e w8 ⟨rfl, hb8⟩
  have hB8 : Below w.heap.size w w8 := by (repeat (first | exact Below.refl _ _ | assumption | refine Below.drew ?_ | refine balloc ?_ _ | refine bset ?_ (by simp; omega) _ | refine bset ?_ (by simp) _ | refine bstep ?_ (by assumption)))
  have s8 := hb8.size
  try simp only [World.size_alloc] at s8
  replace q_0 := cell_keep hb8 (cell_keep (by (repeat (first | exact Below.refl _ _ | assumption | refine Below.drew ?_ | refine balloc ?_ _ | refine bset ?_ (by simp; omega) _ | refine bset ?_ (by simp) _ | refine bstep ?_ (by assumption)))) q_0)
  replace q_1 := cell_keep hb8 (cell_keep (by (repeat (first | exact Below.refl _ _ | assumption | refine Below.drew ?_ | refine balloc ?_ _ | refine bset ?_ (by simp; omega) _ | refine bset ?_ (by simp) _ | refine bstep ?_ (by assumption)))) q_1)
  replace g_0 := cell_keep hb8 (cell_keep (by (repeat (first | exact Below.refl _ _ | assumption | refine Below.drew ?_ | refine balloc ?_ _ | refine bset ?_ (by simp; omega) _ | refine bset ?_ (by simp) _ | refine bstep ?_ (by assumption)))) g_0)
  replace g_1 := cell_keep hb8 (cell_keep (by (repeat (first | exact Below.refl _ _ | assumption | refine Below.drew ?_ | refine balloc ?_ _ | refine bset ?_ (by simp; omega) _ | refine bset ?_ (by simp) _ | refine bstep ?_ (by assumption)))) g_1)
  replace oW := bytesRR.keep2 oW (by (repeat (first | exact Below.refl _ _ | assumption | refine Below.drew ?_ | refine balloc ?_ _ | refine bset ?_ (by simp; omega) _ | refine bset ?_ (by simp) _ | refine bstep ?_ (by assumption)))) hb8
  replace oGm := bytesRR.keep2 oGm (by (repeat (first | exact Below.refl _ _ | assumption | refine Below.drew ?_ | refine balloc ?_ _ | refine bset ?_ (by simp; omega) _ | refine bset ?_ (by simp) _ | refine bstep ?_ (by assumption)))) hb8
  clear hB7
  go_wp2
  go_ret
  exact ⟨rfl, hB8⟩

end Go.Proofs.Ythikaieobdhckaa.packTextLaw
