/-
  Proved: laws.FnExactPackNumber answers true at every argument, and its arguments read behind the call as they read before. No condition. (The walk.)
-/
import Derived.Test.YthikaieobdhckaaNumU
import Derived.Test.YthikaieobdhckaaKeeps
import Derived.Deep.RegionHeld3
import Derived.Deep.DrawnRows
namespace Go.Proofs.Ythikaieobdhckaa.packNumberLaw
open Go.RowKit
attribute [local go_sem ↓] Go.wp_at_zero Go.wp_at_succ

set_option maxHeartbeats 4000000 in
theorem walk (k0 : Int) (w : World) :
    Calls Try.prog 3 #[.int .i64 k0] w fun e w' => e = .returned (.bool true) ∧ Below w.heap.size w w' := by
  have hwR : wtBytes (hiB k0 8) ≤ 1048576 := by unfold wtBytes; rw [length_hiB]; omega
  have hcR : (1 : Int) + cntBytes (hiB k0 8) ≤ 1073741824 := by unfold cntBytes; rw [length_hiB]; omega
  have hk2 : ¬ (1 : Int) + cntBytes (hiB k0 8) < 0 := by omega
  have hSp : ∀ w : World, Calls Try.prog 11 #[.int .i64 k0] w fun e w' => ∃ v F, e = .returned v ∧ bytesR.O w' w.heap.size F v (hiB k0 8) ∧ Below w.heap.size w w' := fun w => specPack_u k0 w
  have hIm : ∀ w : World, Calls Try.prog 12 #[.int .i64 k0] w fun e w' => ∃ v F, e = .returned v ∧ bytesR.O w' w.heap.size F v (hiB k0 8) ∧ Below w.heap.size w w' := fun w => implPack_u k0 w
  generalize hiB k0 8 = D0 at *
  go_enter Try.func3, Try.ntmps3
  go_wp2_with fail
  refine (hSp _).mono ?_
  rintro e w1 ⟨vW, FW, rfl, oW, hb1⟩
  have hB1 : Below w.heap.size w w1 := by (repeat (first | exact Below.refl _ _ | assumption | refine Below.drew ?_ | refine balloc ?_ _ | refine bset ?_ (by simp; omega) _ | refine bset ?_ (by simp) _ | refine bstep ?_ (by assumption)))
  have s1 := hb1.size
  try simp only [World.size_alloc] at s1
  have roW : ∀ b, FW b → w.heap.size ≤ b ∧ b < w1.heap.size := fun b hb => by
    have := bytesR.rng oW b hb
    try simp only [World.size_alloc] at this
    omega
  clear hb1
  have fW := bytesR.ofO oW
  obtain ⟨aw, cw, rfl⟩ := bytes_form fW
  go_wp2_with fail
  refine (hIm _).mono ?_
  rintro e w2 ⟨vG, FG, rfl, oG, hb2⟩
  have hB2 : Below w.heap.size w w2 := by (repeat (first | exact Below.refl _ _ | assumption | refine Below.drew ?_ | refine balloc ?_ _ | refine bset ?_ (by simp; omega) _ | refine bset ?_ (by simp) _ | refine bstep ?_ (by assumption)))
  have s2 := hb2.size
  try simp only [World.size_alloc] at s2
  replace oW := bytesR.keep2 oW (by (repeat (first | exact Below.refl _ _ | assumption | refine Below.drew ?_ | refine balloc ?_ _ | refine bset ?_ (by simp; omega) _ | refine bset ?_ (by simp) _ | refine bstep ?_ (by assumption)))) hb2
  clear hB1
  have roG : ∀ b, FG b → w1.heap.size ≤ b ∧ b < w2.heap.size := fun b hb => by
    have := bytesR.rng oG b hb
    try simp only [World.size_alloc] at this
    omega
  clear hb2
  have fG := bytesR.ofO oG
  obtain ⟨ag, cg, rfl⟩ := bytes_form fG
  go_wp2_with fail
  refine (eqByteS_u _ _ (D0) (D0) _ (bytesR.below (bytesR.ofO oG) (by (repeat (first | exact Below.refl _ _ | assumption | refine Below.drew ?_ | refine balloc ?_ _ | refine bset ?_ (by simp; omega) _ | refine bset ?_ (by simp) _ | refine bstep ?_ (by assumption))))) (bytesR.below (bytesR.ofO oW) (by (repeat (first | exact Below.refl _ _ | assumption | refine Below.drew ?_ | refine balloc ?_ _ | refine bset ?_ (by simp; omega) _ | refine bset ?_ (by simp) _ | refine bstep ?_ (by assumption)))))).mono ?_
  rintro e w3 ⟨rfl, hb3⟩
  have hB3 : Below w.heap.size w w3 := by (repeat (first | exact Below.refl _ _ | assumption | refine Below.drew ?_ | refine balloc ?_ _ | refine bset ?_ (by simp; omega) _ | refine bset ?_ (by simp) _ | refine bstep ?_ (by assumption)))
  have s3 := hb3.size
  try simp only [World.size_alloc] at s3
  replace oW := bytesR.keep2 oW (by (repeat (first | exact Below.refl _ _ | assumption | refine Below.drew ?_ | refine balloc ?_ _ | refine bset ?_ (by simp; omega) _ | refine bset ?_ (by simp) _ | refine bstep ?_ (by assumption)))) hb3
  replace oG := bytesR.keep2 oG (by (repeat (first | exact Below.refl _ _ | assumption | refine Below.drew ?_ | refine balloc ?_ _ | refine bset ?_ (by simp; omega) _ | refine bset ?_ (by simp) _ | refine bstep ?_ (by assumption)))) hb3
  clear hB2
  clear hb3
  go_wp2_with fail
  refine (markByteS_u _ (D0) _ FG 1 _ oG hwR hcR (by omega)).mono ?_
  rintro e w4 ⟨rfl, oGm, m4⟩
  have hB4 : Below w.heap.size w w4 := m4.below hB3 hB3.size (fun b hb => by have := roG b hb; omega)
  have s4 := m4.size
  replace oW := bytesR.mod oW m4 (fun b p q => by have := roW b p; have := roG b q; omega)
  clear hB3 oG m4
  go_wp2_with fail
  refine (heldByteS_u _ (D0) 1 _ (bytesR.below (bytesR.ofO oGm) (by (repeat (first | exact Below.refl _ _ | assumption | refine Below.drew ?_ | refine balloc ?_ _ | refine bset ?_ (by simp; omega) _ | refine bset ?_ (by simp) _ | refine bstep ?_ (by assumption))))) hwR hcR (by omega)).mono ?_
  rintro e w5 ⟨rfl, hb5⟩
  have hB5 : Below w.heap.size w w5 := by (repeat (first | exact Below.refl _ _ | assumption | refine Below.drew ?_ | refine balloc ?_ _ | refine bset ?_ (by simp; omega) _ | refine bset ?_ (by simp) _ | refine bstep ?_ (by assumption)))
  have s5 := hb5.size
  try simp only [World.size_alloc] at s5
  replace oW := bytesR.keep2 oW (by (repeat (first | exact Below.refl _ _ | assumption | refine Below.drew ?_ | refine balloc ?_ _ | refine bset ?_ (by simp; omega) _ | refine bset ?_ (by simp) _ | refine bstep ?_ (by assumption)))) hb5
  replace oGm := bytesR.keep2 oGm (by (repeat (first | exact Below.refl _ _ | assumption | refine Below.drew ?_ | refine balloc ?_ _ | refine bset ?_ (by simp; omega) _ | refine bset ?_ (by simp) _ | refine bstep ?_ (by assumption)))) hb5
  clear hB4
  clear hb5
  go_wp2_with fail
  refine (hIm _).mono ?_
  rintro e w6 ⟨vI, FI, rfl, oI, hb6⟩
  have hB6 : Below w.heap.size w w6 := by (repeat (first | exact Below.refl _ _ | assumption | refine Below.drew ?_ | refine balloc ?_ _ | refine bset ?_ (by simp; omega) _ | refine bset ?_ (by simp) _ | refine bstep ?_ (by assumption)))
  have s6 := hb6.size
  try simp only [World.size_alloc] at s6
  replace oW := bytesR.keep2 oW (by (repeat (first | exact Below.refl _ _ | assumption | refine Below.drew ?_ | refine balloc ?_ _ | refine bset ?_ (by simp; omega) _ | refine bset ?_ (by simp) _ | refine bstep ?_ (by assumption)))) hb6
  replace oGm := bytesR.keep2 oGm (by (repeat (first | exact Below.refl _ _ | assumption | refine Below.drew ?_ | refine balloc ?_ _ | refine bset ?_ (by simp; omega) _ | refine bset ?_ (by simp) _ | refine bstep ?_ (by assumption)))) hb6
  clear hB5
  clear hb6
  have fI := bytesR.ofO oI
  obtain ⟨ai, ci, rfl⟩ := bytes_form fI
  go_wp2_with fail
  refine (eqByteS_u _ _ (D0) (D0) _ (bytesR.below (bytesR.ofO oI) (by (repeat (first | exact Below.refl _ _ | assumption | refine Below.drew ?_ | refine balloc ?_ _ | refine bset ?_ (by simp; omega) _ | refine bset ?_ (by simp) _ | refine bstep ?_ (by assumption))))) (bytesR.below (bytesR.ofO oW) (by (repeat (first | exact Below.refl _ _ | assumption | refine Below.drew ?_ | refine balloc ?_ _ | refine bset ?_ (by simp; omega) _ | refine bset ?_ (by simp) _ | refine bstep ?_ (by assumption)))))).mono ?_
  rintro e w7 ⟨rfl, hb7⟩
  have hB7 : Below w.heap.size w w7 := by (repeat (first | exact Below.refl _ _ | assumption | refine Below.drew ?_ | refine balloc ?_ _ | refine bset ?_ (by simp; omega) _ | refine bset ?_ (by simp) _ | refine bstep ?_ (by assumption)))
  have s7 := hb7.size
  try simp only [World.size_alloc] at s7
  replace oW := bytesR.keep2 oW (by (repeat (first | exact Below.refl _ _ | assumption | refine Below.drew ?_ | refine balloc ?_ _ | refine bset ?_ (by simp; omega) _ | refine bset ?_ (by simp) _ | refine bstep ?_ (by assumption)))) hb7
  replace oGm := bytesR.keep2 oGm (by (repeat (first | exact Below.refl _ _ | assumption | refine Below.drew ?_ | refine balloc ?_ _ | refine bset ?_ (by simp; omega) _ | refine bset ?_ (by simp) _ | refine bstep ?_ (by assumption)))) hb7
  clear hB6
  clear hb7
  clear oI
  go_wp2_with fail
  refine (heldByteS_u _ (D0) 1 _ (bytesR.below (bytesR.ofO oGm) (by (repeat (first | exact Below.refl _ _ | assumption | refine Below.drew ?_ | refine balloc ?_ _ | refine bset ?_ (by simp; omega) _ | refine bset ?_ (by simp) _ | refine bstep ?_ (by assumption))))) hwR hcR (by omega)).mono ?_
  rintro e w8 ⟨rfl, hb8⟩
  have hB8 : Below w.heap.size w w8 := by (repeat (first | exact Below.refl _ _ | assumption | refine Below.drew ?_ | refine balloc ?_ _ | refine bset ?_ (by simp; omega) _ | refine bset ?_ (by simp) _ | refine bstep ?_ (by assumption)))
  have s8 := hb8.size
  try simp only [World.size_alloc] at s8
  replace oW := bytesR.keep2 oW (by (repeat (first | exact Below.refl _ _ | assumption | refine Below.drew ?_ | refine balloc ?_ _ | refine bset ?_ (by simp; omega) _ | refine bset ?_ (by simp) _ | refine bstep ?_ (by assumption)))) hb8
  replace oGm := bytesR.keep2 oGm (by (repeat (first | exact Below.refl _ _ | assumption | refine Below.drew ?_ | refine balloc ?_ _ | refine bset ?_ (by simp; omega) _ | refine bset ?_ (by simp) _ | refine bstep ?_ (by assumption)))) hb8
  clear hB7
  go_wp2
  go_ret
  exact ⟨rfl, hB8⟩

end Go.Proofs.Ythikaieobdhckaa.packNumberLaw
