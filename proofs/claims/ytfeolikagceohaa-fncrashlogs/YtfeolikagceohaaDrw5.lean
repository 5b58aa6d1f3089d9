/-
  The specification's draws: a log and a record.
-/
import Derived.Test.YtfeolikagceohaaDrw4
namespace Go.Proofs.Ytfeolikagceohaa
open Go.RowKit
set_option linter.unusedSectionVars false
variable [DecidableEq Logg] [Inhabited Logg] [DecidableEq LoggR] [Inhabited LoggR] [DecidableEq BytesR] [Inhabited BytesR] [DecidableEq RecsR] [Inhabited RecsR] [DecidableEq Leg] [Inhabited Leg]
set_option linter.unusedSimpArgs false
attribute [local go_sem ↓] Go.wp_at_zero Go.wp_at_succ

set_option maxHeartbeats 2000000 in
theorem drawAppend_any (x : Value) (cs : List Byte) (w : World) (hx : BytesV w x cs) (hn : cs.length ≤ 1048576) :
    Calls Try.prog 18 #[x] w fun e w' => ∃ v u d xs, e = .returned (.tuple #[v, u]) ∧ loggR.V w' v d ∧ bytesR.V w' u xs ∧ wtLogg d ≤ 20000 ∧ xs.length ≤ 501 ∧ Below w.heap.size w w' := by
  have hX := hx
  obtain ⟨ax, cx, rfl, _⟩ := hx
  go_enter Try.func18, Try.ntmps18
  go_wp2_with fail
  refine (l1Source_any _ cs _ (BytesV_below hX (by (repeat (first | exact Below.refl _ _ | assumption | refine Below.drew ?_ | refine balloc ?_ _ | refine bset ?_ (by simp; omega) _ | refine bset ?_ (by simp) _ | refine bstep ?_ (by assumption))))) hn).mono ?_
  rintro e w1 ⟨a, cap, rfl, hs1, hb1⟩
  simp only [World.size_alloc] at hs1
  have r0 : w1.cell? ⟨w.heap.size, 0, none⟩ = some (.slice none 0 0) := cell_keep hb1 (by simp [go_sem])
  have r1 : w1.cell? ⟨w.heap.size, 1, none⟩ = some (.slice none 0 0) := cell_keep hb1 (by simp [go_sem])
  have rf : ∀ o, w1.frozen? ⟨w.heap.size, o, none⟩ = false := fun o => by rw [(bcell hb1).2 _ _ (by simp)]; simp [go_sem]
  have z1 := hb1.size
  simp only [World.size_alloc] at z1
  have hB1 : Below w.heap.size w w1 := by (repeat (first | exact Below.refl _ _ | assumption | refine Below.drew ?_ | refine balloc ?_ _ | refine bset ?_ (by simp; omega) _ | refine bset ?_ (by simp) _ | refine bstep ?_ (by assumption)))
  have z1' := hs1.lt
  clear hb1
  go_wp2_with fail
  refine (l4Log_any (w.heap.size + 1) w1 (w.heap.size + 1) a cs.length cap 0 hs1 (by omega)).mono ?_
  rintro e w2 ⟨v2, F2, d, t2, rfl, ho2, hwt, hs2, ht2, hm2⟩
  obtain ⟨a1, a2, c1, c2, rfl⟩ := logg_form (loggR.ofO ho2)
  have hB2 : Below w.heap.size w w2 := hm2.below hB1 hB1.size (fun b hb => by omega)
  have z2 := hm2.size
  replace r0 := hm2.cell r0 (fun e => by dsimp only at e; omega)
  replace r1 := hm2.cell r1 (fun e => by dsimp only at e; omega)
  replace rf : ∀ o, w2.frozen? ⟨w.heap.size, o, none⟩ = false := fun o => by rw [hm2.frozenAt (a := ⟨w.heap.size, o, none⟩) (by dsimp only; omega) (fun e => by dsimp only at e; omega)]; exact rf o
  have hrg := fun b hb => loggR.rng ho2 b hb
  clear hm2 hB1 hs1
  go_wp2
  refine wp_region_noPanic ?_
  refine region_upto (fun w' => Below w.heap.size w w' ∧ w'.cell? ⟨w2.heap.size, 0, none⟩ = some (.slice a1 d.synced.length c1) ∧ w'.cell? ⟨w2.heap.size, 1, none⟩ = some (.slice a2 d.loose.length c2)) 4 (by kernel_rfl) ⟨by (repeat (first | exact Below.refl _ _ | assumption | refine Below.drew ?_ | refine balloc ?_ _ | refine bset ?_ (by simp; omega) _ | refine bset ?_ (by simp) _ | refine bstep ?_ (by assumption))), by simp [go_sem], by simp [go_sem]⟩ (fun hS => ?_)
  refine upto_take (i := 0) (v := ?_) rfl (by kernel_rfl) (by kernel_rfl) (by kernel_rfl) (by kernel_rfl) (fun _ _ _ h => h) (by rfl) hS ?_ ?_
  rotate_left
  · intro wS hSw
    try dsimp only at hSw
    first | (go_simp; done) | (go_simp; with_reducible rfl)
  try simp only [Act.put, List.getElem_toArray, List.getElem_cons_zero, List.getElem_cons_succ, List.setIfInBounds_toArray, List.set_cons_zero, List.set_cons_succ]
  refine upto_take (i := 1) (v := ?_) rfl (by kernel_rfl) (by kernel_rfl) (by kernel_rfl) (by kernel_rfl) (fun _ _ _ h => h) (by rfl) hS ?_ ?_
  rotate_left
  · intro wS hSw
    try dsimp only at hSw
    first | (go_simp; done) | (go_simp; with_reducible rfl)
  try simp only [Act.put, List.getElem_toArray, List.getElem_cons_zero, List.getElem_cons_succ, List.setIfInBounds_toArray, List.set_cons_zero, List.set_cons_succ]
  refine upto_step (i := 2) (by kernel_rfl) rfl ?_
  intro K hK
  go_simp
  refine (l3Some_any (w.heap.size + 1) _ (w.heap.size + 1) a cs.length cap t2 (hs2.below (by (repeat (first | exact Below.refl _ _ | assumption | refine Below.drew ?_ | refine balloc ?_ _ | refine bset ?_ (by simp; omega) _ | refine bset ?_ (by simp) _ | refine bstep ?_ (by assumption))))) (by omega)).mono ?_
  rintro e w3 ⟨v3, F3, xs, t3, rfl, ho3, hxl, _, _, hm3⟩
  obtain ⟨p3, q3, rfl⟩ := bytes_form (bytesR.ofO ho3)
  have z3 := hm3.size
  simp at z3
  have hB3 : Below w.heap.size w w3 := hm3.below (by (repeat (first | exact Below.refl _ _ | assumption | refine Below.drew ?_ | refine balloc ?_ _ | refine bset ?_ (by simp; omega) _ | refine bset ?_ (by simp) _ | refine bstep ?_ (by assumption)))) (by simp; omega) (fun b hb => by omega)
  have x0 : w3.cell? ⟨w2.heap.size, 0, none⟩ = some (.slice a1 d.synced.length c1) := hm3.cell (by simp [go_sem]) (fun e => by dsimp only at e; omega)
  have x1 : w3.cell? ⟨w2.heap.size, 1, none⟩ = some (.slice a2 d.loose.length c2) := hm3.cell (by simp [go_sem]) (fun e => by dsimp only at e; omega)
  have q0 : w3.cell? ⟨w.heap.size, 0, none⟩ = some (.slice none 0 0) := hm3.cell (cell_keep (by (repeat (first | exact Below.refl _ _ | assumption | refine Below.drew ?_ | refine balloc ?_ _ | refine bset ?_ (by simp; omega) _ | refine bset ?_ (by simp) _ | refine bstep ?_ (by assumption)))) r0) (fun e => by dsimp only at e; omega)
  have q1 : w3.cell? ⟨w.heap.size, 1, none⟩ = some (.slice none 0 0) := hm3.cell (cell_keep (by (repeat (first | exact Below.refl _ _ | assumption | refine Below.drew ?_ | refine balloc ?_ _ | refine bset ?_ (by simp; omega) _ | refine bset ?_ (by simp) _ | refine bstep ?_ (by assumption)))) r1) (fun e => by dsimp only at e; omega)
  have qf : ∀ o, w3.frozen? ⟨w.heap.size, o, none⟩ = false := fun o => by rw [hm3.frozenAt (a := ⟨w.heap.size, o, none⟩) (by simp; omega) (fun e => by dsimp only at e; omega), (bcell (W := w2) (by (repeat (first | exact Below.refl _ _ | assumption | refine Below.drew ?_ | refine balloc ?_ _ | refine bset ?_ (by simp; omega) _ | refine bset ?_ (by simp) _ | refine bstep ?_ (by assumption))))).2 _ _ (by omega)]; exact rf o
  have hO3 : loggR.O w3 w1.heap.size F2 (.agg #[.slice a1 d.synced.length c1, .slice a2 d.loose.length c2]) d := loggR.mod (loggR.keep ho2 (by (repeat (first | exact Below.refl _ _ | assumption | refine Below.drew ?_ | refine balloc ?_ _ | refine bset ?_ (by simp; omega) _ | refine bset ?_ (by simp) _ | refine bstep ?_ (by assumption))))) hm3 (fun b hb e => by have := (hrg b hb).1; omega)
  have hX3 : bytesR.O w3 (w.heap.size + 1) F3 (.slice p3 xs.length q3) xs := bytesR.base ho3 (by simp; omega)
  have hS3 : (fun w' => Below w.heap.size w w' ∧ w'.cell? ⟨w2.heap.size, 0, none⟩ = some (.slice a1 d.synced.length c1) ∧ w'.cell? ⟨w2.heap.size, 1, none⟩ = some (.slice a2 d.loose.length c2)) w3 := ⟨hB3, x0, x1⟩
  refine hK _ _ (fun _ => hS3) ?_
  clear hK K ho2 ho3 hm3 r0 r1 rf
  try simp only [Act.put, List.getElem_toArray, List.getElem_cons_zero, List.getElem_cons_succ, List.setIfInBounds_toArray, List.set_cons_zero, List.set_cons_succ]
  refine upto_step (i := 3) (by kernel_rfl) rfl ?_
  intro K hK
  go_simp
  refine hK _ _ (fun _ => ⟨by (repeat (first | exact Below.refl _ _ | assumption | refine Below.drew ?_ | refine balloc ?_ _ | refine bset ?_ (by simp; omega) _ | refine bset ?_ (by simp) _ | refine bstep ?_ (by assumption))), ?_, ?_⟩) ?_
  · rw [set_other (by first | (simp; done) | (simp; omega)), set_other (by first | (simp; done) | (simp; omega))]; exact x0
  · rw [set_other (by first | (simp; done) | (simp; omega)), set_other (by first | (simp; done) | (simp; omega))]; exact x1
  clear hK K
  try simp only [Act.put, List.getElem_toArray, List.getElem_cons_zero, List.getElem_cons_succ, List.setIfInBounds_toArray, List.set_cons_zero, List.set_cons_succ]
  refine upto_step (i := 4) (by kernel_rfl) rfl ?_
  intro K hK
  go_simp
  refine hK _ _ (fun h => absurd rfl h) ?_
  clear hK K
  refine upto_done (by kernel_rfl) ?_
  refine NoPanic.normal ?_
  clear hS hS3
  have hV : loggR.V ((w3.setCell ⟨w.heap.size, 0, none⟩ (.slice a1 d.synced.length c1)).setCell ⟨w.heap.size, 1, none⟩ (.slice a2 d.loose.length c2)) (.agg #[.slice a1 d.synced.length c1, .slice a2 d.loose.length c2]) d := loggR.ofO (loggR.set (loggR.set hO3 _ (by dsimp only; omega)) _ (by dsimp only; omega))
  have hU : bytesR.V ((w3.setCell ⟨w.heap.size, 0, none⟩ (.slice a1 d.synced.length c1)).setCell ⟨w.heap.size, 1, none⟩ (.slice a2 d.loose.length c2)) (.slice p3 xs.length q3) xs := bytesR.ofO (bytesR.set (bytesR.set hX3 _ (by dsimp only; omega)) _ (by dsimp only; omega))
  clear hO3 hX3
  go_wp2
  refine bodyPost_ret (v := .tuple #[.agg #[.slice a1 d.synced.length c1, .slice a2 d.loose.length c2], .slice p3 xs.length q3]) ?_ rfl ?_
  · simp [results, Try.results18, go_sem, q0, q1]
  · exact ⟨_, _, d, xs, rfl, hV, hU, hwt, hxl, by (repeat (first | exact Below.refl _ _ | assumption | refine Below.drew ?_ | refine balloc ?_ _ | refine bset ?_ (by simp; omega) _ | refine bset ?_ (by simp) _ | refine bstep ?_ (by assumption)))⟩

end Go.Proofs.Ytfeolikagceohaa
