/-
  The specification's draws: a log and how much of it a crash leaves.
-/
import Derived.Test.YtfeolikagceohaaDrw5
namespace Go.Proofs.Ytfeolikagceohaa
open Go.RowKit
set_option linter.unusedSectionVars false
variable [DecidableEq Logg] [Inhabited Logg] [DecidableEq LoggR] [Inhabited LoggR] [DecidableEq BytesR] [Inhabited BytesR] [DecidableEq RecsR] [Inhabited RecsR] [DecidableEq Leg] [Inhabited Leg]
set_option linter.unusedSimpArgs false
attribute [local go_sem ↓] Go.wp_at_zero Go.wp_at_succ

set_option maxHeartbeats 4000000 in
theorem drawCrash_any (x : Value) (cs : List Byte) (w : World) (hx : BytesV w x cs) (hn : cs.length ≤ 1048576) :
    Calls Try.prog 12 #[x] w fun e w' => ∃ v k d, e = .returned (.tuple #[v, .int .i64 k]) ∧ loggR.V w' v d ∧ wtLogg d ≤ 20000 ∧ Below w.heap.size w w' := by
  have hX := hx
  obtain ⟨ax, cx, rfl, _⟩ := hx
  go_enter Try.func12, Try.ntmps12
  go_wp2_with fail
  refine (l1Source_any _ cs _ (BytesV_below hX (by (repeat (first | exact Below.refl _ _ | assumption | refine Below.drew ?_ | refine balloc ?_ _ | refine bset ?_ (by simp; omega) _ | refine bset ?_ (by simp) _ | refine bstep ?_ (by assumption))))) hn).mono ?_
  rintro e w1 ⟨a, cap, rfl, hs1, hb1⟩
  simp only [World.size_alloc] at hs1
  have r0 : w1.cell? ⟨w.heap.size, 0, none⟩ = some (.slice none 0 0) := cell_keep hb1 (by simp [go_sem])
  have r1 : w1.cell? ⟨w.heap.size, 1, none⟩ = some (.slice none 0 0) := cell_keep hb1 (by simp [go_sem])
  have rf : ∀ o, w1.frozen? ⟨w.heap.size, o, none⟩ = false := fun o => by rw [(bcell hb1).2 _ _ (by simp)]; simp [go_sem]
  have z1 := hb1.size
  simp only [World.size_alloc] at z1
  have hB1 : Below w.heap.size w w1 := by (repeat (first | exact Below.refl _ _ | assumption | refine Below.drew ?_ | refine balloc ?_ _ | refine bset ?_ (by simp; omega) _ | refine bset ?_ (by simp) _ | refine bstep ?_ (by assumption)))
  have z1' := hs1.lt
  clear hb1
  go_wp2_with fail
  refine (l4Log_any (w.heap.size + 1) w1 (w.heap.size + 1) a cs.length cap 0 hs1 (by omega)).mono ?_
  rintro e w2 ⟨v2, F2, d, t2, rfl, ho2, hwt, hs2, ht2, hm2⟩
  obtain ⟨a1, a2, c1, c2, rfl⟩ := logg_form (loggR.ofO ho2)
  have hB2 : Below w.heap.size w w2 := hm2.below hB1 hB1.size (fun b hb => by omega)
  have z2 := hm2.size
  replace r0 := hm2.cell r0 (fun e => by dsimp only at e; omega)
  replace r1 := hm2.cell r1 (fun e => by dsimp only at e; omega)
  replace rf : ∀ o, w2.frozen? ⟨w.heap.size, o, none⟩ = false := fun o => by rw [hm2.frozenAt (a := ⟨w.heap.size, o, none⟩) (by dsimp only; omega) (fun e => by dsimp only at e; omega)]; exact rf o
  have hrg := fun b hb => loggR.rng ho2 b hb
  clear hm2 hB1 hs1
  have hnl : d.loose.length ≤ 20000 := by unfold wtLogg wtBytes at hwt; omega
  have u0 : IntKind.i64.wrap (d.loose.length : Int) = d.loose.length := wrapI _ (by omega) (by omega)
  have u1 : IntKind.i64.wrap ((d.loose.length : Int) + 1) = d.loose.length + 1 := wrapI _ (by omega) (by omega)
  go_wp2
  refine wp_region_noPanic ?_
  refine region_upto (fun w' => Below w.heap.size w w' ∧ w'.cell? ⟨w2.heap.size, 0, none⟩ = some (.slice a1 d.synced.length c1) ∧ w'.cell? ⟨w2.heap.size, 1, none⟩ = some (.slice a2 d.loose.length c2)) 16 (by kernel_rfl) ⟨by (repeat (first | exact Below.refl _ _ | assumption | refine Below.drew ?_ | refine balloc ?_ _ | refine bset ?_ (by simp; omega) _ | refine bset ?_ (by simp) _ | refine bstep ?_ (by assumption))), by simp [go_sem], by simp [go_sem]⟩ (fun hS => ?_)
  refine upto_take (i := 0) (v := ?_) rfl (by kernel_rfl) (by kernel_rfl) (by kernel_rfl) (by kernel_rfl) (fun _ _ _ h => h) (by rfl) hS ?_ ?_
  rotate_left
  · intro wS hSw
    try dsimp only at hSw
    first | (go_simp; done) | (go_simp; with_reducible rfl)
  try simp only [Act.put, List.getElem_toArray, List.getElem_cons_zero, List.getElem_cons_succ, List.setIfInBounds_toArray, List.set_cons_zero, List.set_cons_succ]
  refine upto_take (i := 1) (v := ?_) rfl (by kernel_rfl) (by kernel_rfl) (by kernel_rfl) (by kernel_rfl) (fun _ _ _ h => h) (by rfl) hS ?_ ?_
  rotate_left
  · intro wS hSw
    try dsimp only at hSw
    first | (go_simp; done) | (go_simp; with_reducible rfl)
  try simp only [Act.put, List.getElem_toArray, List.getElem_cons_zero, List.getElem_cons_succ, List.setIfInBounds_toArray, List.set_cons_zero, List.set_cons_succ]
  refine upto_take (i := 2) (v := ?_) rfl (by kernel_rfl) (by kernel_rfl) (by kernel_rfl) (by kernel_rfl) (fun _ _ _ h => h) (by rfl) hS ?_ ?_
  rotate_left
  · intro wS hSw
    try dsimp only at hSw
    first | (go_simp; done) | (go_simp; with_reducible rfl)
  try simp only [Act.put, List.getElem_toArray, List.getElem_cons_zero, List.getElem_cons_succ, List.setIfInBounds_toArray, List.set_cons_zero, List.set_cons_succ]
  refine upto_take (i := 3) (v := ?_) rfl (by kernel_rfl) (by kernel_rfl) (by kernel_rfl) (by kernel_rfl) (fun _ _ _ h => h) (by rfl) hS ?_ ?_
  rotate_left
  · intro wS hSw
    try dsimp only at hSw
    first | (go_simp; done) | (go_simp; with_reducible rfl)
  try simp only [Act.put, List.getElem_toArray, List.getElem_cons_zero, List.getElem_cons_succ, List.setIfInBounds_toArray, List.set_cons_zero, List.set_cons_succ]
  refine upto_take (i := 4) (v := ?_) rfl (by kernel_rfl) (by kernel_rfl) (by kernel_rfl) (by kernel_rfl) (fun _ _ _ h => h) (by rfl) hS ?_ ?_
  rotate_left
  · intro wS hSw
    try dsimp only at hSw
    first | (go_simp; done) | (go_simp; with_reducible rfl)
  try simp only [Act.put, List.getElem_toArray, List.getElem_cons_zero, List.getElem_cons_succ, List.setIfInBounds_toArray, List.set_cons_zero, List.set_cons_succ]
  refine upto_take (i := 6) (v := ?_) rfl (by kernel_rfl) (by kernel_rfl) (by kernel_rfl) (by kernel_rfl) (fun _ _ _ h => h) (by rfl) hS ?_ ?_
  rotate_left
  · intro wS hSw
    try dsimp only at hSw
    first | (go_simp; done) | (go_simp; with_reducible rfl)
  try simp only [Act.put, List.getElem_toArray, List.getElem_cons_zero, List.getElem_cons_succ, List.setIfInBounds_toArray, List.set_cons_zero, List.set_cons_succ]
  refine upto_take (i := 7) (v := ?_) rfl (by kernel_rfl) (by kernel_rfl) (by kernel_rfl) (by kernel_rfl) (fun _ _ _ h => h) (by rfl) hS ?_ ?_
  rotate_left
  · intro wS hSw
    try dsimp only at hSw
    first | (go_simp; done) | (go_simp; with_reducible rfl)
  try simp only [Act.put, List.getElem_toArray, List.getElem_cons_zero, List.getElem_cons_succ, List.setIfInBounds_toArray, List.set_cons_zero, List.set_cons_succ]
  refine upto_take (i := 8) (v := ?_) rfl (by kernel_rfl) (by kernel_rfl) (by kernel_rfl) (by kernel_rfl) (fun _ _ _ h => h) (by rfl) hS ?_ ?_
  rotate_left
  · intro wS hSw
    try dsimp only at hSw
    first | (go_simp; done) | (go_simp; with_reducible rfl)
  try simp only [Act.put, List.getElem_toArray, List.getElem_cons_zero, List.getElem_cons_succ, List.setIfInBounds_toArray, List.set_cons_zero, List.set_cons_succ]
  refine upto_take (i := 10) (v := ?_) rfl (by kernel_rfl) (by kernel_rfl) (by kernel_rfl) (by kernel_rfl) (fun _ _ _ h => h) (by rfl) hS ?_ ?_
  rotate_left
  · intro wS hSw
    try dsimp only at hSw
    first | (go_simp; done) | (go_simp; with_reducible rfl)
  try simp only [Act.put, List.getElem_toArray, List.getElem_cons_zero, List.getElem_cons_succ, List.setIfInBounds_toArray, List.set_cons_zero, List.set_cons_succ]
  refine upto_take (i := 11) (v := ?_) rfl (by kernel_rfl) (by kernel_rfl) (by kernel_rfl) (by kernel_rfl) (fun _ _ _ h => h) (by rfl) hS ?_ ?_
  rotate_left
  · intro wS hSw
    try dsimp only at hSw
    first | (go_simp; done) | (go_simp; with_reducible rfl)
  try simp only [Act.put, List.getElem_toArray, List.getElem_cons_zero, List.getElem_cons_succ, List.setIfInBounds_toArray, List.set_cons_zero, List.set_cons_succ]
  refine upto_take (i := 12) (v := ?_) rfl (by kernel_rfl) (by kernel_rfl) (by kernel_rfl) (by kernel_rfl) (fun _ _ _ h => h) (by rfl) hS ?_ ?_
  rotate_left
  · intro wS hSw
    try dsimp only at hSw
    first | (go_simp; done) | (go_simp; with_reducible rfl)
  try simp only [Act.put, List.getElem_toArray, List.getElem_cons_zero, List.getElem_cons_succ, List.setIfInBounds_toArray, List.set_cons_zero, List.set_cons_succ]
  have hs0 : Src (w.heap.size + 1) (w2.alloc (.cells #[.slice a1 d.synced.length c1, .slice a2 d.loose.length c2] 34)).drew (w.heap.size + 1) a cs.length cap t2 := hs2.below (by (repeat (first | exact Below.refl _ _ | assumption | refine Below.drew ?_ | refine balloc ?_ _ | refine bset ?_ (by simp; omega) _ | refine bset ?_ (by simp) _ | refine bstep ?_ (by assumption))))
  have hO0 : loggR.O (w2.alloc (.cells #[.slice a1 d.synced.length c1, .slice a2 d.loose.length c2] 34)).drew w1.heap.size F2 (.agg #[.slice a1 d.synced.length c1, .slice a2 d.loose.length c2]) d := loggR.keep ho2 (by (repeat (first | exact Below.refl _ _ | assumption | refine Below.drew ?_ | refine balloc ?_ _ | refine bset ?_ (by simp; omega) _ | refine bset ?_ (by simp) _ | refine bstep ?_ (by assumption))))
  have q0 : (w2.alloc (.cells #[.slice a1 d.synced.length c1, .slice a2 d.loose.length c2] 34)).drew.cell? ⟨w.heap.size, 0, none⟩ = some (.slice none 0 0) := cell_keep (by (repeat (first | exact Below.refl _ _ | assumption | refine Below.drew ?_ | refine balloc ?_ _ | refine bset ?_ (by simp; omega) _ | refine bset ?_ (by simp) _ | refine bstep ?_ (by assumption)))) r0
  have q1 : (w2.alloc (.cells #[.slice a1 d.synced.length c1, .slice a2 d.loose.length c2] 34)).drew.cell? ⟨w.heap.size, 1, none⟩ = some (.slice none 0 0) := cell_keep (by (repeat (first | exact Below.refl _ _ | assumption | refine Below.drew ?_ | refine balloc ?_ _ | refine bset ?_ (by simp; omega) _ | refine bset ?_ (by simp) _ | refine bstep ?_ (by assumption)))) r1
  have qf : ∀ o, (w2.alloc (.cells #[.slice a1 d.synced.length c1, .slice a2 d.loose.length c2] 34)).drew.frozen? ⟨w.heap.size, o, none⟩ = false := fun o => by rw [(bcell (W := w2) (by (repeat (first | exact Below.refl _ _ | assumption | refine Below.drew ?_ | refine balloc ?_ _ | refine bset ?_ (by simp; omega) _ | refine bset ?_ (by simp) _ | refine bstep ?_ (by assumption))))).2 _ _ (by omega)]; exact rf o
  have zz : w2.heap.size < (w2.alloc (.cells #[.slice a1 d.synced.length c1, .slice a2 d.loose.length c2] 34)).drew.heap.size := by simp
  generalize (w2.alloc (.cells #[.slice a1 d.synced.length c1, .slice a2 d.loose.length c2] 34)).drew = W0 at *
  clear r0 r1 rf ho2 hs2
  refine upto_step (i := 5) (by kernel_rfl) rfl ?_
  intro K hK
  go_simp
  refine (l1Next_any (w.heap.size + 1) W0 (w.heap.size + 1) a cs.length cap (t2) (d.loose.length + 1) hs0 (by omega) (by omega) (by omega)).mono ?_
  rintro e W1 ⟨g1, rfl, _, hs, hm⟩
  have hS' : (fun w' => Below w.heap.size w w' ∧ w'.cell? ⟨w2.heap.size, 0, none⟩ = some (.slice a1 d.synced.length c1) ∧ w'.cell? ⟨w2.heap.size, 1, none⟩ = some (.slice a2 d.loose.length c2)) W1 := ⟨hm.below hS.1 hS.1.size (fun b hb => by omega), hm.cell hS.2.1 (fun e => by dsimp only at e; omega), hm.cell hS.2.2 (fun e => by dsimp only at e; omega)⟩
  replace hO0 := loggR.mod hO0 hm (fun b hb e => by have := (hrg b hb).1; omega)
  replace q0 := hm.cell q0 (fun e => by dsimp only at e; omega)
  replace q1 := hm.cell q1 (fun e => by dsimp only at e; omega)
  replace qf : ∀ o, W1.frozen? ⟨w.heap.size, o, none⟩ = false := fun o => by rw [hm.frozenAt (a := ⟨w.heap.size, o, none⟩) (by dsimp only; omega) (fun e => by dsimp only at e; omega)]; exact qf o
  replace zz : w2.heap.size < W1.heap.size := Nat.lt_of_lt_of_le zz hm.size
  refine hK _ _ (fun _ => hS') ?_
  clear hK K hm hs0 hS
  have hs0 := hs
  have hS := hS'
  clear hs hS'
  try simp only [Act.put, List.getElem_toArray, List.getElem_cons_zero, List.getElem_cons_succ, List.setIfInBounds_toArray, List.set_cons_zero, List.set_cons_succ]
  refine upto_step (i := 9) (by kernel_rfl) rfl ?_
  intro K hK
  go_simp
  refine (l1Next_any (w.heap.size + 1) W1 (w.heap.size + 1) a cs.length cap (t2 + 1) (d.loose.length + 1) hs0 (by omega) (by omega) (by omega)).mono ?_
  rintro e W2 ⟨g2, rfl, _, hs, hm⟩
  have hS' : (fun w' => Below w.heap.size w w' ∧ w'.cell? ⟨w2.heap.size, 0, none⟩ = some (.slice a1 d.synced.length c1) ∧ w'.cell? ⟨w2.heap.size, 1, none⟩ = some (.slice a2 d.loose.length c2)) W2 := ⟨hm.below hS.1 hS.1.size (fun b hb => by omega), hm.cell hS.2.1 (fun e => by dsimp only at e; omega), hm.cell hS.2.2 (fun e => by dsimp only at e; omega)⟩
  replace hO0 := loggR.mod hO0 hm (fun b hb e => by have := (hrg b hb).1; omega)
  replace q0 := hm.cell q0 (fun e => by dsimp only at e; omega)
  replace q1 := hm.cell q1 (fun e => by dsimp only at e; omega)
  replace qf : ∀ o, W2.frozen? ⟨w.heap.size, o, none⟩ = false := fun o => by rw [hm.frozenAt (a := ⟨w.heap.size, o, none⟩) (by dsimp only; omega) (fun e => by dsimp only at e; omega)]; exact qf o
  replace zz : w2.heap.size < W2.heap.size := Nat.lt_of_lt_of_le zz hm.size
  refine hK _ _ (fun _ => hS') ?_
  clear hK K hm hs0 hS
  have hs0 := hs
  have hS := hS'
  clear hs hS'
  try simp only [Act.put, List.getElem_toArray, List.getElem_cons_zero, List.getElem_cons_succ, List.setIfInBounds_toArray, List.set_cons_zero, List.set_cons_succ]
  refine upto_step (i := 13) (by kernel_rfl) rfl ?_
  intro K hK
  go_simp
  have hSa : (fun w' => Below w.heap.size w w' ∧ w'.cell? ⟨w2.heap.size, 0, none⟩ = some (.slice a1 d.synced.length c1) ∧ w'.cell? ⟨w2.heap.size, 1, none⟩ = some (.slice a2 d.loose.length c2)) (W2.alloc (.cells #[.int .i64 (g1 : Int), .int .i64 (g2 : Int), .int .i64 0, .int .i64 (d.loose.length : Int), .int .i64 ((d.loose.length : Int) + 1), .int .i64 (-1)] 2)) := ⟨balloc hS.1 _, cell_keep (by (repeat (first | exact Below.refl _ _ | assumption | refine Below.drew ?_ | refine balloc ?_ _ | refine bset ?_ (by simp; omega) _ | refine bset ?_ (by simp) _ | refine bstep ?_ (by assumption)))) hS.2.1, cell_keep (by (repeat (first | exact Below.refl _ _ | assumption | refine Below.drew ?_ | refine balloc ?_ _ | refine bset ?_ (by simp; omega) _ | refine bset ?_ (by simp) _ | refine bstep ?_ (by assumption)))) hS.2.2⟩
  refine hK _ _ (fun _ => hSa) ?_
  clear hK K
  try simp only [Act.put, List.getElem_toArray, List.getElem_cons_zero, List.getElem_cons_succ, List.setIfInBounds_toArray, List.set_cons_zero, List.set_cons_succ]
  refine upto_step (i := 14) (by kernel_rfl) rfl ?_
  intro K hK
  go_simp
  refine (l1Pick_any (w.heap.size + 1) _ (w.heap.size + 1) a cs.length cap (t2 + 1 + 1) W2.heap.size 6 [(g1 : Int), (g2 : Int), 0, (d.loose.length : Int), (d.loose.length : Int) + 1, -1] (hs0.below (by (repeat (first | exact Below.refl _ _ | assumption | refine Below.drew ?_ | refine balloc ?_ _ | refine bset ?_ (by simp; omega) _ | refine bset ?_ (by simp) _ | refine bstep ?_ (by assumption))))) (by omega) (by omega) (by simp) (by simp) ?_).mono ?_
  · intro i hi
    match i, hi with
    | 0, _ => simp [go_sem]
    | 1, _ => simp [go_sem]
    | 2, _ => simp [go_sem]
    | 3, _ => simp [go_sem]
    | 4, _ => simp [go_sem]
    | 5, _ => simp [go_sem]
  rintro e W3 ⟨kk, rfl, _, _, hm⟩
  have hS3 : (fun w' => Below w.heap.size w w' ∧ w'.cell? ⟨w2.heap.size, 0, none⟩ = some (.slice a1 d.synced.length c1) ∧ w'.cell? ⟨w2.heap.size, 1, none⟩ = some (.slice a2 d.loose.length c2)) W3 := ⟨hm.below hSa.1 hSa.1.size (fun b hb => by omega), hm.cell hSa.2.1 (fun e => by dsimp only at e; omega), hm.cell hSa.2.2 (fun e => by dsimp only at e; omega)⟩
  replace hO0 := loggR.mod (loggR.alloc hO0 _) hm (fun b hb e => by have := (hrg b hb).1; omega)
  replace q0 := hm.cell (cell_keep (by (repeat (first | exact Below.refl _ _ | assumption | refine Below.drew ?_ | refine balloc ?_ _ | refine bset ?_ (by simp; omega) _ | refine bset ?_ (by simp) _ | refine bstep ?_ (by assumption)))) q0) (fun e => by dsimp only at e; omega)
  replace q1 := hm.cell (cell_keep (by (repeat (first | exact Below.refl _ _ | assumption | refine Below.drew ?_ | refine balloc ?_ _ | refine bset ?_ (by simp; omega) _ | refine bset ?_ (by simp) _ | refine bstep ?_ (by assumption)))) q1) (fun e => by dsimp only at e; omega)
  replace qf : ∀ o, W3.frozen? ⟨w.heap.size, o, none⟩ = false := fun o => by rw [hm.frozenAt (a := ⟨w.heap.size, o, none⟩) (by simp; omega) (fun e => by dsimp only at e; omega), (bcell (W := W2) (by (repeat (first | exact Below.refl _ _ | assumption | refine Below.drew ?_ | refine balloc ?_ _ | refine bset ?_ (by simp; omega) _ | refine bset ?_ (by simp) _ | refine bstep ?_ (by assumption))))).2 _ _ (by omega)]; exact qf o
  have x0 := hS3.2.1
  have x1 := hS3.2.2
  have hB3 := hS3.1
  refine hK _ _ (fun _ => hS3) ?_
  clear hK K hm hs0 hS hSa
  try simp only [Act.put, List.getElem_toArray, List.getElem_cons_zero, List.getElem_cons_succ, List.setIfInBounds_toArray, List.set_cons_zero, List.set_cons_succ]
  refine upto_step (i := 15) (by kernel_rfl) rfl ?_
  intro K hK
  go_simp
  refine hK _ _ (fun _ => ⟨by (repeat (first | exact Below.refl _ _ | assumption | refine Below.drew ?_ | refine balloc ?_ _ | refine bset ?_ (by simp; omega) _ | refine bset ?_ (by simp) _ | refine bstep ?_ (by assumption))), ?_, ?_⟩) ?_
  · rw [set_other (by first | (simp; done) | (simp; omega)), set_other (by first | (simp; done) | (simp; omega))]; exact x0
  · rw [set_other (by first | (simp; done) | (simp; omega)), set_other (by first | (simp; done) | (simp; omega))]; exact x1
  clear hK K
  try simp only [Act.put, List.getElem_toArray, List.getElem_cons_zero, List.getElem_cons_succ, List.setIfInBounds_toArray, List.set_cons_zero, List.set_cons_succ]
  refine upto_step (i := 16) (by kernel_rfl) rfl ?_
  intro K hK
  go_simp
  refine hK _ _ (fun h => absurd rfl h) ?_
  clear hK K
  refine upto_done (by kernel_rfl) ?_
  refine NoPanic.normal ?_
  clear hS3
  have hV : loggR.V ((W3.setCell ⟨w.heap.size, 0, none⟩ (.slice a1 d.synced.length c1)).setCell ⟨w.heap.size, 1, none⟩ (.slice a2 d.loose.length c2)) (.agg #[.slice a1 d.synced.length c1, .slice a2 d.loose.length c2]) d := loggR.ofO (loggR.set (loggR.set hO0 _ (by dsimp only; omega)) _ (by dsimp only; omega))
  clear hO0
  go_wp2
  refine bodyPost_ret (v := .tuple #[.agg #[.slice a1 d.synced.length c1, .slice a2 d.loose.length c2], .int .i64 kk]) ?_ rfl ?_
  · simp [results, Try.results12, go_sem, q0, q1]
  · first | exact ⟨_, kk, d, rfl, hV, hwt, by (repeat (first | exact Below.refl _ _ | assumption | refine Below.drew ?_ | refine balloc ?_ _ | refine bset ?_ (by simp; omega) _ | refine bset ?_ (by simp) _ | refine bstep ?_ (by assumption)))⟩ | exact ⟨_, rfl, d, hV, hwt, by (repeat (first | exact Below.refl _ _ | assumption | refine Below.drew ?_ | refine balloc ?_ _ | refine bset ?_ (by simp; omega) _ | refine bset ?_ (by simp) _ | refine bstep ?_ (by assumption)))⟩ | exact ⟨_, kk, rfl, d, hV, hwt, by (repeat (first | exact Below.refl _ _ | assumption | refine Below.drew ?_ | refine balloc ?_ _ | refine bset ?_ (by simp; omega) _ | refine bset ?_ (by simp) _ | refine bstep ?_ (by assumption)))⟩

end Go.Proofs.Ytfeolikagceohaa
