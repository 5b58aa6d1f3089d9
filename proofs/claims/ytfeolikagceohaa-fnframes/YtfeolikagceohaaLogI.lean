/-
  One more record in a log: the program's side.
-/
import Derived.Test.YtfeolikagceohaaLogH
namespace Go.Proofs.Ytfeolikagceohaa
open Go.RowKit
set_option linter.unusedSectionVars false
variable [DecidableEq Logg] [Inhabited Logg] [DecidableEq LoggR] [Inhabited LoggR] [DecidableEq BytesR] [Inhabited BytesR] [DecidableEq RecsR] [Inhabited RecsR] [DecidableEq Leg] [Inhabited Leg]
set_option linter.unusedSimpArgs false
attribute [local go_sem ↓] Go.wp_at_zero Go.wp_at_succ

/-- the operations of AppendLog's region, and what each yields -/
def appG (d : Logg) (fs : List Byte) (a1 a2 a3 : Option Addr) (c1 c2 c3 : Nat) : Nat → (Nat → Value) → Nat → Nat → World → Prop
  | 2, y, lo, _, w => y 25 = .slice (some ⟨lo, 0, none⟩) 1 1 ∧ w.cell? ⟨lo, 0, none⟩ = some (.slice a1 d.synced.length c1)
  | 3, y, lo, hi, w => (∃ a c, y 26 = .slice a d.synced.length c) ∧ ∃ F, bytesR.O w lo F (y 26) d.synced ∧ ∀ b, F b → b < hi
  | 8, y, lo, _, w => y 31 = .slice (some ⟨lo, 0, none⟩) 2 2 ∧ w.cell? ⟨lo, 0, none⟩ = some (.slice a2 d.loose.length c2) ∧ w.cell? ⟨lo, 1, none⟩ = some (.slice a3 fs.length c3)
  | 9, y, lo, hi, w => (∃ a c, y 32 = .slice a (d.loose.length + fs.length) c) ∧ ∃ F, bytesR.O w lo F (y 32) (d.loose ++ fs) ∧ ∀ b, F b → b < hi
  | 10, y, _, _, _ => y 33 = .agg #[y 26, y 32]
  | 11, y, lo, hi, w => y 7 = .pointer (some ⟨lo, 0, none⟩) ∧ lo < hi ∧ w.cell? ⟨lo, 0, none⟩ = some (.slice none 0 0) ∧ w.cell? ⟨lo, 1, none⟩ = some (.slice none 0 0) ∧ ∀ o, w.frozen? ⟨lo, o, none⟩ = false
  | _, _, _, _, _ => True

set_option maxHeartbeats 4000000 in
theorem implApp_u (x : Value) (d : Logg) (y : Value) (xs : List Byte) (w : World) (hx : loggR.V w x d) (hn : wtLogg d ≤ 1048576) (hy : bytesR.V w y xs) :
    Calls Try.prog 19 #[x, y] w fun e w' => ∃ v F, e = .returned v ∧ loggRR.O w' w.heap.size F v (appD d xs) ∧ Below w.heap.size w w' := by
  have hX := hx
  obtain ⟨a1, a2, c1, c2, rfl⟩ := logg_form hx
  obtain ⟨ay, cy, rfl⟩ := bytes_form hy
  go_enter Try.func19, Try.ntmps19
  go_wp2_with fail
  refine (implLogF_any _ d _ (loggR.below hX (by (repeat (first | exact Below.refl _ _ | assumption | refine Below.drew ?_ | refine balloc ?_ _ | refine bset ?_ (by simp; omega) _ | refine bset ?_ (by simp) _ | refine bstep ?_ (by assumption))))) hn).mono ?_
  rintro e w1 ⟨rfl, hb1⟩
  have x0 : w1.cell? ⟨w.heap.size, 0, none⟩ = some (.slice a1 d.synced.length c1) := cell_keep hb1 (by simp [go_sem])
  have x1 : w1.cell? ⟨w.heap.size, 1, none⟩ = some (.slice a2 d.loose.length c2) := cell_keep hb1 (by simp [go_sem])
  have r0 : w1.cell? ⟨w.heap.size + 1, 0, none⟩ = some (.int .i64 0) := cell_keep hb1 (by simp [go_sem])
  have r1 : w1.cell? ⟨w.heap.size + 1, 1, none⟩ = some (.slice none 0 0) := cell_keep hb1 (by simp [go_sem])
  have r2 : w1.cell? ⟨w.heap.size + 1, 2, none⟩ = some (.slice none 0 0) := cell_keep hb1 (by simp [go_sem])
  have rf : ∀ o, w1.frozen? ⟨w.heap.size + 1, o, none⟩ = false := fun o => by rw [(bcell hb1).2 _ _ (by simp)]; simp [go_sem]
  have s1 := hb1.size
  simp only [World.size_alloc] at s1
  have hB1 : Below w.heap.size w w1 := by (repeat (first | exact Below.refl _ _ | assumption | refine Below.drew ?_ | refine balloc ?_ _ | refine bset ?_ (by simp; omega) _ | refine bset ?_ (by simp) _ | refine bstep ?_ (by assumption)))
  clear hb1
  have z0 : w.heap.size < w1.heap.size := by omega
  have z1 : w.heap.size + 1 < w1.heap.size := by omega
  rcases logF_cases d with ⟨h0, hl⟩ | h0
  rotate_left
  · have HD : Hid (appD d xs = codeD 2) := by unfold Hid appD; rw [if_neg (by omega)]
    rw [h0]
    go_wp2
    refine bodyPost_ret (v := .agg #[.int .i64 2, .slice none 0 0, .slice none 0 0]) ?_ rfl ?_
    · simp [results, Try.results19, go_sem, r0, r1, r2]
    · rw [HD.out]
      exact ⟨_, none_, rfl, loggR_code _ _ _, by (repeat (first | exact Below.refl _ _ | assumption | refine Below.drew ?_ | refine balloc ?_ _ | refine bset ?_ (by simp; omega) _ | refine bset ?_ (by simp) _ | refine bstep ?_ (by assumption)))⟩
  rw [h0]
  have hXw := loggR.below hX hB1
  clear hX hx
  have hY := bytesR.below hy hB1
  clear hy
  have h2m : ∀ W : World, Below w1.heap.size w1 W → bytesR.V W (.slice ay xs.length cy) xs := fun W hW => bytesR.below hY hW
  go_wp2_with fail
  refine (implFrame_u _ xs _ hY).mono ?_
  rintro e w2 ⟨v, F, rfl, ho, hb⟩
  have hB2 : Below w.heap.size w w2 := bstep hB1 hb
  have ofm := bytesRR.ofO ho
  by_cases h5 : 1 ≤ xs.length ∧ xs.length ≤ 500
  rotate_left
  · have HD : Hid (appD d xs = codeD 2) := by unfold Hid appD; rw [if_pos h0, if_neg h5]
    have hfd : frameD xs = ⟨2, []⟩ := if_neg h5
    rw [hfd] at ofm
    obtain ⟨a3, c3, rfl⟩ := bytesR_form ofm
    have qx0 := cell_keep hb x0
    have qx1 := cell_keep hb x1
    have qr0 := cell_keep hb r0
    have qr1 := cell_keep hb r1
    have qr2 := cell_keep hb r2
    have qrf := (boxKeep ⟨rf, z1⟩ hb).1
    have qz0 := Nat.lt_of_lt_of_le z0 hb.size
    have qz1 := Nat.lt_of_lt_of_le z1 hb.size
    clear x0 x1 r0 r1 r2 rf z0 z1
    clear ho hb hB1 hXw ofm h2m hY
    go_wp2
    refine bodyPost_ret (v := .agg #[.int .i64 2, .slice none 0 0, .slice none 0 0]) ?_ rfl ?_
    · simp [results, Try.results19, go_sem, qr0, qr1, qr2, qz1]
    · rw [HD.out]
      exact ⟨_, none_, rfl, loggR_code _ _ _, by (repeat (first | exact Below.refl _ _ | assumption | refine Below.drew ?_ | refine balloc ?_ _ | refine bset ?_ (by simp; omega) _ | refine bset ?_ (by simp) _ | refine bstep ?_ (by assumption)))⟩
  have hfd : frameD xs = ⟨0, frameB xs⟩ := if_pos h5
  rw [hfd] at ofm
  obtain ⟨u3, e3, V3⟩ := ofm
  subst e3
  obtain ⟨a3, c3, rfl⟩ := bytes_form V3
  have qx0 := cell_keep hb x0
  have qx1 := cell_keep hb x1
  have qr0 := cell_keep hb r0
  have qr1 := cell_keep hb r1
  have qr2 := cell_keep hb r2
  have qrf := (boxKeep ⟨rf, z1⟩ hb).1
  have qz0 := Nat.lt_of_lt_of_le z0 hb.size
  have qz1 := Nat.lt_of_lt_of_le z1 hb.size
  clear x0 x1 r0 r1 r2 rf z0 z1
  have hW2 := hb
  clear ho hb
  clear h2m hY
  obtain ⟨u1, u2, e, V1, V2⟩ := hXw
  simp only [Value.agg.injEq, Array.mk.injEq, List.cons.injEq, and_true] at e
  obtain ⟨rfl, rfl⟩ := e
  replace V1 := bytesR.below V1 hW2
  replace V2 := bytesR.below V2 hW2
  have hf2 : (frameB xs).length ≤ 504 := by rw [length_frameB]; omega
  obtain ⟨fs, hfs⟩ : ∃ fs, frameB xs = fs := ⟨_, rfl⟩
  have HFS : Hid (frameB xs = fs) := hfs
  rw [hfs] at V3 hf2 ⊢
  clear hfs hfd hW2
  go_wp2
  refine wp_region_noPanic ?_
  refine region_upto (fun w' => Below w.heap.size w w' ∧ w'.cell? ⟨w.heap.size, 0, none⟩ = some (.slice a1 d.synced.length c1) ∧ w'.cell? ⟨w.heap.size, 1, none⟩ = some (.slice a2 d.loose.length c2) ∧ w'.cell? ⟨w2.heap.size, 1, none⟩ = some (.slice a3 fs.length c3)) 12 (by kernel_rfl) ⟨by (repeat (first | exact Below.refl _ _ | assumption | refine Below.drew ?_ | refine balloc ?_ _ | refine bset ?_ (by simp; omega) _ | refine bset ?_ (by simp) _ | refine bstep ?_ (by assumption))), cell_keep (by (repeat (first | exact Below.refl _ _ | assumption | refine Below.drew ?_ | refine balloc ?_ _ | refine bset ?_ (by simp; omega) _ | refine bset ?_ (by simp) _ | refine bstep ?_ (by assumption)))) qx0, cell_keep (by (repeat (first | exact Below.refl _ _ | assumption | refine Below.drew ?_ | refine balloc ?_ _ | refine bset ?_ (by simp; omega) _ | refine bset ?_ (by simp) _ | refine bstep ?_ (by assumption)))) qx1, by simp [go_sem]⟩ (fun hS => ?_)
  refine upto_take (i := 0) (v := ?_) rfl (by kernel_rfl) (by kernel_rfl) (by kernel_rfl) (by kernel_rfl) (fun _ _ _ h => h) (by rfl) hS ?_ ?_
  rotate_left
  · intro wS hSw
    try dsimp only at hSw
    first | (go_simp; done) | (go_simp; with_reducible rfl)
  try simp only [Act.put, List.getElem_toArray, List.getElem_cons_zero, List.getElem_cons_succ, List.setIfInBounds_toArray, List.set_cons_zero, List.set_cons_succ]
  refine upto_take (i := 1) (v := ?_) rfl (by kernel_rfl) (by kernel_rfl) (by kernel_rfl) (by kernel_rfl) (fun _ _ _ h => h) (by rfl) hS ?_ ?_
  rotate_left
  · intro wS hSw
    try dsimp only at hSw
    first | (go_simp; done) | (go_simp; with_reducible rfl)
  try simp only [Act.put, List.getElem_toArray, List.getElem_cons_zero, List.getElem_cons_succ, List.setIfInBounds_toArray, List.set_cons_zero, List.set_cons_succ]
  refine upto_take (i := 4) (v := ?_) rfl (by kernel_rfl) (by kernel_rfl) (by kernel_rfl) (by kernel_rfl) (fun _ _ _ h => h) (by rfl) hS ?_ ?_
  rotate_left
  · intro wS hSw
    try dsimp only at hSw
    first | (go_simp; done) | (go_simp; with_reducible rfl)
  try simp only [Act.put, List.getElem_toArray, List.getElem_cons_zero, List.getElem_cons_succ, List.setIfInBounds_toArray, List.set_cons_zero, List.set_cons_succ]
  refine upto_take (i := 5) (v := ?_) rfl (by kernel_rfl) (by kernel_rfl) (by kernel_rfl) (by kernel_rfl) (fun _ _ _ h => h) (by rfl) hS ?_ ?_
  rotate_left
  · intro wS hSw
    try dsimp only at hSw
    first | (go_simp; done) | (go_simp; with_reducible rfl)
  try simp only [Act.put, List.getElem_toArray, List.getElem_cons_zero, List.getElem_cons_succ, List.setIfInBounds_toArray, List.set_cons_zero, List.set_cons_succ]
  refine upto_take (i := 6) (v := ?_) rfl (by kernel_rfl) (by kernel_rfl) (by kernel_rfl) (by kernel_rfl) (fun _ _ _ h => h) (by rfl) hS ?_ ?_
  rotate_left
  · intro wS hSw
    try dsimp only at hSw
    first | (go_simp; done) | (go_simp; with_reducible rfl)
  try simp only [Act.put, List.getElem_toArray, List.getElem_cons_zero, List.getElem_cons_succ, List.setIfInBounds_toArray, List.set_cons_zero, List.set_cons_succ]
  refine upto_take (i := 7) (v := ?_) rfl (by kernel_rfl) (by kernel_rfl) (by kernel_rfl) (by kernel_rfl) (fun _ _ _ h => h) (by rfl) hS ?_ ?_
  rotate_left
  · intro wS hSw
    try dsimp only at hSw
    first | (go_simp; done) | (go_simp; with_reducible rfl)
  try simp only [Act.put, List.getElem_toArray, List.getElem_cons_zero, List.getElem_cons_succ, List.setIfInBounds_toArray, List.set_cons_zero, List.set_cons_succ]
  have hb0 : Below w2.heap.size w2 (w2.alloc (.cells #[.int .i64 0, .slice a3 fs.length c3] 27)).drew := by (repeat (first | exact Below.refl _ _ | assumption | refine Below.drew ?_ | refine balloc ?_ _ | refine bset ?_ (by simp; omega) _ | refine bset ?_ (by simp) _ | refine bstep ?_ (by assumption)))
  have hs0 : w.heap.size + 2 ≤ ((w2.alloc (.cells #[.int .i64 0, .slice a3 fs.length c3] 27)).drew).heap.size := by simp; omega
  generalize (w2.alloc (.cells #[.int .i64 0, .slice a3 fs.length c3] 27)).drew = W0 at *
  refine upto_stable' [(2, 25), (3, 26), (8, 31), (9, 32), (10, 33), (11, 7)] (appG d fs a1 a2 a3 c1 c2 c3) (by kernel_rfl) hS (fun W W' h hb => ⟨bstep h.1 hb, cell_keep hb h.2.1, cell_keep hb h.2.2.1, cell_keep hb h.2.2.2⟩) ?_ ?_ ?_
  · intro p hp
    simp only [List.mem_cons, List.not_mem_nil, or_false] at hp
    rcases hp with rfl | rfl | rfl | rfl | rfl | rfl
    · intro y y' lo hi W W' h hi' hb e _
      simp only [appG] at h ⊢
      rw [e]
      exact ⟨h.1, cell_keep hb h.2⟩
    · intro y y' lo hi W W' h hi' hb e _
      simp only [appG] at h ⊢
      rw [e]
      obtain ⟨h1, F, h2, h3⟩ := h
      exact ⟨h1, F, bytesR.keep h2 hb, h3⟩
    · intro y y' lo hi W W' h hi' hb e _
      simp only [appG] at h ⊢
      rw [e]
      exact ⟨h.1, cell_keep hb h.2.1, cell_keep hb h.2.2⟩
    · intro y y' lo hi W W' h hi' hb e _
      simp only [appG] at h ⊢
      rw [e]
      obtain ⟨h1, F, h2, h3⟩ := h
      exact ⟨h1, F, bytesR.keep h2 hb, h3⟩
    · intro y y' lo hi W W' h hi' hb e he
      have e0 := he (3, 26) (by simp) (by kernel_rfl)
      have e1 := he (9, 32) (by simp) (by kernel_rfl)
      simp only [appG] at h ⊢
      rw [e, e0, e1]
      exact h
    · intro y y' lo hi W W' h hi' hb e _
      simp only [appG] at h ⊢
      rw [e]
      exact ⟨h.1, h.2.1, cell_keep hb h.2.2.1, cell_keep hb h.2.2.2.1, fun o => by rw [(bcell hb).2 _ _ (Nat.lt_of_lt_of_le h.2.1 hi'.2.2)]; exact h.2.2.2.2 o⟩
  · intro p hp
    simp only [List.mem_cons, List.not_mem_nil, or_false] at hp
    rcases hp with rfl | rfl | rfl | rfl | rfl | rfl
    all_goals
      refine ⟨_, rfl, rfl, ?_⟩
      intro y W lo hi hSW hBW hd hap K hK
      clear hap
    · clear hd
      refine ⟨?_⟩
      simp only [over, Act.put, List.getElem_toArray, List.getElem_cons_zero, List.getElem_cons_succ, List.map_cons, List.map_nil, List.foldl_cons, List.foldl_nil, List.setIfInBounds_toArray, List.set_cons_zero, List.set_cons_succ] at hK ⊢
      go_simp
      refine hK _ _ (by (repeat (first | exact Below.refl _ _ | assumption | refine Below.drew ?_ | refine balloc ?_ _ | refine bset ?_ (by simp; omega) _ | refine bset ?_ (by simp) _ | refine bstep ?_ (by assumption)))) ?_
      simp only [appG, updV]
      exact ⟨rfl, by simp [go_sem]⟩
    · have g0 := (hd (2, 25) (by simp) (by kernel_rfl)).2
      clear hd
      simp only [appG] at g0
      refine ⟨?_⟩
      simp only [over, Act.put, List.getElem_toArray, List.getElem_cons_zero, List.getElem_cons_succ, List.map_cons, List.map_nil, List.foldl_cons, List.foldl_nil, List.setIfInBounds_toArray, List.set_cons_zero, List.set_cons_succ] at hK ⊢
      simp only [g0.1] at hK ⊢
      go_simp
      refine (joined_any _ [d.synced] _ (bytess1 g0.2 (bytesR.below V1 (bstep hb0 hBW))) (by simp; omega)).mono ?_
      rintro e w' ⟨v, F, rfl, o3, hb3⟩
      have e1 : [d.synced].flatten = d.synced := by simp
      rw [e1] at o3
      refine hK _ _ hb3 ?_
      simp only [appG, updV]
      obtain ⟨av, cv, hv⟩ := bytes_form (bytesR.ofO o3)
      exact ⟨⟨av, cv, by simpa using hv⟩, F, by simpa using o3, fun b hb => (bytesR.rng o3 b hb).2⟩
    · clear hd
      refine ⟨?_⟩
      simp only [over, Act.put, List.getElem_toArray, List.getElem_cons_zero, List.getElem_cons_succ, List.map_cons, List.map_nil, List.foldl_cons, List.foldl_nil, List.setIfInBounds_toArray, List.set_cons_zero, List.set_cons_succ] at hK ⊢
      go_simp
      refine hK _ _ (by (repeat (first | exact Below.refl _ _ | assumption | refine Below.drew ?_ | refine balloc ?_ _ | refine bset ?_ (by simp; omega) _ | refine bset ?_ (by simp) _ | refine bstep ?_ (by assumption)))) ?_
      simp only [appG, updV]
      exact ⟨rfl, by simp [go_sem], by simp [go_sem]⟩
    · have g0 := (hd (8, 31) (by simp) (by kernel_rfl)).2
      clear hd
      simp only [appG] at g0
      refine ⟨?_⟩
      simp only [over, Act.put, List.getElem_toArray, List.getElem_cons_zero, List.getElem_cons_succ, List.map_cons, List.map_nil, List.foldl_cons, List.foldl_nil, List.setIfInBounds_toArray, List.set_cons_zero, List.set_cons_succ] at hK ⊢
      simp only [g0.1] at hK ⊢
      go_simp
      refine (joined_any _ [d.loose, fs] _ (bytess2 g0.2.1 g0.2.2 (bytesR.below V2 (bstep hb0 hBW)) (bytesR.below V3 (bstep hb0 hBW))) (by simp; omega)).mono ?_
      rintro e w' ⟨v, F, rfl, o3, hb3⟩
      have e1 : [d.loose, fs].flatten = d.loose ++ fs := by simp
      rw [e1] at o3
      refine hK _ _ hb3 ?_
      simp only [appG, updV]
      obtain ⟨av, cv, hv⟩ := bytes_form (bytesR.ofO o3)
      exact ⟨⟨av, cv, by simpa using hv⟩, F, by simpa using o3, fun b hb => (bytesR.rng o3 b hb).2⟩
    · have g3 := (hd (3, 26) (by simp) (by kernel_rfl)).2
      have g7 := (hd (9, 32) (by simp) (by kernel_rfl)).2
      clear hd
      simp only [appG] at g3 g7
      obtain ⟨⟨a6, c6, e6⟩, _⟩ := g3
      obtain ⟨⟨a7, c7, e7⟩, _⟩ := g7
      refine ⟨?_⟩
      simp only [over, Act.put, List.getElem_toArray, List.getElem_cons_zero, List.getElem_cons_succ, List.map_cons, List.map_nil, List.foldl_cons, List.foldl_nil, List.setIfInBounds_toArray, List.set_cons_zero, List.set_cons_succ] at hK ⊢
      simp only [e6, e7] at hK ⊢
      go_simp
      refine hK _ _ (Below.refl _ _) ?_
      simp only [appG, updV]
      simp [e6, e7]
    · clear hd
      refine ⟨?_⟩
      simp only [over, Act.put, List.getElem_toArray, List.getElem_cons_zero, List.getElem_cons_succ, List.map_cons, List.map_nil, List.foldl_cons, List.foldl_nil, List.setIfInBounds_toArray, List.set_cons_zero, List.set_cons_succ] at hK ⊢
      go_simp
      refine hK _ _ (by (repeat (first | exact Below.refl _ _ | assumption | refine Below.drew ?_ | refine balloc ?_ _ | refine bset ?_ (by simp; omega) _ | refine bset ?_ (by simp) _ | refine bstep ?_ (by assumption)))) ?_
      simp only [appG, updV]
      exact ⟨rfl, by simp, by simp [go_sem], by simp [go_sem], fun o => by simp [go_sem]⟩
  · refine ⟨_, rfl, ?_⟩
    intro y W lo hi hSW hBW hd hap K hK
    have g3 := hd (3, 26) (by simp)
    have g9 := hd (9, 32) (by simp)
    have g10 := (hd (10, 33) (by simp)).2
    have g11 := hd (11, 7) (by simp)
    clear hd
    have p39 := hap (3, 26) (by simp) (9, 32) (by simp) (by simp)
    have p3b := hap (3, 26) (by simp) (11, 7) (by simp) (by simp)
    have p9b := hap (9, 32) (by simp) (11, 7) (by simp) (by simp)
    clear hap
    simp only [appG, Apart, InB] at g3 g9 g10 g11 p39 p3b p9b
    obtain ⟨b3, ⟨a6, c6, e6⟩, F1, o1, f1⟩ := g3
    obtain ⟨b9, ⟨a7, c7, e7⟩, F2, o2, f2⟩ := g9
    obtain ⟨b11, e11, hlh, k0, k1, kf⟩ := g11
    have hl1 : ∀ b, F1 b → lo 3 ≤ b := fun b hb => (bytesR.rng o1 b hb).1
    have hl2 : ∀ b, F2 b → lo 9 ≤ b := fun b hb => (bytesR.rng o2 b hb).1
    have hdis : ∀ b, F1 b → ¬ F2 b := fun b q1 q2 => by
      have := f1 b q1
      have := f2 b q2
      have := hl1 b q1
      have := hl2 b q2
      omega
    have hn1 : ¬ F1 (lo 11) := fun q => by
      have := f1 _ q
      have := hl1 _ q
      omega
    have hn2 : ¬ F2 (lo 11) := fun q => by
      have := f2 _ q
      have := hl2 _ q
      omega
    have hB11 : w.heap.size + 2 ≤ lo 11 := by omega
    have hW : Below w2.heap.size w2 W := bstep hb0 hBW
    replace o1 := bytesR.base (base' := w.heap.size + 2) o1 (by omega)
    replace o2 := bytesR.base (base' := w.heap.size + 2) o2 (by omega)
    rw [e6] at o1 g10
    rw [e7] at o2 g10
    have hBB := hSW.1
    have hlt : lo 11 < W.heap.size := by omega
    generalize lo 11 = B at *
    refine ⟨?_⟩
    simp only [over, Act.put, List.getElem_toArray, List.getElem_cons_zero, List.getElem_cons_succ, List.map_cons, List.map_nil, List.foldl_cons, List.foldl_nil, List.setIfInBounds_toArray, List.set_cons_zero, List.set_cons_succ]
    simp only [g10, e11]
    clear g10 e11 e6 e7 b3 b9 b11 p39 p3b p9b f1 f2 hl1 hl2 hS hSW hBW hb0 hs0
    go_simp
    refine hK _ _ ?_
    clear hK K
    refine NoPanic.normal ?_
    have t0 : ((W.setCell ⟨B, 0, none⟩ (.slice a6 d.synced.length c6)).setCell ⟨B, 1, none⟩ (.slice a7 (d.loose.length + fs.length) c7)).cell? ⟨B, 0, none⟩ = some (.slice a6 d.synced.length c6) := by rw [set_other (by simp)]; simpa using set_same k0
    have t1 : ((W.setCell ⟨B, 0, none⟩ (.slice a6 d.synced.length c6)).setCell ⟨B, 1, none⟩ (.slice a7 (d.loose.length + fs.length) c7)).cell? ⟨B, 1, none⟩ = some (.slice a7 (d.loose.length + fs.length) c7) := by simpa using set_same (by rw [set_other (by simp)]; exact k1)
    have hm5 : Mod (fun b => b = B) W ((W.setCell ⟨B, 0, none⟩ (.slice a6 d.synced.length c6)).setCell ⟨B, 1, none⟩ (.slice a7 (d.loose.length + fs.length) c7)) := (Mod.of_set W ⟨B, 0, none⟩ _).trans (Mod.of_set _ ⟨B, 1, none⟩ _)
    generalize (W.setCell ⟨B, 0, none⟩ (.slice a6 d.synced.length c6)).setCell ⟨B, 1, none⟩ (.slice a7 (d.loose.length + fs.length) c7) = W5 at *
    have n1 := bytesR.mod o1 hm5 (fun b hb e => hn1 (e ▸ hb))
    have n2 := bytesR.mod o2 hm5 (fun b hb e => hn2 (e ▸ hb))
    have hL : loggR.O W5 (w.heap.size + 2) (fun b => F1 b ∨ F2 b) (.agg #[.slice a6 d.synced.length c6, .slice a7 (d.loose.length + fs.length) c7]) ⟨d.synced, d.loose ++ fs⟩ := ⟨_, _, F1, F2, rfl, n1, n2, hdis, fun _ => Iff.rfl⟩
    have hB5 : Below w.heap.size w W5 := hm5.below hBB hBB.size (fun b hb => by omega)
    have m0 := hm5.cell (cell_keep hW qr0) (fun e => by dsimp only at e; omega)
    have m1 := hm5.cell (cell_keep hW qr1) (fun e => by dsimp only at e; omega)
    have m2 := hm5.cell (cell_keep hW qr2) (fun e => by dsimp only at e; omega)
    have mf : ∀ o, W5.frozen? ⟨w.heap.size + 1, o, none⟩ = false := fun o => by rw [hm5.frozenAt (a := ⟨w.heap.size + 1, o, none⟩) (by dsimp only; omega) (fun e => by dsimp only at e; omega), (bcell hW).2 _ _ qz1]; exact qrf o
    have hz5 : B < W5.heap.size := Nat.lt_of_lt_of_le hlt hm5.size
    clear o1 o2 n1 n2 hm5 hdis hn1 hn2 k0 k1 kf hW qx0 qx1 qr0 qr1 qr2 qrf V1 V2 V3 hBB
    go_wp2_with fail
    refine (implLogF_any _ ⟨d.synced, d.loose ++ fs⟩ _ (loggR.ofO hL) (by unfold wtLogg wtBytes; simp only [List.length_append]; omega)).mono ?_
    rintro e w6 ⟨rfl, hb6⟩
    have hB6 : Below w.heap.size w w6 := bstep hB5 hb6
    have hL6 := loggR.keep hL hb6
    have v0 := cell_keep hb6 t0
    have v1 := cell_keep hb6 t1
    have q0 := cell_keep hb6 m0
    have q1 := cell_keep hb6 m1
    have q2 := cell_keep hb6 m2
    have qf := (boxKeep ⟨mf, (by omega : w.heap.size + 1 < W5.heap.size)⟩ hb6).1
    clear hL t0 t1 m0 m1 m2 mf hb6 hB5
    rcases logF_cases ⟨d.synced, d.loose ++ fs⟩ with ⟨hc, hl2⟩ | hc
    · have HD : Hid (appD d xs = ⟨0, ⟨d.synced, d.loose ++ fs⟩⟩) := by unfold Hid appD; rw [if_pos h0, if_pos h5, HFS.out, if_pos hc]
      rw [hc]
      clear hc hl2
      go_wp2
      have HO2 := loggR_of hL6
      refine bodyPost_ret (v := .agg #[.int .i64 0, .slice a6 d.synced.length c6, .slice a7 (d.loose.length + fs.length) c7]) ?_ rfl ?_
      · simp [results, Try.results19, go_sem, q0, q1, q2]
      · first | refine ⟨_, fun b => F1 b ∨ F2 b, rfl, ?_, by (repeat (first | exact Below.refl _ _ | assumption | refine Below.drew ?_ | refine balloc ?_ _ | refine bset ?_ (by simp; omega) _ | refine bset ?_ (by simp) _ | refine bstep ?_ (by assumption)))⟩ | refine ⟨_, rfl, ⟨fun b => F1 b ∨ F2 b, ?_⟩, by (repeat (first | exact Below.refl _ _ | assumption | refine Below.drew ?_ | refine balloc ?_ _ | refine bset ?_ (by simp; omega) _ | refine bset ?_ (by simp) _ | refine bstep ?_ (by assumption)))⟩
        rw [HD.out]
        exact loggRR.base (base := w.heap.size + 2) (by (repeat (first | assumption | refine Rep.set _ ?_ _ (by simp; omega) | refine Rep.set _ ?_ _ (by simp) | refine Rep.alloc _ ?_ _ | refine Rep.keep _ ?_ (by assumption)))) (by omega)
    · have HD : Hid (appD d xs = codeD 2) := by unfold Hid appD; rw [if_pos h0, if_pos h5, HFS.out, if_neg (by omega)]
      rw [hc]
      clear hc
      go_wp2
      refine bodyPost_ret (v := .agg #[.int .i64 2, .slice none 0 0, .slice none 0 0]) ?_ rfl ?_
      · simp [results, Try.results19, go_sem, q0, q1, q2]
      · rw [HD.out]
        first | exact ⟨_, none_, rfl, loggR_code _ _ _, by (repeat (first | exact Below.refl _ _ | assumption | refine Below.drew ?_ | refine balloc ?_ _ | refine bset ?_ (by simp; omega) _ | refine bset ?_ (by simp) _ | refine bstep ?_ (by assumption)))⟩ | exact ⟨_, rfl, ⟨none_, loggR_code _ _ _⟩, by (repeat (first | exact Below.refl _ _ | assumption | refine Below.drew ?_ | refine balloc ?_ _ | refine bset ?_ (by simp; omega) _ | refine bset ?_ (by simp) _ | refine bstep ?_ (by assumption)))⟩

end Go.Proofs.Ytfeolikagceohaa
