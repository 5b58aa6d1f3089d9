import Derived.Test.YtgjpafalompecaaPrnSettlesLaw21
import Derived.Test.YtgjpafalompecaaPrnSettlesLaw20
import Derived.Shelf.SlSortCmp.WholeK
import Derived.Ground.SlsfProg
import Derived.Test.YtgjpafalompecaaProg

/-
  A contract drawn with something turned: the function. (Written by program: bnt_gen.py.)
-/
namespace Go.Proofs.Ytgjpafalompecaa
open Go.RowKit
set_option linter.unusedSectionVars false
variable [DecidableEq Logg] [Inhabited Logg] [DecidableEq LoggR] [Inhabited LoggR] [DecidableEq BytesR] [Inhabited BytesR] [DecidableEq RecsR] [Inhabited RecsR] [DecidableEq Leg] [Inhabited Leg] [DecidableEq Cont] [Inhabited Cont]
set_option linter.unusedVariables false
set_option linter.unusedSimpArgs false
attribute [local go_sem ↓] Go.wp_at_zero Go.wp_at_succ

set_option maxRecDepth 20000 in
set_option maxHeartbeats 16000000 in
theorem l1Bent_any (B : Nat) (w : World) (bs : Nat) (a : Option Addr) (k cap t : Nat) (h : Src B w bs a k cap t) (ht : t ≤ 900) :
    Calls Try.prog 39 #[.pointer (some ⟨bs, 0, none⟩)] w fun e w' => ∃ id v F xs t', e = .returned (.agg #[.int .i64 id, v]) ∧ legsR.O w' w.heap.size F v xs ∧ xs.length ≤ 9 ∧ Src B w' bs a k cap t' ∧ t' ≤ t + 30 ∧ Mod (fun b => b = bs) w w' := by
  have hlt := h.lt
  have hne : w.heap.size ≠ bs := by omega
  obtain ⟨i0, hi, hz0, hz1, hz2⟩ := info_parts infoLeg
  go_enter Try.func39, Try.ntmps39
  go_wp2_with fail
  refine (l1Next_any B _ bs a k cap t 9 (h.below (by (repeat (first | exact Below.refl _ _ | assumption | refine Below.drew ?_ | refine balloc ?_ _ | refine bset ?_ (by simp; omega) _ | refine bset ?_ (by simp) _ | refine bstep ?_ (by assumption))))) (by omega) (by omega) (by omega)).mono ?_
  rintro e w1 ⟨n1, rfl, hn1, h1, m1⟩
  have R : Box2 w1 w.heap.size (.int .i64 0) (.slice none 0 0) := ⟨m1.cell (by simp [go_sem]) hne, m1.cell (by simp [go_sem]) hne, fun o => (m1.frozenAt (a := ⟨w.heap.size, o, none⟩) (by simp) hne).trans (by simp [go_sem]), by have := m1.size; simp at this; omega⟩
  have M1 : Mod (fun b => b = bs) w w1 := (Mod.of_below (balloc (Below.refl _ _) _)).trans m1
  have z1 : w.heap.size < w1.heap.size := R.lt
  have hw1 : IntKind.i64.wrap (1 + (n1 : Int)) = 1 + (n1 : Int) := wrapI _ (by omega) (by omega)
  clear m1 h
  go_wp2_with fail
  refine (l1Draw_any B w1 bs a k cap (t + 1) (1 + (n1 : Int)) h1 (by omega)).mono ?_
  rintro e w2 ⟨v2, F2, xs, t2, rfl, o2, hl1, hl4, h2, ht2, m2⟩
  obtain ⟨id, hid⟩ : ∃ id : Int, 1 + (n1 : Int) = id := ⟨_, rfl⟩
  rw [hid]
  clear hid hw1
  replace R := R.mod m2 hne
  have M2 := M1.trans m2
  have z2 := m2.size
  obtain ⟨g, c, rfl⟩ : ∃ g c, v2 = .slice (some ⟨g, 0, none⟩) xs.length c := by
    rcases o2.1.2 with ⟨_, hn⟩ | ⟨g, c, _, e, _⟩
    · omega
    · exact ⟨g, c, e⟩
  have hg1 := (o2.1.lt g rfl).1
  have hg2 := (o2.1.lt g rfl).2
  have ho2 : w2.ownsRow (w.heap.size + 1) 40 4 (.slice (some ⟨g, 0, none⟩) xs.length c) xs.length (legsC xs) := owns_base o2.1 (by omega)
  obtain ⟨n, hn⟩ : ∃ n, n = xs.length := ⟨_, rfl⟩
  have HN : Hid (xs.length = n) := hn.symm
  rw [← hn] at ho2 hl1 hl4 ⊢
  clear hn o2 M1 m2 h1
  have hl2 := h2.lt
  have hne2 : w2.heap.size ≠ bs := by omega
  have hcapN : n ≤ c := by
    rcases ho2.2 with ⟨_, hn⟩ | ⟨_, _, _, e, _, _, hnc, _⟩
    · omega
    · simp only [Value.slice.injEq] at e
      omega
  go_wp2_with fail
  refine (l1Next_any B _ bs a k cap t2 (n : Int) (h2.below (by (repeat (first | exact Below.refl _ _ | assumption | refine Below.drew ?_ | refine balloc ?_ _ | refine bset ?_ (by simp; omega) _ | refine bset ?_ (by simp) _ | refine bstep ?_ (by assumption))))) (by omega) (by omega) (by omega)).mono ?_
  rintro e w3 ⟨i, rfl, hi3, h3, m3⟩
  have X : Box2 w3 w2.heap.size (.int .i64 id) (.slice (some ⟨g, 0, none⟩) n c) := ⟨m3.cell (by simp [go_sem]) hne2, m3.cell (by simp [go_sem]) hne2, fun o => (m3.frozenAt (a := ⟨w2.heap.size, o, none⟩) (by simp) hne2).trans (by simp [go_sem]), by have := m3.size; simp at this; omega⟩
  replace R := (R.below (by (repeat (first | exact Below.refl _ _ | assumption | refine Below.drew ?_ | refine balloc ?_ _ | refine bset ?_ (by simp; omega) _ | refine bset ?_ (by simp) _ | refine bstep ?_ (by assumption))))).mod m3 hne
  have M3 : Mod (fun b => b = bs) w w3 := (M2.transB (by (repeat (first | exact Below.refl _ _ | assumption | refine Below.drew ?_ | refine balloc ?_ _ | refine bset ?_ (by simp; omega) _ | refine bset ?_ (by simp) _ | refine bstep ?_ (by assumption))))).trans m3
  have ho3 := m3.owns (owns_below ho2 (by (repeat (first | exact Below.refl _ _ | assumption | refine Below.drew ?_ | refine balloc ?_ _ | refine bset ?_ (by simp; omega) _ | refine bset ?_ (by simp) _ | refine bstep ?_ (by assumption))))) (fun b hb e => by simp [Value.ownBlock] at hb; omega)
  clear M2 m3 h2 ho2
  go_wp2_with fail
  refine (l1Next_any B w3 bs a k cap (t2 + 1) 24 h3 (by omega) (by omega) (by omega)).mono ?_
  rintro e w4 ⟨n4, rfl, hn4, h4, m4⟩
  replace X := X.mod m4 hne2
  replace R := R.mod m4 hne
  have M4 := M3.trans m4
  have ho4 := m4.owns ho3 (fun b hb e => by simp [Value.ownBlock] at hb; omega)
  have z4 : w2.heap.size < w4.heap.size := X.lt
  clear M3 m4 h3 ho3
  have hnx : w.heap.size ≠ w2.heap.size := by omega
  have hi0 : (0 : Int) ≤ i := by omega
  have hin : (i : Int) < n := hi3
  have hwn : (0 : Int) ≤ n4 := by omega
  by_cases c0 : n4 = 0
  · subst c0
    go_wp2_with fail
    refine (l1Pick_any B _ bs a k cap (t2 + 1 + 1) w4.heap.size 4 [0, -1, 1000000000, 1000000001] (h4.below (by (repeat (first | exact Below.refl _ _ | assumption | refine Below.drew ?_ | refine balloc ?_ _ | refine bset ?_ (by simp; omega) _ | refine bset ?_ (by simp) _ | refine bstep ?_ (by assumption))))) (by omega) (by omega) (by simp) (by simp) ?_).mono ?_
    · intro i hi
      match i, hi with
      | 0, _ => simp [go_sem]
      | 1, _ => simp [go_sem]
      | 2, _ => simp [go_sem]
      | 3, _ => simp [go_sem]
    rintro e w5 ⟨q, rfl, hq, h5, m5⟩
    obtain ⟨x0, x1, xf, xl⟩ := (X.below (by (repeat (first | exact Below.refl _ _ | assumption | refine Below.drew ?_ | refine balloc ?_ _ | refine bset ?_ (by simp; omega) _ | refine bset ?_ (by simp) _ | refine bstep ?_ (by assumption))))).mod m5 hne2
    obtain ⟨r0, r1, rf, rl⟩ := (R.below (by (repeat (first | exact Below.refl _ _ | assumption | refine Below.drew ?_ | refine balloc ?_ _ | refine bset ?_ (by simp; omega) _ | refine bset ?_ (by simp) _ | refine bstep ?_ (by assumption))))).mod m5 hne
    have M5 : Mod (fun b => b = bs) w w5 := (M4.transB (by (repeat (first | exact Below.refl _ _ | assumption | refine Below.drew ?_ | refine balloc ?_ _ | refine bset ?_ (by simp; omega) _ | refine bset ?_ (by simp) _ | refine bstep ?_ (by assumption))))).trans m5
    have ho5 := m5.owns (owns_below ho4 (by (repeat (first | exact Below.refl _ _ | assumption | refine Below.drew ?_ | refine balloc ?_ _ | refine bset ?_ (by simp; omega) _ | refine bset ?_ (by simp) _ | refine bstep ?_ (by assumption))))) (fun b hb e => by simp [Value.ownBlock] at hb; omega)
    clear m5 h4 M4 X R ho4
    go_wp2
    have ho6 : w5.ownsRow (w.heap.size + 1) 40 4 (.slice (some ⟨g, 0, none⟩) n c) xs.length (legsC xs) := by rw [HN.out]; exact ho5
    refine bodyPost_ret (v := .agg #[.int .i64 q, .slice (some ⟨g, 0, none⟩) n c]) (by simp [results, Try.results39, go_sem, r0, r1, rf, x0, x1, xf, hnx, Ne.symm hnx]) rfl ⟨q, .slice (some ⟨g, 0, none⟩) n c, _, xs, t2 + 1 + 1 + 1, rfl, ⟨owns_base (Mod.owns (F := fun b => b = w2.heap.size ∨ b = w.heap.size) (by repeat (first | exact Mod.refl _ _ | refine msetL ?_ _ _ (by first | exact .inl rfl | exact .inr rfl))) ho6 (fun b hb e => by simp [Value.ownBlock] at hb; omega)) (by omega), rfl⟩, by rw [HN.out]; omega, ?_, by omega, ?_⟩
    · exact h5.mod (F := fun b => b = w2.heap.size ∨ b = w.heap.size) (by repeat (first | exact Mod.refl _ _ | refine msetL ?_ _ _ (by first | exact .inl rfl | exact .inr rfl))) (fun b e => by omega)
    · exact M5.trans2 (G := fun b => b = w2.heap.size ∨ b = w.heap.size) (by repeat (first | exact Mod.refl _ _ | refine msetL ?_ _ _ (by first | exact .inl rfl | exact .inr rfl))) (fun b e hb => by omega)
  have c0' : ¬ ((n4 : Int) = 0) := by omega
  by_cases c1 : n4 = 1
  · subst c1
    obtain ⟨x0, x1, xf, xl⟩ := X
    have X : Box2 w4 w2.heap.size (.int .i64 id) (.slice (some ⟨g, 0, none⟩) n c) := ⟨x0, x1, xf, xl⟩
    go_wp2
    refine wp_region_noPanic ?_
    refine region_upto (fun W => W.cell? ⟨w2.heap.size, 1, none⟩ = some (.slice (some ⟨g, 0, none⟩) n c)) 8 (by kernel_rfl) (cell_keep (by (repeat (first | exact Below.refl _ _ | assumption | refine Below.drew ?_ | refine balloc ?_ _ | refine bset ?_ (by simp; omega) _ | refine bset ?_ (by simp) _ | refine bstep ?_ (by assumption)))) x1) (fun hS => ?_)
    refine upto_take (i := 0) (v := ?_) rfl (by kernel_rfl) (by kernel_rfl) (by kernel_rfl) (by kernel_rfl) (fun _ _ _ h => h) (by rfl) hS ?_ ?_
    rotate_left
    · intro wS hSw
      try dsimp only at hSw
      first | (go_simp; done) | (go_simp; with_reducible rfl)
    try simp only [Act.put, List.getElem_toArray, List.getElem_cons_zero, List.getElem_cons_succ, List.setIfInBounds_toArray, List.set_cons_zero, List.set_cons_succ]
    refine upto_take (i := 1) (v := ?_) rfl (by kernel_rfl) (by kernel_rfl) (by kernel_rfl) (by kernel_rfl) (fun _ _ _ h => h) (by rfl) hS ?_ ?_
    rotate_left
    · intro wS hSw
      try dsimp only at hSw
      first | (go_simp; done) | (go_simp; with_reducible rfl)
    try simp only [Act.put, List.getElem_toArray, List.getElem_cons_zero, List.getElem_cons_succ, List.setIfInBounds_toArray, List.set_cons_zero, List.set_cons_succ]
    refine upto_take (i := 2) (v := ?_) rfl (by kernel_rfl) (by kernel_rfl) (by kernel_rfl) (by kernel_rfl) (fun _ _ _ h => h) (by rfl) hS ?_ ?_
    rotate_left
    · intro wS hSw
      try dsimp only at hSw
      first | (go_simp; done) | (go_simp; with_reducible rfl)
    try simp only [Act.put, List.getElem_toArray, List.getElem_cons_zero, List.getElem_cons_succ, List.setIfInBounds_toArray, List.set_cons_zero, List.set_cons_succ]
    refine upto_take (i := 3) (v := ?_) rfl (by kernel_rfl) (by kernel_rfl) (by kernel_rfl) (by kernel_rfl) (fun _ _ _ h => h) (by rfl) hS ?_ ?_
    rotate_left
    · intro wS hSw
      try dsimp only at hSw
      first | (go_simp; done) | (go_simp; with_reducible rfl)
    try simp only [Act.put, List.getElem_toArray, List.getElem_cons_zero, List.getElem_cons_succ, List.setIfInBounds_toArray, List.set_cons_zero, List.set_cons_succ]
    refine upto_step (i := 4) (by kernel_rfl) rfl ?_
    intro K hK
    go_simp
    refine hK _ _ (fun _ => cell_keep (balloc (Below.refl _ _) _) hS) ?_
    clear hK K
    try simp only [Act.put, List.getElem_toArray, List.getElem_cons_zero, List.getElem_cons_succ, List.setIfInBounds_toArray, List.set_cons_zero, List.set_cons_succ]
    refine upto_step (i := 5) (by kernel_rfl) rfl ?_
    intro K hK
    go_simp
    refine (l1Pick_any B _ bs a k cap (t2 + 1 + 1) w4.heap.size 3 [-1, 3, 1] (h4.below (by (repeat (first | exact Below.refl _ _ | assumption | refine Below.drew ?_ | refine balloc ?_ _ | refine bset ?_ (by simp; omega) _ | refine bset ?_ (by simp) _ | refine bstep ?_ (by assumption))))) (by omega) (by omega) (by simp) (by simp) ?_).mono ?_
    · intro i hi
      match i, hi with
      | 0, _ => simp [go_sem]
      | 1, _ => simp [go_sem]
      | 2, _ => simp [go_sem]
    rintro e w5 ⟨q, rfl, hq, h5, m5⟩
    have hS5 : (fun W : World => W.cell? ⟨w2.heap.size, 1, none⟩ = some (.slice (some ⟨g, 0, none⟩) n c)) w5 := m5.cell (cell_keep (balloc (Below.refl _ _) _) hS) hne2
    clear x0 x1 xf xl
    obtain ⟨x0, x1, xf, xl⟩ := (X.below (by (repeat (first | exact Below.refl _ _ | assumption | refine Below.drew ?_ | refine balloc ?_ _ | refine bset ?_ (by simp; omega) _ | refine bset ?_ (by simp) _ | refine bstep ?_ (by assumption))))).mod m5 hne2
    obtain ⟨r0, r1, rf, rl⟩ := (R.below (by (repeat (first | exact Below.refl _ _ | assumption | refine Below.drew ?_ | refine balloc ?_ _ | refine bset ?_ (by simp; omega) _ | refine bset ?_ (by simp) _ | refine bstep ?_ (by assumption))))).mod m5 hne
    have M5 : Mod (fun b => b = bs) w w5 := (M4.transB (by (repeat (first | exact Below.refl _ _ | assumption | refine Below.drew ?_ | refine balloc ?_ _ | refine bset ?_ (by simp; omega) _ | refine bset ?_ (by simp) _ | refine bstep ?_ (by assumption))))).trans m5
    have ho5 := m5.owns (owns_below ho4 (by (repeat (first | exact Below.refl _ _ | assumption | refine Below.drew ?_ | refine balloc ?_ _ | refine bset ?_ (by simp; omega) _ | refine bset ?_ (by simp) _ | refine bstep ?_ (by assumption))))) (fun b hb e => by simp [Value.ownBlock] at hb; omega)
    refine hK _ _ (fun _ => hS5) ?_
    clear hK K m5 h4 M4 X R ho4 hS
    try simp only [Act.put, List.getElem_toArray, List.getElem_cons_zero, List.getElem_cons_succ, List.setIfInBounds_toArray, List.set_cons_zero, List.set_cons_succ]
    obtain ⟨u5, g5⟩ := owns_some ho5 (i * 4) (by omega)
    have hf5 := fun j => ho5.frozenAt j
    refine upto_step (i := 6) (by kernel_rfl) rfl ?_
    intro K hK
    go_simp
    refine hK _ _ (fun _ => hS5) ?_
    clear hK K
    try simp only [Act.put, List.getElem_toArray, List.getElem_cons_zero, List.getElem_cons_succ, List.setIfInBounds_toArray, List.set_cons_zero, List.set_cons_succ]
    refine upto_step (i := 7) (by kernel_rfl) rfl ?_
    intro K hK
    go_simp
    refine hK _ _ (fun _ => hS5) ?_
    clear hK K
    try simp only [Act.put, List.getElem_toArray, List.getElem_cons_zero, List.getElem_cons_succ, List.setIfInBounds_toArray, List.set_cons_zero, List.set_cons_succ]
    refine upto_step (i := 8) (by kernel_rfl) rfl ?_
    intro K hK
    go_simp
    refine hK _ _ (fun h => absurd rfl h) ?_
    clear hK K hS5
    refine upto_done (by kernel_rfl) ?_
    refine NoPanic.normal ?_
    have s5 := (ho5.stored (i * 4) (.int .i64 q)).1
    have e5 := legsC_setF xs i 0 q (by rw [HN.out]; omega) (by omega)
    try rw [Nat.add_zero] at e5
    rw [e5] at s5
    have hK5 : Mod (fun b => b = g) w5 (w5.setCell ⟨g, i * 4, none⟩ (.int .i64 q)) := Mod.of_set w5 ⟨g, i * 4, none⟩ _
    have hX5 := Box2.mod ⟨x0, x1, xf, xl⟩ hK5 (fun e => by omega)
    have hR5 := Box2.mod ⟨r0, r1, rf, rl⟩ hK5 (fun e => by omega)
    have h6 := h5.mod hK5 (fun b e => by omega)
    have M6 := M5.trans2 hK5 (fun b e hb => by omega)
    clear x0 x1 xf xl r0 r1 rf rl hK5 ho5 h5 M5 g5 hf5
    generalize w5.setCell ⟨g, i * 4, none⟩ (.int .i64 q) = w6 at *
    obtain ⟨x0, x1, xf, xl⟩ := hX5
    obtain ⟨r0, r1, rf, rl⟩ := hR5
    have HO6 : Hid (w6.ownsRow (w.heap.size + 1) 40 4 (.slice (some ⟨g, 0, none⟩) n c) (xs.set i (setF (xs.getD i default) 0 q)).length (legsC (xs.set i (setF (xs.getD i default) 0 q)))) := by rw [Hid, List.length_set, HN.out]; exact s5
    clear s5
    go_wp2
    refine bodyPost_ret (v := .agg #[.int .i64 id, .slice (some ⟨g, 0, none⟩) n c]) (by simp [results, Try.results39, go_sem, r0, r1, rf, x0, x1, xf, hnx, Ne.symm hnx]) rfl ⟨id, .slice (some ⟨g, 0, none⟩) n c, _, xs.set i (setF (xs.getD i default) 0 q), t2 + 1 + 1 + 1, rfl, ⟨owns_base (Mod.owns (F := fun b => b = w2.heap.size ∨ b = w.heap.size) (by repeat (first | exact Mod.refl _ _ | refine msetL ?_ _ _ (by first | exact .inl rfl | exact .inr rfl))) HO6.out (fun b hb e => by simp [Value.ownBlock] at hb; omega)) (by omega), rfl⟩, by rw [List.length_set, HN.out]; omega, ?_, by omega, ?_⟩
    · exact h6.mod (F := fun b => b = w2.heap.size ∨ b = w.heap.size) (by repeat (first | exact Mod.refl _ _ | refine msetL ?_ _ _ (by first | exact .inl rfl | exact .inr rfl))) (fun b e => by omega)
    · exact M6.trans2 (G := fun b => b = w2.heap.size ∨ b = w.heap.size) (by repeat (first | exact Mod.refl _ _ | refine msetL ?_ _ _ (by first | exact .inl rfl | exact .inr rfl))) (fun b e hb => by omega)
  have c1' : ¬ ((n4 : Int) = 1) := by omega
  by_cases c2 : n4 = 2
  · subst c2
    obtain ⟨x0, x1, xf, xl⟩ := X
    have X : Box2 w4 w2.heap.size (.int .i64 id) (.slice (some ⟨g, 0, none⟩) n c) := ⟨x0, x1, xf, xl⟩
    go_wp2
    refine wp_region_noPanic ?_
    refine region_upto (fun W => W.cell? ⟨w2.heap.size, 1, none⟩ = some (.slice (some ⟨g, 0, none⟩) n c)) 8 (by kernel_rfl) (cell_keep (by (repeat (first | exact Below.refl _ _ | assumption | refine Below.drew ?_ | refine balloc ?_ _ | refine bset ?_ (by simp; omega) _ | refine bset ?_ (by simp) _ | refine bstep ?_ (by assumption)))) x1) (fun hS => ?_)
    refine upto_take (i := 0) (v := ?_) rfl (by kernel_rfl) (by kernel_rfl) (by kernel_rfl) (by kernel_rfl) (fun _ _ _ h => h) (by rfl) hS ?_ ?_
    rotate_left
    · intro wS hSw
      try dsimp only at hSw
      first | (go_simp; done) | (go_simp; with_reducible rfl)
    try simp only [Act.put, List.getElem_toArray, List.getElem_cons_zero, List.getElem_cons_succ, List.setIfInBounds_toArray, List.set_cons_zero, List.set_cons_succ]
    refine upto_take (i := 1) (v := ?_) rfl (by kernel_rfl) (by kernel_rfl) (by kernel_rfl) (by kernel_rfl) (fun _ _ _ h => h) (by rfl) hS ?_ ?_
    rotate_left
    · intro wS hSw
      try dsimp only at hSw
      first | (go_simp; done) | (go_simp; with_reducible rfl)
    try simp only [Act.put, List.getElem_toArray, List.getElem_cons_zero, List.getElem_cons_succ, List.setIfInBounds_toArray, List.set_cons_zero, List.set_cons_succ]
    refine upto_take (i := 2) (v := ?_) rfl (by kernel_rfl) (by kernel_rfl) (by kernel_rfl) (by kernel_rfl) (fun _ _ _ h => h) (by rfl) hS ?_ ?_
    rotate_left
    · intro wS hSw
      try dsimp only at hSw
      first | (go_simp; done) | (go_simp; with_reducible rfl)
    try simp only [Act.put, List.getElem_toArray, List.getElem_cons_zero, List.getElem_cons_succ, List.setIfInBounds_toArray, List.set_cons_zero, List.set_cons_succ]
    refine upto_take (i := 3) (v := ?_) rfl (by kernel_rfl) (by kernel_rfl) (by kernel_rfl) (by kernel_rfl) (fun _ _ _ h => h) (by rfl) hS ?_ ?_
    rotate_left
    · intro wS hSw
      try dsimp only at hSw
      first | (go_simp; done) | (go_simp; with_reducible rfl)
    try simp only [Act.put, List.getElem_toArray, List.getElem_cons_zero, List.getElem_cons_succ, List.setIfInBounds_toArray, List.set_cons_zero, List.set_cons_succ]
    refine upto_step (i := 4) (by kernel_rfl) rfl ?_
    intro K hK
    go_simp
    refine hK _ _ (fun _ => cell_keep (balloc (Below.refl _ _) _) hS) ?_
    clear hK K
    try simp only [Act.put, List.getElem_toArray, List.getElem_cons_zero, List.getElem_cons_succ, List.setIfInBounds_toArray, List.set_cons_zero, List.set_cons_succ]
    refine upto_step (i := 5) (by kernel_rfl) rfl ?_
    intro K hK
    go_simp
    refine (l1Pick_any B _ bs a k cap (t2 + 1 + 1) w4.heap.size 3 [-1, 6, 5] (h4.below (by (repeat (first | exact Below.refl _ _ | assumption | refine Below.drew ?_ | refine balloc ?_ _ | refine bset ?_ (by simp; omega) _ | refine bset ?_ (by simp) _ | refine bstep ?_ (by assumption))))) (by omega) (by omega) (by simp) (by simp) ?_).mono ?_
    · intro i hi
      match i, hi with
      | 0, _ => simp [go_sem]
      | 1, _ => simp [go_sem]
      | 2, _ => simp [go_sem]
    rintro e w5 ⟨q, rfl, hq, h5, m5⟩
    have hS5 : (fun W : World => W.cell? ⟨w2.heap.size, 1, none⟩ = some (.slice (some ⟨g, 0, none⟩) n c)) w5 := m5.cell (cell_keep (balloc (Below.refl _ _) _) hS) hne2
    clear x0 x1 xf xl
    obtain ⟨x0, x1, xf, xl⟩ := (X.below (by (repeat (first | exact Below.refl _ _ | assumption | refine Below.drew ?_ | refine balloc ?_ _ | refine bset ?_ (by simp; omega) _ | refine bset ?_ (by simp) _ | refine bstep ?_ (by assumption))))).mod m5 hne2
    obtain ⟨r0, r1, rf, rl⟩ := (R.below (by (repeat (first | exact Below.refl _ _ | assumption | refine Below.drew ?_ | refine balloc ?_ _ | refine bset ?_ (by simp; omega) _ | refine bset ?_ (by simp) _ | refine bstep ?_ (by assumption))))).mod m5 hne
    have M5 : Mod (fun b => b = bs) w w5 := (M4.transB (by (repeat (first | exact Below.refl _ _ | assumption | refine Below.drew ?_ | refine balloc ?_ _ | refine bset ?_ (by simp; omega) _ | refine bset ?_ (by simp) _ | refine bstep ?_ (by assumption))))).trans m5
    have ho5 := m5.owns (owns_below ho4 (by (repeat (first | exact Below.refl _ _ | assumption | refine Below.drew ?_ | refine balloc ?_ _ | refine bset ?_ (by simp; omega) _ | refine bset ?_ (by simp) _ | refine bstep ?_ (by assumption))))) (fun b hb e => by simp [Value.ownBlock] at hb; omega)
    refine hK _ _ (fun _ => hS5) ?_
    clear hK K m5 h4 M4 X R ho4 hS
    try simp only [Act.put, List.getElem_toArray, List.getElem_cons_zero, List.getElem_cons_succ, List.setIfInBounds_toArray, List.set_cons_zero, List.set_cons_succ]
    obtain ⟨u5, g5⟩ := owns_some ho5 (i * 4 + 1) (by omega)
    have hf5 := fun j => ho5.frozenAt j
    refine upto_step (i := 6) (by kernel_rfl) rfl ?_
    intro K hK
    go_simp
    refine hK _ _ (fun _ => hS5) ?_
    clear hK K
    try simp only [Act.put, List.getElem_toArray, List.getElem_cons_zero, List.getElem_cons_succ, List.setIfInBounds_toArray, List.set_cons_zero, List.set_cons_succ]
    refine upto_step (i := 7) (by kernel_rfl) rfl ?_
    intro K hK
    go_simp
    refine hK _ _ (fun _ => hS5) ?_
    clear hK K
    try simp only [Act.put, List.getElem_toArray, List.getElem_cons_zero, List.getElem_cons_succ, List.setIfInBounds_toArray, List.set_cons_zero, List.set_cons_succ]
    refine upto_step (i := 8) (by kernel_rfl) rfl ?_
    intro K hK
    go_simp
    refine hK _ _ (fun h => absurd rfl h) ?_
    clear hK K hS5
    refine upto_done (by kernel_rfl) ?_
    refine NoPanic.normal ?_
    have s5 := (ho5.stored (i * 4 + 1) (.int .i64 q)).1
    have e5 := legsC_setF xs i 1 q (by rw [HN.out]; omega) (by omega)
    try rw [Nat.add_zero] at e5
    rw [e5] at s5
    have hK5 : Mod (fun b => b = g) w5 (w5.setCell ⟨g, i * 4 + 1, none⟩ (.int .i64 q)) := Mod.of_set w5 ⟨g, i * 4 + 1, none⟩ _
    have hX5 := Box2.mod ⟨x0, x1, xf, xl⟩ hK5 (fun e => by omega)
    have hR5 := Box2.mod ⟨r0, r1, rf, rl⟩ hK5 (fun e => by omega)
    have h6 := h5.mod hK5 (fun b e => by omega)
    have M6 := M5.trans2 hK5 (fun b e hb => by omega)
    clear x0 x1 xf xl r0 r1 rf rl hK5 ho5 h5 M5 g5 hf5
    generalize w5.setCell ⟨g, i * 4 + 1, none⟩ (.int .i64 q) = w6 at *
    obtain ⟨x0, x1, xf, xl⟩ := hX5
    obtain ⟨r0, r1, rf, rl⟩ := hR5
    have HO6 : Hid (w6.ownsRow (w.heap.size + 1) 40 4 (.slice (some ⟨g, 0, none⟩) n c) (xs.set i (setF (xs.getD i default) 1 q)).length (legsC (xs.set i (setF (xs.getD i default) 1 q)))) := by rw [Hid, List.length_set, HN.out]; exact s5
    clear s5
    go_wp2
    refine bodyPost_ret (v := .agg #[.int .i64 id, .slice (some ⟨g, 0, none⟩) n c]) (by simp [results, Try.results39, go_sem, r0, r1, rf, x0, x1, xf, hnx, Ne.symm hnx]) rfl ⟨id, .slice (some ⟨g, 0, none⟩) n c, _, xs.set i (setF (xs.getD i default) 1 q), t2 + 1 + 1 + 1, rfl, ⟨owns_base (Mod.owns (F := fun b => b = w2.heap.size ∨ b = w.heap.size) (by repeat (first | exact Mod.refl _ _ | refine msetL ?_ _ _ (by first | exact .inl rfl | exact .inr rfl))) HO6.out (fun b hb e => by simp [Value.ownBlock] at hb; omega)) (by omega), rfl⟩, by rw [List.length_set, HN.out]; omega, ?_, by omega, ?_⟩
    · exact h6.mod (F := fun b => b = w2.heap.size ∨ b = w.heap.size) (by repeat (first | exact Mod.refl _ _ | refine msetL ?_ _ _ (by first | exact .inl rfl | exact .inr rfl))) (fun b e => by omega)
    · exact M6.trans2 (G := fun b => b = w2.heap.size ∨ b = w.heap.size) (by repeat (first | exact Mod.refl _ _ | refine msetL ?_ _ _ (by first | exact .inl rfl | exact .inr rfl))) (fun b e hb => by omega)
  have c2' : ¬ ((n4 : Int) = 2) := by omega
  by_cases c3 : n4 = 3
  · subst c3
    obtain ⟨x0, x1, xf, xl⟩ := X
    have X : Box2 w4 w2.heap.size (.int .i64 id) (.slice (some ⟨g, 0, none⟩) n c) := ⟨x0, x1, xf, xl⟩
    go_wp2
    refine wp_region_noPanic ?_
    refine region_upto (fun W => W.cell? ⟨w2.heap.size, 1, none⟩ = some (.slice (some ⟨g, 0, none⟩) n c)) 8 (by kernel_rfl) (cell_keep (by (repeat (first | exact Below.refl _ _ | assumption | refine Below.drew ?_ | refine balloc ?_ _ | refine bset ?_ (by simp; omega) _ | refine bset ?_ (by simp) _ | refine bstep ?_ (by assumption)))) x1) (fun hS => ?_)
    refine upto_take (i := 0) (v := ?_) rfl (by kernel_rfl) (by kernel_rfl) (by kernel_rfl) (by kernel_rfl) (fun _ _ _ h => h) (by rfl) hS ?_ ?_
    rotate_left
    · intro wS hSw
      try dsimp only at hSw
      first | (go_simp; done) | (go_simp; with_reducible rfl)
    try simp only [Act.put, List.getElem_toArray, List.getElem_cons_zero, List.getElem_cons_succ, List.setIfInBounds_toArray, List.set_cons_zero, List.set_cons_succ]
    refine upto_take (i := 1) (v := ?_) rfl (by kernel_rfl) (by kernel_rfl) (by kernel_rfl) (by kernel_rfl) (fun _ _ _ h => h) (by rfl) hS ?_ ?_
    rotate_left
    · intro wS hSw
      try dsimp only at hSw
      first | (go_simp; done) | (go_simp; with_reducible rfl)
    try simp only [Act.put, List.getElem_toArray, List.getElem_cons_zero, List.getElem_cons_succ, List.setIfInBounds_toArray, List.set_cons_zero, List.set_cons_succ]
    refine upto_take (i := 2) (v := ?_) rfl (by kernel_rfl) (by kernel_rfl) (by kernel_rfl) (by kernel_rfl) (fun _ _ _ h => h) (by rfl) hS ?_ ?_
    rotate_left
    · intro wS hSw
      try dsimp only at hSw
      first | (go_simp; done) | (go_simp; with_reducible rfl)
    try simp only [Act.put, List.getElem_toArray, List.getElem_cons_zero, List.getElem_cons_succ, List.setIfInBounds_toArray, List.set_cons_zero, List.set_cons_succ]
    refine upto_take (i := 3) (v := ?_) rfl (by kernel_rfl) (by kernel_rfl) (by kernel_rfl) (by kernel_rfl) (fun _ _ _ h => h) (by rfl) hS ?_ ?_
    rotate_left
    · intro wS hSw
      try dsimp only at hSw
      first | (go_simp; done) | (go_simp; with_reducible rfl)
    try simp only [Act.put, List.getElem_toArray, List.getElem_cons_zero, List.getElem_cons_succ, List.setIfInBounds_toArray, List.set_cons_zero, List.set_cons_succ]
    refine upto_step (i := 4) (by kernel_rfl) rfl ?_
    intro K hK
    go_simp
    refine hK _ _ (fun _ => cell_keep (balloc (Below.refl _ _) _) hS) ?_
    clear hK K
    try simp only [Act.put, List.getElem_toArray, List.getElem_cons_zero, List.getElem_cons_succ, List.setIfInBounds_toArray, List.set_cons_zero, List.set_cons_succ]
    refine upto_step (i := 5) (by kernel_rfl) rfl ?_
    intro K hK
    go_simp
    refine (l1Pick_any B _ bs a k cap (t2 + 1 + 1) w4.heap.size 3 [-1, 3, 2] (h4.below (by (repeat (first | exact Below.refl _ _ | assumption | refine Below.drew ?_ | refine balloc ?_ _ | refine bset ?_ (by simp; omega) _ | refine bset ?_ (by simp) _ | refine bstep ?_ (by assumption))))) (by omega) (by omega) (by simp) (by simp) ?_).mono ?_
    · intro i hi
      match i, hi with
      | 0, _ => simp [go_sem]
      | 1, _ => simp [go_sem]
      | 2, _ => simp [go_sem]
    rintro e w5 ⟨q, rfl, hq, h5, m5⟩
    have hS5 : (fun W : World => W.cell? ⟨w2.heap.size, 1, none⟩ = some (.slice (some ⟨g, 0, none⟩) n c)) w5 := m5.cell (cell_keep (balloc (Below.refl _ _) _) hS) hne2
    clear x0 x1 xf xl
    obtain ⟨x0, x1, xf, xl⟩ := (X.below (by (repeat (first | exact Below.refl _ _ | assumption | refine Below.drew ?_ | refine balloc ?_ _ | refine bset ?_ (by simp; omega) _ | refine bset ?_ (by simp) _ | refine bstep ?_ (by assumption))))).mod m5 hne2
    obtain ⟨r0, r1, rf, rl⟩ := (R.below (by (repeat (first | exact Below.refl _ _ | assumption | refine Below.drew ?_ | refine balloc ?_ _ | refine bset ?_ (by simp; omega) _ | refine bset ?_ (by simp) _ | refine bstep ?_ (by assumption))))).mod m5 hne
    have M5 : Mod (fun b => b = bs) w w5 := (M4.transB (by (repeat (first | exact Below.refl _ _ | assumption | refine Below.drew ?_ | refine balloc ?_ _ | refine bset ?_ (by simp; omega) _ | refine bset ?_ (by simp) _ | refine bstep ?_ (by assumption))))).trans m5
    have ho5 := m5.owns (owns_below ho4 (by (repeat (first | exact Below.refl _ _ | assumption | refine Below.drew ?_ | refine balloc ?_ _ | refine bset ?_ (by simp; omega) _ | refine bset ?_ (by simp) _ | refine bstep ?_ (by assumption))))) (fun b hb e => by simp [Value.ownBlock] at hb; omega)
    refine hK _ _ (fun _ => hS5) ?_
    clear hK K m5 h4 M4 X R ho4 hS
    try simp only [Act.put, List.getElem_toArray, List.getElem_cons_zero, List.getElem_cons_succ, List.setIfInBounds_toArray, List.set_cons_zero, List.set_cons_succ]
    obtain ⟨u5, g5⟩ := owns_some ho5 (i * 4 + 2) (by omega)
    have hf5 := fun j => ho5.frozenAt j
    refine upto_step (i := 6) (by kernel_rfl) rfl ?_
    intro K hK
    go_simp
    refine hK _ _ (fun _ => hS5) ?_
    clear hK K
    try simp only [Act.put, List.getElem_toArray, List.getElem_cons_zero, List.getElem_cons_succ, List.setIfInBounds_toArray, List.set_cons_zero, List.set_cons_succ]
    refine upto_step (i := 7) (by kernel_rfl) rfl ?_
    intro K hK
    go_simp
    refine hK _ _ (fun _ => hS5) ?_
    clear hK K
    try simp only [Act.put, List.getElem_toArray, List.getElem_cons_zero, List.getElem_cons_succ, List.setIfInBounds_toArray, List.set_cons_zero, List.set_cons_succ]
    refine upto_step (i := 8) (by kernel_rfl) rfl ?_
    intro K hK
    go_simp
    refine hK _ _ (fun h => absurd rfl h) ?_
    clear hK K hS5
    refine upto_done (by kernel_rfl) ?_
    refine NoPanic.normal ?_
    have s5 := (ho5.stored (i * 4 + 2) (.int .i64 q)).1
    have e5 := legsC_setF xs i 2 q (by rw [HN.out]; omega) (by omega)
    try rw [Nat.add_zero] at e5
    rw [e5] at s5
    have hK5 : Mod (fun b => b = g) w5 (w5.setCell ⟨g, i * 4 + 2, none⟩ (.int .i64 q)) := Mod.of_set w5 ⟨g, i * 4 + 2, none⟩ _
    have hX5 := Box2.mod ⟨x0, x1, xf, xl⟩ hK5 (fun e => by omega)
    have hR5 := Box2.mod ⟨r0, r1, rf, rl⟩ hK5 (fun e => by omega)
    have h6 := h5.mod hK5 (fun b e => by omega)
    have M6 := M5.trans2 hK5 (fun b e hb => by omega)
    clear x0 x1 xf xl r0 r1 rf rl hK5 ho5 h5 M5 g5 hf5
    generalize w5.setCell ⟨g, i * 4 + 2, none⟩ (.int .i64 q) = w6 at *
    obtain ⟨x0, x1, xf, xl⟩ := hX5
    obtain ⟨r0, r1, rf, rl⟩ := hR5
    have HO6 : Hid (w6.ownsRow (w.heap.size + 1) 40 4 (.slice (some ⟨g, 0, none⟩) n c) (xs.set i (setF (xs.getD i default) 2 q)).length (legsC (xs.set i (setF (xs.getD i default) 2 q)))) := by rw [Hid, List.length_set, HN.out]; exact s5
    clear s5
    go_wp2
    refine bodyPost_ret (v := .agg #[.int .i64 id, .slice (some ⟨g, 0, none⟩) n c]) (by simp [results, Try.results39, go_sem, r0, r1, rf, x0, x1, xf, hnx, Ne.symm hnx]) rfl ⟨id, .slice (some ⟨g, 0, none⟩) n c, _, xs.set i (setF (xs.getD i default) 2 q), t2 + 1 + 1 + 1, rfl, ⟨owns_base (Mod.owns (F := fun b => b = w2.heap.size ∨ b = w.heap.size) (by repeat (first | exact Mod.refl _ _ | refine msetL ?_ _ _ (by first | exact .inl rfl | exact .inr rfl))) HO6.out (fun b hb e => by simp [Value.ownBlock] at hb; omega)) (by omega), rfl⟩, by rw [List.length_set, HN.out]; omega, ?_, by omega, ?_⟩
    · exact h6.mod (F := fun b => b = w2.heap.size ∨ b = w.heap.size) (by repeat (first | exact Mod.refl _ _ | refine msetL ?_ _ _ (by first | exact .inl rfl | exact .inr rfl))) (fun b e => by omega)
    · exact M6.trans2 (G := fun b => b = w2.heap.size ∨ b = w.heap.size) (by repeat (first | exact Mod.refl _ _ | refine msetL ?_ _ _ (by first | exact .inl rfl | exact .inr rfl))) (fun b e hb => by omega)
  have c3' : ¬ ((n4 : Int) = 3) := by omega
  by_cases c4 : n4 = 4
  · subst c4
    obtain ⟨x0, x1, xf, xl⟩ := X
    have X : Box2 w4 w2.heap.size (.int .i64 id) (.slice (some ⟨g, 0, none⟩) n c) := ⟨x0, x1, xf, xl⟩
    go_wp2
    refine wp_region_noPanic ?_
    refine region_upto (fun W => W.cell? ⟨w2.heap.size, 1, none⟩ = some (.slice (some ⟨g, 0, none⟩) n c)) 8 (by kernel_rfl) (cell_keep (by (repeat (first | exact Below.refl _ _ | assumption | refine Below.drew ?_ | refine balloc ?_ _ | refine bset ?_ (by simp; omega) _ | refine bset ?_ (by simp) _ | refine bstep ?_ (by assumption)))) x1) (fun hS => ?_)
    refine upto_take (i := 0) (v := ?_) rfl (by kernel_rfl) (by kernel_rfl) (by kernel_rfl) (by kernel_rfl) (fun _ _ _ h => h) (by rfl) hS ?_ ?_
    rotate_left
    · intro wS hSw
      try dsimp only at hSw
      first | (go_simp; done) | (go_simp; with_reducible rfl)
    try simp only [Act.put, List.getElem_toArray, List.getElem_cons_zero, List.getElem_cons_succ, List.setIfInBounds_toArray, List.set_cons_zero, List.set_cons_succ]
    refine upto_take (i := 1) (v := ?_) rfl (by kernel_rfl) (by kernel_rfl) (by kernel_rfl) (by kernel_rfl) (fun _ _ _ h => h) (by rfl) hS ?_ ?_
    rotate_left
    · intro wS hSw
      try dsimp only at hSw
      first | (go_simp; done) | (go_simp; with_reducible rfl)
    try simp only [Act.put, List.getElem_toArray, List.getElem_cons_zero, List.getElem_cons_succ, List.setIfInBounds_toArray, List.set_cons_zero, List.set_cons_succ]
    refine upto_take (i := 2) (v := ?_) rfl (by kernel_rfl) (by kernel_rfl) (by kernel_rfl) (by kernel_rfl) (fun _ _ _ h => h) (by rfl) hS ?_ ?_
    rotate_left
    · intro wS hSw
      try dsimp only at hSw
      first | (go_simp; done) | (go_simp; with_reducible rfl)
    try simp only [Act.put, List.getElem_toArray, List.getElem_cons_zero, List.getElem_cons_succ, List.setIfInBounds_toArray, List.set_cons_zero, List.set_cons_succ]
    refine upto_take (i := 3) (v := ?_) rfl (by kernel_rfl) (by kernel_rfl) (by kernel_rfl) (by kernel_rfl) (fun _ _ _ h => h) (by rfl) hS ?_ ?_
    rotate_left
    · intro wS hSw
      try dsimp only at hSw
      first | (go_simp; done) | (go_simp; with_reducible rfl)
    try simp only [Act.put, List.getElem_toArray, List.getElem_cons_zero, List.getElem_cons_succ, List.setIfInBounds_toArray, List.set_cons_zero, List.set_cons_succ]
    refine upto_step (i := 4) (by kernel_rfl) rfl ?_
    intro K hK
    go_simp
    refine hK _ _ (fun _ => cell_keep (balloc (Below.refl _ _) _) hS) ?_
    clear hK K
    try simp only [Act.put, List.getElem_toArray, List.getElem_cons_zero, List.getElem_cons_succ, List.setIfInBounds_toArray, List.set_cons_zero, List.set_cons_succ]
    refine upto_step (i := 5) (by kernel_rfl) rfl ?_
    intro K hK
    go_simp
    refine (l1Pick_any B _ bs a k cap (t2 + 1 + 1) w4.heap.size 5 [0, 1000000000000, 1000000000001, -9223372036854775808, 3] (h4.below (by (repeat (first | exact Below.refl _ _ | assumption | refine Below.drew ?_ | refine balloc ?_ _ | refine bset ?_ (by simp; omega) _ | refine bset ?_ (by simp) _ | refine bstep ?_ (by assumption))))) (by omega) (by omega) (by simp) (by simp) ?_).mono ?_
    · intro i hi
      match i, hi with
      | 0, _ => simp [go_sem]
      | 1, _ => simp [go_sem]
      | 2, _ => simp [go_sem]
      | 3, _ => simp [go_sem]
      | 4, _ => simp [go_sem]
    rintro e w5 ⟨q, rfl, hq, h5, m5⟩
    have hS5 : (fun W : World => W.cell? ⟨w2.heap.size, 1, none⟩ = some (.slice (some ⟨g, 0, none⟩) n c)) w5 := m5.cell (cell_keep (balloc (Below.refl _ _) _) hS) hne2
    clear x0 x1 xf xl
    obtain ⟨x0, x1, xf, xl⟩ := (X.below (by (repeat (first | exact Below.refl _ _ | assumption | refine Below.drew ?_ | refine balloc ?_ _ | refine bset ?_ (by simp; omega) _ | refine bset ?_ (by simp) _ | refine bstep ?_ (by assumption))))).mod m5 hne2
    obtain ⟨r0, r1, rf, rl⟩ := (R.below (by (repeat (first | exact Below.refl _ _ | assumption | refine Below.drew ?_ | refine balloc ?_ _ | refine bset ?_ (by simp; omega) _ | refine bset ?_ (by simp) _ | refine bstep ?_ (by assumption))))).mod m5 hne
    have M5 : Mod (fun b => b = bs) w w5 := (M4.transB (by (repeat (first | exact Below.refl _ _ | assumption | refine Below.drew ?_ | refine balloc ?_ _ | refine bset ?_ (by simp; omega) _ | refine bset ?_ (by simp) _ | refine bstep ?_ (by assumption))))).trans m5
    have ho5 := m5.owns (owns_below ho4 (by (repeat (first | exact Below.refl _ _ | assumption | refine Below.drew ?_ | refine balloc ?_ _ | refine bset ?_ (by simp; omega) _ | refine bset ?_ (by simp) _ | refine bstep ?_ (by assumption))))) (fun b hb e => by simp [Value.ownBlock] at hb; omega)
    refine hK _ _ (fun _ => hS5) ?_
    clear hK K m5 h4 M4 X R ho4 hS
    try simp only [Act.put, List.getElem_toArray, List.getElem_cons_zero, List.getElem_cons_succ, List.setIfInBounds_toArray, List.set_cons_zero, List.set_cons_succ]
    obtain ⟨u5, g5⟩ := owns_some ho5 (i * 4 + 3) (by omega)
    have hf5 := fun j => ho5.frozenAt j
    refine upto_step (i := 6) (by kernel_rfl) rfl ?_
    intro K hK
    go_simp
    refine hK _ _ (fun _ => hS5) ?_
    clear hK K
    try simp only [Act.put, List.getElem_toArray, List.getElem_cons_zero, List.getElem_cons_succ, List.setIfInBounds_toArray, List.set_cons_zero, List.set_cons_succ]
    refine upto_step (i := 7) (by kernel_rfl) rfl ?_
    intro K hK
    go_simp
    refine hK _ _ (fun _ => hS5) ?_
    clear hK K
    try simp only [Act.put, List.getElem_toArray, List.getElem_cons_zero, List.getElem_cons_succ, List.setIfInBounds_toArray, List.set_cons_zero, List.set_cons_succ]
    refine upto_step (i := 8) (by kernel_rfl) rfl ?_
    intro K hK
    go_simp
    refine hK _ _ (fun h => absurd rfl h) ?_
    clear hK K hS5
    refine upto_done (by kernel_rfl) ?_
    refine NoPanic.normal ?_
    have s5 := (ho5.stored (i * 4 + 3) (.int .i64 q)).1
    have e5 := legsC_setF xs i 3 q (by rw [HN.out]; omega) (by omega)
    try rw [Nat.add_zero] at e5
    rw [e5] at s5
    have hK5 : Mod (fun b => b = g) w5 (w5.setCell ⟨g, i * 4 + 3, none⟩ (.int .i64 q)) := Mod.of_set w5 ⟨g, i * 4 + 3, none⟩ _
    have hX5 := Box2.mod ⟨x0, x1, xf, xl⟩ hK5 (fun e => by omega)
    have hR5 := Box2.mod ⟨r0, r1, rf, rl⟩ hK5 (fun e => by omega)
    have h6 := h5.mod hK5 (fun b e => by omega)
    have M6 := M5.trans2 hK5 (fun b e hb => by omega)
    clear x0 x1 xf xl r0 r1 rf rl hK5 ho5 h5 M5 g5 hf5
    generalize w5.setCell ⟨g, i * 4 + 3, none⟩ (.int .i64 q) = w6 at *
    obtain ⟨x0, x1, xf, xl⟩ := hX5
    obtain ⟨r0, r1, rf, rl⟩ := hR5
    have HO6 : Hid (w6.ownsRow (w.heap.size + 1) 40 4 (.slice (some ⟨g, 0, none⟩) n c) (xs.set i (setF (xs.getD i default) 3 q)).length (legsC (xs.set i (setF (xs.getD i default) 3 q)))) := by rw [Hid, List.length_set, HN.out]; exact s5
    clear s5
    go_wp2
    refine bodyPost_ret (v := .agg #[.int .i64 id, .slice (some ⟨g, 0, none⟩) n c]) (by simp [results, Try.results39, go_sem, r0, r1, rf, x0, x1, xf, hnx, Ne.symm hnx]) rfl ⟨id, .slice (some ⟨g, 0, none⟩) n c, _, xs.set i (setF (xs.getD i default) 3 q), t2 + 1 + 1 + 1, rfl, ⟨owns_base (Mod.owns (F := fun b => b = w2.heap.size ∨ b = w.heap.size) (by repeat (first | exact Mod.refl _ _ | refine msetL ?_ _ _ (by first | exact .inl rfl | exact .inr rfl))) HO6.out (fun b hb e => by simp [Value.ownBlock] at hb; omega)) (by omega), rfl⟩, by rw [List.length_set, HN.out]; omega, ?_, by omega, ?_⟩
    · exact h6.mod (F := fun b => b = w2.heap.size ∨ b = w.heap.size) (by repeat (first | exact Mod.refl _ _ | refine msetL ?_ _ _ (by first | exact .inl rfl | exact .inr rfl))) (fun b e => by omega)
    · exact M6.trans2 (G := fun b => b = w2.heap.size ∨ b = w.heap.size) (by repeat (first | exact Mod.refl _ _ | refine msetL ?_ _ _ (by first | exact .inl rfl | exact .inr rfl))) (fun b e hb => by omega)
  have c4' : ¬ ((n4 : Int) = 4) := by omega
  by_cases c5 : n4 = 5
  · subst c5
    obtain ⟨x0, x1, xf, xl⟩ := X
    have X : Box2 w4 w2.heap.size (.int .i64 id) (.slice (some ⟨g, 0, none⟩) n c) := ⟨x0, x1, xf, xl⟩
    obtain ⟨l, hle⟩ : ∃ l, l = xs.getD i default := ⟨_, rfl⟩
    obtain ⟨l0, l1, l2, l3⟩ := getLegsC xs i (by rw [HN.out]; omega)
    rw [← hle] at l0 l1 l2 l3
    have q0 := (ho4.cellAt (i * 4) (by omega)).trans l0
    have q1 := (ho4.cellAt (i * 4 + 1) (by omega)).trans l1
    have q2 := (ho4.cellAt (i * 4 + 2) (by omega)).trans l2
    have q3 := (ho4.cellAt (i * 4 + 3) (by omega)).trans l3
    clear l0 l1 l2 l3 hle
    have HO4 : Hid (w4.ownsRow (w.heap.size + 1) 40 4 (.slice (some ⟨g, 0, none⟩) n c) n (legsC xs)) := ho4
    clear ho4
    go_wp2
    refine wp_region_noPanic ?_
    refine region_upto (fun W => W.cell? ⟨w2.heap.size, 1, none⟩ = some (.slice (some ⟨g, 0, none⟩) n c)) 10 (by kernel_rfl) (cell_keep (by (repeat (first | exact Below.refl _ _ | assumption | refine Below.drew ?_ | refine balloc ?_ _ | refine bset ?_ (by simp; omega) _ | refine bset ?_ (by simp) _ | refine bstep ?_ (by assumption)))) x1) (fun hS => ?_)
    refine upto_take (i := 0) (v := ?_) rfl (by kernel_rfl) (by kernel_rfl) (by kernel_rfl) (by kernel_rfl) (fun _ _ _ h => h) (by rfl) hS ?_ ?_
    rotate_left
    · intro wS hSw
      try dsimp only at hSw
      first | (go_simp; done) | (go_simp; with_reducible rfl)
    try simp only [Act.put, List.getElem_toArray, List.getElem_cons_zero, List.getElem_cons_succ, List.setIfInBounds_toArray, List.set_cons_zero, List.set_cons_succ]
    refine upto_take (i := 1) (v := ?_) rfl (by kernel_rfl) (by kernel_rfl) (by kernel_rfl) (by kernel_rfl) (fun _ _ _ h => h) (by rfl) hS ?_ ?_
    rotate_left
    · intro wS hSw
      try dsimp only at hSw
      first | (go_simp; done) | (go_simp; with_reducible rfl)
    try simp only [Act.put, List.getElem_toArray, List.getElem_cons_zero, List.getElem_cons_succ, List.setIfInBounds_toArray, List.set_cons_zero, List.set_cons_succ]
    refine upto_take (i := 2) (v := ?_) rfl (by kernel_rfl) (by kernel_rfl) (by kernel_rfl) (by kernel_rfl) (fun _ _ _ h => h) (by rfl) hS ?_ ?_
    rotate_left
    · intro wS hSw
      try dsimp only at hSw
      first | (go_simp; done) | (go_simp; with_reducible rfl)
    try simp only [Act.put, List.getElem_toArray, List.getElem_cons_zero, List.getElem_cons_succ, List.setIfInBounds_toArray, List.set_cons_zero, List.set_cons_succ]
    refine upto_take (i := 3) (v := ?_) rfl (by kernel_rfl) (by kernel_rfl) (by kernel_rfl) (by kernel_rfl) (fun _ _ _ h => h) (by rfl) hS ?_ ?_
    rotate_left
    · intro wS hSw
      try dsimp only at hSw
      first | (go_simp; done) | (go_simp; with_reducible rfl)
    try simp only [Act.put, List.getElem_toArray, List.getElem_cons_zero, List.getElem_cons_succ, List.setIfInBounds_toArray, List.set_cons_zero, List.set_cons_succ]
    refine upto_take (i := 4) (v := ?_) rfl (by kernel_rfl) (by kernel_rfl) (by kernel_rfl) (by kernel_rfl) (fun _ _ _ h => h) (by rfl) hS ?_ ?_
    rotate_left
    · intro wS hSw
      try dsimp only at hSw
      first | (go_simp; done) | (go_simp; with_reducible rfl)
    try simp only [Act.put, List.getElem_toArray, List.getElem_cons_zero, List.getElem_cons_succ, List.setIfInBounds_toArray, List.set_cons_zero, List.set_cons_succ]
    refine upto_step (i := 5) (by kernel_rfl) rfl ?_
    intro K hK
    go_simp
    refine hK _ _ (fun _ => hS) ?_
    clear hK K
    try simp only [Act.put, List.getElem_toArray, List.getElem_cons_zero, List.getElem_cons_succ, List.setIfInBounds_toArray, List.set_cons_zero, List.set_cons_succ]
    refine upto_step (i := 6) (by kernel_rfl) rfl ?_
    intro K hK
    go_simp
    refine hK _ _ (fun _ => hS) ?_
    clear hK K
    try simp only [Act.put, List.getElem_toArray, List.getElem_cons_zero, List.getElem_cons_succ, List.setIfInBounds_toArray, List.set_cons_zero, List.set_cons_succ]
    refine upto_step (i := 7) (by kernel_rfl) rfl ?_
    intro K hK
    go_simp
    have hS7 : (fun W : World => W.cell? ⟨w2.heap.size, 1, none⟩ = some (.slice (some ⟨g, 0, none⟩) n c)) (w4.alloc (.cells #[.int .i64 l.sh, .int .i64 l.ac, .int .i64 l.ast, .int .i64 l.am] 40)).drew := cell_keep (by (repeat (first | exact Below.refl _ _ | assumption | refine Below.drew ?_ | refine balloc ?_ _ | refine bset ?_ (by simp; omega) _ | refine bset ?_ (by simp) _ | refine bstep ?_ (by assumption)))) x1
    refine hK _ _ (fun _ => hS7) ?_
    clear hK K
    try simp only [Act.put, List.getElem_toArray, List.getElem_cons_zero, List.getElem_cons_succ, List.setIfInBounds_toArray, List.set_cons_zero, List.set_cons_succ]
    have hb7 : Below w4.heap.size w4 (w4.alloc (.cells #[.int .i64 l.sh, .int .i64 l.ac, .int .i64 l.ast, .int .i64 l.am] 40)).drew := by (repeat (first | exact Below.refl _ _ | assumption | refine Below.drew ?_ | refine balloc ?_ _ | refine bset ?_ (by simp; omega) _ | refine bset ?_ (by simp) _ | refine bstep ?_ (by assumption)))
    refine upto_step (i := 8) (by kernel_rfl) rfl ?_
    intro K hK
    refine step_appLegs _ rfl _ _ rfl (w.heap.size + 1) (.slice (some ⟨g, 0, none⟩) n c) (fun b => (.slice (some ⟨g, 0, none⟩) n c : Value).ownBlock = some b) xs rfl (.slice (some ⟨w4.heap.size, 0, none⟩) 1 1) [l] rfl ⟨by rw [HN.out]; exact owns_below HO4.out hb7, rfl⟩ (.inr ⟨⟨w4.heap.size, 0, none⟩, 1, rfl, ?_⟩) (by rw [HN.out]; simp; omega) (by have := hb7.size; omega) ?_
    · intro j u hj
      match j, hj with
      | 0, hj => simp [legsC, legC] at hj; subst hj; simp [Addr.add, go_sem]
      | 1, hj => simp [legsC, legC] at hj; subst hj; simp [Addr.add, go_sem]
      | 2, hj => simp [legsC, legC] at hj; subst hj; simp [Addr.add, go_sem]
      | 3, hj => simp [legsC, legC] at hj; subst hj; simp [Addr.add, go_sem]
      | j + 4, hj => simp [legsC, legC] at hj
    intro v8 w8 o8 m8 r8
    have hln : (xs ++ [l]).length = n + 1 := by rw [List.length_append, HN.out]; rfl
    have o8' := o8.1
    rw [hln] at o8'
    obtain ⟨g', c', rfl⟩ : ∃ g' c', v8 = .slice (some ⟨g', 0, none⟩) (n + 1) c' := by
      rcases o8'.2 with ⟨_, hn⟩ | ⟨g', c', _, e, _⟩
      · omega
      · exact ⟨g', c', e⟩
    have hz7 : (w4.alloc (.cells #[.int .i64 l.sh, .int .i64 l.ac, .int .i64 l.ast, .int .i64 l.am] 40)).drew.heap.size = w4.heap.size + 1 := by simp
    have hg' : g' = g ∨ w4.heap.size + 1 ≤ g' := by
      rcases r8 g' rfl with h | h
      · left
        simpa [Value.ownBlock] using h.symm
      · right
        rw [hz7] at h
        exact h.1
    have hS8 : (fun W : World => W.cell? ⟨w2.heap.size, 1, none⟩ = some (.slice (some ⟨g, 0, none⟩) n c)) w8 := m8.cell hS7 (fun e => by simp [Value.ownBlock] at e; omega)
    clear x0 x1 xf xl
    obtain ⟨x0, x1, xf, xl⟩ := (X.below hb7).mod m8 (fun e => by simp [Value.ownBlock] at e; omega)
    obtain ⟨r0, r1, rf, rl⟩ := (R.below hb7).mod m8 (fun e => by simp [Value.ownBlock] at e; omega)
    have h8 := (h4.below hb7).mod m8 (fun b e => by simp [Value.ownBlock] at e; omega)
    have M8 : Mod (fun b => b = bs) w w8 := (M4.transB hb7).trans2 m8 (fun b e hb => by simp [Value.ownBlock] at e; omega)
    have HO8 : Hid (w8.ownsRow (w.heap.size + 1) 40 4 (.slice (some ⟨g', 0, none⟩) (n + 1) c') (xs ++ [l]).length (legsC (xs ++ [l]))) := by rw [Hid, hln]; exact o8'
    have HLN : Hid ((xs ++ [l]).length = n + 1) := hln
    refine hK _ _ (fun _ => hS8) ?_
    clear hK K m8 h4 M4 X R hS hS7 o8 o8' r8 hb7 hln q0 q1 q2 q3 HO4 hz7
    try simp only [Act.put, List.getElem_toArray, List.getElem_cons_zero, List.getElem_cons_succ, List.setIfInBounds_toArray, List.set_cons_zero, List.set_cons_succ]
    refine upto_step (i := 9) (by kernel_rfl) rfl ?_
    intro K hK
    go_simp
    refine hK _ _ (fun _ => hS8) ?_
    clear hK K
    try simp only [Act.put, List.getElem_toArray, List.getElem_cons_zero, List.getElem_cons_succ, List.setIfInBounds_toArray, List.set_cons_zero, List.set_cons_succ]
    refine upto_step (i := 10) (by kernel_rfl) rfl ?_
    intro K hK
    go_simp
    refine hK _ _ (fun h => absurd rfl h) ?_
    clear hK K hS8
    refine upto_done (by kernel_rfl) ?_
    refine NoPanic.normal ?_
    go_wp2
    refine bodyPost_ret (v := .agg #[.int .i64 id, .slice (some ⟨g', 0, none⟩) (n + 1) c']) (by simp [results, Try.results39, go_sem, r0, r1, rf, x0, x1, xf, hnx, Ne.symm hnx]) rfl ⟨id, .slice (some ⟨g', 0, none⟩) (n + 1) c', _, xs ++ [l], t2 + 1 + 1, rfl, ⟨owns_base (Mod.owns (F := fun b => b = w2.heap.size ∨ b = w.heap.size) (by repeat (first | exact Mod.refl _ _ | refine msetL ?_ _ _ (by first | exact .inl rfl | exact .inr rfl))) HO8.out (fun b hb e => by simp [Value.ownBlock] at hb; omega)) (by omega), rfl⟩, by rw [HLN.out]; omega, ?_, by omega, ?_⟩
    · exact h8.mod (F := fun b => b = w2.heap.size ∨ b = w.heap.size) (by repeat (first | exact Mod.refl _ _ | refine msetL ?_ _ _ (by first | exact .inl rfl | exact .inr rfl))) (fun b e => by omega)
    · exact M8.trans2 (G := fun b => b = w2.heap.size ∨ b = w.heap.size) (by repeat (first | exact Mod.refl _ _ | refine msetL ?_ _ _ (by first | exact .inl rfl | exact .inr rfl))) (fun b e hb => by omega)
  have c5' : ¬ ((n4 : Int) = 5) := by omega
  obtain ⟨x0, x1, xf, xl⟩ := X
  obtain ⟨r0, r1, rf, rl⟩ := R
  by_cases c6 : n4 = 6
  · subst c6
    have h1c : (1 : Int) ≤ c := by omega
    have ho5 : w4.ownsRow (w.heap.size + 1) 40 4 (.slice (some ⟨g, 0, none⟩) 1 c) (xs.take 1).length (legsC (xs.take 1)) := owns_takeL (by rw [HN.out]; exact ho4) 1 (by rw [HN.out]; omega)
    clear ho4
    go_wp2
    refine bodyPost_ret (v := .agg #[.int .i64 id, .slice (some ⟨g, 0, none⟩) 1 c]) (by simp [results, Try.results39, go_sem, r0, r1, rf, x0, x1, xf, hnx, Ne.symm hnx]) rfl ⟨id, .slice (some ⟨g, 0, none⟩) 1 c, _, xs.take 1, t2 + 1 + 1, rfl, ⟨owns_base (Mod.owns (F := fun b => b = w2.heap.size ∨ b = w.heap.size) (by repeat (first | exact Mod.refl _ _ | refine msetL ?_ _ _ (by first | exact .inl rfl | exact .inr rfl))) ho5 (fun b hb e => by simp [Value.ownBlock] at hb; omega)) (by omega), rfl⟩, by rw [List.length_take]; omega, ?_, by omega, ?_⟩
    · exact h4.mod (F := fun b => b = w2.heap.size ∨ b = w.heap.size) (by repeat (first | exact Mod.refl _ _ | refine msetL ?_ _ _ (by first | exact .inl rfl | exact .inr rfl))) (fun b e => by omega)
    · exact M4.trans2 (G := fun b => b = w2.heap.size ∨ b = w.heap.size) (by repeat (first | exact Mod.refl _ _ | refine msetL ?_ _ _ (by first | exact .inl rfl | exact .inr rfl))) (fun b e hb => by omega)
  have c6' : ¬ ((n4 : Int) = 6) := by omega
  by_cases c7 : n4 = 7
  · subst c7
    obtain ⟨w5, hmk, o5, g5⟩ := run_make_full (P := Try.prog) w4 (w4.heap.size) 27 40 i0 _ 4 Try.underlying27 hi hz0 hz1 .i64 .i64 9 (by rw [hz2]; omega) (by unfold maxLen; omega) (Nat.le_refl _)
    rw [zeroLegs_made] at o5
    have hmk' : (Instr.makeSlice 27 (.int .i64 9) (.int .i64 9)).run Try.prog w4 = .ok (.slice (some ⟨w4.heap.size, 0, none⟩) 9 9) w5 := hmk
    have hb5 : Below w4.heap.size w4 w5 := (Below.refl _ _).grown g5 (Nat.le_refl _) (fun k h => by cases h)
    have z5 := hb5.size
    have hX5 := Box2.below ⟨x0, x1, xf, xl⟩ hb5
    have hR5 := Box2.below ⟨r0, r1, rf, rl⟩ hb5
    have h5 := h4.below hb5
    have M5 := M4.transB hb5
    clear x0 x1 xf xl r0 r1 rf rl ho4 hmk g5
    obtain ⟨x0, x1, xf, xl⟩ := hX5
    obtain ⟨r0, r1, rf, rl⟩ := hR5
    have ho6 : w5.ownsRow (w.heap.size + 1) 40 4 (.slice (some ⟨w4.heap.size, 0, none⟩) 9 9) zeroLegs.length (legsC zeroLegs) := by rw [zeroLegs_len]; exact owns_base o5 (by omega)
    clear o5
    go_wp2
    refine bodyPost_ret (v := .agg #[.int .i64 id, .slice (some ⟨w4.heap.size, 0, none⟩) 9 9]) (by simp [results, Try.results39, go_sem, r0, r1, rf, x0, x1, xf, hnx, Ne.symm hnx]) rfl ⟨id, .slice (some ⟨w4.heap.size, 0, none⟩) 9 9, _, zeroLegs, t2 + 1 + 1, rfl, ⟨owns_base (Mod.owns (F := fun b => b = w2.heap.size ∨ b = w.heap.size) (by repeat (first | exact Mod.refl _ _ | refine msetL ?_ _ _ (by first | exact .inl rfl | exact .inr rfl))) ho6 (fun b hb e => by simp [Value.ownBlock] at hb; omega)) (by omega), rfl⟩, by rw [zeroLegs_len]; omega, ?_, by omega, ?_⟩
    · exact h5.mod (F := fun b => b = w2.heap.size ∨ b = w.heap.size) (by repeat (first | exact Mod.refl _ _ | refine msetL ?_ _ _ (by first | exact .inl rfl | exact .inr rfl))) (fun b e => by omega)
    · exact M5.trans2 (G := fun b => b = w2.heap.size ∨ b = w.heap.size) (by repeat (first | exact Mod.refl _ _ | refine msetL ?_ _ _ (by first | exact .inl rfl | exact .inr rfl))) (fun b e hb => by omega)
  have c7' : ¬ ((n4 : Int) = 7) := by omega
  have ho6 : w4.ownsRow (w.heap.size + 1) 40 4 (.slice (some ⟨g, 0, none⟩) n c) xs.length (legsC xs) := by rw [HN.out]; exact ho4
  clear ho4
  go_wp2
  refine bodyPost_ret (v := .agg #[.int .i64 id, .slice (some ⟨g, 0, none⟩) n c]) (by simp [results, Try.results39, go_sem, r0, r1, rf, x0, x1, xf, hnx, Ne.symm hnx]) rfl ⟨id, .slice (some ⟨g, 0, none⟩) n c, _, xs, t2 + 1 + 1, rfl, ⟨owns_base (Mod.owns (F := fun b => b = w2.heap.size ∨ b = w.heap.size) (by repeat (first | exact Mod.refl _ _ | refine msetL ?_ _ _ (by first | exact .inl rfl | exact .inr rfl))) ho6 (fun b hb e => by simp [Value.ownBlock] at hb; omega)) (by omega), rfl⟩, by rw [HN.out]; omega, ?_, by omega, ?_⟩
  · exact h4.mod (F := fun b => b = w2.heap.size ∨ b = w.heap.size) (by repeat (first | exact Mod.refl _ _ | refine msetL ?_ _ _ (by first | exact .inl rfl | exact .inr rfl))) (fun b e => by omega)
  · exact M4.trans2 (G := fun b => b = w2.heap.size ∨ b = w.heap.size) (by repeat (first | exact Mod.refl _ _ | refine msetL ?_ _ _ (by first | exact .inl rfl | exact .inr rfl))) (fun b e hb => by omega)
end Go.Proofs.Ytgjpafalompecaa

/-
  The draws of SettleOne, CanSettle.
-/
set_option linter.unusedVariables false
set_option linter.unusedSimpArgs false
namespace Go.Proofs.Ytgjpafalompecaa
open Go.RowKit
set_option linter.unusedSectionVars false
variable [DecidableEq Bal] [Inhabited Bal] [DecidableEq Ledg] [Inhabited Ledg] [DecidableEq Leg] [Inhabited Leg] [DecidableEq Mrk] [Inhabited Mrk] [DecidableEq Logg] [Inhabited Logg] [DecidableEq LoggR] [Inhabited LoggR] [DecidableEq BytesR] [Inhabited BytesR] [DecidableEq RecsR] [Inhabited RecsR] [DecidableEq LedgR] [Inhabited LedgR] [DecidableEq Cont] [Inhabited Cont]
attribute [local go_sem ↓] Go.wp_at_zero Go.wp_at_succ

def LedM (M : Nat) (W : World) (N : Nat) (p : Option Addr) (m c : Nat) : Prop :=
  m ≤ c ∧ c ≤ maxLen ∧ ∀ k, k < m → ∃ (b o : Nat) (u : Option Addr) (n cu : Nat), p = some ⟨b, o, none⟩ ∧ N ≤ b ∧ W.cell? ⟨b, o + k, none⟩ = some (.slice u n cu) ∧ n ≤ M ∧ RowI W N u n cu
theorem LedM.mod {M : Nat} {F : Nat → Prop} {W W' : World} {N : Nat} {p : Option Addr} {m c : Nat} (h : LedM M W N p m c) (hm : Mod F W W') (hF : ∀ b, F b → b < N) : LedM M W' N p m c :=
  ⟨h.1, h.2.1, fun k hk' => by
    obtain ⟨b, o, u, n, cu, e, hb, hc, hn, hr⟩ := h.2.2 k hk'
    exact ⟨b, o, u, n, cu, e, hb, hm.cell hc (fun e => by have := hF b e; omega), hn, hr.mod hm hF⟩⟩
theorem LedM.base {M : Nat} {W : World} {N N' : Nat} {p : Option Addr} {m c : Nat} (h : LedM M W N p m c) (hN : N' ≤ N) : LedM M W N' p m c :=
  ⟨h.1, h.2.1, fun k hk => by
    obtain ⟨b, o, u, n, cu, e, hb, hc, hn, hr⟩ := h.2.2 k hk
    exact ⟨b, o, u, n, cu, e, by omega, hc, hn, hr.base hN⟩⟩
theorem LedI.toM {W : World} {N : Nat} {p : Option Addr} {m c : Nat} (h : LedI W N p m c) : LedM 100 W N p m c :=
  ⟨h.1, h.2.1, fun k hk' => by
    obtain ⟨b, o, u, n, cu, e, hb, hc, hn, hr⟩ := h.2.2 k hk'
    exact ⟨b, o, u, n, cu, e, hb, hc, by omega, hr⟩⟩
theorem LedM.setRow {W : World} {N : Nat} {b o m c : Nat} (h : LedM 100 W N (some ⟨b, o, none⟩) m c) {x : Value} (hq : W.cell? ⟨b, o, none⟩ = some x) (hx : ∀ z : Int, ¬ x = .int .i64 z) {u : Option Addr} {n cu : Nat} (hu : RowI W N u n cu) (hn : n ≤ 100) : LedM 100 (W.setCell ⟨b, o, none⟩ (.slice u n cu)) N (some ⟨b, o, none⟩) m c :=
  ⟨h.1, h.2.1, fun k hk => by
    obtain ⟨b', o', u', n', cu', e, hb, hc, hn', hr⟩ := h.2.2 k hk
    simp only [Option.some.injEq, Addr.mk.injEq, and_true] at e
    obtain ⟨rfl, rfl⟩ := e
    by_cases hk0 : k = 0
    · subst hk0
      exact ⟨b, o, u, n, cu, rfl, hb, set_same hc, hn, hu.setNon hq hx _⟩
    · exact ⟨b, o, u', n', cu', rfl, hb, by rw [set_other (fun e => by simp only [Addr.mk.injEq, and_true, true_and] at e; omega)]; exact hc, hn', hr.setNon hq hx _⟩⟩
theorem ledM_V {M : Nat} {W : World} {N : Nat} {p : Option Addr} {m c : Nat} (h : LedM M W N p m c) : ∃ gs : List (List Bal), gs.length = m ∧ balssR.V W (.slice p m c) gs ∧ ∀ k, k < m → (gs.getD k default).length ≤ M := by
  obtain ⟨h1, h2, h3⟩ := h
  have hx : ∀ j, j ≤ m → ∃ gs : List (List Bal), gs.length = j ∧ ∀ k, k < j → ∃ b o u, p = some ⟨b, o, none⟩ ∧ W.cell? ⟨b, o + k, none⟩ = some u ∧ balsR.V W u (gs.getD k default) ∧ (gs.getD k default).length ≤ M := by
    intro j
    induction j with
    | zero => intro _; exact ⟨[], rfl, fun k hk => absurd hk (Nat.not_lt_zero _)⟩
    | succ j ih =>
      intro hj
      obtain ⟨gs, hl, hgs⟩ := ih (by omega)
      obtain ⟨b, o, u, n, cu, e, _, hc, hn, hr⟩ := h3 j (by omega)
      obtain ⟨xs, hxl, hV⟩ := rowI_V hr
      refine ⟨gs ++ [xs], by simp [hl], fun k hk => ?_⟩
      by_cases ek : k < j
      · have : (gs ++ [xs]).getD k default = gs.getD k default := by
          simp only [List.getD_eq_getElem?_getD]; rw [List.getElem?_append_left (by omega)]
        rw [this]
        exact hgs k ek
      · obtain rfl : k = j := by omega
        have : (gs ++ [xs]).getD k default = xs := by rw [← hl]; simp
        rw [this]
        exact ⟨b, o, _, e, hc, hV, by omega⟩
  obtain ⟨gs, hl, hgs⟩ := hx m (Nat.le_refl _)
  subst hl
  refine ⟨gs, rfl, ⟨p, c, rfl, h1, h2, fun k hk => ?_⟩, fun k hk => by obtain ⟨_, _, _, _, _, _, h⟩ := hgs k hk; exact h⟩
  obtain ⟨b, o, u, e, hc, hV, _⟩ := hgs k hk
  have hV' := hV
  obtain ⟨a', c', e', _⟩ := hV'
  subst e'
  refine ⟨b, o, _, e, rfl, fun j hj => ?_, hV⟩
  have hj0 : j = 0 := by omega
  subst hj0
  simpa [one] using hc
structure BoSt (w W : World) (G C : Nat) (gv : Value) (id : Int) (cv : Value) : Prop where
  r0 : W.cell? ⟨w.heap.size, 0, none⟩ = some (.slice none 0 0)
  s0 : W.cell? ⟨w.heap.size + 1, 0, none⟩ = some (.int .i64 0)
  s1 : W.cell? ⟨w.heap.size + 1, 1, none⟩ = some (.slice none 0 0)
  rf : ∀ o, W.frozen? ⟨w.heap.size, o, none⟩ = false
  sf : ∀ o, W.frozen? ⟨w.heap.size + 1, o, none⟩ = false
  g0 : W.cell? ⟨G, 0, none⟩ = some gv
  c0 : W.cell? ⟨C, 0, none⟩ = some (.int .i64 id)
  c1 : W.cell? ⟨C, 1, none⟩ = some cv
  cf : ∀ o, W.frozen? ⟨C, o, none⟩ = false
  lo : w.heap.size + 2 < G ∧ G < C
  sz : C < W.heap.size
  bl : Below w.heap.size w W
theorem BoSt.mod {w W W' : World} {G C : Nat} {gv : Value} {id : Int} {cv : Value} {F : Nat → Prop} (h : BoSt w W G C gv id cv) (hm : Mod F W W') (hF : ∀ b, F b → w.heap.size + 2 ≤ b ∧ ¬ b = G ∧ ¬ b = C) : BoSt w W' G C gv id cv := by
  have hsz := h.sz
  have hlo := h.lo
  have n0 : ¬ F w.heap.size := fun e => by have := hF _ e; omega
  have n1 : ¬ F (w.heap.size + 1) := fun e => by have := hF _ e; omega
  have n2 : ¬ F G := fun e => by have := hF _ e; omega
  have n3 : ¬ F C := fun e => by have := hF _ e; omega
  exact ⟨hm.cell h.r0 n0, hm.cell h.s0 n1, hm.cell h.s1 n1, fun o => (World.frozen?_of_block (hm.block w.heap.size (by omega) n0)).trans (h.rf o), fun o => (World.frozen?_of_block (hm.block (w.heap.size + 1) (by omega) n1)).trans (h.sf o), hm.cell h.g0 n2, hm.cell h.c0 n3, hm.cell h.c1 n3, fun o => (World.frozen?_of_block (hm.block C (by omega) n3)).trans (h.cf o), h.lo, Nat.lt_of_lt_of_le hsz hm.size, hm.below h.bl (by omega) (fun b e => by have := hF _ e; omega)⟩
theorem BoSt.below {w W W' : World} {G C : Nat} {gv : Value} {id : Int} {cv : Value} (h : BoSt w W G C gv id cv) (hb : Below W.heap.size W W') : BoSt w W' G C gv id cv :=
  h.mod (F := fun _ => False) (Mod.of_below hb) (fun _ e => e.elim)
theorem BoSt.con {w W : World} {G C : Nat} {gv : Value} {id : Int} {cv : Value} (h : BoSt w W G C gv id cv) (id' : Int) (cv' : Value) : BoSt w ((W.setCell ⟨C, 0, none⟩ (.int .i64 id')).setCell ⟨C, 1, none⟩ cv') G C gv id' cv' := by
  have hsz := h.sz
  have hlo := h.lo
  have hm : Mod (fun b => b = C) W ((W.setCell ⟨C, 0, none⟩ (.int .i64 id')).setCell ⟨C, 1, none⟩ cv') := (Mod.of_set W ⟨C, 0, none⟩ (.int .i64 id')).trans (Mod.of_set _ ⟨C, 1, none⟩ cv')
  have n0 : ¬ w.heap.size = C := by omega
  have n1 : ¬ w.heap.size + 1 = C := by omega
  have n2 : ¬ G = C := by omega
  have k1 : (W.setCell ⟨C, 0, none⟩ (.int .i64 id')).cell? ⟨C, 1, none⟩ = some cv := by rw [set_other (by simp)]; exact h.c1
  exact ⟨hm.cell h.r0 n0, hm.cell h.s0 n1, hm.cell h.s1 n1, fun o => (World.frozen?_of_block (hm.block w.heap.size (by omega) n0)).trans (h.rf o), fun o => (World.frozen?_of_block (hm.block (w.heap.size + 1) (by omega) n1)).trans (h.sf o), hm.cell h.g0 n2, by rw [set_other (by simp)]; exact set_same h.c0, set_same k1, fun o => by rw [World.frozen?_setCell, World.frozen?_setCell]; exact h.cf o, h.lo, Nat.lt_of_lt_of_le hsz hm.size, hm.below h.bl (by omega) (fun b e => by omega)⟩
theorem LedM.setOff {M : Nat} {W : World} {N b o m c : Nat} (h : LedM M W N (some ⟨b, o, none⟩) m c) {q : Addr} {x v : Value} (hq : W.cell? q = some x) (hb : q.block ≠ b) (hv : (∃ z z' : Int, x = .int .i64 z ∧ v = .int .i64 z') ∨ ∀ z : Int, ¬ x = .int .i64 z) : LedM M (W.setCell q v) N (some ⟨b, o, none⟩) m c :=
  ⟨h.1, h.2.1, fun k hk => by
    obtain ⟨b', o', u, n, cu, e, hN, hc, hn, hr⟩ := h.2.2 k hk
    simp only [Option.some.injEq, Addr.mk.injEq, and_true] at e
    obtain ⟨rfl, rfl⟩ := e
    refine ⟨b, o, u, n, cu, rfl, hN, by rw [set_other (fun e => by rw [e] at hb; exact hb rfl)]; exact hc, hn, ?_⟩
    rcases hv with ⟨z, z', rfl, rfl⟩ | hx
    · exact hr.setInt hq z'
    · exact hr.setNon hq hx v⟩
set_option maxRecDepth 20000 in
set_option maxHeartbeats 16000000 in
theorem l2Both_any (x : Value) (cs : List Byte) (w : World) (hx : BytesV w x cs) (hn : cs.length ≤ 1048576) :
    Calls Try.prog 18 #[x] w fun e w' => ∃ p m cc id v F xs, e = .returned (.tuple #[.agg #[.slice p m cc], .agg #[.int .i64 id, v]]) ∧ LedM 100 w' w.heap.size p m cc ∧ m ≤ 6 ∧ legsR.O w' w.heap.size F v xs ∧ xs.length ≤ 9 ∧ Below w.heap.size w w' := by
  have hX := hx
  obtain ⟨ax, cx, rfl, _⟩ := hx
  go_enter Try.func18, Try.ntmps18
  go_wp2_with fail
  refine (l1Source_any _ cs _ (BytesV_below hX (by (repeat (first | exact Below.refl _ _ | assumption | refine Below.drew ?_ | refine balloc ?_ _ | refine bset ?_ (by simp; omega) _ | refine bset ?_ (by simp) _ | refine bstep ?_ (by assumption))))) (by omega)).mono ?_
  rintro e w1 ⟨a, cap, rfl, hs1, hb1⟩
  simp only [World.size_alloc] at hs1
  have z1 := hs1.lt
  have R1 : (w1.cell? ⟨w.heap.size, 0, none⟩ = some (.slice none 0 0) ∧ w1.cell? ⟨w.heap.size + 1, 0, none⟩ = some (.int .i64 0) ∧ w1.cell? ⟨w.heap.size + 1, 1, none⟩ = some (.slice none 0 0)) ∧ (∀ o, w1.frozen? ⟨w.heap.size, o, none⟩ = false) ∧ (∀ o, w1.frozen? ⟨w.heap.size + 1, o, none⟩ = false) := ⟨⟨cell_keep hb1 (by simp [go_sem]), cell_keep hb1 (by simp [go_sem]), cell_keep hb1 (by simp [go_sem])⟩, fun o => by rw [(bcell hb1).2 _ _ (by first | (simp; done) | (simp; omega))]; simp [go_sem], fun o => by rw [(bcell hb1).2 _ _ (by first | (simp; done) | (simp; omega))]; simp [go_sem]⟩
  have hB1 : Below w.heap.size w w1 := by (repeat (first | exact Below.refl _ _ | assumption | refine Below.drew ?_ | refine balloc ?_ _ | refine bset ?_ (by simp; omega) _ | refine bset ?_ (by simp) _ | refine bstep ?_ (by assumption)))
  clear hb1
  go_wp2_with fail
  refine (l2Bent_any (w.heap.size + 1 + 1) w1 (w.heap.size + 1 + 1) a cs.length cap 0 hs1 (by omega)).mono ?_
  rintro e w2 ⟨p, m, cc, t2, rfl, L2, hm6, hs2, ht2, m2, F2⟩
  have z2 := m2.size
  have hB2 : Below w.heap.size w w2 := m2.below hB1 (by omega) (fun b hb => by omega)
  have R2 : Hid ((w2.cell? ⟨w.heap.size, 0, none⟩ = some (.slice none 0 0) ∧ w2.cell? ⟨w.heap.size + 1, 0, none⟩ = some (.int .i64 0) ∧ w2.cell? ⟨w.heap.size + 1, 1, none⟩ = some (.slice none 0 0)) ∧ (∀ o, w2.frozen? ⟨w.heap.size, o, none⟩ = false) ∧ (∀ o, w2.frozen? ⟨w.heap.size + 1, o, none⟩ = false)) := ⟨⟨m2.cell R1.1.1 (by dsimp only; omega), m2.cell R1.1.2.1 (by dsimp only; omega), m2.cell R1.1.2.2 (by dsimp only; omega)⟩, fun o => (World.frozen?_of_block (m2.block w.heap.size (by omega) (by omega))).trans (R1.2.1 o), fun o => (World.frozen?_of_block (m2.block (w.heap.size + 1) (by omega) (by omega))).trans (R1.2.2 o)⟩
  have HL2 : Hid (LedI w2 w1.heap.size p m cc) := L2
  have HF2 : Hid (Fz w2 p) := F2
  clear m2 hB1 hs1 R1 L2 F2
  go_wp2_with fail
  refine (l1Bent_any (w.heap.size + 1 + 1) _ (w.heap.size + 1 + 1) a cs.length cap t2 (hs2.below (balloc (Below.refl _ _) _)) (by omega)).mono ?_
  rintro e w3 ⟨id, v3, F3, xs, t3, rfl, o3, hl3, hs3, ht3, m3⟩
  obtain ⟨pl, ql, rfl⟩ := legs_form (legsR.ofO o3)
  have z3 : w2.heap.size + 1 ≤ w3.heap.size := by have := m3.size; simpa using this
  have hMM : Mod (fun b => b = w.heap.size + 1 + 1) w2 (w3.alloc (.cells #[.int .i64 id, .slice pl xs.length ql] 29)) := ((Mod.of_below (balloc (Below.refl w2.heap.size w2) (.cells #[.slice p m cc] 26))).trans m3).alloc _
  have B3 : BoSt w (w3.alloc (.cells #[.int .i64 id, .slice pl xs.length ql] 29)) w2.heap.size w3.heap.size (.slice p m cc) id (.slice pl xs.length ql) := by
    obtain ⟨⟨q0, q1, q2⟩, q3, q4⟩ := R2.out
    refine ⟨hMM.cell q0 (by dsimp only; omega), hMM.cell q1 (by dsimp only; omega), hMM.cell q2 (by dsimp only; omega), fun o => (World.frozen?_of_block (hMM.block w.heap.size (by omega) (by omega))).trans (q3 o), fun o => (World.frozen?_of_block (hMM.block (w.heap.size + 1) (by omega) (by omega))).trans (q4 o), ?_, by simp [go_sem], by simp [go_sem], fun o => by simp [go_sem], ⟨by omega, by omega⟩, by simp, hMM.below hB2 (by omega) (fun b e => by omega)⟩
    exact cell_keep (balloc (Below.refl _ _) _) (m3.cell (by simp [go_sem]) (by dsimp only; omega))
  have HB3 : Hid (BoSt w (w3.alloc (.cells #[.int .i64 id, .slice pl xs.length ql] 29)) w2.heap.size w3.heap.size (.slice p m cc) id (.slice pl xs.length ql)) := B3
  have HO3 : Hid (legsR.O (w3.alloc (.cells #[.int .i64 id, .slice pl xs.length ql] 29)) (w.heap.size + 2) F3 (.slice pl xs.length ql) xs) := legsR.alloc (legsR.base o3 (by simp; omega)) _
  have HRG : Hid (∀ b, F3 b → w2.heap.size + 1 ≤ b ∧ b < w3.heap.size) := fun b hb => by have := legsR.rng o3 b hb; simpa using this
  have HMM : Hid (Mod (fun b => b = w.heap.size + 1 + 1) w2 (w3.alloc (.cells #[.int .i64 id, .slice pl xs.length ql] 29))) := hMM
  clear hMM B3 o3 m3
  obtain ⟨nl, hnl⟩ : ∃ n, n = xs.length := ⟨_, rfl⟩
  have HNL : Hid (xs.length = nl) := hnl.symm
  rw [← hnl] at HB3 HO3 HMM hl3 ⊢
  clear hnl
  go_wp2_with fail
  refine (l1Chance_any (w.heap.size + 1 + 1) _ (w.heap.size + 1 + 1) a cs.length cap t3 20 (hs3.below (balloc (Below.refl _ _) _)) (by omega) (by omega) (by omega)).mono ?_
  rintro e w4 ⟨ch, rfl, hs4, m4⟩
  have B4 := HB3.out.mod m4 (fun b e => by omega)
  have O4 := legsR.mod HO3.out m4 (fun b hb e => by have := HRG.out b hb; omega)
  have M24 := HMM.out.trans m4
  have L4 := (HL2.out.mod M24 (fun b e => by omega)).toM
  clear HB3 HO3 HMM m4
  cases ch with
  | false =>
    have HL9 : Hid (LedM 100 w4 w1.heap.size p m cc) := L4
    have HO9 : Hid (legsR.O w4 (w.heap.size + 2) F3 (.slice pl nl ql) (xs)) := O4
    have hlo := B4.lo
    obtain ⟨r0, s0, s1, rf, sf, g0, c0, c1, cf, _, sz, bl⟩ := B4
    have HW9 : Hid (Below w.heap.size w w4) := bl
    clear L4 O4 bl
    have hmE : Mod (fun b => b = w.heap.size ∨ b = w.heap.size + 1) w4 (((w4.setCell ⟨w.heap.size, 0, none⟩ (.slice p m cc)).setCell ⟨w.heap.size + 1, 0, none⟩ (.int .i64 id)).setCell ⟨w.heap.size + 1, 1, none⟩ (.slice pl nl ql)).drew := ((((Mod.of_set w4 ⟨w.heap.size, 0, none⟩ (.slice p m cc)).mono (fun b e => .inl e)).trans ((Mod.of_set _ ⟨w.heap.size + 1, 0, none⟩ (.int .i64 id)).mono (fun b e => .inr e))).trans ((Mod.of_set _ ⟨w.heap.size + 1, 1, none⟩ (.slice pl nl ql)).mono (fun b e => .inr e))).drew1
    have HmE : Hid (Mod (fun b => b = w.heap.size ∨ b = w.heap.size + 1) w4 (((w4.setCell ⟨w.heap.size, 0, none⟩ (.slice p m cc)).setCell ⟨w.heap.size + 1, 0, none⟩ (.int .i64 id)).setCell ⟨w.heap.size + 1, 1, none⟩ (.slice pl nl ql)).drew) := hmE
    clear hmE
    have nG0 : w2.heap.size ≠ w.heap.size := by omega
    have nG1 : w2.heap.size ≠ w.heap.size + 1 := by omega
    have nC0 : w3.heap.size ≠ w.heap.size := by omega
    have nC1 : w3.heap.size ≠ w.heap.size + 1 := by omega
    go_wp2
    refine wp_region_noPanic ?_
    refine region_upto (fun W => W.cell? ⟨w2.heap.size, 0, none⟩ = some (.slice p m cc) ∧ W.cell? ⟨w3.heap.size, 0, none⟩ = some (.int .i64 id) ∧ W.cell? ⟨w3.heap.size, 1, none⟩ = some (.slice pl nl ql)) 3 (by kernel_rfl) ⟨g0, c0, c1⟩ (fun hS => ?_)
    refine upto_take (i := 0) (v := ?_) rfl (by kernel_rfl) (by kernel_rfl) (by kernel_rfl) (by kernel_rfl) (fun _ _ _ h => h) (by rfl) hS ?_ ?_
    rotate_left
    · intro wS hSw
      try dsimp only at hSw
      first | (go_simp; done) | (go_simp; with_reducible rfl)
    try simp only [Act.put, List.getElem_toArray, List.getElem_cons_zero, List.getElem_cons_succ, List.setIfInBounds_toArray, List.set_cons_zero, List.set_cons_succ]
    refine upto_take (i := 1) (v := ?_) rfl (by kernel_rfl) (by kernel_rfl) (by kernel_rfl) (by kernel_rfl) (fun _ _ _ h => h) (by rfl) hS ?_ ?_
    rotate_left
    · intro wS hSw
      try dsimp only at hSw
      first | (go_simp; done) | (go_simp; with_reducible rfl)
    try simp only [Act.put, List.getElem_toArray, List.getElem_cons_zero, List.getElem_cons_succ, List.setIfInBounds_toArray, List.set_cons_zero, List.set_cons_succ]
    refine upto_step (i := 2) (by kernel_rfl) rfl ?_
    intro K hK
    go_simp
    refine hK _ _ (fun _ => ⟨cell_keep (Below.drew (Below.refl _ _)) (by rw [set_other (by first | (simp; done) | (simp; omega))]; exact hS.1), cell_keep (Below.drew (Below.refl _ _)) (by rw [set_other (by first | (simp; done) | (simp; omega))]; exact hS.2.1), cell_keep (Below.drew (Below.refl _ _)) (by rw [set_other (by first | (simp; done) | (simp; omega))]; exact hS.2.2)⟩) ?_
    clear hK K
    try simp only [Act.put, List.getElem_toArray, List.getElem_cons_zero, List.getElem_cons_succ, List.setIfInBounds_toArray, List.set_cons_zero, List.set_cons_succ]
    refine upto_step (i := 3) (by kernel_rfl) rfl ?_
    intro K hK
    go_simp
    refine hK _ _ (fun h => absurd rfl h) ?_
    clear hK K
    refine upto_done (by kernel_rfl) ?_
    refine NoPanic.normal ?_
    clear hS
    go_wp2
    refine bodyPost_ret (v := .tuple #[.agg #[.slice p m cc], .agg #[.int .i64 id, .slice pl nl ql]]) ?_ rfl ?_
    · simp [results, Try.results18, go_sem, r0, s0, s1, rf, sf]
    · exact ⟨p, m, cc, _, _, _, _, rfl, (HL9.out.mod HmE.out (fun b e => by omega)).base (by omega), hm6, legsR.base (legsR.mod HO9.out HmE.out (fun b hb e => by have := (legsR.rng HO9.out b hb).1; omega)) (by omega), by rw [HNL.out]; exact hl3, HmE.out.below HW9.out (by omega) (fun b e => by omega)⟩
  | true =>
    by_cases hm0 : m = 0
    · subst hm0
      have HL9 : Hid (LedM 100 w4 w1.heap.size p 0 cc) := L4
      have HO9 : Hid (legsR.O w4 (w.heap.size + 2) F3 (.slice pl nl ql) (xs)) := O4
      have hlo := B4.lo
      obtain ⟨r0, s0, s1, rf, sf, g0, c0, c1, cf, _, sz, bl⟩ := B4
      have HW9 : Hid (Below w.heap.size w w4) := bl
      clear L4 O4 bl
      have hmE : Mod (fun b => b = w.heap.size ∨ b = w.heap.size + 1) w4 (((w4.setCell ⟨w.heap.size, 0, none⟩ (.slice p 0 cc)).setCell ⟨w.heap.size + 1, 0, none⟩ (.int .i64 id)).setCell ⟨w.heap.size + 1, 1, none⟩ (.slice pl nl ql)).drew := ((((Mod.of_set w4 ⟨w.heap.size, 0, none⟩ (.slice p 0 cc)).mono (fun b e => .inl e)).trans ((Mod.of_set _ ⟨w.heap.size + 1, 0, none⟩ (.int .i64 id)).mono (fun b e => .inr e))).trans ((Mod.of_set _ ⟨w.heap.size + 1, 1, none⟩ (.slice pl nl ql)).mono (fun b e => .inr e))).drew1
      have HmE : Hid (Mod (fun b => b = w.heap.size ∨ b = w.heap.size + 1) w4 (((w4.setCell ⟨w.heap.size, 0, none⟩ (.slice p 0 cc)).setCell ⟨w.heap.size + 1, 0, none⟩ (.int .i64 id)).setCell ⟨w.heap.size + 1, 1, none⟩ (.slice pl nl ql)).drew) := hmE
      clear hmE
      have nG0 : w2.heap.size ≠ w.heap.size := by omega
      have nG1 : w2.heap.size ≠ w.heap.size + 1 := by omega
      have nC0 : w3.heap.size ≠ w.heap.size := by omega
      have nC1 : w3.heap.size ≠ w.heap.size + 1 := by omega
      go_wp2
      refine wp_region_noPanic ?_
      refine region_upto (fun W => W.cell? ⟨w2.heap.size, 0, none⟩ = some (.slice p 0 cc) ∧ W.cell? ⟨w3.heap.size, 0, none⟩ = some (.int .i64 id) ∧ W.cell? ⟨w3.heap.size, 1, none⟩ = some (.slice pl nl ql)) 3 (by kernel_rfl) ⟨g0, c0, c1⟩ (fun hS => ?_)
      refine upto_take (i := 0) (v := ?_) rfl (by kernel_rfl) (by kernel_rfl) (by kernel_rfl) (by kernel_rfl) (fun _ _ _ h => h) (by rfl) hS ?_ ?_
      rotate_left
      · intro wS hSw
        try dsimp only at hSw
        first | (go_simp; done) | (go_simp; with_reducible rfl)
      try simp only [Act.put, List.getElem_toArray, List.getElem_cons_zero, List.getElem_cons_succ, List.setIfInBounds_toArray, List.set_cons_zero, List.set_cons_succ]
      refine upto_take (i := 1) (v := ?_) rfl (by kernel_rfl) (by kernel_rfl) (by kernel_rfl) (by kernel_rfl) (fun _ _ _ h => h) (by rfl) hS ?_ ?_
      rotate_left
      · intro wS hSw
        try dsimp only at hSw
        first | (go_simp; done) | (go_simp; with_reducible rfl)
      try simp only [Act.put, List.getElem_toArray, List.getElem_cons_zero, List.getElem_cons_succ, List.setIfInBounds_toArray, List.set_cons_zero, List.set_cons_succ]
      refine upto_step (i := 2) (by kernel_rfl) rfl ?_
      intro K hK
      go_simp
      refine hK _ _ (fun _ => ⟨cell_keep (Below.drew (Below.refl _ _)) (by rw [set_other (by first | (simp; done) | (simp; omega))]; exact hS.1), cell_keep (Below.drew (Below.refl _ _)) (by rw [set_other (by first | (simp; done) | (simp; omega))]; exact hS.2.1), cell_keep (Below.drew (Below.refl _ _)) (by rw [set_other (by first | (simp; done) | (simp; omega))]; exact hS.2.2)⟩) ?_
      clear hK K
      try simp only [Act.put, List.getElem_toArray, List.getElem_cons_zero, List.getElem_cons_succ, List.setIfInBounds_toArray, List.set_cons_zero, List.set_cons_succ]
      refine upto_step (i := 3) (by kernel_rfl) rfl ?_
      intro K hK
      go_simp
      refine hK _ _ (fun h => absurd rfl h) ?_
      clear hK K
      refine upto_done (by kernel_rfl) ?_
      refine NoPanic.normal ?_
      clear hS
      go_wp2
      refine bodyPost_ret (v := .tuple #[.agg #[.slice p 0 cc], .agg #[.int .i64 id, .slice pl nl ql]]) ?_ rfl ?_
      · simp [results, Try.results18, go_sem, r0, s0, s1, rf, sf]
      · exact ⟨p, 0, cc, _, _, _, _, rfl, (HL9.out.mod HmE.out (fun b e => by omega)).base (by omega), hm6, legsR.base (legsR.mod HO9.out HmE.out (fun b hb e => by have := (legsR.rng HO9.out b hb).1; omega)) (by omega), by rw [HNL.out]; exact hl3, HmE.out.below HW9.out (by omega) (fun b e => by omega)⟩
    · have hm1 : 0 < m := by omega
      have hm1' : (0 : Int) < m := by omega
      obtain ⟨b, o, u, nu, cu, rfl, hb, hc2, hnu, hru2⟩ := HL2.out.2.2 0 hm1
      have hbl := World.block_lt_of_cell? _ _ hc2
      dsimp only at hbl
      rw [Nat.add_zero] at hc2
      have hc4 : w4.cell? ⟨b, o, none⟩ = some (.slice u nu cu) := M24.cell hc2 (by dsimp only; omega)
      have fz4 : ∀ j, w4.frozen? ⟨b, j, none⟩ = false := fun j => (World.frozen?_of_block (M24.block b hbl (by omega))).trans (HF2.out b o rfl j)
      have hru4 := hru2.mod M24 (fun b e => by omega)
      have hz4 := M24.size
      have g4 := B4.g0
      clear hc2 hru2 M24 HL2 HF2
      go_wp2
      refine wp_region_noPanic ?_
      refine region_upto (fun W => W.cell? ⟨w2.heap.size, 0, none⟩ = some (.slice (some ⟨b, o, none⟩) m cc) ∧ W.cell? ⟨b, o, none⟩ = some (.slice u nu cu)) 8 (by kernel_rfl) ⟨g4, hc4⟩ (fun hS => ?_)
      refine upto_take (i := 0) (v := ?_) rfl (by kernel_rfl) (by kernel_rfl) (by kernel_rfl) (by kernel_rfl) (fun _ _ _ h => h) (by rfl) hS ?_ ?_
      rotate_left
      · intro wS hSw
        try dsimp only at hSw
        first | (go_simp; done) | (go_simp; with_reducible rfl)
      try simp only [Act.put, List.getElem_toArray, List.getElem_cons_zero, List.getElem_cons_succ, List.setIfInBounds_toArray, List.set_cons_zero, List.set_cons_succ]
      refine upto_take (i := 1) (v := ?_) rfl (by kernel_rfl) (by kernel_rfl) (by kernel_rfl) (by kernel_rfl) (fun _ _ _ h => h) (by rfl) hS ?_ ?_
      rotate_left
      · intro wS hSw
        try dsimp only at hSw
        first | (go_simp; done) | (go_simp; with_reducible rfl)
      try simp only [Act.put, List.getElem_toArray, List.getElem_cons_zero, List.getElem_cons_succ, List.setIfInBounds_toArray, List.set_cons_zero, List.set_cons_succ]
      refine upto_take (i := 2) (v := ?_) rfl (by kernel_rfl) (by kernel_rfl) (by kernel_rfl) (by kernel_rfl) (fun _ _ _ h => h) (by rfl) hS ?_ ?_
      rotate_left
      · intro wS hSw
        try dsimp only at hSw
        first | (go_simp; done) | (go_simp; with_reducible rfl)
      try simp only [Act.put, List.getElem_toArray, List.getElem_cons_zero, List.getElem_cons_succ, List.setIfInBounds_toArray, List.set_cons_zero, List.set_cons_succ]
      refine upto_take (i := 3) (v := ?_) rfl (by kernel_rfl) (by kernel_rfl) (by kernel_rfl) (by kernel_rfl) (fun _ _ _ h => h) (by rfl) hS ?_ ?_
      rotate_left
      · intro wS hSw
        try dsimp only at hSw
        first | (go_simp; done) | (go_simp; with_reducible rfl)
      try simp only [Act.put, List.getElem_toArray, List.getElem_cons_zero, List.getElem_cons_succ, List.setIfInBounds_toArray, List.set_cons_zero, List.set_cons_succ]
      refine upto_take (i := 4) (v := ?_) rfl (by kernel_rfl) (by kernel_rfl) (by kernel_rfl) (by kernel_rfl) (fun _ _ _ h => h) (by rfl) hS ?_ ?_
      rotate_left
      · intro wS hSw
        try dsimp only at hSw
        first | (go_simp; done) | (go_simp; with_reducible rfl)
      try simp only [Act.put, List.getElem_toArray, List.getElem_cons_zero, List.getElem_cons_succ, List.setIfInBounds_toArray, List.set_cons_zero, List.set_cons_succ]
      refine upto_take (i := 5) (v := ?_) rfl (by kernel_rfl) (by kernel_rfl) (by kernel_rfl) (by kernel_rfl) (fun _ _ _ h => h) (by rfl) hS ?_ ?_
      rotate_left
      · intro wS hSw
        try dsimp only at hSw
        first | (go_simp; done) | (go_simp; with_reducible rfl)
      try simp only [Act.put, List.getElem_toArray, List.getElem_cons_zero, List.getElem_cons_succ, List.setIfInBounds_toArray, List.set_cons_zero, List.set_cons_succ]
      refine upto_step (i := 6) (by kernel_rfl) rfl ?_
      intro K hK
      go_simp
      obtain ⟨ys, hyl, hyV⟩ := rowI_V (hru4.below (Below.drew (Below.refl _ _)))
      refine (l2SetN_any _ ys 0 0 1000000000000 _ hyV (by omega)).mono ?_
      rintro e w6 ⟨v6, F6, zs, rfl, o6, hl6, hb6⟩
      obtain ⟨p6, q6, rfl, R6⟩ := rowI_of o6
      have hb46 : Below w4.heap.size w4 w6 := bstep (Below.drew (Below.refl _ _)) hb6
      clear o6
      generalize zs.length = l6 at *
      have hS6 : w6.cell? ⟨w2.heap.size, 0, none⟩ = some (.slice (some ⟨b, o, none⟩) m cc) ∧ w6.cell? ⟨b, o, none⟩ = some (.slice u nu cu) := ⟨cell_keep hb6 hS.1, cell_keep hb6 hS.2⟩
      have fz6 : ∀ j, w6.frozen? ⟨b, j, none⟩ = false := fun j => (World.frozen?_of_block (hb46.block b (by omega))).trans (fz4 j)
      have L6 := L4.mod (Mod.of_below (F := fun _ => False) hb46) (fun b e => e.elim)
      have L7 := L6.setRow hS6.2 (fun z e => by cases e) (R6.base (by first | omega | (simp; omega))) (by omega)
      have hmQ := Mod.of_set w6 ⟨b, o, none⟩ (.slice p6 l6 q6)
      dsimp only at hmQ
      have B7 := (B4.below hb46).mod hmQ (fun b' e => by omega)
      refine hK _ _ (fun _ => hS6) ?_
      clear hK K hS hb6 hyV B4 L4 hmQ
      try simp only [Act.put, List.getElem_toArray, List.getElem_cons_zero, List.getElem_cons_succ, List.setIfInBounds_toArray, List.set_cons_zero, List.set_cons_succ]
      refine upto_take (i := 7) (v := ?_) rfl (by kernel_rfl) (by kernel_rfl) (by kernel_rfl) (by kernel_rfl) (fun _ _ _ h => h) (by rfl) hS6 ?_ ?_
      rotate_left
      · intro wS hSw
        try dsimp only at hSw
        first | (go_simp; done) | (go_simp; with_reducible rfl)
      try simp only [Act.put, List.getElem_toArray, List.getElem_cons_zero, List.getElem_cons_succ, List.setIfInBounds_toArray, List.set_cons_zero, List.set_cons_succ]
      refine upto_step (i := 8) (by kernel_rfl) rfl ?_
      intro K hK
      go_simp
      refine hK _ _ (fun h => absurd rfl h) ?_
      clear hK K
      refine upto_done (by kernel_rfl) ?_
      refine NoPanic.normal ?_
      generalize w6.setCell ⟨b, o, none⟩ (.slice p6 l6 q6) = w7 at *
      obtain ⟨r0, s0, s1, rf, sf, g0, c0, c1, cf, lo, sz, bl⟩ := B7
      have B7 : BoSt w w7 w2.heap.size w3.heap.size (.slice (some ⟨b, o, none⟩) m cc) id (.slice pl nl ql) := ⟨r0, s0, s1, rf, sf, g0, c0, c1, cf, lo, sz, bl⟩
      have B8 := B7.con 1 (.slice (some ⟨w7.heap.size, 0, none⟩) 2 2)
      have L8 := (L7.setOff (v := .int .i64 1) c0 (by dsimp only; omega) (.inl ⟨_, _, rfl, rfl⟩)).setOff (q := ⟨w3.heap.size, 1, none⟩) (x := .slice pl nl ql) (v := .slice (some ⟨w7.heap.size, 0, none⟩) 2 2) (by rw [set_other (by simp)]; exact c1) (by dsimp only; omega) (.inr fun z e => by cases e)
      have B9 := B8.below (balloc (Below.refl _ _) (.cells #[.int .i64 0, .int .i64 0, .int .i64 0, .int .i64 5, .int .i64 0, .int .i64 1, .int .i64 0, .int .i64 (-5)] 40))
      have L9 := L8.mod (F := fun _ => False) (Mod.of_below (balloc (Below.refl _ _) (.cells #[.int .i64 0, .int .i64 0, .int .i64 0, .int .i64 5, .int .i64 0, .int .i64 1, .int .i64 0, .int .i64 (-5)] 40))) (fun b e => e.elim)
      have hzz : ((w7.setCell ⟨w3.heap.size, 0, none⟩ (.int .i64 1)).setCell ⟨w3.heap.size, 1, none⟩ (.slice (some ⟨w7.heap.size, 0, none⟩) 2 2)).heap.size = w7.heap.size := by simp
      have o9 := World.ownsRow_lit (base := w.heap.size + 2) (e := 40) (size := 4) ((w7.setCell ⟨w3.heap.size, 0, none⟩ (.int .i64 1)).setCell ⟨w3.heap.size, 1, none⟩ (.slice (some ⟨w7.heap.size, 0, none⟩) 2 2)) #[.int .i64 0, .int .i64 0, .int .i64 0, .int .i64 5, .int .i64 0, .int .i64 1, .int .i64 0, .int .i64 (-5)] 2 (by rw [hzz]; omega) (by unfold maxLen; omega) rfl
      rw [hzz] at o9
      have O9 : legsR.O _ (w.heap.size + 2) _ (.slice (some ⟨w7.heap.size, 0, none⟩) 2 2) [⟨0, 0, 0, 5⟩, ⟨0, 1, 0, -5⟩] := ⟨o9, rfl⟩
      clear B8 L8 B7 L7 o9 hzz O4
      go_wp2
      clear g0 c0 c1 cf r0 s0 s1 rf sf lo sz bl
      generalize ((w7.setCell ⟨w3.heap.size, 0, none⟩ (.int .i64 1)).setCell ⟨w3.heap.size, 1, none⟩ (.slice (some ⟨w7.heap.size, 0, none⟩) 2 2)).alloc (.cells #[.int .i64 0, .int .i64 0, .int .i64 0, .int .i64 5, .int .i64 0, .int .i64 1, .int .i64 0, .int .i64 (-5)] 40) = w9 at *
      have HL9 : Hid (LedM 100 w9 w1.heap.size (some ⟨b, o, none⟩) m cc) := L9
      have HO9 : Hid (legsR.O w9 (w.heap.size + 2) _ (.slice (some ⟨w7.heap.size, 0, none⟩) 2 2) ([⟨0, 0, 0, 5⟩, ⟨0, 1, 0, -5⟩])) := O9
      have hlo := B9.lo
      obtain ⟨r0, s0, s1, rf, sf, g0, c0, c1, cf, _, sz, bl⟩ := B9
      have HW9 : Hid (Below w.heap.size w w9) := bl
      clear L9 O9 bl
      have hmE : Mod (fun b => b = w.heap.size ∨ b = w.heap.size + 1) w9 (((w9.setCell ⟨w.heap.size, 0, none⟩ (.slice (some ⟨b, o, none⟩) m cc)).setCell ⟨w.heap.size + 1, 0, none⟩ (.int .i64 1)).setCell ⟨w.heap.size + 1, 1, none⟩ (.slice (some ⟨w7.heap.size, 0, none⟩) 2 2)).drew := ((((Mod.of_set w9 ⟨w.heap.size, 0, none⟩ (.slice (some ⟨b, o, none⟩) m cc)).mono (fun b e => .inl e)).trans ((Mod.of_set _ ⟨w.heap.size + 1, 0, none⟩ (.int .i64 1)).mono (fun b e => .inr e))).trans ((Mod.of_set _ ⟨w.heap.size + 1, 1, none⟩ (.slice (some ⟨w7.heap.size, 0, none⟩) 2 2)).mono (fun b e => .inr e))).drew1
      have HmE : Hid (Mod (fun b => b = w.heap.size ∨ b = w.heap.size + 1) w9 (((w9.setCell ⟨w.heap.size, 0, none⟩ (.slice (some ⟨b, o, none⟩) m cc)).setCell ⟨w.heap.size + 1, 0, none⟩ (.int .i64 1)).setCell ⟨w.heap.size + 1, 1, none⟩ (.slice (some ⟨w7.heap.size, 0, none⟩) 2 2)).drew) := hmE
      clear hmE
      have nG0 : w2.heap.size ≠ w.heap.size := by omega
      have nG1 : w2.heap.size ≠ w.heap.size + 1 := by omega
      have nC0 : w3.heap.size ≠ w.heap.size := by omega
      have nC1 : w3.heap.size ≠ w.heap.size + 1 := by omega
      refine wp_region_noPanic ?_
      refine region_upto (fun W => W.cell? ⟨w2.heap.size, 0, none⟩ = some (.slice (some ⟨b, o, none⟩) m cc) ∧ W.cell? ⟨w3.heap.size, 0, none⟩ = some (.int .i64 1) ∧ W.cell? ⟨w3.heap.size, 1, none⟩ = some (.slice (some ⟨w7.heap.size, 0, none⟩) 2 2)) 3 (by kernel_rfl) ⟨g0, c0, c1⟩ (fun hS => ?_)
      refine upto_take (i := 0) (v := ?_) rfl (by kernel_rfl) (by kernel_rfl) (by kernel_rfl) (by kernel_rfl) (fun _ _ _ h => h) (by rfl) hS ?_ ?_
      rotate_left
      · intro wS hSw
        try dsimp only at hSw
        first | (go_simp; done) | (go_simp; with_reducible rfl)
      try simp only [Act.put, List.getElem_toArray, List.getElem_cons_zero, List.getElem_cons_succ, List.setIfInBounds_toArray, List.set_cons_zero, List.set_cons_succ]
      refine upto_take (i := 1) (v := ?_) rfl (by kernel_rfl) (by kernel_rfl) (by kernel_rfl) (by kernel_rfl) (fun _ _ _ h => h) (by rfl) hS ?_ ?_
      rotate_left
      · intro wS hSw
        try dsimp only at hSw
        first | (go_simp; done) | (go_simp; with_reducible rfl)
      try simp only [Act.put, List.getElem_toArray, List.getElem_cons_zero, List.getElem_cons_succ, List.setIfInBounds_toArray, List.set_cons_zero, List.set_cons_succ]
      refine upto_step (i := 2) (by kernel_rfl) rfl ?_
      intro K hK
      go_simp
      refine hK _ _ (fun _ => ⟨cell_keep (Below.drew (Below.refl _ _)) (by rw [set_other (by first | (simp; done) | (simp; omega))]; exact hS.1), cell_keep (Below.drew (Below.refl _ _)) (by rw [set_other (by first | (simp; done) | (simp; omega))]; exact hS.2.1), cell_keep (Below.drew (Below.refl _ _)) (by rw [set_other (by first | (simp; done) | (simp; omega))]; exact hS.2.2)⟩) ?_
      clear hK K
      try simp only [Act.put, List.getElem_toArray, List.getElem_cons_zero, List.getElem_cons_succ, List.setIfInBounds_toArray, List.set_cons_zero, List.set_cons_succ]
      refine upto_step (i := 3) (by kernel_rfl) rfl ?_
      intro K hK
      go_simp
      refine hK _ _ (fun h => absurd rfl h) ?_
      clear hK K
      refine upto_done (by kernel_rfl) ?_
      refine NoPanic.normal ?_
      clear hS
      go_wp2
      refine bodyPost_ret (v := .tuple #[.agg #[.slice (some ⟨b, o, none⟩) m cc], .agg #[.int .i64 1, .slice (some ⟨w7.heap.size, 0, none⟩) 2 2]]) ?_ rfl ?_
      · simp [results, Try.results18, go_sem, r0, s0, s1, rf, sf]
      · exact ⟨_, m, cc, _, _, _, _, rfl, (HL9.out.mod HmE.out (fun b e => by omega)).base (by omega), hm6, legsR.base (legsR.mod HO9.out HmE.out (fun b hb e => by have := (legsR.rng HO9.out b hb).1; omega)) (by omega), by simp, HmE.out.below HW9.out (by omega) (fun b e => by omega)⟩
end Go.Proofs.Ytgjpafalompecaa

/-
  The draw of SettleOne.
-/
set_option linter.unusedVariables false
set_option linter.unusedSimpArgs false
namespace Go.Proofs.Ytgjpafalompecaa
open Go.RowKit
set_option linter.unusedSectionVars false
variable [DecidableEq Bal] [Inhabited Bal] [DecidableEq Ledg] [Inhabited Ledg] [DecidableEq Leg] [Inhabited Leg] [DecidableEq Mrk] [Inhabited Mrk] [DecidableEq Logg] [Inhabited Logg] [DecidableEq LoggR] [Inhabited LoggR] [DecidableEq BytesR] [Inhabited BytesR] [DecidableEq RecsR] [Inhabited RecsR] [DecidableEq LedgR] [Inhabited LedgR] [DecidableEq Cont] [Inhabited Cont]
attribute [local go_sem ↓] Go.wp_at_zero Go.wp_at_succ

set_option maxRecDepth 20000 in
set_option maxHeartbeats 4000000 in
theorem drawSettle_any (x : Value) (cs : List Byte) (w : World) (hx : BytesV w x cs) (hn : cs.length ≤ 1048576) :
    Calls Try.prog 6 #[x] w fun e w' => ∃ p cc gs id v xs, e = .returned (.tuple #[.agg #[.slice p gs.length cc], .agg #[.int .i64 id, v]]) ∧ balssR.V w' (.slice p gs.length cc) gs ∧ gs.length ≤ 6 ∧ (∀ k, k < gs.length → (gs.getD k default).length ≤ 100) ∧ legsR.V w' v xs ∧ xs.length ≤ 9 ∧ Below w.heap.size w w' := by
  have hX := hx
  obtain ⟨ax, cx, rfl, _⟩ := hx
  go_enter Try.func6, Try.ntmps6
  go_wp2_with fail
  refine (l2Both_any _ cs _ (BytesV_below hX (by (repeat (first | exact Below.refl _ _ | assumption | refine Below.drew ?_ | refine balloc ?_ _ | refine bset ?_ (by simp; omega) _ | refine bset ?_ (by simp) _ | refine bstep ?_ (by assumption))))) hn).mono ?_
  rintro e w1 ⟨p, m, cc, id, v, F, xs, rfl, hV, hm, hL, hxl, hb⟩
  obtain ⟨pl, ql, rfl⟩ := legs_form (legsR.ofO hL)
  have hb1 : Below w.heap.size w w1 := bstep (by (repeat (first | exact Below.refl _ _ | assumption | refine Below.drew ?_ | refine balloc ?_ _ | refine bset ?_ (by simp; omega) _ | refine bset ?_ (by simp) _ | refine bstep ?_ (by assumption)))) hb
  have r0 : w1.cell? ⟨w.heap.size, 0, none⟩ = some (.slice none 0 0) := cell_keep hb (by simp [go_sem])
  have s0 : w1.cell? ⟨w.heap.size + 1, 0, none⟩ = some (.int .i64 0) := cell_keep hb (by simp [go_sem])
  have s1 : w1.cell? ⟨w.heap.size + 1, 1, none⟩ = some (.slice none 0 0) := cell_keep hb (by simp [go_sem])
  have rf : ∀ o, w1.frozen? ⟨w.heap.size, o, none⟩ = false := fun o => by rw [(bcell hb).2 _ _ (by first | (simp; done) | (simp; omega))]; simp [go_sem]
  have sf : ∀ o, w1.frozen? ⟨w.heap.size + 1, o, none⟩ = false := fun o => by rw [(bcell hb).2 _ _ (by first | (simp; done) | (simp; omega))]; simp [go_sem]
  clear hb
  simp only [World.size_alloc] at hV hL
  obtain ⟨q1, hq1⟩ : ∃ q, q = xs.length := ⟨_, rfl⟩
  have HQ : Hid (xs.length = q1) := hq1.symm
  rw [← hq1] at hL hxl ⊢
  clear hq1
  have hmE : Mod (fun b => b = w.heap.size ∨ b = w.heap.size + 1) w1 (((w1.setCell ⟨w.heap.size, 0, none⟩ (.slice p m cc)).setCell ⟨w.heap.size + 1, 0, none⟩ (.int .i64 id)).setCell ⟨w.heap.size + 1, 1, none⟩ (.slice pl q1 ql)) := ((((Mod.of_set w1 ⟨w.heap.size, 0, none⟩ (.slice p m cc)).mono (fun b e => .inl e)).trans ((Mod.of_set _ ⟨w.heap.size + 1, 0, none⟩ (.int .i64 id)).mono (fun b e => .inr e))).trans ((Mod.of_set _ ⟨w.heap.size + 1, 1, none⟩ (.slice pl q1 ql)).mono (fun b e => .inr e)))
  obtain ⟨gs, hgl, hV2, h100⟩ := ledM_V (hV.mod hmE (fun b e => by omega))
  have HV2 := hV2
  have HL2 := legsR.ofO (legsR.mod hL hmE (fun b hb e => by have := (legsR.rng hL b hb).1; omega))
  have HB2 : Below w.heap.size w (((w1.setCell ⟨w.heap.size, 0, none⟩ (.slice p m cc)).setCell ⟨w.heap.size + 1, 0, none⟩ (.int .i64 id)).setCell ⟨w.heap.size + 1, 1, none⟩ (.slice pl q1 ql)) := hmE.below hb1 hb1.size (fun b e => by omega)
  subst hgl
  have HV3 : Hid (balssR.V (((w1.setCell ⟨w.heap.size, 0, none⟩ (.slice p gs.length cc)).setCell ⟨w.heap.size + 1, 0, none⟩ (.int .i64 id)).setCell ⟨w.heap.size + 1, 1, none⟩ (.slice pl q1 ql)) (.slice p gs.length cc) gs) := HV2
  have HL3 : Hid (legsR.V (((w1.setCell ⟨w.heap.size, 0, none⟩ (.slice p gs.length cc)).setCell ⟨w.heap.size + 1, 0, none⟩ (.int .i64 id)).setCell ⟨w.heap.size + 1, 1, none⟩ (.slice pl q1 ql)) (.slice pl q1 ql) xs) := HL2
  have HB3 : Hid (Below w.heap.size w (((w1.setCell ⟨w.heap.size, 0, none⟩ (.slice p gs.length cc)).setCell ⟨w.heap.size + 1, 0, none⟩ (.int .i64 id)).setCell ⟨w.heap.size + 1, 1, none⟩ (.slice pl q1 ql))) := HB2
  have HM : Hid (gs.length ≤ 6 ∧ q1 ≤ 9 ∧ ∀ k, k < gs.length → (gs.getD k default).length ≤ 100) := ⟨hm, hxl, h100⟩
  obtain ⟨ng, hng⟩ : ∃ q, q = gs.length := ⟨_, rfl⟩
  have HNG : Hid (gs.length = ng) := hng.symm
  clear hV2 HV2 HL2 HB2 hV hL hmE h100 hm hxl hb1
  rw [← hng] at HV3 HL3 HB3 HM ⊢
  clear hng
  go_wp2
  refine bodyPost_ret (v := .tuple #[.agg #[.slice p ng cc], .agg #[.int .i64 id, .slice pl q1 ql]]) ?_ rfl ?_
  · simp [results, Try.results6, go_sem, r0, s0, s1, rf, sf]
  · obtain ⟨m1, m2, m3⟩ := HM.out
    refine ⟨p, cc, gs, id, .slice pl q1 ql, xs, ?_, ?_, ?_, ?_, HL3.out, ?_, HB3.out⟩
    · rw [HNG.out]
    · rw [HNG.out]; exact HV3.out
    · rw [HNG.out]; exact m1
    · rw [HNG.out]; exact m3
    · rw [HQ.out]; exact m2
end Go.Proofs.Ytgjpafalompecaa

/-
  slices.SortFunc at keys of a book: the library's contract, laid at this program.
-/
namespace Go.Proofs.Ytgjpafalompecaa
open Go.Shelf
def Try.sortK_ren : Go.Shelf.Ren := ⟨fun | 6 => 65 | 15 => 79 | 14 => 78 | 28 => 90 | 29 => 91 | 20 => 82 | 21 => 83 | 22 => 84 | 23 => 85 | 24 => 86 | 25 => 87 | 26 => 88 | 27 => 89 | 46 => 93 | 47 => 94 | 48 => 95 | 49 => 96 | 50 => 97 | 57 => 98 | n => n, fun | 22 => 82 | 24 => 64 | 25 => 87 | 3 => 3 | 39 => 116 | 0 => 0 | 53 => 127 | 55 => 129 | 4 => 4 | 46 => 120 | 45 => 119 | 50 => 124 | 5 => 5 | 9 => 9 | 66 => 130 | 70 => 134 | 76 => 136 | 77 => 137 | n => n, fun | n => n⟩
theorem Try.sortK : Go.Proofs.SlLaysF0.n6 Try.prog Try.sortK_ren := {
  mixed := by kernel_rfl
  f6 := ⟨Try.f65.name, by decide, Try.func65.trans (congrArg some (by kernel_rfl))⟩
  f14 := ⟨Try.f78.name, by decide, Try.func78.trans (congrArg some (by kernel_rfl))⟩
  f15 := Try.func79.trans (congrArg some (by kernel_rfl))
  f20 := ⟨Try.f82.name, by decide, Try.func82.trans (congrArg some (by kernel_rfl))⟩
  f21 := ⟨Try.f83.name, by decide, Try.func83.trans (congrArg some (by kernel_rfl))⟩
  f22 := ⟨Try.f84.name, by decide, Try.func84.trans (congrArg some (by kernel_rfl))⟩
  f23 := ⟨Try.f85.name, by decide, Try.func85.trans (congrArg some (by kernel_rfl))⟩
  f24 := ⟨Try.f86.name, by decide, Try.func86.trans (congrArg some (by kernel_rfl))⟩
  f25 := ⟨Try.f87.name, by decide, Try.func87.trans (congrArg some (by kernel_rfl))⟩
  f26 := ⟨Try.f88.name, by decide, Try.func88.trans (congrArg some (by kernel_rfl))⟩
  f27 := ⟨Try.f89.name, by decide, Try.func89.trans (congrArg some (by kernel_rfl))⟩
  f28 := Try.func90.trans (congrArg some (by kernel_rfl))
  f29 := Try.func91.trans (congrArg some (by kernel_rfl))
  f46 := ⟨Try.f93.name, by decide, Try.func93.trans (congrArg some (by kernel_rfl))⟩
  f47 := Try.func94.trans (congrArg some (by kernel_rfl))
  f48 := Try.func95.trans (congrArg some (by kernel_rfl))
  f49 := ⟨Try.f96.name, by decide, Try.func96.trans (congrArg some (by kernel_rfl))⟩
  f50 := ⟨Try.f97.name, by decide, Try.func97.trans (congrArg some (by kernel_rfl))⟩
  f57 := ⟨Try.f98.name, by decide, Try.func98.trans (congrArg some (by kernel_rfl))⟩
  t0 := Try.underlying0
  a0 := Try.isAgg0
  z0 := Try.sizeOf0
  v0 := Try.zeroValue0
  t3 := Try.underlying3
  a3 := Try.isAgg3
  z3 := Try.sizeOf3
  v3 := Try.zeroValue3
  t4 := Try.underlying4
  a4 := Try.isAgg4
  z4 := Try.sizeOf4
  v4 := Try.zeroValue4
  t5 := Try.underlying5
  a5 := Try.isAgg5
  z5 := Try.sizeOf5
  v5 := Try.zeroValue5
  t9 := Try.underlying9
  a9 := Try.isAgg9
  z9 := Try.sizeOf9
  v9 := Try.zeroValue9
  t22 := Try.underlying82
  a22 := Try.isAgg82
  z22 := Try.sizeOf82
  v22 := Try.zeroValue82
  t25 := Try.underlying87
  a25 := Try.isAgg87
  z25 := Try.sizeOf87
  v25 := Try.zeroValue87
  t39 := Try.underlying116
  a39 := Try.isAgg116
  z39 := Try.sizeOf116
  v39 := Try.zeroValue116
  t45 := Try.underlying119
  a45 := Try.isAgg119
  z45 := Try.sizeOf119
  v45 := Try.zeroValue119
  t46 := Try.underlying120
  a46 := Try.isAgg120
  z46 := Try.sizeOf120
  v46 := Try.zeroValue120
  t50 := Try.underlying124
  a50 := Try.isAgg124
  z50 := Try.sizeOf124
  v50 := Try.zeroValue124
  t53 := Try.underlying127
  a53 := Try.isAgg127
  z53 := Try.sizeOf127
  v53 := Try.zeroValue127
  t55 := Try.underlying129
  a55 := Try.isAgg129
  z55 := Try.sizeOf129
  v55 := Try.zeroValue129
  t66 := Try.underlying130
  a66 := Try.isAgg130
  z66 := Try.sizeOf130
  v66 := Try.zeroValue130
  t70 := Try.underlying134
  a70 := Try.isAgg134
  z70 := Try.sizeOf134
  v70 := Try.zeroValue134
  t76 := Try.underlying136
  a76 := Try.isAgg136
  z76 := Try.sizeOf136
  v76 := Try.zeroValue136
  t77 := Try.underlying137
  a77 := Try.isAgg137
  z77 := Try.sizeOf137
  v77 := Try.zeroValue137 }
end Go.Proofs.Ytgjpafalompecaa

