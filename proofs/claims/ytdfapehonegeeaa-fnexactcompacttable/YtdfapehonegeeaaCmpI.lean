/-
  The program's CompactTable.
-/
import Derived.Test.YtdfapehonegeeaaMrg
import Derived.Test.YtdfapehonegeeaaMrgD
import Derived.Test.YtdfapehonegeeaaCmpD
import Derived.Test.YtdfapehonegeeaaRegD
namespace Go.Proofs.Ytdfapehonegeeaa
open Go.RowKit Go.Shelf
set_option linter.unusedSectionVars false
variable [DecidableEq Rw] [Inhabited Rw] [DecidableEq TabR] [Inhabited TabR]
set_option linter.unusedVariables false
set_option linter.unusedSimpArgs false
attribute [local go_sem ↓] Go.wp_at_zero Go.wp_at_succ
attribute [local go_sem] run_store_func

/-- an iterator over a table's rows: its boxes -/
def ItB (f : Nat) (sv : Value) (v : Int) (y : Value) (lo : Nat) (w : World) : Prop :=
  y = .func (.func f) #[] #[.pointer (some ⟨lo, 0, none⟩), .pointer (some ⟨lo + 1, 0, none⟩)] ∧ w.cell? ⟨lo, 0, none⟩ = some sv ∧ w.cell? ⟨lo, 1, none⟩ = some cmpF ∧ w.cell? ⟨lo + 1, 0, none⟩ = some (.int .i64 v)
theorem ItB.mod {f : Nat} {sv : Value} {v : Int} {y : Value} {lo : Nat} {w w' : World} {F : Nat → Prop} (h : ItB f sv v y lo w) (hm : Mod F w w') (h0 : ¬ F lo) (h1 : ¬ F (lo + 1)) : ItB f sv v y lo w' := ⟨h.1, hm.cell h.2.1 h0, hm.cell h.2.2.1 h0, hm.cell h.2.2.2 h1⟩
theorem ItB.lt {f : Nat} {sv : Value} {v : Int} {y : Value} {lo : Nat} {w : World} (h : ItB f sv v y lo w) : lo + 1 < w.heap.size := World.block_lt_of_cell? _ _ h.2.2.2

def cmpC : Nat → List Nat
  | 8 => [4, 7]
  | 14 => [13]
  | _ => []
def cmpG (sv : Value) (v : Int) (ys : List Rw) (L : Nat) (base : Nat) : Nat → (Nat → Value) → (Nat → Prop) → World → Prop
  | 4, y, F, w => ∃ lo, ItB 102 sv v (y 22) lo w ∧ ∀ b, F b ↔ (b = lo ∨ b = lo + 1)
  | 7, y, F, w => ∃ lo, ItB 103 sv v (y 25) lo w ∧ ∀ b, F b ↔ (b = lo ∨ b = lo + 1)
  | 8, y, F, w => ∃ lo p q u1 u2, y 26 = .slice (some ⟨lo, 0, none⟩) 2 2 ∧ w.cell? ⟨lo, 0, none⟩ = some u1 ∧ w.cell? ⟨lo, 1, none⟩ = some u2 ∧ ItB 102 sv v u1 p w ∧ ItB 103 sv v u2 q w ∧ ∀ b, F b ↔ (b = lo ∨ (b = p ∨ b = p + 1) ∨ (b = q ∨ b = q + 1))
  | 9, y, F, w => ∃ a c, y 27 = .tuple #[.agg #[.slice a L c, cmpF], .bool true] ∧ w.ownsRow base 32 4 (.slice a L c) L (rwsC ys) ∧ ∀ b, F b ↔ (Value.slice a L c).ownBlock = some b
  | 10, y, F, _ => (∃ a c, y 17 = .tuple #[.agg #[.slice a L c, cmpF], .bool true]) ∧ y 17 = y 27 ∧ ∀ b, ¬ F b
  | 11, y, F, _ => (∃ a c, y 28 = .agg #[.slice a L c, cmpF]) ∧ y 17 = .tuple #[y 28, .bool true] ∧ ∀ b, ¬ F b
  | 12, y, F, _ => y 29 = .bool true ∧ ∀ b, ¬ F b
  | 13, y, F, w => ∃ lo, y 7 = .pointer (some ⟨lo, 0, none⟩) ∧ w.cell? ⟨lo, 0, none⟩ = some (.slice none 0 0) ∧ w.cell? ⟨lo, 1, none⟩ = some .nilFunc ∧ (∀ o, w.frozen? ⟨lo, o, none⟩ = false) ∧ ∀ b, F b ↔ b = lo
  | 14, y, F, w => ∃ lo a c, y 7 = .pointer (some ⟨lo, 0, none⟩) ∧ y 28 = .agg #[.slice a L c, cmpF] ∧ w.cell? ⟨lo, 0, none⟩ = some (.slice a L c) ∧ w.cell? ⟨lo, 1, none⟩ = some cmpF ∧ ∀ b, F b ↔ b = lo
  | _, _, _, _ => True

set_option maxRecDepth 100000 in
set_option maxHeartbeats 8000000 in
theorem implCompact_u (x : Value) (xs : List Rw) (v : Int) (w : World) (hx : rowsR.V w x xs) :
    Calls Try.prog 17 #[x, .int .i64 v] w fun e w' => ∃ u F, e = .returned u ∧ tabRR.O w' w.heap.size F u (compD xs v) ∧ Below w.heap.size w w' := by
  have hX := hx.1
  have HFIT : Hid (Fit (compL xs v)) := fit_mem.2 (fun y hy => fit_mem.1 hx.2 y ((compL_sub xs v).subset hy))
  obtain ⟨ax, cx, rfl⟩ := rows_form hx
  have hcap : xs.length ≤ cx ∧ cx ≤ 9223372036854775807 := by
    obtain ⟨_, _, e, h1, h2, _⟩ := hX
    simp only [Value.slice.injEq] at e
    unfold maxLen at h2
    omega
  generalize hN : xs.length = n at *
  have HN : Hid (xs.length = n) := hN
  clear hN hx
  go_enter Try.func17, Try.ntmps17
  go_wp2_with fail
  refine (implTableFault_any _ xs _ (RowsV_below hX (by (repeat (first | exact Below.refl _ _ | assumption | refine Below.drew ?_ | refine balloc ?_ _ | refine bset ?_ (by simp; omega) _ | refine bset ?_ (by simp) _ | refine bstep ?_ (by assumption)))))).mono ?_
  rintro e w1 ⟨rfl, hb1⟩
  obtain ⟨g1, g2, gf, gz⟩ := boxNew2 hb1 rfl
  have hB1 : Below w.heap.size w w1 := by (repeat (first | exact Below.refl _ _ | assumption | refine Below.drew ?_ | refine balloc ?_ _ | refine bset ?_ (by simp; omega) _ | refine bset ?_ (by simp) _ | refine bstep ?_ (by assumption)))
  clear hb1
  by_cases h0 : tabF xs = 0
  rotate_left
  · have E : Hid (compD xs v = ⟨tabF xs, []⟩) := by rw [Hid]; unfold compD; rw [if_neg h0]
    have h0' : ((tabF xs : Int) == 0) = false := by rw [beq_eq_false_iff_ne]; exact h0
    generalize tabF xs = c at h0 h0' E ⊢
    go_wp2
    refine bodyPost_ret (v := .agg #[.int .i64 c, .slice none 0 0]) (by simp [results, Try.results17, go_sem, g1, g2]) rfl ?_
    obtain ⟨F, hF⟩ := tabRR_nil ((w1.setCell ⟨w.heap.size, 0, none⟩ (.int .i64 c)).setCell ⟨w.heap.size, 1, none⟩ (.slice none 0 0)) w.heap.size c
    rw [E.out]
    first | exact ⟨_, F, rfl, hF, by (repeat (first | exact Below.refl _ _ | assumption | refine Below.drew ?_ | refine balloc ?_ _ | refine bset ?_ (by simp; omega) _ | refine bset ?_ (by simp) _ | refine bstep ?_ (by assumption)))⟩ | exact ⟨_, rfl, ⟨F, hF⟩, by (repeat (first | exact Below.refl _ _ | assumption | refine Below.drew ?_ | refine balloc ?_ _ | refine bset ?_ (by simp; omega) _ | refine bset ?_ (by simp) _ | refine bstep ?_ (by assumption)))⟩
  have E : Hid (compD xs v = ⟨0, compL xs v⟩) := by rw [Hid]; unfold compD; rw [if_pos h0]
  have HP : Hid (putsL [] (flatTo (fun i => if i = 0 then overV v xs else living (lastL v xs)) 2) = compL xs v) := by
    rw [Hid, ← compL_puts (rises_of h0) (sorted_of h0) v]
    rfl
  have HLE : Hid ((compL xs v).length ≤ xs.length) := (compL_sub xs v).length_le
  have HL2 : Hid ((flatTo (fun i => if i = 0 then overV v xs else living (lastL v xs)) 2).length ≤ 1000000) := by
    have h1 : (overV v xs).length ≤ xs.length := List.length_filter_le ..
    have h2 : (living (lastL v xs)).length ≤ (lastL v xs).length := List.length_filter_le ..
    have h3 : (lastL v xs).length ≤ xs.length := by rw [lastL_eq]; exact lastG_len xs _
    have h4 := (tabF_all h0).1
    have e : flatTo (fun i => if i = 0 then overV v xs else living (lastL v xs)) 2 = overV v xs ++ living (lastL v xs) := rfl
    rw [Hid, e, List.length_append]
    omega
  have hlen := (tabF_all h0).1
  rw [h0]
  have HLN : Hid (xs.length ≤ 200) := hlen
  clear hlen
  generalize compL xs v = ys at *
  go_wp2_with fail
  refine (tableOf_any _ _ _ _).mono ?_
  rintro e w2 ⟨rfl, hb2⟩
  have k1 := cell_keep hb2 g1
  have k2 := cell_keep hb2 g2
  have kf := boxKeep ⟨gf, gz⟩ hb2
  have hB2 := bstep hB1 hb2
  unfold cmpF
  go_wp2
  obtain ⟨w3, hw3⟩ : ∃ w3, w3 = w2.alloc (.cells #[.slice ax n cx, .func (.func 58) #[] #[]] 92) := ⟨_, rfl⟩
  have hb3 : Below w2.heap.size w2 w3 := by rw [hw3]; exact balloc (Below.refl _ _) _
  have c0 : w3.cell? ⟨w2.heap.size, 0, none⟩ = some (.slice ax n cx) := by rw [hw3]; simp [go_sem]
  have c1 : w3.cell? ⟨w2.heap.size, 1, none⟩ = some (.func (.func 58) #[] #[]) := by rw [hw3]; simp [go_sem]
  rw [← hw3]
  have hB3 := bstep hB2 hb3
  have hs23 : w2.heap.size < w3.heap.size := by rw [hw3]; simp
  clear hw3
  refine wp_region_noPanic ?_
  refine region_upto (fun W => Below w3.heap.size w3 W ∧ W.cell? ⟨w2.heap.size, 0, none⟩ = some (.slice ax n cx) ∧ W.cell? ⟨w2.heap.size, 1, none⟩ = some (.func (.func 58) #[] #[])) 15 (by kernel_rfl) ⟨Below.drew (Below.refl _ _), c0, c1⟩ (fun hS => ?_)
  refine upto_take (i := 0) (v := ?_) rfl (by kernel_rfl) (by kernel_rfl) (by kernel_rfl) (by kernel_rfl) (fun _ _ _ h => h) (by rfl) hS ?_ ?_
  rotate_left
  · intro wS hSw
    try dsimp only at hSw
    first | (go_simp; done) | (go_simp; with_reducible rfl)
  try simp only [Act.put, List.getElem_toArray, List.getElem_cons_zero, List.getElem_cons_succ, List.setIfInBounds_toArray, List.set_cons_zero, List.set_cons_succ]
  refine upto_take (i := 1) (v := ?_) rfl (by kernel_rfl) (by kernel_rfl) (by kernel_rfl) (by kernel_rfl) (fun _ _ _ h => h) (by rfl) hS ?_ ?_
  rotate_left
  · intro wS hSw
    try dsimp only at hSw
    first | (go_simp; done) | (go_simp; with_reducible rfl)
  try simp only [Act.put, List.getElem_toArray, List.getElem_cons_zero, List.getElem_cons_succ, List.setIfInBounds_toArray, List.set_cons_zero, List.set_cons_succ]
  refine upto_take (i := 2) (v := ?_) rfl (by kernel_rfl) (by kernel_rfl) (by kernel_rfl) (by kernel_rfl) (fun _ _ _ h => h) (by rfl) hS ?_ ?_
  rotate_left
  · intro wS hSw
    try dsimp only at hSw
    first | (go_simp; done) | (go_simp; with_reducible rfl)
  try simp only [Act.put, List.getElem_toArray, List.getElem_cons_zero, List.getElem_cons_succ, List.setIfInBounds_toArray, List.set_cons_zero, List.set_cons_succ]
  refine upto_take (i := 3) (v := ?_) rfl (by kernel_rfl) (by kernel_rfl) (by kernel_rfl) (by kernel_rfl) (fun _ _ _ h => h) (by rfl) hS ?_ ?_
  rotate_left
  · intro wS hSw
    try dsimp only at hSw
    first | (go_simp; done) | (go_simp; with_reducible rfl)
  try simp only [Act.put, List.getElem_toArray, List.getElem_cons_zero, List.getElem_cons_succ, List.setIfInBounds_toArray, List.set_cons_zero, List.set_cons_succ]
  refine upto_take (i := 5) (v := ?_) rfl (by kernel_rfl) (by kernel_rfl) (by kernel_rfl) (by kernel_rfl) (fun _ _ _ h => h) (by rfl) hS ?_ ?_
  rotate_left
  · intro wS hSw
    try dsimp only at hSw
    first | (go_simp; done) | (go_simp; with_reducible rfl)
  try simp only [Act.put, List.getElem_toArray, List.getElem_cons_zero, List.getElem_cons_succ, List.setIfInBounds_toArray, List.set_cons_zero, List.set_cons_succ]
  refine upto_take (i := 6) (v := ?_) rfl (by kernel_rfl) (by kernel_rfl) (by kernel_rfl) (by kernel_rfl) (fun _ _ _ h => h) (by rfl) hS ?_ ?_
  rotate_left
  · intro wS hSw
    try dsimp only at hSw
    first | (go_simp; done) | (go_simp; with_reducible rfl)
  try simp only [Act.put, List.getElem_toArray, List.getElem_cons_zero, List.getElem_cons_succ, List.setIfInBounds_toArray, List.set_cons_zero, List.set_cons_succ]
  have hb0 : Below w3.heap.size w3 w3.drew := Below.drew (Below.refl _ _)
  have hz0 : w3.drew.heap.size = w3.heap.size := rfl
  generalize w3.drew = W0 at *
  have HBX : Hid (∀ W, Below W0.heap.size W0 W → Below w.heap.size w W) := fun W hW => bstep (bstep hB3 hb0) hW
  refine upto_dons' [(4, 22), (7, 25), (8, 26), (9, 27), (10, 17), (11, 28), (12, 29), (13, 7), (14, 99)] cmpC (cmpG (.slice ax n cx) v ys ys.length W0.heap.size) (by kernel_rfl) hS ?_ ?_ ?_ ?_
  · intro F' W W' h hm hF
    obtain ⟨h1, h3, h4⟩ := h
    refine ⟨hm.below h1 h1.size (fun b hb => by have := hF b hb; omega), hm.cell h3 (fun e => by have := hF _ e; dsimp only at this; omega), hm.cell h4 (fun e => by have := hF _ e; dsimp only at this; omega)⟩
  · intro pp hp
    simp only [List.mem_cons, List.not_mem_nil, or_false] at hp
    rcases hp with rfl | rfl | rfl | rfl | rfl | rfl | rfl | rfl | rfl
    all_goals
      intro y y' F F' W W' h hi hm hap hF e he
      simp only [cmpG] at h ⊢
    · obtain ⟨lo, h1, h2⟩ := h
      rw [e]
      exact ⟨lo, h1.mod hm (fun x => hap _ x ((h2 _).2 (.inl rfl))) (fun x => hap _ x ((h2 _).2 (.inr rfl))), h2⟩
    · obtain ⟨lo, h1, h2⟩ := h
      rw [e]
      exact ⟨lo, h1.mod hm (fun x => hap _ x ((h2 _).2 (.inl rfl))) (fun x => hap _ x ((h2 _).2 (.inr rfl))), h2⟩
    · obtain ⟨lo, p, q, u1, u2, h0, h1, h2, h3, h4, h5⟩ := h
      rw [e]
      exact ⟨lo, p, q, u1, u2, h0, hm.cell h1 (fun x => hap _ x ((h5 _).2 (.inl rfl))), hm.cell h2 (fun x => hap _ x ((h5 _).2 (.inl rfl))), h3.mod hm (fun x => hap _ x ((h5 _).2 (.inr (.inl (.inl rfl))))) (fun x => hap _ x ((h5 _).2 (.inr (.inl (.inr rfl))))),
        h4.mod hm (fun x => hap _ x ((h5 _).2 (.inr (.inr (.inl rfl))))) (fun x => hap _ x ((h5 _).2 (.inr (.inr (.inr rfl))))), h5⟩
    · obtain ⟨a, c, h0, h1, h2⟩ := h
      rw [e]
      exact ⟨a, c, h0, hm.owns h1 (fun b hb x => hap _ x ((h2 b).2 hb)), h2⟩
    · have e9 := he (9, 27) (by simp) (by kernel_rfl)
      rw [e, e9]
      exact h
    · have e9 := he (10, 17) (by simp) (by kernel_rfl)
      rw [e, e9]
      exact h
    · rw [e]
      exact h
    · obtain ⟨lo, h0, h1, h2, h3, h4⟩ := h
      rw [e]
      refine ⟨lo, h0, hm.cell h1 (fun x => hap _ x ((h4 _).2 rfl)), hm.cell h2 (fun x => hap _ x ((h4 _).2 rfl)), fun o => ?_, h4⟩
      exact (hm.frozen (a := ⟨lo, o, none⟩) (by have := World.block_lt_of_cell? _ _ h1; exact this) (fun x => hap _ x ((h4 _).2 rfl))).trans (h3 o)
    · obtain ⟨lo, a, c, h0, h1, h2, h3, h4⟩ := h
      have e13 := he (13, 7) (by simp) (by kernel_rfl)
      have e11 := he (11, 28) (by simp) (by kernel_rfl)
      rw [e13, e11]
      exact ⟨lo, a, c, h0, h1, hm.cell h2 (fun x => hap _ x ((h4 _).2 rfl)), hm.cell h3 (fun x => hap _ x ((h4 _).2 rfl)), h4⟩
  · intro pp hp
    simp only [List.mem_cons, List.not_mem_nil, or_false] at hp
    rcases hp with rfl | rfl | rfl | rfl | rfl | rfl | rfl | rfl | rfl
    · refine ⟨_, rfl, .inl rfl, ?_⟩
      intro y W Φ hSW hBW hd K hK
      clear hd
      refine ⟨?_⟩
      simp only [over, Act.put, List.getElem_toArray, List.getElem_cons_zero, List.getElem_cons_succ, List.map_cons, List.map_nil, List.foldl_cons, List.foldl_nil, List.setIfInBounds_toArray, List.set_cons_zero, List.set_cons_succ, List.set_nil] at hK ⊢
      go_simp
      refine (above_any ax n cx v W).mono ?_
      rintro e w' ⟨rfl, hw'⟩
      have hbw : Below W.heap.size W w' := by rw [hw']; exact balloc (balloc (Below.refl _ _) _) _
      refine hK _ _ (fun b => b = W.heap.size ∨ b = W.heap.size + 1) (Mod.of_below hbw) (fun b hb => .inr ?_) ?_
      · rw [hw']
        simp only [World.size_alloc]
        rcases hb with rfl | rfl <;> omega
      · simp only [cmpG, updV]
        refine ⟨W.heap.size, ⟨by simp, ?_, ?_, ?_⟩, fun b => Iff.rfl⟩
        all_goals (rw [hw']; simp [go_sem])
    · refine ⟨_, rfl, .inl rfl, ?_⟩
      intro y W Φ hSW hBW hd K hK
      clear hd
      refine ⟨?_⟩
      simp only [over, Act.put, List.getElem_toArray, List.getElem_cons_zero, List.getElem_cons_succ, List.map_cons, List.map_nil, List.foldl_cons, List.foldl_nil, List.setIfInBounds_toArray, List.set_cons_zero, List.set_cons_succ, List.set_nil] at hK ⊢
      go_simp
      refine (livingAt_any ax n cx v W).mono ?_
      rintro e w' ⟨rfl, hw'⟩
      have hbw : Below W.heap.size W w' := by rw [hw']; exact balloc (balloc (Below.refl _ _) _) _
      refine hK _ _ (fun b => b = W.heap.size ∨ b = W.heap.size + 1) (Mod.of_below hbw) (fun b hb => .inr ?_) ?_
      · rw [hw']
        simp only [World.size_alloc]
        rcases hb with rfl | rfl <;> omega
      · simp only [cmpG, updV]
        refine ⟨W.heap.size, ⟨by simp, ?_, ?_, ?_⟩, fun b => Iff.rfl⟩
        all_goals (rw [hw']; simp [go_sem])
    · refine ⟨_, rfl, .inl rfl, ?_⟩
      intro y W Φ hSW hBW hd K hK
      have g4 := hd (4, 22) (by simp) (by kernel_rfl) (.inl (by simp [cmpC]))
      have g7 := hd (7, 25) (by simp) (by kernel_rfl) (.inl (by simp [cmpC]))
      clear hd
      simp only [cmpG] at g4 g7
      obtain ⟨_, p, hp, fp⟩ := g4
      obtain ⟨_, q, hq, fq⟩ := g7
      refine ⟨?_⟩
      simp only [over, Act.put, List.getElem_toArray, List.getElem_cons_zero, List.getElem_cons_succ, List.map_cons, List.map_nil, List.foldl_cons, List.foldl_nil, List.setIfInBounds_toArray, List.set_cons_zero, List.set_cons_succ, List.set_nil] at hK ⊢
      simp only [hp.1, hq.1] at hK ⊢
      have zp := hp.lt
      have zq := hq.lt
      go_simp
      refine hK _ _ (fun b => b = W.heap.size ∨ (b = p ∨ b = p + 1) ∨ (b = q ∨ b = q + 1)) (Mod.of_below (by (repeat (first | exact Below.refl _ _ | assumption | refine Below.drew ?_ | refine balloc ?_ _ | refine bset ?_ (by simp; omega) _ | refine bset ?_ (by simp) _ | refine bstep ?_ (by assumption))))) (fun b hb => ?_) ?_
      · rcases hb with rfl | hb | hb
        · exact .inr (by simp)
        · exact .inl ⟨4, by simp [cmpC], (fp b).2 hb⟩
        · exact .inl ⟨7, by simp [cmpC], (fq b).2 hb⟩
      · have hbA : Below W.heap.size W (W.alloc (.cells #[y 22, y 25] 87)) := balloc (Below.refl _ _) _
        simp only [hp.1, hq.1] at hbA
        have hpA := hp.mod (Mod.of_below (F := fun _ => False) hbA) (fun h => h) (fun h => h)
        have hqA := hq.mod (Mod.of_below (F := fun _ => False) hbA) (fun h => h) (fun h => h)
        simp only [cmpG, updV]
        refine ⟨W.heap.size, p, q, y 22, y 25, by simp, ?_, ?_, hpA, hqA, fun b => Iff.rfl⟩
        · rw [hp.1]
          simp [go_sem]
        · rw [hq.1]
          simp [go_sem]
    · refine ⟨_, rfl, .inl rfl, ?_⟩
      intro y W Φ hSW hBW hd K hK
      have g8 := hd (8, 26) (by simp) (by kernel_rfl) (.inr (by simp [cmpC]))
      clear hd
      simp only [cmpG] at g8
      obtain ⟨_, lo, p, q, u1, u2, e0, e1, e2, hp, hq, _⟩ := g8
      have hBw := HBX.out W hBW
      have hC := merged_any (.slice (some ⟨lo, 0, none⟩) 2 2) 2 n (fun i => if i = 0 then 102 else 103) (fun i => if i = 0 then #[.pointer (some ⟨p, 0, none⟩), .pointer (some ⟨p + 1, 0, none⟩)] else #[.pointer (some ⟨q, 0, none⟩), .pointer (some ⟨q + 1, 0, none⟩)]) (fun i => if i = 0 then overV v xs else living (lastL v xs)) W
        ⟨_, 2, rfl, Nat.le_refl _, by unfold maxLen; omega, fun i hi => ⟨lo, 0, rfl, by
          match i, hi with
          | 0, _ => simpa [hp.1] using e1
          | 1, _ => simpa [hq.1] using e2⟩⟩ (by have := HLN.out; have := HN.out; omega) HL2.out (fun i hi => by
          match i, hi with
          | 0, _ => exact enters_of Try.func102 (by kernel_rfl) rfl
          | 1, _ => exact enters_of Try.func103 (by kernel_rfl) rfl) (fun i hi => by
          have hT : TabAt (fun b => b < W.heap.size) W (.slice ax n cx) xs := TabAt.of (RowsV_below hX hBw) (fun b hb => hb)
          have zp := hp.lt
          have zq := hq.lt
          match i, hi with
          | 0, _ => exact above_seq p (p + 1) (.slice ax n cx) xs v _ W (fun b hb => hb) hp.2.1 hp.2.2.1 hp.2.2.2 (by omega) (by omega) hT HLN.out
          | 1, _ => exact livingAt_seq q (q + 1) (.slice ax n cx) xs v _ W (fun b hb => hb) hq.2.1 hq.2.2.1 hq.2.2.2 (by omega) (by omega) hT HLN.out)
      rw [HP.out] at hC
      unfold cmpF at hC
      refine ⟨?_⟩
      simp only [over, Act.put, List.getElem_toArray, List.getElem_cons_zero, List.getElem_cons_succ, List.map_cons, List.map_nil, List.foldl_cons, List.foldl_nil, List.setIfInBounds_toArray, List.set_cons_zero, List.set_cons_succ, List.set_nil] at hK ⊢
      simp only [e0] at hK ⊢
      go_simp
      refine hC.mono ?_
      rintro e w' ⟨u, f, rfl, ⟨a1, n1, c1, rfl⟩, hb1, ht, hf⟩
      have hft : f = true := by
        cases f with
        | true => rfl
        | false =>
          have h1 := hf rfl
          have h2 := HLE.out
          have h3 := HN.out
          omega
      subst hft
      obtain ⟨ho, _⟩ := ht rfl
      have hn1 : n1 = ys.length := by
        obtain ⟨a', c', e⟩ := owns_form ho
        simp only [Value.slice.injEq] at e
        exact e.2.1
      subst hn1
      refine hK _ _ (fun b => (Value.slice a1 ys.length c1).ownBlock = some b) (Mod.of_below hb1) (fun b hb => .inr (ho.lt b hb)) ?_
      simp only [cmpG, updV]
      exact ⟨a1, c1, by simp [cmpF], owns_base ho hBW.size, fun b => Iff.rfl⟩
    · refine ⟨_, rfl, .inl rfl, ?_⟩
      intro y W Φ hSW hBW hd K hK
      have g9 := hd (9, 27) (by simp) (by kernel_rfl) (.inr (by simp [cmpC]))
      clear hd
      simp only [cmpG] at g9
      obtain ⟨-, a, c, e0, -⟩ := g9
      refine ⟨?_⟩
      simp only [over, Act.put, List.getElem_toArray, List.getElem_cons_zero, List.getElem_cons_succ, List.map_cons, List.map_nil, List.foldl_cons, List.foldl_nil, List.setIfInBounds_toArray, List.set_cons_zero, List.set_cons_succ, List.set_nil] at hK ⊢
      simp only [e0] at hK ⊢
      go_simp
      refine hK _ _ (fun _ => False) (Mod.refl _ _) (fun b hb => hb.elim) ?_
      simp only [cmpG, updV]
      exact ⟨⟨a, c, by simp⟩, by simp [e0], fun b hb => hb⟩
    · refine ⟨_, rfl, .inl rfl, ?_⟩
      intro y W Φ hSW hBW hd K hK
      have g9 := hd (10, 17) (by simp) (by kernel_rfl) (.inr (by simp [cmpC]))
      clear hd
      simp only [cmpG] at g9
      obtain ⟨-, ⟨a, c, e0⟩, -⟩ := g9
      refine ⟨?_⟩
      simp only [over, Act.put, List.getElem_toArray, List.getElem_cons_zero, List.getElem_cons_succ, List.map_cons, List.map_nil, List.foldl_cons, List.foldl_nil, List.setIfInBounds_toArray, List.set_cons_zero, List.set_cons_succ, List.set_nil] at hK ⊢
      simp only [e0] at hK ⊢
      go_simp
      refine hK _ _ (fun _ => False) (Mod.refl _ _) (fun b hb => hb.elim) ?_
      simp only [cmpG, updV]
      exact ⟨⟨a, c, by simp⟩, by simp [e0], fun b hb => hb⟩
    · refine ⟨_, rfl, .inl rfl, ?_⟩
      intro y W Φ hSW hBW hd K hK
      have g9 := hd (10, 17) (by simp) (by kernel_rfl) (.inr (by simp [cmpC]))
      clear hd
      simp only [cmpG] at g9
      obtain ⟨-, ⟨a, c, e0⟩, -⟩ := g9
      refine ⟨?_⟩
      simp only [over, Act.put, List.getElem_toArray, List.getElem_cons_zero, List.getElem_cons_succ, List.map_cons, List.map_nil, List.foldl_cons, List.foldl_nil, List.setIfInBounds_toArray, List.set_cons_zero, List.set_cons_succ, List.set_nil] at hK ⊢
      simp only [e0] at hK ⊢
      go_simp
      refine hK _ _ (fun _ => False) (Mod.refl _ _) (fun b hb => hb.elim) ?_
      simp only [cmpG, updV]
      exact ⟨by simp, fun b hb => hb⟩
    · refine ⟨_, rfl, .inl rfl, ?_⟩
      intro y W Φ hSW hBW hd K hK
      clear hd
      refine ⟨?_⟩
      simp only [over, Act.put, List.getElem_toArray, List.getElem_cons_zero, List.getElem_cons_succ, List.map_cons, List.map_nil, List.foldl_cons, List.foldl_nil, List.setIfInBounds_toArray, List.set_cons_zero, List.set_cons_succ, List.set_nil] at hK ⊢
      go_simp
      refine hK _ _ (fun b => b = W.heap.size) (Mod.of_below (by (repeat (first | exact Below.refl _ _ | assumption | refine Below.drew ?_ | refine balloc ?_ _ | refine bset ?_ (by simp; omega) _ | refine bset ?_ (by simp) _ | refine bstep ?_ (by assumption))))) (fun b hb => .inr (by simp; omega)) ?_
      simp only [cmpG, updV]
      exact ⟨W.heap.size, by simp, by simp [go_sem], by simp [go_sem], fun o => by simp [go_sem], fun b => Iff.rfl⟩
    · refine ⟨_, rfl, .inr ⟨rfl, by simp⟩, ?_⟩
      intro y W Φ hSW hBW hd K hK
      have g11 := hd (11, 28) (by simp) (by kernel_rfl) (.inr (by simp [cmpC]))
      have g13 := hd (13, 7) (by simp) (by kernel_rfl) (.inl (by simp [cmpC]))
      clear hd
      simp only [cmpG] at g11 g13
      obtain ⟨-, ⟨a, c, e0⟩, -⟩ := g11
      obtain ⟨_, lo, e1, k0, k1, kf, fl⟩ := g13
      unfold cmpF at e0
      refine ⟨?_⟩
      simp only [over, Act.put, List.getElem_toArray, List.getElem_cons_zero, List.getElem_cons_succ, List.map_cons, List.map_nil, List.foldl_cons, List.foldl_nil, List.setIfInBounds_toArray, List.set_cons_zero, List.set_cons_succ, List.set_nil] at hK ⊢
      simp only [e0, e1] at hK ⊢
      go_simp
      refine hK undef _ (fun b => b = lo) (((Mod.of_set W ⟨lo, 0, none⟩ _).trans (Mod.of_set _ ⟨lo, 1, none⟩ _)).mono (fun b hb => ⟨13, by simp [cmpC], (fl b).2 hb⟩)) (fun b hb => .inl ⟨13, by simp [cmpC], (fl b).2 hb⟩) ?_
      simp only [cmpG, updV]
      exact ⟨lo, a, c, by simp [e1], by simp [e0, cmpF], (set_other (by simp)).trans (set_same k0), set_same ((set_other (by simp)).trans k1), fun b => Iff.rfl⟩
  · refine ⟨_, rfl, ?_⟩
    intro y W Φ hSW hBW hd hap K hK
    have g9 := (hd (9, 27) (by simp) (by simp [cmpC])).2
    have g10 := (hd (10, 17) (by simp) (by simp [cmpC])).2
    have g11 := (hd (11, 28) (by simp) (by simp [cmpC])).2
    have g12 := (hd (12, 29) (by simp) (by simp [cmpC])).2
    have g14 := hd (14, 99) (by simp) (by simp [cmpC])
    have hap' := hap (9, 27) (by simp) (14, 99) (by simp) (by simp) (by simp [cmpC]) (by simp [cmpC])
    clear hd hap
    simp only [cmpG] at g9 g10 g11 g12 g14
    obtain ⟨a, c, e27, ho, f9⟩ := g9
    obtain ⟨-, e17, -⟩ := g10
    obtain ⟨-, e28, -⟩ := g11
    obtain ⟨e29, -⟩ := g12
    obtain ⟨hin, lo, a', c', e7, e28', kk0, kk1, f14⟩ := g14
    rw [e17, e27] at e28
    simp only [Value.tuple.injEq, Array.mk.injEq, List.cons.injEq, and_true] at e28
    rw [← e28] at e28'
    simp only [Value.agg.injEq, Array.mk.injEq, List.cons.injEq, and_true, Value.slice.injEq, true_and] at e28'
    obtain ⟨rfl, rfl⟩ := e28'
    have hne : (Value.slice a ys.length c).ownBlock ≠ some lo := fun h => hap' lo ((f9 lo).2 h) ((f14 lo).2 rfl)
    have hlo := hin lo ((f14 lo).2 rfl)
    have hBw := HBX.out W hBW
    have hW2 : Below w2.heap.size w2 W := bstep (bstep hb3 hb0) hBW
    have q0 := cell_keep hW2 k1
    have q1 := cell_keep hW2 k2
    have qf := (boxKeep kf hW2).1
    have qz := (boxKeep kf hW2).2
    have hzw : w.heap.size < W0.heap.size := by
      have h1 := kf.2
      omega
    have HZW : Hid (w.heap.size < W0.heap.size) := hzw
    refine ⟨?_⟩
    simp only [over, Act.put, List.getElem_toArray, List.getElem_cons_zero, List.getElem_cons_succ, List.map_cons, List.map_nil, List.foldl_cons, List.foldl_nil, List.setIfInBounds_toArray, List.set_cons_zero, List.set_cons_succ, List.set_nil]
    simp only [e29, e7]
    clear e17 e27 e28 e7 e29 hap' f9 f14 hin hS hSW hb0 hb3 c0 c1 k1 k2 kf
    go_simp
    refine hK _ _ ?_
    clear hK K
    refine NoPanic.normal ?_
    obtain ⟨L, hL⟩ : ∃ L, ys.length = L := ⟨_, rfl⟩
    have HL : Hid (ys.length = L) := hL
    rw [hL] at ho kk0 hne
    clear hL
    go_wp2
    refine bodyPost_ret (v := .agg #[.int .i64 0, .slice a L c]) (by simp [results, Try.results17, go_sem, q0, q1]) rfl ?_
    have ho2 : ((W.setCell ⟨w.heap.size, 0, none⟩ (.int .i64 0)).setCell ⟨w.heap.size, 1, none⟩ (.slice a L c)).ownsRow w.heap.size 32 4 (.slice a L c) ys.length (rwsC ys) := by
      rw [HL.out]
      exact owns_base (owns_setCell (owns_setCell ho HZW.out _) HZW.out _) (Nat.le_of_lt HZW.out)
    obtain ⟨F, hF⟩ := tabRR_of (c := 0) ho2 HFIT.out
    rw [E.out]
    first | exact ⟨_, F, rfl, hF, by (repeat (first | exact Below.refl _ _ | assumption | refine Below.drew ?_ | refine balloc ?_ _ | refine bset ?_ (by simp; omega) _ | refine bset ?_ (by simp) _ | refine bstep ?_ (by assumption)))⟩ | exact ⟨_, rfl, ⟨F, hF⟩, by (repeat (first | exact Below.refl _ _ | assumption | refine Below.drew ?_ | refine balloc ?_ _ | refine bset ?_ (by simp; omega) _ | refine bset ?_ (by simp) _ | refine bstep ?_ (by assumption)))⟩

end Go.Proofs.Ytdfapehonegeeaa
