import Derived.Test.YteebglgbeijolaaPrnBytes9Law9
import Derived.Test.YteebglgbeijolaaPrnBytes9Law7
import Derived.Test.YteebglgbeijolaaPrnBytes9Law3
import Derived.Test.YteebglgbeijolaaPrnBytes9Law1

/-
  A contract drawn with something turned.
-/
namespace Go.Proofs.Yteebglgbeijolaa
open Go.RowKit
set_option linter.unusedSectionVars false
variable [DecidableEq Logg] [Inhabited Logg] [DecidableEq LoggR] [Inhabited LoggR] [DecidableEq BytesR] [Inhabited BytesR] [DecidableEq RecsR] [Inhabited RecsR] [DecidableEq Leg] [Inhabited Leg] [DecidableEq Cont] [Inhabited Cont]
set_option linter.unusedVariables false
set_option linter.unusedSimpArgs false
attribute [local go_sem ↓] Go.wp_at_zero Go.wp_at_succ

structure Box2 (W : World) (p : Nat) (v0 v1 : Value) : Prop where
  c0 : W.cell? ⟨p, 0, none⟩ = some v0
  c1 : W.cell? ⟨p, 1, none⟩ = some v1
  fr : ∀ o, W.frozen? ⟨p, o, none⟩ = false
  lt : p < W.heap.size
theorem Box2.mod {F : Nat → Prop} {W W' : World} {p : Nat} {v0 v1 : Value} (h : Box2 W p v0 v1) (hm : Mod F W W') (hp : ¬ F p) : Box2 W' p v0 v1 :=
  ⟨hm.cell h.c0 hp, hm.cell h.c1 hp, fun o => (hm.frozenAt (a := ⟨p, o, none⟩) h.lt hp).trans (h.fr o), Nat.lt_of_lt_of_le h.lt hm.size⟩
theorem Box2.below {W W' : World} {p : Nat} {v0 v1 : Value} (h : Box2 W p v0 v1) (hb : Below W.heap.size W W') : Box2 W' p v0 v1 :=
  h.mod (F := fun _ => False) (Mod.of_below hb) (fun e => e)
theorem msetL {F : Nat → Prop} {w w' : World} (h : Mod F w w') (a : Addr) (v : Value) (ha : F a.block) : Mod F w (w'.setCell a v) := h.trans ((Mod.of_set w' a v).mono (fun b e => by rw [e]; exact ha))
def setF (l : Leg) (f : Nat) (r : Int) : Leg := match f with
  | 0 => { l with sh := r }
  | 1 => { l with ac := r }
  | 2 => { l with ast := r }
  | _ => { l with am := r }
theorem legsC_setF : ∀ (xs : List Leg) (i f : Nat) (r : Int), i < xs.length → f < 4 → (legsC xs).set (i * 4 + f) (.int .i64 r) = legsC (xs.set i (setF (xs.getD i default) f r))
  | [], i, f, r, h, _ => by simp at h
  | x :: xs, 0, f, r, _, hf => by
    have e : ∀ x l, legsC (x :: l) = [.int .i64 x.sh, .int .i64 x.ac, .int .i64 x.ast, .int .i64 x.am] ++ legsC l := fun x l => by simp [legsC, legC]
    rw [List.set_cons_zero, e, e]
    match f, hf with
    | 0, _ => simp [setF]
    | 1, _ => simp [setF]
    | 2, _ => simp [setF]
    | 3, _ => simp [setF]
  | x :: xs, i + 1, f, r, h, hf => by
    have e : ∀ x l, legsC (x :: l) = [.int .i64 x.sh, .int .i64 x.ac, .int .i64 x.ast, .int .i64 x.am] ++ legsC l := fun x l => by simp [legsC, legC]
    have ih := legsC_setF xs i f r (by simpa using h) hf
    rw [List.set_cons_succ, e, e, show (x :: xs).getD (i + 1) default = xs.getD i default by simp, ← ih]
    rw [show (i + 1) * 4 + f = (i * 4 + f) + 1 + 1 + 1 + 1 by omega]
    simp only [List.cons_append, List.nil_append, List.set_cons_succ]
theorem legsC_take : ∀ (xs : List Leg) (k : Nat), legsC (xs.take k) = (legsC xs).take (k * 4)
  | [], k => by simp [legsC]
  | x :: xs, 0 => by simp [legsC]
  | x :: xs, k + 1 => by
    have e : ∀ x l, legsC (x :: l) = [.int .i64 x.sh, .int .i64 x.ac, .int .i64 x.ast, .int .i64 x.am] ++ legsC l := fun x l => by simp [legsC, legC]
    rw [List.take_succ_cons, e, e, legsC_take xs k, show (k + 1) * 4 = k * 4 + 1 + 1 + 1 + 1 by omega]
    simp only [List.cons_append, List.nil_append, List.take_succ_cons]
theorem owns_takeL {w : World} {base e : Nat} {g : Nat} {cap : Nat} {xs : List Leg} (h : w.ownsRow base e 4 (.slice (some ⟨g, 0, none⟩) xs.length cap) xs.length (legsC xs)) (k : Nat) (hk : k ≤ xs.length) :
    w.ownsRow base e 4 (.slice (some ⟨g, 0, none⟩) k cap) (xs.take k).length (legsC (xs.take k)) := by
  have hl : (xs.take k).length = k := by rw [List.length_take]; omega
  rw [hl, legsC_take]
  obtain ⟨h1, h2⟩ := h
  refine ⟨by rw [List.length_take]; omega, ?_⟩
  rcases h2 with ⟨e1, _⟩ | ⟨g', cap', cur, e1, hb, hg, hnc, hcm, hcs, htake⟩
  · cases e1
  · simp only [Value.slice.injEq, Option.some.injEq, Addr.mk.injEq, and_true, true_and] at e1
    obtain ⟨rfl, rfl⟩ := e1
    refine .inr ⟨g, cap, cur, rfl, hb, hg, by omega, hcm, hcs, ?_⟩
    rw [← htake, List.take_take]
    congr 1
    omega
def zeroLegs : List Leg := List.replicate 9 ⟨0, 0, 0, 0⟩
theorem zeroLegs_made : (madeCells (Value.agg #[.int .i64 0, .int .i64 0, .int .i64 0, .int .i64 0]).cells (9 * 4)).toList = legsC zeroLegs := by kernel_rfl
theorem zeroLegs_len : zeroLegs.length = 9 := List.length_replicate
end Go.Proofs.Yteebglgbeijolaa

/-
  A contract drawn with something turned: the function. (Written by program: bnt_gen.py.)
-/
namespace Go.Proofs.Yteebglgbeijolaa
open Go.RowKit
set_option linter.unusedSectionVars false
variable [DecidableEq Logg] [Inhabited Logg] [DecidableEq LoggR] [Inhabited LoggR] [DecidableEq BytesR] [Inhabited BytesR] [DecidableEq RecsR] [Inhabited RecsR] [DecidableEq Leg] [Inhabited Leg] [DecidableEq Cont] [Inhabited Cont]
set_option linter.unusedVariables false
set_option linter.unusedSimpArgs false
attribute [local go_sem ↓] Go.wp_at_zero Go.wp_at_succ

set_option maxRecDepth 20000 in
set_option maxHeartbeats 16000000 in
theorem l1Bent_any (B : Nat) (w : World) (bs : Nat) (a : Option Addr) (k cap t : Nat) (h : Src B w bs a k cap t) (ht : t ≤ 900) :
    Calls Try.prog 48 #[.pointer (some ⟨bs, 0, none⟩)] w fun e w' => ∃ id v F xs t', e = .returned (.agg #[.int .i64 id, v]) ∧ legsR.O w' w.heap.size F v xs ∧ xs.length ≤ 9 ∧ Src B w' bs a k cap t' ∧ t' ≤ t + 30 ∧ Mod (fun b => b = bs) w w' := by
  have hlt := h.lt
  have hne : w.heap.size ≠ bs := by omega
  obtain ⟨i0, hi, hz0, hz1, hz2⟩ := info_parts infoLeg
  go_enter Try.func48, Try.ntmps48
  go_wp2_with fail
  refine (l1Next_any B _ bs a k cap t 9 (h.below (by (repeat (first | exact Below.refl _ _ | assumption | refine Below.drew ?_ | refine balloc ?_ _ | refine bset ?_ (by simp; omega) _ | refine bset ?_ (by simp) _ | refine bstep ?_ (by assumption))))) (by omega) (by omega) (by omega)).mono ?_
  rintro e w1 ⟨n1, rfl, hn1, h1, m1⟩
  have R : Box2 w1 w.heap.size (.int .i64 0) (.slice none 0 0) := ⟨m1.cell (by simp [go_sem]) hne, m1.cell (by simp [go_sem]) hne, fun o => (m1.frozenAt (a := ⟨w.heap.size, o, none⟩) (by simp) hne).trans (by simp [go_sem]), by have := m1.size; simp at this; omega⟩
  have M1 : Mod (fun b => b = bs) w w1 := (Mod.of_below (balloc (Below.refl _ _) _)).trans m1
  have z1 : w.heap.size < w1.heap.size := R.lt
  have hw1 : IntKind.i64.wrap (1 + (n1 : Int)) = 1 + (n1 : Int) := wrapI _ (by omega) (by omega)
  clear m1 h
  go_wp2_with fail
  refine (l1Draw_any B w1 bs a k cap (t + 1) (1 + (n1 : Int)) h1 (by omega)).mono ?_
  rintro e w2 ⟨v2, F2, xs, t2, rfl, o2, hl1, hl4, h2, ht2, m2⟩
  obtain ⟨id, hid⟩ : ∃ id : Int, 1 + (n1 : Int) = id := ⟨_, rfl⟩
  rw [hid]
  clear hid hw1
  replace R := R.mod m2 hne
  have M2 := M1.trans m2
  have z2 := m2.size
  obtain ⟨g, c, rfl⟩ : ∃ g c, v2 = .slice (some ⟨g, 0, none⟩) xs.length c := by
    rcases o2.1.2 with ⟨_, hn⟩ | ⟨g, c, _, e, _⟩
    · omega
    · exact ⟨g, c, e⟩
  have hg1 := (o2.1.lt g rfl).1
  have hg2 := (o2.1.lt g rfl).2
  have ho2 : w2.ownsRow (w.heap.size + 1) 97 4 (.slice (some ⟨g, 0, none⟩) xs.length c) xs.length (legsC xs) := owns_base o2.1 (by omega)
  obtain ⟨n, hn⟩ : ∃ n, n = xs.length := ⟨_, rfl⟩
  have HN : Hid (xs.length = n) := hn.symm
  rw [← hn] at ho2 hl1 hl4 ⊢
  clear hn o2 M1 m2 h1
  have hl2 := h2.lt
  have hne2 : w2.heap.size ≠ bs := by omega
  have hcapN : n ≤ c := by
    rcases ho2.2 with ⟨_, hn⟩ | ⟨_, _, _, e, _, _, hnc, _⟩
    · omega
    · simp only [Value.slice.injEq] at e
      omega
  go_wp2_with fail
  refine (l1Next_any B _ bs a k cap t2 (n : Int) (h2.below (by (repeat (first | exact Below.refl _ _ | assumption | refine Below.drew ?_ | refine balloc ?_ _ | refine bset ?_ (by simp; omega) _ | refine bset ?_ (by simp) _ | refine bstep ?_ (by assumption))))) (by omega) (by omega) (by omega)).mono ?_
  rintro e w3 ⟨i, rfl, hi3, h3, m3⟩
  have X : Box2 w3 w2.heap.size (.int .i64 id) (.slice (some ⟨g, 0, none⟩) n c) := ⟨m3.cell (by simp [go_sem]) hne2, m3.cell (by simp [go_sem]) hne2, fun o => (m3.frozenAt (a := ⟨w2.heap.size, o, none⟩) (by simp) hne2).trans (by simp [go_sem]), by have := m3.size; simp at this; omega⟩
  replace R := (R.below (by (repeat (first | exact Below.refl _ _ | assumption | refine Below.drew ?_ | refine balloc ?_ _ | refine bset ?_ (by simp; omega) _ | refine bset ?_ (by simp) _ | refine bstep ?_ (by assumption))))).mod m3 hne
  have M3 : Mod (fun b => b = bs) w w3 := (M2.transB (by (repeat (first | exact Below.refl _ _ | assumption | refine Below.drew ?_ | refine balloc ?_ _ | refine bset ?_ (by simp; omega) _ | refine bset ?_ (by simp) _ | refine bstep ?_ (by assumption))))).trans m3
  have ho3 := m3.owns (owns_below ho2 (by (repeat (first | exact Below.refl _ _ | assumption | refine Below.drew ?_ | refine balloc ?_ _ | refine bset ?_ (by simp; omega) _ | refine bset ?_ (by simp) _ | refine bstep ?_ (by assumption))))) (fun b hb e => by simp [Value.ownBlock] at hb; omega)
  clear M2 m3 h2 ho2
  go_wp2_with fail
  refine (l1Next_any B w3 bs a k cap (t2 + 1) 24 h3 (by omega) (by omega) (by omega)).mono ?_
  rintro e w4 ⟨n4, rfl, hn4, h4, m4⟩
  replace X := X.mod m4 hne2
  replace R := R.mod m4 hne
  have M4 := M3.trans m4
  have ho4 := m4.owns ho3 (fun b hb e => by simp [Value.ownBlock] at hb; omega)
  have z4 : w2.heap.size < w4.heap.size := X.lt
  clear M3 m4 h3 ho3
  have hnx : w.heap.size ≠ w2.heap.size := by omega
  have hi0 : (0 : Int) ≤ i := by omega
  have hin : (i : Int) < n := hi3
  have hwn : (0 : Int) ≤ n4 := by omega
  by_cases c0 : n4 = 0
  · subst c0
    go_wp2_with fail
    refine (l1Pick_any B _ bs a k cap (t2 + 1 + 1) w4.heap.size 4 [0, -1, 1000000000, 1000000001] (h4.below (by (repeat (first | exact Below.refl _ _ | assumption | refine Below.drew ?_ | refine balloc ?_ _ | refine bset ?_ (by simp; omega) _ | refine bset ?_ (by simp) _ | refine bstep ?_ (by assumption))))) (by omega) (by omega) (by simp) (by simp) ?_).mono ?_
    · intro i hi
      match i, hi with
      | 0, _ => simp [go_sem]
      | 1, _ => simp [go_sem]
      | 2, _ => simp [go_sem]
      | 3, _ => simp [go_sem]
    rintro e w5 ⟨q, rfl, hq, h5, m5⟩
    obtain ⟨x0, x1, xf, xl⟩ := (X.below (by (repeat (first | exact Below.refl _ _ | assumption | refine Below.drew ?_ | refine balloc ?_ _ | refine bset ?_ (by simp; omega) _ | refine bset ?_ (by simp) _ | refine bstep ?_ (by assumption))))).mod m5 hne2
    obtain ⟨r0, r1, rf, rl⟩ := (R.below (by (repeat (first | exact Below.refl _ _ | assumption | refine Below.drew ?_ | refine balloc ?_ _ | refine bset ?_ (by simp; omega) _ | refine bset ?_ (by simp) _ | refine bstep ?_ (by assumption))))).mod m5 hne
    have M5 : Mod (fun b => b = bs) w w5 := (M4.transB (by (repeat (first | exact Below.refl _ _ | assumption | refine Below.drew ?_ | refine balloc ?_ _ | refine bset ?_ (by simp; omega) _ | refine bset ?_ (by simp) _ | refine bstep ?_ (by assumption))))).trans m5
    have ho5 := m5.owns (owns_below ho4 (by (repeat (first | exact Below.refl _ _ | assumption | refine Below.drew ?_ | refine balloc ?_ _ | refine bset ?_ (by simp; omega) _ | refine bset ?_ (by simp) _ | refine bstep ?_ (by assumption))))) (fun b hb e => by simp [Value.ownBlock] at hb; omega)
    clear m5 h4 M4 X R ho4
    go_wp2
    have ho6 : w5.ownsRow (w.heap.size + 1) 97 4 (.slice (some ⟨g, 0, none⟩) n c) xs.length (legsC xs) := by rw [HN.out]; exact ho5
    refine bodyPost_ret (v := .agg #[.int .i64 q, .slice (some ⟨g, 0, none⟩) n c]) (by simp [results, Try.results48, go_sem, r0, r1, rf, x0, x1, xf, hnx, Ne.symm hnx]) rfl ⟨q, .slice (some ⟨g, 0, none⟩) n c, _, xs, t2 + 1 + 1 + 1, rfl, ⟨owns_base (Mod.owns (F := fun b => b = w2.heap.size ∨ b = w.heap.size) (by repeat (first | exact Mod.refl _ _ | refine msetL ?_ _ _ (by first | exact .inl rfl | exact .inr rfl))) ho6 (fun b hb e => by simp [Value.ownBlock] at hb; omega)) (by omega), rfl⟩, by rw [HN.out]; omega, ?_, by omega, ?_⟩
    · exact h5.mod (F := fun b => b = w2.heap.size ∨ b = w.heap.size) (by repeat (first | exact Mod.refl _ _ | refine msetL ?_ _ _ (by first | exact .inl rfl | exact .inr rfl))) (fun b e => by omega)
    · exact M5.trans2 (G := fun b => b = w2.heap.size ∨ b = w.heap.size) (by repeat (first | exact Mod.refl _ _ | refine msetL ?_ _ _ (by first | exact .inl rfl | exact .inr rfl))) (fun b e hb => by omega)
  have c0' : ¬ ((n4 : Int) = 0) := by omega
  by_cases c1 : n4 = 1
  · subst c1
    obtain ⟨x0, x1, xf, xl⟩ := X
    have X : Box2 w4 w2.heap.size (.int .i64 id) (.slice (some ⟨g, 0, none⟩) n c) := ⟨x0, x1, xf, xl⟩
    go_wp2
    refine wp_region_noPanic ?_
    refine region_upto (fun W => W.cell? ⟨w2.heap.size, 1, none⟩ = some (.slice (some ⟨g, 0, none⟩) n c)) 8 (by kernel_rfl) (cell_keep (by (repeat (first | exact Below.refl _ _ | assumption | refine Below.drew ?_ | refine balloc ?_ _ | refine bset ?_ (by simp; omega) _ | refine bset ?_ (by simp) _ | refine bstep ?_ (by assumption)))) x1) (fun hS => ?_)
    refine upto_take (i := 0) (v := ?_) rfl (by kernel_rfl) (by kernel_rfl) (by kernel_rfl) (by kernel_rfl) (fun _ _ _ h => h) (by rfl) hS ?_ ?_
    rotate_left
    · intro wS hSw
      try dsimp only at hSw
      first | (go_simp; done) | (go_simp; with_reducible rfl)
    try simp only [Act.put, List.getElem_toArray, List.getElem_cons_zero, List.getElem_cons_succ, List.setIfInBounds_toArray, List.set_cons_zero, List.set_cons_succ]
    refine upto_take (i := 1) (v := ?_) rfl (by kernel_rfl) (by kernel_rfl) (by kernel_rfl) (by kernel_rfl) (fun _ _ _ h => h) (by rfl) hS ?_ ?_
    rotate_left
    · intro wS hSw
      try dsimp only at hSw
      first | (go_simp; done) | (go_simp; with_reducible rfl)
    try simp only [Act.put, List.getElem_toArray, List.getElem_cons_zero, List.getElem_cons_succ, List.setIfInBounds_toArray, List.set_cons_zero, List.set_cons_succ]
    refine upto_take (i := 2) (v := ?_) rfl (by kernel_rfl) (by kernel_rfl) (by kernel_rfl) (by kernel_rfl) (fun _ _ _ h => h) (by rfl) hS ?_ ?_
    rotate_left
    · intro wS hSw
      try dsimp only at hSw
      first | (go_simp; done) | (go_simp; with_reducible rfl)
    try simp only [Act.put, List.getElem_toArray, List.getElem_cons_zero, List.getElem_cons_succ, List.setIfInBounds_toArray, List.set_cons_zero, List.set_cons_succ]
    refine upto_take (i := 3) (v := ?_) rfl (by kernel_rfl) (by kernel_rfl) (by kernel_rfl) (by kernel_rfl) (fun _ _ _ h => h) (by rfl) hS ?_ ?_
    rotate_left
    · intro wS hSw
      try dsimp only at hSw
      first | (go_simp; done) | (go_simp; with_reducible rfl)
    try simp only [Act.put, List.getElem_toArray, List.getElem_cons_zero, List.getElem_cons_succ, List.setIfInBounds_toArray, List.set_cons_zero, List.set_cons_succ]
    refine upto_step (i := 4) (by kernel_rfl) rfl ?_
    intro K hK
    go_simp
    refine hK _ _ (fun _ => cell_keep (balloc (Below.refl _ _) _) hS) ?_
    clear hK K
    try simp only [Act.put, List.getElem_toArray, List.getElem_cons_zero, List.getElem_cons_succ, List.setIfInBounds_toArray, List.set_cons_zero, List.set_cons_succ]
    refine upto_step (i := 5) (by kernel_rfl) rfl ?_
    intro K hK
    go_simp
    refine (l1Pick_any B _ bs a k cap (t2 + 1 + 1) w4.heap.size 3 [-1, 3, 1] (h4.below (by (repeat (first | exact Below.refl _ _ | assumption | refine Below.drew ?_ | refine balloc ?_ _ | refine bset ?_ (by simp; omega) _ | refine bset ?_ (by simp) _ | refine bstep ?_ (by assumption))))) (by omega) (by omega) (by simp) (by simp) ?_).mono ?_
    · intro i hi
      match i, hi with
      | 0, _ => simp [go_sem]
      | 1, _ => simp [go_sem]
      | 2, _ => simp [go_sem]
    rintro e w5 ⟨q, rfl, hq, h5, m5⟩
    have hS5 : (fun W : World => W.cell? ⟨w2.heap.size, 1, none⟩ = some (.slice (some ⟨g, 0, none⟩) n c)) w5 := m5.cell (cell_keep (balloc (Below.refl _ _) _) hS) hne2
    clear x0 x1 xf xl
    obtain ⟨x0, x1, xf, xl⟩ := (X.below (by (repeat (first | exact Below.refl _ _ | assumption | refine Below.drew ?_ | refine balloc ?_ _ | refine bset ?_ (by simp; omega) _ | refine bset ?_ (by simp) _ | refine bstep ?_ (by assumption))))).mod m5 hne2
    obtain ⟨r0, r1, rf, rl⟩ := (R.below (by (repeat (first | exact Below.refl _ _ | assumption | refine Below.drew ?_ | refine balloc ?_ _ | refine bset ?_ (by simp; omega) _ | refine bset ?_ (by simp) _ | refine bstep ?_ (by assumption))))).mod m5 hne
    have M5 : Mod (fun b => b = bs) w w5 := (M4.transB (by (repeat (first | exact Below.refl _ _ | assumption | refine Below.drew ?_ | refine balloc ?_ _ | refine bset ?_ (by simp; omega) _ | refine bset ?_ (by simp) _ | refine bstep ?_ (by assumption))))).trans m5
    have ho5 := m5.owns (owns_below ho4 (by (repeat (first | exact Below.refl _ _ | assumption | refine Below.drew ?_ | refine balloc ?_ _ | refine bset ?_ (by simp; omega) _ | refine bset ?_ (by simp) _ | refine bstep ?_ (by assumption))))) (fun b hb e => by simp [Value.ownBlock] at hb; omega)
    refine hK _ _ (fun _ => hS5) ?_
    clear hK K m5 h4 M4 X R ho4 hS
    try simp only [Act.put, List.getElem_toArray, List.getElem_cons_zero, List.getElem_cons_succ, List.setIfInBounds_toArray, List.set_cons_zero, List.set_cons_succ]
    obtain ⟨u5, g5⟩ := owns_some ho5 (i * 4) (by omega)
    have hf5 := fun j => ho5.frozenAt j
    refine upto_step (i := 6) (by kernel_rfl) rfl ?_
    intro K hK
    go_simp
    refine hK _ _ (fun _ => hS5) ?_
    clear hK K
    try simp only [Act.put, List.getElem_toArray, List.getElem_cons_zero, List.getElem_cons_succ, List.setIfInBounds_toArray, List.set_cons_zero, List.set_cons_succ]
    refine upto_step (i := 7) (by kernel_rfl) rfl ?_
    intro K hK
    go_simp
    refine hK _ _ (fun _ => hS5) ?_
    clear hK K
    try simp only [Act.put, List.getElem_toArray, List.getElem_cons_zero, List.getElem_cons_succ, List.setIfInBounds_toArray, List.set_cons_zero, List.set_cons_succ]
    refine upto_step (i := 8) (by kernel_rfl) rfl ?_
    intro K hK
    go_simp
    refine hK _ _ (fun h => absurd rfl h) ?_
    clear hK K hS5
    refine upto_done (by kernel_rfl) ?_
    refine NoPanic.normal ?_
    have s5 := (ho5.stored (i * 4) (.int .i64 q)).1
    have e5 := legsC_setF xs i 0 q (by rw [HN.out]; omega) (by omega)
    try rw [Nat.add_zero] at e5
    rw [e5] at s5
    have hK5 : Mod (fun b => b = g) w5 (w5.setCell ⟨g, i * 4, none⟩ (.int .i64 q)) := Mod.of_set w5 ⟨g, i * 4, none⟩ _
    have hX5 := Box2.mod ⟨x0, x1, xf, xl⟩ hK5 (fun e => by omega)
    have hR5 := Box2.mod ⟨r0, r1, rf, rl⟩ hK5 (fun e => by omega)
    have h6 := h5.mod hK5 (fun b e => by omega)
    have M6 := M5.trans2 hK5 (fun b e hb => by omega)
    clear x0 x1 xf xl r0 r1 rf rl hK5 ho5 h5 M5 g5 hf5
    generalize w5.setCell ⟨g, i * 4, none⟩ (.int .i64 q) = w6 at *
    obtain ⟨x0, x1, xf, xl⟩ := hX5
    obtain ⟨r0, r1, rf, rl⟩ := hR5
    have HO6 : Hid (w6.ownsRow (w.heap.size + 1) 97 4 (.slice (some ⟨g, 0, none⟩) n c) (xs.set i (setF (xs.getD i default) 0 q)).length (legsC (xs.set i (setF (xs.getD i default) 0 q)))) := by rw [Hid, List.length_set, HN.out]; exact s5
    clear s5
    go_wp2
    refine bodyPost_ret (v := .agg #[.int .i64 id, .slice (some ⟨g, 0, none⟩) n c]) (by simp [results, Try.results48, go_sem, r0, r1, rf, x0, x1, xf, hnx, Ne.symm hnx]) rfl ⟨id, .slice (some ⟨g, 0, none⟩) n c, _, xs.set i (setF (xs.getD i default) 0 q), t2 + 1 + 1 + 1, rfl, ⟨owns_base (Mod.owns (F := fun b => b = w2.heap.size ∨ b = w.heap.size) (by repeat (first | exact Mod.refl _ _ | refine msetL ?_ _ _ (by first | exact .inl rfl | exact .inr rfl))) HO6.out (fun b hb e => by simp [Value.ownBlock] at hb; omega)) (by omega), rfl⟩, by rw [List.length_set, HN.out]; omega, ?_, by omega, ?_⟩
    · exact h6.mod (F := fun b => b = w2.heap.size ∨ b = w.heap.size) (by repeat (first | exact Mod.refl _ _ | refine msetL ?_ _ _ (by first | exact .inl rfl | exact .inr rfl))) (fun b e => by omega)
    · exact M6.trans2 (G := fun b => b = w2.heap.size ∨ b = w.heap.size) (by repeat (first | exact Mod.refl _ _ | refine msetL ?_ _ _ (by first | exact .inl rfl | exact .inr rfl))) (fun b e hb => by omega)
  have c1' : ¬ ((n4 : Int) = 1) := by omega
  by_cases c2 : n4 = 2
  · subst c2
    obtain ⟨x0, x1, xf, xl⟩ := X
    have X : Box2 w4 w2.heap.size (.int .i64 id) (.slice (some ⟨g, 0, none⟩) n c) := ⟨x0, x1, xf, xl⟩
    go_wp2
    refine wp_region_noPanic ?_
    refine region_upto (fun W => W.cell? ⟨w2.heap.size, 1, none⟩ = some (.slice (some ⟨g, 0, none⟩) n c)) 8 (by kernel_rfl) (cell_keep (by (repeat (first | exact Below.refl _ _ | assumption | refine Below.drew ?_ | refine balloc ?_ _ | refine bset ?_ (by simp; omega) _ | refine bset ?_ (by simp) _ | refine bstep ?_ (by assumption)))) x1) (fun hS => ?_)
    refine upto_take (i := 0) (v := ?_) rfl (by kernel_rfl) (by kernel_rfl) (by kernel_rfl) (by kernel_rfl) (fun _ _ _ h => h) (by rfl) hS ?_ ?_
    rotate_left
    · intro wS hSw
      try dsimp only at hSw
      first | (go_simp; done) | (go_simp; with_reducible rfl)
    try simp only [Act.put, List.getElem_toArray, List.getElem_cons_zero, List.getElem_cons_succ, List.setIfInBounds_toArray, List.set_cons_zero, List.set_cons_succ]
    refine upto_take (i := 1) (v := ?_) rfl (by kernel_rfl) (by kernel_rfl) (by kernel_rfl) (by kernel_rfl) (fun _ _ _ h => h) (by rfl) hS ?_ ?_
    rotate_left
    · intro wS hSw
      try dsimp only at hSw
      first | (go_simp; done) | (go_simp; with_reducible rfl)
    try simp only [Act.put, List.getElem_toArray, List.getElem_cons_zero, List.getElem_cons_succ, List.setIfInBounds_toArray, List.set_cons_zero, List.set_cons_succ]
    refine upto_take (i := 2) (v := ?_) rfl (by kernel_rfl) (by kernel_rfl) (by kernel_rfl) (by kernel_rfl) (fun _ _ _ h => h) (by rfl) hS ?_ ?_
    rotate_left
    · intro wS hSw
      try dsimp only at hSw
      first | (go_simp; done) | (go_simp; with_reducible rfl)
    try simp only [Act.put, List.getElem_toArray, List.getElem_cons_zero, List.getElem_cons_succ, List.setIfInBounds_toArray, List.set_cons_zero, List.set_cons_succ]
    refine upto_take (i := 3) (v := ?_) rfl (by kernel_rfl) (by kernel_rfl) (by kernel_rfl) (by kernel_rfl) (fun _ _ _ h => h) (by rfl) hS ?_ ?_
    rotate_left
    · intro wS hSw
      try dsimp only at hSw
      first | (go_simp; done) | (go_simp; with_reducible rfl)
    try simp only [Act.put, List.getElem_toArray, List.getElem_cons_zero, List.getElem_cons_succ, List.setIfInBounds_toArray, List.set_cons_zero, List.set_cons_succ]
    refine upto_step (i := 4) (by kernel_rfl) rfl ?_
    intro K hK
    go_simp
    refine hK _ _ (fun _ => cell_keep (balloc (Below.refl _ _) _) hS) ?_
    clear hK K
    try simp only [Act.put, List.getElem_toArray, List.getElem_cons_zero, List.getElem_cons_succ, List.setIfInBounds_toArray, List.set_cons_zero, List.set_cons_succ]
    refine upto_step (i := 5) (by kernel_rfl) rfl ?_
    intro K hK
    go_simp
    refine (l1Pick_any B _ bs a k cap (t2 + 1 + 1) w4.heap.size 3 [-1, 6, 5] (h4.below (by (repeat (first | exact Below.refl _ _ | assumption | refine Below.drew ?_ | refine balloc ?_ _ | refine bset ?_ (by simp; omega) _ | refine bset ?_ (by simp) _ | refine bstep ?_ (by assumption))))) (by omega) (by omega) (by simp) (by simp) ?_).mono ?_
    · intro i hi
      match i, hi with
      | 0, _ => simp [go_sem]
      | 1, _ => simp [go_sem]
      | 2, _ => simp [go_sem]
    rintro e w5 ⟨q, rfl, hq, h5, m5⟩
    have hS5 : (fun W : World => W.cell? ⟨w2.heap.size, 1, none⟩ = some (.slice (some ⟨g, 0, none⟩) n c)) w5 := m5.cell (cell_keep (balloc (Below.refl _ _) _) hS) hne2
    clear x0 x1 xf xl
    obtain ⟨x0, x1, xf, xl⟩ := (X.below (by (repeat (first | exact Below.refl _ _ | assumption | refine Below.drew ?_ | refine balloc ?_ _ | refine bset ?_ (by simp; omega) _ | refine bset ?_ (by simp) _ | refine bstep ?_ (by assumption))))).mod m5 hne2
    obtain ⟨r0, r1, rf, rl⟩ := (R.below (by (repeat (first | exact Below.refl _ _ | assumption | refine Below.drew ?_ | refine balloc ?_ _ | refine bset ?_ (by simp; omega) _ | refine bset ?_ (by simp) _ | refine bstep ?_ (by assumption))))).mod m5 hne
    have M5 : Mod (fun b => b = bs) w w5 := (M4.transB (by (repeat (first | exact Below.refl _ _ | assumption | refine Below.drew ?_ | refine balloc ?_ _ | refine bset ?_ (by simp; omega) _ | refine bset ?_ (by simp) _ | refine bstep ?_ (by assumption))))).trans m5
    have ho5 := m5.owns (owns_below ho4 (by (repeat (first | exact Below.refl _ _ | assumption | refine Below.drew ?_ | refine balloc ?_ _ | refine bset ?_ (by simp; omega) _ | refine bset ?_ (by simp) _ | refine bstep ?_ (by assumption))))) (fun b hb e => by simp [Value.ownBlock] at hb; omega)
    refine hK _ _ (fun _ => hS5) ?_
    clear hK K m5 h4 M4 X R ho4 hS
    try simp only [Act.put, List.getElem_toArray, List.getElem_cons_zero, List.getElem_cons_succ, List.setIfInBounds_toArray, List.set_cons_zero, List.set_cons_succ]
    obtain ⟨u5, g5⟩ := owns_some ho5 (i * 4 + 1) (by omega)
    have hf5 := fun j => ho5.frozenAt j
    refine upto_step (i := 6) (by kernel_rfl) rfl ?_
    intro K hK
    go_simp
    refine hK _ _ (fun _ => hS5) ?_
    clear hK K
    try simp only [Act.put, List.getElem_toArray, List.getElem_cons_zero, List.getElem_cons_succ, List.setIfInBounds_toArray, List.set_cons_zero, List.set_cons_succ]
    refine upto_step (i := 7) (by kernel_rfl) rfl ?_
    intro K hK
    go_simp
    refine hK _ _ (fun _ => hS5) ?_
    clear hK K
    try simp only [Act.put, List.getElem_toArray, List.getElem_cons_zero, List.getElem_cons_succ, List.setIfInBounds_toArray, List.set_cons_zero, List.set_cons_succ]
    refine upto_step (i := 8) (by kernel_rfl) rfl ?_
    intro K hK
    go_simp
    refine hK _ _ (fun h => absurd rfl h) ?_
    clear hK K hS5
    refine upto_done (by kernel_rfl) ?_
    refine NoPanic.normal ?_
    have s5 := (ho5.stored (i * 4 + 1) (.int .i64 q)).1
    have e5 := legsC_setF xs i 1 q (by rw [HN.out]; omega) (by omega)
    try rw [Nat.add_zero] at e5
    rw [e5] at s5
    have hK5 : Mod (fun b => b = g) w5 (w5.setCell ⟨g, i * 4 + 1, none⟩ (.int .i64 q)) := Mod.of_set w5 ⟨g, i * 4 + 1, none⟩ _
    have hX5 := Box2.mod ⟨x0, x1, xf, xl⟩ hK5 (fun e => by omega)
    have hR5 := Box2.mod ⟨r0, r1, rf, rl⟩ hK5 (fun e => by omega)
    have h6 := h5.mod hK5 (fun b e => by omega)
    have M6 := M5.trans2 hK5 (fun b e hb => by omega)
    clear x0 x1 xf xl r0 r1 rf rl hK5 ho5 h5 M5 g5 hf5
    generalize w5.setCell ⟨g, i * 4 + 1, none⟩ (.int .i64 q) = w6 at *
    obtain ⟨x0, x1, xf, xl⟩ := hX5
    obtain ⟨r0, r1, rf, rl⟩ := hR5
    have HO6 : Hid (w6.ownsRow (w.heap.size + 1) 97 4 (.slice (some ⟨g, 0, none⟩) n c) (xs.set i (setF (xs.getD i default) 1 q)).length (legsC (xs.set i (setF (xs.getD i default) 1 q)))) := by rw [Hid, List.length_set, HN.out]; exact s5
    clear s5
    go_wp2
    refine bodyPost_ret (v := .agg #[.int .i64 id, .slice (some ⟨g, 0, none⟩) n c]) (by simp [results, Try.results48, go_sem, r0, r1, rf, x0, x1, xf, hnx, Ne.symm hnx]) rfl ⟨id, .slice (some ⟨g, 0, none⟩) n c, _, xs.set i (setF (xs.getD i default) 1 q), t2 + 1 + 1 + 1, rfl, ⟨owns_base (Mod.owns (F := fun b => b = w2.heap.size ∨ b = w.heap.size) (by repeat (first | exact Mod.refl _ _ | refine msetL ?_ _ _ (by first | exact .inl rfl | exact .inr rfl))) HO6.out (fun b hb e => by simp [Value.ownBlock] at hb; omega)) (by omega), rfl⟩, by rw [List.length_set, HN.out]; omega, ?_, by omega, ?_⟩
    · exact h6.mod (F := fun b => b = w2.heap.size ∨ b = w.heap.size) (by repeat (first | exact Mod.refl _ _ | refine msetL ?_ _ _ (by first | exact .inl rfl | exact .inr rfl))) (fun b e => by omega)
    · exact M6.trans2 (G := fun b => b = w2.heap.size ∨ b = w.heap.size) (by repeat (first | exact Mod.refl _ _ | refine msetL ?_ _ _ (by first | exact .inl rfl | exact .inr rfl))) (fun b e hb => by omega)
  have c2' : ¬ ((n4 : Int) = 2) := by omega
  by_cases c3 : n4 = 3
  · subst c3
    obtain ⟨x0, x1, xf, xl⟩ := X
    have X : Box2 w4 w2.heap.size (.int .i64 id) (.slice (some ⟨g, 0, none⟩) n c) := ⟨x0, x1, xf, xl⟩
    go_wp2
    refine wp_region_noPanic ?_
    refine region_upto (fun W => W.cell? ⟨w2.heap.size, 1, none⟩ = some (.slice (some ⟨g, 0, none⟩) n c)) 8 (by kernel_rfl) (cell_keep (by (repeat (first | exact Below.refl _ _ | assumption | refine Below.drew ?_ | refine balloc ?_ _ | refine bset ?_ (by simp; omega) _ | refine bset ?_ (by simp) _ | refine bstep ?_ (by assumption)))) x1) (fun hS => ?_)
    refine upto_take (i := 0) (v := ?_) rfl (by kernel_rfl) (by kernel_rfl) (by kernel_rfl) (by kernel_rfl) (fun _ _ _ h => h) (by rfl) hS ?_ ?_
    rotate_left
    · intro wS hSw
      try dsimp only at hSw
      first | (go_simp; done) | (go_simp; with_reducible rfl)
    try simp only [Act.put, List.getElem_toArray, List.getElem_cons_zero, List.getElem_cons_succ, List.setIfInBounds_toArray, List.set_cons_zero, List.set_cons_succ]
    refine upto_take (i := 1) (v := ?_) rfl (by kernel_rfl) (by kernel_rfl) (by kernel_rfl) (by kernel_rfl) (fun _ _ _ h => h) (by rfl) hS ?_ ?_
    rotate_left
    · intro wS hSw
      try dsimp only at hSw
      first | (go_simp; done) | (go_simp; with_reducible rfl)
    try simp only [Act.put, List.getElem_toArray, List.getElem_cons_zero, List.getElem_cons_succ, List.setIfInBounds_toArray, List.set_cons_zero, List.set_cons_succ]
    refine upto_take (i := 2) (v := ?_) rfl (by kernel_rfl) (by kernel_rfl) (by kernel_rfl) (by kernel_rfl) (fun _ _ _ h => h) (by rfl) hS ?_ ?_
    rotate_left
    · intro wS hSw
      try dsimp only at hSw
      first | (go_simp; done) | (go_simp; with_reducible rfl)
    try simp only [Act.put, List.getElem_toArray, List.getElem_cons_zero, List.getElem_cons_succ, List.setIfInBounds_toArray, List.set_cons_zero, List.set_cons_succ]
    refine upto_take (i := 3) (v := ?_) rfl (by kernel_rfl) (by kernel_rfl) (by kernel_rfl) (by kernel_rfl) (fun _ _ _ h => h) (by rfl) hS ?_ ?_
    rotate_left
    · intro wS hSw
      try dsimp only at hSw
      first | (go_simp; done) | (go_simp; with_reducible rfl)
    try simp only [Act.put, List.getElem_toArray, List.getElem_cons_zero, List.getElem_cons_succ, List.setIfInBounds_toArray, List.set_cons_zero, List.set_cons_succ]
    refine upto_step (i := 4) (by kernel_rfl) rfl ?_
    intro K hK
    go_simp
    refine hK _ _ (fun _ => cell_keep (balloc (Below.refl _ _) _) hS) ?_
    clear hK K
    try simp only [Act.put, List.getElem_toArray, List.getElem_cons_zero, List.getElem_cons_succ, List.setIfInBounds_toArray, List.set_cons_zero, List.set_cons_succ]
    refine upto_step (i := 5) (by kernel_rfl) rfl ?_
    intro K hK
    go_simp
    refine (l1Pick_any B _ bs a k cap (t2 + 1 + 1) w4.heap.size 3 [-1, 3, 2] (h4.below (by (repeat (first | exact Below.refl _ _ | assumption | refine Below.drew ?_ | refine balloc ?_ _ | refine bset ?_ (by simp; omega) _ | refine bset ?_ (by simp) _ | refine bstep ?_ (by assumption))))) (by omega) (by omega) (by simp) (by simp) ?_).mono ?_
    · intro i hi
      match i, hi with
      | 0, _ => simp [go_sem]
      | 1, _ => simp [go_sem]
      | 2, _ => simp [go_sem]
    rintro e w5 ⟨q, rfl, hq, h5, m5⟩
    have hS5 : (fun W : World => W.cell? ⟨w2.heap.size, 1, none⟩ = some (.slice (some ⟨g, 0, none⟩) n c)) w5 := m5.cell (cell_keep (balloc (Below.refl _ _) _) hS) hne2
    clear x0 x1 xf xl
    obtain ⟨x0, x1, xf, xl⟩ := (X.below (by (repeat (first | exact Below.refl _ _ | assumption | refine Below.drew ?_ | refine balloc ?_ _ | refine bset ?_ (by simp; omega) _ | refine bset ?_ (by simp) _ | refine bstep ?_ (by assumption))))).mod m5 hne2
    obtain ⟨r0, r1, rf, rl⟩ := (R.below (by (repeat (first | exact Below.refl _ _ | assumption | refine Below.drew ?_ | refine balloc ?_ _ | refine bset ?_ (by simp; omega) _ | refine bset ?_ (by simp) _ | refine bstep ?_ (by assumption))))).mod m5 hne
    have M5 : Mod (fun b => b = bs) w w5 := (M4.transB (by (repeat (first | exact Below.refl _ _ | assumption | refine Below.drew ?_ | refine balloc ?_ _ | refine bset ?_ (by simp; omega) _ | refine bset ?_ (by simp) _ | refine bstep ?_ (by assumption))))).trans m5
    have ho5 := m5.owns (owns_below ho4 (by (repeat (first | exact Below.refl _ _ | assumption | refine Below.drew ?_ | refine balloc ?_ _ | refine bset ?_ (by simp; omega) _ | refine bset ?_ (by simp) _ | refine bstep ?_ (by assumption))))) (fun b hb e => by simp [Value.ownBlock] at hb; omega)
    refine hK _ _ (fun _ => hS5) ?_
    clear hK K m5 h4 M4 X R ho4 hS
    try simp only [Act.put, List.getElem_toArray, List.getElem_cons_zero, List.getElem_cons_succ, List.setIfInBounds_toArray, List.set_cons_zero, List.set_cons_succ]
    obtain ⟨u5, g5⟩ := owns_some ho5 (i * 4 + 2) (by omega)
    have hf5 := fun j => ho5.frozenAt j
    refine upto_step (i := 6) (by kernel_rfl) rfl ?_
    intro K hK
    go_simp
    refine hK _ _ (fun _ => hS5) ?_
    clear hK K
    try simp only [Act.put, List.getElem_toArray, List.getElem_cons_zero, List.getElem_cons_succ, List.setIfInBounds_toArray, List.set_cons_zero, List.set_cons_succ]
    refine upto_step (i := 7) (by kernel_rfl) rfl ?_
    intro K hK
    go_simp
    refine hK _ _ (fun _ => hS5) ?_
    clear hK K
    try simp only [Act.put, List.getElem_toArray, List.getElem_cons_zero, List.getElem_cons_succ, List.setIfInBounds_toArray, List.set_cons_zero, List.set_cons_succ]
    refine upto_step (i := 8) (by kernel_rfl) rfl ?_
    intro K hK
    go_simp
    refine hK _ _ (fun h => absurd rfl h) ?_
    clear hK K hS5
    refine upto_done (by kernel_rfl) ?_
    refine NoPanic.normal ?_
    have s5 := (ho5.stored (i * 4 + 2) (.int .i64 q)).1
    have e5 := legsC_setF xs i 2 q (by rw [HN.out]; omega) (by omega)
    try rw [Nat.add_zero] at e5
    rw [e5] at s5
    have hK5 : Mod (fun b => b = g) w5 (w5.setCell ⟨g, i * 4 + 2, none⟩ (.int .i64 q)) := Mod.of_set w5 ⟨g, i * 4 + 2, none⟩ _
    have hX5 := Box2.mod ⟨x0, x1, xf, xl⟩ hK5 (fun e => by omega)
    have hR5 := Box2.mod ⟨r0, r1, rf, rl⟩ hK5 (fun e => by omega)
    have h6 := h5.mod hK5 (fun b e => by omega)
    have M6 := M5.trans2 hK5 (fun b e hb => by omega)
    clear x0 x1 xf xl r0 r1 rf rl hK5 ho5 h5 M5 g5 hf5
    generalize w5.setCell ⟨g, i * 4 + 2, none⟩ (.int .i64 q) = w6 at *
    obtain ⟨x0, x1, xf, xl⟩ := hX5
    obtain ⟨r0, r1, rf, rl⟩ := hR5
    have HO6 : Hid (w6.ownsRow (w.heap.size + 1) 97 4 (.slice (some ⟨g, 0, none⟩) n c) (xs.set i (setF (xs.getD i default) 2 q)).length (legsC (xs.set i (setF (xs.getD i default) 2 q)))) := by rw [Hid, List.length_set, HN.out]; exact s5
    clear s5
    go_wp2
    refine bodyPost_ret (v := .agg #[.int .i64 id, .slice (some ⟨g, 0, none⟩) n c]) (by simp [results, Try.results48, go_sem, r0, r1, rf, x0, x1, xf, hnx, Ne.symm hnx]) rfl ⟨id, .slice (some ⟨g, 0, none⟩) n c, _, xs.set i (setF (xs.getD i default) 2 q), t2 + 1 + 1 + 1, rfl, ⟨owns_base (Mod.owns (F := fun b => b = w2.heap.size ∨ b = w.heap.size) (by repeat (first | exact Mod.refl _ _ | refine msetL ?_ _ _ (by first | exact .inl rfl | exact .inr rfl))) HO6.out (fun b hb e => by simp [Value.ownBlock] at hb; omega)) (by omega), rfl⟩, by rw [List.length_set, HN.out]; omega, ?_, by omega, ?_⟩
    · exact h6.mod (F := fun b => b = w2.heap.size ∨ b = w.heap.size) (by repeat (first | exact Mod.refl _ _ | refine msetL ?_ _ _ (by first | exact .inl rfl | exact .inr rfl))) (fun b e => by omega)
    · exact M6.trans2 (G := fun b => b = w2.heap.size ∨ b = w.heap.size) (by repeat (first | exact Mod.refl _ _ | refine msetL ?_ _ _ (by first | exact .inl rfl | exact .inr rfl))) (fun b e hb => by omega)
  have c3' : ¬ ((n4 : Int) = 3) := by omega
  by_cases c4 : n4 = 4
  · subst c4
    obtain ⟨x0, x1, xf, xl⟩ := X
    have X : Box2 w4 w2.heap.size (.int .i64 id) (.slice (some ⟨g, 0, none⟩) n c) := ⟨x0, x1, xf, xl⟩
    go_wp2
    refine wp_region_noPanic ?_
    refine region_upto (fun W => W.cell? ⟨w2.heap.size, 1, none⟩ = some (.slice (some ⟨g, 0, none⟩) n c)) 8 (by kernel_rfl) (cell_keep (by (repeat (first | exact Below.refl _ _ | assumption | refine Below.drew ?_ | refine balloc ?_ _ | refine bset ?_ (by simp; omega) _ | refine bset ?_ (by simp) _ | refine bstep ?_ (by assumption)))) x1) (fun hS => ?_)
    refine upto_take (i := 0) (v := ?_) rfl (by kernel_rfl) (by kernel_rfl) (by kernel_rfl) (by kernel_rfl) (fun _ _ _ h => h) (by rfl) hS ?_ ?_
    rotate_left
    · intro wS hSw
      try dsimp only at hSw
      first | (go_simp; done) | (go_simp; with_reducible rfl)
    try simp only [Act.put, List.getElem_toArray, List.getElem_cons_zero, List.getElem_cons_succ, List.setIfInBounds_toArray, List.set_cons_zero, List.set_cons_succ]
    refine upto_take (i := 1) (v := ?_) rfl (by kernel_rfl) (by kernel_rfl) (by kernel_rfl) (by kernel_rfl) (fun _ _ _ h => h) (by rfl) hS ?_ ?_
    rotate_left
    · intro wS hSw
      try dsimp only at hSw
      first | (go_simp; done) | (go_simp; with_reducible rfl)
    try simp only [Act.put, List.getElem_toArray, List.getElem_cons_zero, List.getElem_cons_succ, List.setIfInBounds_toArray, List.set_cons_zero, List.set_cons_succ]
    refine upto_take (i := 2) (v := ?_) rfl (by kernel_rfl) (by kernel_rfl) (by kernel_rfl) (by kernel_rfl) (fun _ _ _ h => h) (by rfl) hS ?_ ?_
    rotate_left
    · intro wS hSw
      try dsimp only at hSw
      first | (go_simp; done) | (go_simp; with_reducible rfl)
    try simp only [Act.put, List.getElem_toArray, List.getElem_cons_zero, List.getElem_cons_succ, List.setIfInBounds_toArray, List.set_cons_zero, List.set_cons_succ]
    refine upto_take (i := 3) (v := ?_) rfl (by kernel_rfl) (by kernel_rfl) (by kernel_rfl) (by kernel_rfl) (fun _ _ _ h => h) (by rfl) hS ?_ ?_
    rotate_left
    · intro wS hSw
      try dsimp only at hSw
      first | (go_simp; done) | (go_simp; with_reducible rfl)
    try simp only [Act.put, List.getElem_toArray, List.getElem_cons_zero, List.getElem_cons_succ, List.setIfInBounds_toArray, List.set_cons_zero, List.set_cons_succ]
    refine upto_step (i := 4) (by kernel_rfl) rfl ?_
    intro K hK
    go_simp
    refine hK _ _ (fun _ => cell_keep (balloc (Below.refl _ _) _) hS) ?_
    clear hK K
    try simp only [Act.put, List.getElem_toArray, List.getElem_cons_zero, List.getElem_cons_succ, List.setIfInBounds_toArray, List.set_cons_zero, List.set_cons_succ]
    refine upto_step (i := 5) (by kernel_rfl) rfl ?_
    intro K hK
    go_simp
    refine (l1Pick_any B _ bs a k cap (t2 + 1 + 1) w4.heap.size 5 [0, 1000000000000, 1000000000001, -9223372036854775808, 3] (h4.below (by (repeat (first | exact Below.refl _ _ | assumption | refine Below.drew ?_ | refine balloc ?_ _ | refine bset ?_ (by simp; omega) _ | refine bset ?_ (by simp) _ | refine bstep ?_ (by assumption))))) (by omega) (by omega) (by simp) (by simp) ?_).mono ?_
    · intro i hi
      match i, hi with
      | 0, _ => simp [go_sem]
      | 1, _ => simp [go_sem]
      | 2, _ => simp [go_sem]
      | 3, _ => simp [go_sem]
      | 4, _ => simp [go_sem]
    rintro e w5 ⟨q, rfl, hq, h5, m5⟩
    have hS5 : (fun W : World => W.cell? ⟨w2.heap.size, 1, none⟩ = some (.slice (some ⟨g, 0, none⟩) n c)) w5 := m5.cell (cell_keep (balloc (Below.refl _ _) _) hS) hne2
    clear x0 x1 xf xl
    obtain ⟨x0, x1, xf, xl⟩ := (X.below (by (repeat (first | exact Below.refl _ _ | assumption | refine Below.drew ?_ | refine balloc ?_ _ | refine bset ?_ (by simp; omega) _ | refine bset ?_ (by simp) _ | refine bstep ?_ (by assumption))))).mod m5 hne2
    obtain ⟨r0, r1, rf, rl⟩ := (R.below (by (repeat (first | exact Below.refl _ _ | assumption | refine Below.drew ?_ | refine balloc ?_ _ | refine bset ?_ (by simp; omega) _ | refine bset ?_ (by simp) _ | refine bstep ?_ (by assumption))))).mod m5 hne
    have M5 : Mod (fun b => b = bs) w w5 := (M4.transB (by (repeat (first | exact Below.refl _ _ | assumption | refine Below.drew ?_ | refine balloc ?_ _ | refine bset ?_ (by simp; omega) _ | refine bset ?_ (by simp) _ | refine bstep ?_ (by assumption))))).trans m5
    have ho5 := m5.owns (owns_below ho4 (by (repeat (first | exact Below.refl _ _ | assumption | refine Below.drew ?_ | refine balloc ?_ _ | refine bset ?_ (by simp; omega) _ | refine bset ?_ (by simp) _ | refine bstep ?_ (by assumption))))) (fun b hb e => by simp [Value.ownBlock] at hb; omega)
    refine hK _ _ (fun _ => hS5) ?_
    clear hK K m5 h4 M4 X R ho4 hS
    try simp only [Act.put, List.getElem_toArray, List.getElem_cons_zero, List.getElem_cons_succ, List.setIfInBounds_toArray, List.set_cons_zero, List.set_cons_succ]
    obtain ⟨u5, g5⟩ := owns_some ho5 (i * 4 + 3) (by omega)
    have hf5 := fun j => ho5.frozenAt j
    refine upto_step (i := 6) (by kernel_rfl) rfl ?_
    intro K hK
    go_simp
    refine hK _ _ (fun _ => hS5) ?_
    clear hK K
    try simp only [Act.put, List.getElem_toArray, List.getElem_cons_zero, List.getElem_cons_succ, List.setIfInBounds_toArray, List.set_cons_zero, List.set_cons_succ]
    refine upto_step (i := 7) (by kernel_rfl) rfl ?_
    intro K hK
    go_simp
    refine hK _ _ (fun _ => hS5) ?_
    clear hK K
    try simp only [Act.put, List.getElem_toArray, List.getElem_cons_zero, List.getElem_cons_succ, List.setIfInBounds_toArray, List.set_cons_zero, List.set_cons_succ]
    refine upto_step (i := 8) (by kernel_rfl) rfl ?_
    intro K hK
    go_simp
    refine hK _ _ (fun h => absurd rfl h) ?_
    clear hK K hS5
    refine upto_done (by kernel_rfl) ?_
    refine NoPanic.normal ?_
    have s5 := (ho5.stored (i * 4 + 3) (.int .i64 q)).1
    have e5 := legsC_setF xs i 3 q (by rw [HN.out]; omega) (by omega)
    try rw [Nat.add_zero] at e5
    rw [e5] at s5
    have hK5 : Mod (fun b => b = g) w5 (w5.setCell ⟨g, i * 4 + 3, none⟩ (.int .i64 q)) := Mod.of_set w5 ⟨g, i * 4 + 3, none⟩ _
    have hX5 := Box2.mod ⟨x0, x1, xf, xl⟩ hK5 (fun e => by omega)
    have hR5 := Box2.mod ⟨r0, r1, rf, rl⟩ hK5 (fun e => by omega)
    have h6 := h5.mod hK5 (fun b e => by omega)
    have M6 := M5.trans2 hK5 (fun b e hb => by omega)
    clear x0 x1 xf xl r0 r1 rf rl hK5 ho5 h5 M5 g5 hf5
    generalize w5.setCell ⟨g, i * 4 + 3, none⟩ (.int .i64 q) = w6 at *
    obtain ⟨x0, x1, xf, xl⟩ := hX5
    obtain ⟨r0, r1, rf, rl⟩ := hR5
    have HO6 : Hid (w6.ownsRow (w.heap.size + 1) 97 4 (.slice (some ⟨g, 0, none⟩) n c) (xs.set i (setF (xs.getD i default) 3 q)).length (legsC (xs.set i (setF (xs.getD i default) 3 q)))) := by rw [Hid, List.length_set, HN.out]; exact s5
    clear s5
    go_wp2
    refine bodyPost_ret (v := .agg #[.int .i64 id, .slice (some ⟨g, 0, none⟩) n c]) (by simp [results, Try.results48, go_sem, r0, r1, rf, x0, x1, xf, hnx, Ne.symm hnx]) rfl ⟨id, .slice (some ⟨g, 0, none⟩) n c, _, xs.set i (setF (xs.getD i default) 3 q), t2 + 1 + 1 + 1, rfl, ⟨owns_base (Mod.owns (F := fun b => b = w2.heap.size ∨ b = w.heap.size) (by repeat (first | exact Mod.refl _ _ | refine msetL ?_ _ _ (by first | exact .inl rfl | exact .inr rfl))) HO6.out (fun b hb e => by simp [Value.ownBlock] at hb; omega)) (by omega), rfl⟩, by rw [List.length_set, HN.out]; omega, ?_, by omega, ?_⟩
    · exact h6.mod (F := fun b => b = w2.heap.size ∨ b = w.heap.size) (by repeat (first | exact Mod.refl _ _ | refine msetL ?_ _ _ (by first | exact .inl rfl | exact .inr rfl))) (fun b e => by omega)
    · exact M6.trans2 (G := fun b => b = w2.heap.size ∨ b = w.heap.size) (by repeat (first | exact Mod.refl _ _ | refine msetL ?_ _ _ (by first | exact .inl rfl | exact .inr rfl))) (fun b e hb => by omega)
  have c4' : ¬ ((n4 : Int) = 4) := by omega
  by_cases c5 : n4 = 5
  · subst c5
    obtain ⟨x0, x1, xf, xl⟩ := X
    have X : Box2 w4 w2.heap.size (.int .i64 id) (.slice (some ⟨g, 0, none⟩) n c) := ⟨x0, x1, xf, xl⟩
    obtain ⟨l, hle⟩ : ∃ l, l = xs.getD i default := ⟨_, rfl⟩
    obtain ⟨l0, l1, l2, l3⟩ := getLegsC xs i (by rw [HN.out]; omega)
    rw [← hle] at l0 l1 l2 l3
    have q0 := (ho4.cellAt (i * 4) (by omega)).trans l0
    have q1 := (ho4.cellAt (i * 4 + 1) (by omega)).trans l1
    have q2 := (ho4.cellAt (i * 4 + 2) (by omega)).trans l2
    have q3 := (ho4.cellAt (i * 4 + 3) (by omega)).trans l3
    clear l0 l1 l2 l3 hle
    have HO4 : Hid (w4.ownsRow (w.heap.size + 1) 97 4 (.slice (some ⟨g, 0, none⟩) n c) n (legsC xs)) := ho4
    clear ho4
    go_wp2
    refine wp_region_noPanic ?_
    refine region_upto (fun W => W.cell? ⟨w2.heap.size, 1, none⟩ = some (.slice (some ⟨g, 0, none⟩) n c)) 10 (by kernel_rfl) (cell_keep (by (repeat (first | exact Below.refl _ _ | assumption | refine Below.drew ?_ | refine balloc ?_ _ | refine bset ?_ (by simp; omega) _ | refine bset ?_ (by simp) _ | refine bstep ?_ (by assumption)))) x1) (fun hS => ?_)
    refine upto_take (i := 0) (v := ?_) rfl (by kernel_rfl) (by kernel_rfl) (by kernel_rfl) (by kernel_rfl) (fun _ _ _ h => h) (by rfl) hS ?_ ?_
    rotate_left
    · intro wS hSw
      try dsimp only at hSw
      first | (go_simp; done) | (go_simp; with_reducible rfl)
    try simp only [Act.put, List.getElem_toArray, List.getElem_cons_zero, List.getElem_cons_succ, List.setIfInBounds_toArray, List.set_cons_zero, List.set_cons_succ]
    refine upto_take (i := 1) (v := ?_) rfl (by kernel_rfl) (by kernel_rfl) (by kernel_rfl) (by kernel_rfl) (fun _ _ _ h => h) (by rfl) hS ?_ ?_
    rotate_left
    · intro wS hSw
      try dsimp only at hSw
      first | (go_simp; done) | (go_simp; with_reducible rfl)
    try simp only [Act.put, List.getElem_toArray, List.getElem_cons_zero, List.getElem_cons_succ, List.setIfInBounds_toArray, List.set_cons_zero, List.set_cons_succ]
    refine upto_take (i := 2) (v := ?_) rfl (by kernel_rfl) (by kernel_rfl) (by kernel_rfl) (by kernel_rfl) (fun _ _ _ h => h) (by rfl) hS ?_ ?_
    rotate_left
    · intro wS hSw
      try dsimp only at hSw
      first | (go_simp; done) | (go_simp; with_reducible rfl)
    try simp only [Act.put, List.getElem_toArray, List.getElem_cons_zero, List.getElem_cons_succ, List.setIfInBounds_toArray, List.set_cons_zero, List.set_cons_succ]
    refine upto_take (i := 3) (v := ?_) rfl (by kernel_rfl) (by kernel_rfl) (by kernel_rfl) (by kernel_rfl) (fun _ _ _ h => h) (by rfl) hS ?_ ?_
    rotate_left
    · intro wS hSw
      try dsimp only at hSw
      first | (go_simp; done) | (go_simp; with_reducible rfl)
    try simp only [Act.put, List.getElem_toArray, List.getElem_cons_zero, List.getElem_cons_succ, List.setIfInBounds_toArray, List.set_cons_zero, List.set_cons_succ]
    refine upto_take (i := 4) (v := ?_) rfl (by kernel_rfl) (by kernel_rfl) (by kernel_rfl) (by kernel_rfl) (fun _ _ _ h => h) (by rfl) hS ?_ ?_
    rotate_left
    · intro wS hSw
      try dsimp only at hSw
      first | (go_simp; done) | (go_simp; with_reducible rfl)
    try simp only [Act.put, List.getElem_toArray, List.getElem_cons_zero, List.getElem_cons_succ, List.setIfInBounds_toArray, List.set_cons_zero, List.set_cons_succ]
    refine upto_step (i := 5) (by kernel_rfl) rfl ?_
    intro K hK
    go_simp
    refine hK _ _ (fun _ => hS) ?_
    clear hK K
    try simp only [Act.put, List.getElem_toArray, List.getElem_cons_zero, List.getElem_cons_succ, List.setIfInBounds_toArray, List.set_cons_zero, List.set_cons_succ]
    refine upto_step (i := 6) (by kernel_rfl) rfl ?_
    intro K hK
    go_simp
    refine hK _ _ (fun _ => hS) ?_
    clear hK K
    try simp only [Act.put, List.getElem_toArray, List.getElem_cons_zero, List.getElem_cons_succ, List.setIfInBounds_toArray, List.set_cons_zero, List.set_cons_succ]
    refine upto_step (i := 7) (by kernel_rfl) rfl ?_
    intro K hK
    go_simp
    have hS7 : (fun W : World => W.cell? ⟨w2.heap.size, 1, none⟩ = some (.slice (some ⟨g, 0, none⟩) n c)) (w4.alloc (.cells #[.int .i64 l.sh, .int .i64 l.ac, .int .i64 l.ast, .int .i64 l.am] 97)).drew := cell_keep (by (repeat (first | exact Below.refl _ _ | assumption | refine Below.drew ?_ | refine balloc ?_ _ | refine bset ?_ (by simp; omega) _ | refine bset ?_ (by simp) _ | refine bstep ?_ (by assumption)))) x1
    refine hK _ _ (fun _ => hS7) ?_
    clear hK K
    try simp only [Act.put, List.getElem_toArray, List.getElem_cons_zero, List.getElem_cons_succ, List.setIfInBounds_toArray, List.set_cons_zero, List.set_cons_succ]
    have hb7 : Below w4.heap.size w4 (w4.alloc (.cells #[.int .i64 l.sh, .int .i64 l.ac, .int .i64 l.ast, .int .i64 l.am] 97)).drew := by (repeat (first | exact Below.refl _ _ | assumption | refine Below.drew ?_ | refine balloc ?_ _ | refine bset ?_ (by simp; omega) _ | refine bset ?_ (by simp) _ | refine bstep ?_ (by assumption)))
    refine upto_step (i := 8) (by kernel_rfl) rfl ?_
    intro K hK
    refine step_appLegs _ rfl _ _ rfl (w.heap.size + 1) (.slice (some ⟨g, 0, none⟩) n c) (fun b => (.slice (some ⟨g, 0, none⟩) n c : Value).ownBlock = some b) xs rfl (.slice (some ⟨w4.heap.size, 0, none⟩) 1 1) [l] rfl ⟨by rw [HN.out]; exact owns_below HO4.out hb7, rfl⟩ (.inr ⟨⟨w4.heap.size, 0, none⟩, 1, rfl, ?_⟩) (by rw [HN.out]; simp; omega) (by have := hb7.size; omega) ?_
    · intro j u hj
      match j, hj with
      | 0, hj => simp [legsC, legC] at hj; subst hj; simp [Addr.add, go_sem]
      | 1, hj => simp [legsC, legC] at hj; subst hj; simp [Addr.add, go_sem]
      | 2, hj => simp [legsC, legC] at hj; subst hj; simp [Addr.add, go_sem]
      | 3, hj => simp [legsC, legC] at hj; subst hj; simp [Addr.add, go_sem]
      | j + 4, hj => simp [legsC, legC] at hj
    intro v8 w8 o8 m8 r8
    have hln : (xs ++ [l]).length = n + 1 := by rw [List.length_append, HN.out]; rfl
    have o8' := o8.1
    rw [hln] at o8'
    obtain ⟨g', c', rfl⟩ : ∃ g' c', v8 = .slice (some ⟨g', 0, none⟩) (n + 1) c' := by
      rcases o8'.2 with ⟨_, hn⟩ | ⟨g', c', _, e, _⟩
      · omega
      · exact ⟨g', c', e⟩
    have hz7 : (w4.alloc (.cells #[.int .i64 l.sh, .int .i64 l.ac, .int .i64 l.ast, .int .i64 l.am] 97)).drew.heap.size = w4.heap.size + 1 := by simp
    have hg' : g' = g ∨ w4.heap.size + 1 ≤ g' := by
      rcases r8 g' rfl with h | h
      · left
        simpa [Value.ownBlock] using h.symm
      · right
        rw [hz7] at h
        exact h.1
    have hS8 : (fun W : World => W.cell? ⟨w2.heap.size, 1, none⟩ = some (.slice (some ⟨g, 0, none⟩) n c)) w8 := m8.cell hS7 (fun e => by simp [Value.ownBlock] at e; omega)
    clear x0 x1 xf xl
    obtain ⟨x0, x1, xf, xl⟩ := (X.below hb7).mod m8 (fun e => by simp [Value.ownBlock] at e; omega)
    obtain ⟨r0, r1, rf, rl⟩ := (R.below hb7).mod m8 (fun e => by simp [Value.ownBlock] at e; omega)
    have h8 := (h4.below hb7).mod m8 (fun b e => by simp [Value.ownBlock] at e; omega)
    have M8 : Mod (fun b => b = bs) w w8 := (M4.transB hb7).trans2 m8 (fun b e hb => by simp [Value.ownBlock] at e; omega)
    have HO8 : Hid (w8.ownsRow (w.heap.size + 1) 97 4 (.slice (some ⟨g', 0, none⟩) (n + 1) c') (xs ++ [l]).length (legsC (xs ++ [l]))) := by rw [Hid, hln]; exact o8'
    have HLN : Hid ((xs ++ [l]).length = n + 1) := hln
    refine hK _ _ (fun _ => hS8) ?_
    clear hK K m8 h4 M4 X R hS hS7 o8 o8' r8 hb7 hln q0 q1 q2 q3 HO4 hz7
    try simp only [Act.put, List.getElem_toArray, List.getElem_cons_zero, List.getElem_cons_succ, List.setIfInBounds_toArray, List.set_cons_zero, List.set_cons_succ]
    refine upto_step (i := 9) (by kernel_rfl) rfl ?_
    intro K hK
    go_simp
    refine hK _ _ (fun _ => hS8) ?_
    clear hK K
    try simp only [Act.put, List.getElem_toArray, List.getElem_cons_zero, List.getElem_cons_succ, List.setIfInBounds_toArray, List.set_cons_zero, List.set_cons_succ]
    refine upto_step (i := 10) (by kernel_rfl) rfl ?_
    intro K hK
    go_simp
    refine hK _ _ (fun h => absurd rfl h) ?_
    clear hK K hS8
    refine upto_done (by kernel_rfl) ?_
    refine NoPanic.normal ?_
    go_wp2
    refine bodyPost_ret (v := .agg #[.int .i64 id, .slice (some ⟨g', 0, none⟩) (n + 1) c']) (by simp [results, Try.results48, go_sem, r0, r1, rf, x0, x1, xf, hnx, Ne.symm hnx]) rfl ⟨id, .slice (some ⟨g', 0, none⟩) (n + 1) c', _, xs ++ [l], t2 + 1 + 1, rfl, ⟨owns_base (Mod.owns (F := fun b => b = w2.heap.size ∨ b = w.heap.size) (by repeat (first | exact Mod.refl _ _ | refine msetL ?_ _ _ (by first | exact .inl rfl | exact .inr rfl))) HO8.out (fun b hb e => by simp [Value.ownBlock] at hb; omega)) (by omega), rfl⟩, by rw [HLN.out]; omega, ?_, by omega, ?_⟩
    · exact h8.mod (F := fun b => b = w2.heap.size ∨ b = w.heap.size) (by repeat (first | exact Mod.refl _ _ | refine msetL ?_ _ _ (by first | exact .inl rfl | exact .inr rfl))) (fun b e => by omega)
    · exact M8.trans2 (G := fun b => b = w2.heap.size ∨ b = w.heap.size) (by repeat (first | exact Mod.refl _ _ | refine msetL ?_ _ _ (by first | exact .inl rfl | exact .inr rfl))) (fun b e hb => by omega)
  have c5' : ¬ ((n4 : Int) = 5) := by omega
  obtain ⟨x0, x1, xf, xl⟩ := X
  obtain ⟨r0, r1, rf, rl⟩ := R
  by_cases c6 : n4 = 6
  · subst c6
    have h1c : (1 : Int) ≤ c := by omega
    have ho5 : w4.ownsRow (w.heap.size + 1) 97 4 (.slice (some ⟨g, 0, none⟩) 1 c) (xs.take 1).length (legsC (xs.take 1)) := owns_takeL (by rw [HN.out]; exact ho4) 1 (by rw [HN.out]; omega)
    clear ho4
    go_wp2
    refine bodyPost_ret (v := .agg #[.int .i64 id, .slice (some ⟨g, 0, none⟩) 1 c]) (by simp [results, Try.results48, go_sem, r0, r1, rf, x0, x1, xf, hnx, Ne.symm hnx]) rfl ⟨id, .slice (some ⟨g, 0, none⟩) 1 c, _, xs.take 1, t2 + 1 + 1, rfl, ⟨owns_base (Mod.owns (F := fun b => b = w2.heap.size ∨ b = w.heap.size) (by repeat (first | exact Mod.refl _ _ | refine msetL ?_ _ _ (by first | exact .inl rfl | exact .inr rfl))) ho5 (fun b hb e => by simp [Value.ownBlock] at hb; omega)) (by omega), rfl⟩, by rw [List.length_take]; omega, ?_, by omega, ?_⟩
    · exact h4.mod (F := fun b => b = w2.heap.size ∨ b = w.heap.size) (by repeat (first | exact Mod.refl _ _ | refine msetL ?_ _ _ (by first | exact .inl rfl | exact .inr rfl))) (fun b e => by omega)
    · exact M4.trans2 (G := fun b => b = w2.heap.size ∨ b = w.heap.size) (by repeat (first | exact Mod.refl _ _ | refine msetL ?_ _ _ (by first | exact .inl rfl | exact .inr rfl))) (fun b e hb => by omega)
  have c6' : ¬ ((n4 : Int) = 6) := by omega
  by_cases c7 : n4 = 7
  · subst c7
    obtain ⟨w5, hmk, o5, g5⟩ := run_make_full (P := Try.prog) w4 (w4.heap.size) 24 97 i0 _ 4 Try.underlying24 hi hz0 hz1 .i64 .i64 9 (by rw [hz2]; omega) (by unfold maxLen; omega) (Nat.le_refl _)
    rw [zeroLegs_made] at o5
    have hmk' : (Instr.makeSlice 24 (.int .i64 9) (.int .i64 9)).run Try.prog w4 = .ok (.slice (some ⟨w4.heap.size, 0, none⟩) 9 9) w5 := hmk
    have hb5 : Below w4.heap.size w4 w5 := (Below.refl _ _).grown g5 (Nat.le_refl _) (fun k h => by cases h)
    have z5 := hb5.size
    have hX5 := Box2.below ⟨x0, x1, xf, xl⟩ hb5
    have hR5 := Box2.below ⟨r0, r1, rf, rl⟩ hb5
    have h5 := h4.below hb5
    have M5 := M4.transB hb5
    clear x0 x1 xf xl r0 r1 rf rl ho4 hmk g5
    obtain ⟨x0, x1, xf, xl⟩ := hX5
    obtain ⟨r0, r1, rf, rl⟩ := hR5
    have ho6 : w5.ownsRow (w.heap.size + 1) 97 4 (.slice (some ⟨w4.heap.size, 0, none⟩) 9 9) zeroLegs.length (legsC zeroLegs) := by rw [zeroLegs_len]; exact owns_base o5 (by omega)
    clear o5
    go_wp2
    refine bodyPost_ret (v := .agg #[.int .i64 id, .slice (some ⟨w4.heap.size, 0, none⟩) 9 9]) (by simp [results, Try.results48, go_sem, r0, r1, rf, x0, x1, xf, hnx, Ne.symm hnx]) rfl ⟨id, .slice (some ⟨w4.heap.size, 0, none⟩) 9 9, _, zeroLegs, t2 + 1 + 1, rfl, ⟨owns_base (Mod.owns (F := fun b => b = w2.heap.size ∨ b = w.heap.size) (by repeat (first | exact Mod.refl _ _ | refine msetL ?_ _ _ (by first | exact .inl rfl | exact .inr rfl))) ho6 (fun b hb e => by simp [Value.ownBlock] at hb; omega)) (by omega), rfl⟩, by rw [zeroLegs_len]; omega, ?_, by omega, ?_⟩
    · exact h5.mod (F := fun b => b = w2.heap.size ∨ b = w.heap.size) (by repeat (first | exact Mod.refl _ _ | refine msetL ?_ _ _ (by first | exact .inl rfl | exact .inr rfl))) (fun b e => by omega)
    · exact M5.trans2 (G := fun b => b = w2.heap.size ∨ b = w.heap.size) (by repeat (first | exact Mod.refl _ _ | refine msetL ?_ _ _ (by first | exact .inl rfl | exact .inr rfl))) (fun b e hb => by omega)
  have c7' : ¬ ((n4 : Int) = 7) := by omega
  have ho6 : w4.ownsRow (w.heap.size + 1) 97 4 (.slice (some ⟨g, 0, none⟩) n c) xs.length (legsC xs) := by rw [HN.out]; exact ho4
  clear ho4
  go_wp2
  refine bodyPost_ret (v := .agg #[.int .i64 id, .slice (some ⟨g, 0, none⟩) n c]) (by simp [results, Try.results48, go_sem, r0, r1, rf, x0, x1, xf, hnx, Ne.symm hnx]) rfl ⟨id, .slice (some ⟨g, 0, none⟩) n c, _, xs, t2 + 1 + 1, rfl, ⟨owns_base (Mod.owns (F := fun b => b = w2.heap.size ∨ b = w.heap.size) (by repeat (first | exact Mod.refl _ _ | refine msetL ?_ _ _ (by first | exact .inl rfl | exact .inr rfl))) ho6 (fun b hb e => by simp [Value.ownBlock] at hb; omega)) (by omega), rfl⟩, by rw [HN.out]; omega, ?_, by omega, ?_⟩
  · exact h4.mod (F := fun b => b = w2.heap.size ∨ b = w.heap.size) (by repeat (first | exact Mod.refl _ _ | refine msetL ?_ _ _ (by first | exact .inl rfl | exact .inr rfl))) (fun b e => by omega)
  · exact M4.trans2 (G := fun b => b = w2.heap.size ∨ b = w.heap.size) (by repeat (first | exact Mod.refl _ _ | refine msetL ?_ _ _ (by first | exact .inl rfl | exact .inr rfl))) (fun b e hb => by omega)
end Go.Proofs.Yteebglgbeijolaa

/-
  The draws of ReverseOf and PackContract.
-/
namespace Go.Proofs.Yteebglgbeijolaa
open Go.RowKit
set_option linter.unusedSectionVars false
variable [DecidableEq Logg] [Inhabited Logg] [DecidableEq LoggR] [Inhabited LoggR] [DecidableEq BytesR] [Inhabited BytesR] [DecidableEq RecsR] [Inhabited RecsR] [DecidableEq Leg] [Inhabited Leg] [DecidableEq Cont] [Inhabited Cont]
set_option linter.unusedVariables false
set_option linter.unusedSimpArgs false
attribute [local go_sem ↓] Go.wp_at_zero Go.wp_at_succ

set_option maxRecDepth 20000 in
set_option maxHeartbeats 4000000 in
theorem drawPackC_any (x : Value) (cs : List Byte) (w : World) (hx : BytesV w x cs) (hn : cs.length ≤ 1048576) :
    Calls Try.prog 24 #[x] w fun e w' => ∃ id v xs, e = .returned (.agg #[.int .i64 id, v]) ∧ legsR.V w' v xs ∧ xs.length ≤ 9 ∧ Below w.heap.size w w' := by
  have hX := hx
  obtain ⟨ax, cx, rfl, _⟩ := hx
  go_enter Try.func24, Try.ntmps24
  go_wp2_with fail
  refine (l1Source_any _ cs _ (BytesV_below hX (by (repeat (first | exact Below.refl _ _ | assumption | refine Below.drew ?_ | refine balloc ?_ _ | refine bset ?_ (by simp; omega) _ | refine bset ?_ (by simp) _ | refine bstep ?_ (by assumption))))) (by omega)).mono ?_
  rintro e w1 ⟨a, cap, rfl, hs1, hb1⟩
  simp only [World.size_alloc] at hs1
  have z1 := hs1.lt
  have R : Box2 w1 w.heap.size (.int .i64 0) (.slice none 0 0) := ⟨cell_keep hb1 (by simp [go_sem]), cell_keep hb1 (by simp [go_sem]), fun o => by rw [(bcell hb1).2 _ _ (by simp)]; simp [go_sem], by omega⟩
  have hB1 : Below w.heap.size w w1 := by (repeat (first | exact Below.refl _ _ | assumption | refine Below.drew ?_ | refine balloc ?_ _ | refine bset ?_ (by simp; omega) _ | refine bset ?_ (by simp) _ | refine bstep ?_ (by assumption)))
  clear hb1
  go_wp2_with fail
  refine (l1Bent_any (w.heap.size + 1) w1 (w.heap.size + 1) a cs.length cap 0 hs1 (by omega)).mono ?_
  rintro e w2 ⟨id, v2, F2, xs, t2, rfl, o2, hl, hs2, ht2, m2⟩
  obtain ⟨p, q, rfl⟩ := legs_form (legsR.ofO o2)
  have hB2 : Below w.heap.size w w2 := m2.below hB1 (by omega) (fun b hb => by omega)
  have z2 := m2.size
  replace R := R.mod m2 (fun e => by omega)
  clear m2 hB1 hs1
  obtain ⟨n, hn'⟩ : ∃ n, n = xs.length := ⟨_, rfl⟩
  have HN : Hid (xs.length = n) := hn'.symm
  have HV : Hid (legsR.V ((w2.setCell ⟨w.heap.size, 0, none⟩ (.int .i64 id)).setCell ⟨w.heap.size, 1, none⟩ (.slice p n q)) (.slice p n q) xs) := by rw [Hid, hn']; exact legsR.ofO (legsR.set (legsR.set o2 _ (by dsimp only; omega)) _ (by dsimp only; omega))
  rw [← hn'] at hl ⊢
  clear hn' o2
  obtain ⟨r0, r1, rf, rl⟩ := R
  go_wp2
  refine bodyPost_ret (v := .agg #[.int .i64 id, .slice p n q]) ?_ rfl ?_
  · simp [results, Try.results24, go_sem, r0, r1, rf]
  · exact ⟨id, _, xs, rfl, HV.out, by rw [HN.out]; omega, by (repeat (first | exact Below.refl _ _ | assumption | refine Below.drew ?_ | refine balloc ?_ _ | refine bset ?_ (by simp; omega) _ | refine bset ?_ (by simp) _ | refine bstep ?_ (by assumption)))⟩
end Go.Proofs.Yteebglgbeijolaa

/-
  PackNumber and UnpackNumber in the uniform form.
-/
namespace Go.Proofs.Yteebglgbeijolaa
open Go.RowKit
attribute [local go_sem ↓] Go.wp_at_zero Go.wp_at_succ

theorem implPack_u (n : Int) (w : World) :
    Calls Try.prog 18 #[.int .i64 n] w fun e w' => ∃ v F, e = .returned v ∧ bytesR.O w' w.heap.size F v (hiB n 8) ∧ Below w.heap.size w w' := by
  refine (implPack_any n w).mono ?_
  rintro e w' ⟨v, rfl, ho, hb⟩
  exact ⟨v, _, rfl, ⟨by rw [length_hiB]; exact ho, rfl⟩, hb⟩
def unCode (xs : List Byte) : Int := if xs.length = 8 then 0 else 1
def unVal (xs : List Byte) : Int := if xs.length = 8 then IntKind.i64.wrap (hiN xs) else 0
set_option maxHeartbeats 400000 in
theorem implUnpack_any (x : Value) (xs : List Byte) (w : World) (hx : bytesR.V w x xs) :
    Calls Try.prog 21 #[x] w fun e w' => e = .returned (.agg #[.int .i64 (unCode xs), .int .i64 (unVal xs)]) ∧ Below w.heap.size w w' := by
  have hX := hx
  obtain ⟨ax, cx, rfl, hcx, hmx, _⟩ := hx
  unfold unCode unVal maxLen at *
  by_cases h : xs.length = 8
  · rw [if_pos h, if_pos h]
    have hc : ((xs.length : Int) == 8) = true := by simp [h]
    obtain ⟨q, hq⟩ : ∃ q, IntKind.i64.wrap (hiN xs) = q := ⟨_, rfl⟩
    rw [hq]
    clear h
    go_enter Try.func21, Try.ntmps21
    go_wp2_with fail
    refine (numberIn_any _ xs _ (BytesV_below hX (by (repeat (first | exact Below.refl _ _ | assumption | refine Below.drew ?_ | refine balloc ?_ _ | refine bset ?_ (by simp; omega) _ | refine bset ?_ (by simp) _ | refine bstep ?_ (by assumption)))))).mono ?_
    rintro e w1 ⟨rfl, rfl⟩
    rw [hq]
    go_wp2
    exact bodyPost_ret (v := .agg #[.int .i64 0, .int .i64 q]) (by simp [results, Try.results21, go_sem]) rfl ⟨rfl, by (repeat (first | exact Below.refl _ _ | assumption | refine Below.drew ?_ | refine balloc ?_ _ | refine bset ?_ (by simp; omega) _ | refine bset ?_ (by simp) _ | refine bstep ?_ (by assumption)))⟩
  · rw [if_neg h, if_neg h]
    have hc : ((xs.length : Int) == 8) = false := by simp; omega
    clear h
    go_enter Try.func21, Try.ntmps21
    go_wp2
    exact bodyPost_ret (v := .agg #[.int .i64 1, .int .i64 0]) (by simp [results, Try.results21, go_sem]) rfl ⟨rfl, by (repeat (first | exact Below.refl _ _ | assumption | refine Below.drew ?_ | refine balloc ?_ _ | refine bset ?_ (by simp; omega) _ | refine bset ?_ (by simp) _ | refine bstep ?_ (by assumption)))⟩
end Go.Proofs.Yteebglgbeijolaa

