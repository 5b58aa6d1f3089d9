import Derived.Test.YteebglgbeijolaaPrnTablesLaw9
import Derived.Test.YteebglgbeijolaaPrnTablesLaw7

/-
  A row drawn with something turned.
-/
namespace Go.Proofs.Yteebglgbeijolaa
open Go.RowKit
set_option linter.unusedSectionVars false
variable [DecidableEq Logg] [Inhabited Logg] [DecidableEq LoggR] [Inhabited LoggR] [DecidableEq BytesR] [Inhabited BytesR] [DecidableEq RecsR] [Inhabited RecsR] [DecidableEq Leg] [Inhabited Leg] [DecidableEq Rw] [Inhabited Rw] [DecidableEq TabR] [Inhabited TabR]
set_option linter.unusedVariables false
set_option linter.unusedSimpArgs false
attribute [local go_sem ↓] Go.wp_at_zero Go.wp_at_succ

structure Box4 (W : World) (p : Nat) (v0 v1 v2 v3 : Value) : Prop where
  c0 : W.cell? ⟨p, 0, none⟩ = some v0
  c1 : W.cell? ⟨p, 1, none⟩ = some v1
  c2 : W.cell? ⟨p, 2, none⟩ = some v2
  c3 : W.cell? ⟨p, 3, none⟩ = some v3
  fr : ∀ o, W.frozen? ⟨p, o, none⟩ = false
  lt : p < W.heap.size
theorem Box4.mod {F : Nat → Prop} {W W' : World} {p : Nat} {v0 v1 v2 v3 : Value} (h : Box4 W p v0 v1 v2 v3) (hm : Mod F W W') (hp : ¬ F p) : Box4 W' p v0 v1 v2 v3 :=
  ⟨hm.cell h.c0 hp, hm.cell h.c1 hp, hm.cell h.c2 hp, hm.cell h.c3 hp, fun o => (hm.frozenAt (a := ⟨p, o, none⟩) h.lt hp).trans (h.fr o), Nat.lt_of_lt_of_le h.lt hm.size⟩
theorem Box4.below {W W' : World} {p : Nat} {v0 v1 v2 v3 : Value} (h : Box4 W p v0 v1 v2 v3) (hb : Below W.heap.size W W') : Box4 W' p v0 v1 v2 v3 :=
  h.mod (F := fun _ => False) (Mod.of_below hb) (fun e => e)
theorem Box4.set2 {W : World} {p : Nat} {v0 v1 v2 v3 : Value} (h : Box4 W p v0 v1 v2 v3) (v : Value) : Box4 (W.setCell ⟨p, 2, none⟩ v) p v0 v1 v v3 :=
  ⟨by rw [set_other (by simp)]; exact h.c0, by rw [set_other (by simp)]; exact h.c1, set_same h.c2, by rw [set_other (by simp)]; exact h.c3, fun o => by rw [World.frozen?_setCell]; exact h.fr o, by simpa using h.lt⟩
def strLen (o : Option Value) : Nat := match o with
  | some (.string s) => s.size
  | _ => 0
set_option maxHeartbeats 8000000 in
theorem l5Bent_any (B : Nat) (w : World) (bs : Nat) (a : Option Addr) (k cap t : Nat) (h : Src B w bs a k cap t) (ht : t ≤ 80000) :
    Calls Try.prog 112 #[.pointer (some ⟨bs, 0, none⟩)] w fun e w' => ∃ (r : Rw) (t' : Nat), e = .returned (rowV r) ∧ r.key.size ≤ 100 ∧ r.val.size ≤ 200 ∧ Src B w' bs a k cap t' ∧ t' ≤ t + 200 ∧ Mod (fun b => b = bs) w w' := by
  have hlt := h.lt
  have hne : w.heap.size ≠ bs := by omega
  unfold rowV
  go_enter Try.func112, Try.ntmps112
  go_wp2_with fail
  refine (l5Row_any B _ bs a k cap t (h.below (by (repeat (first | exact Below.refl _ _ | assumption | refine Below.drew ?_ | refine balloc ?_ _ | refine bset ?_ (by simp; omega) _ | refine bset ?_ (by simp) _ | refine bstep ?_ (by assumption))))) (by omega)).mono ?_
  rintro e w1 ⟨⟨k1, v1, x1, g1⟩, rfl, hs1, hs2, h1, m1⟩
  dsimp only at hs1 hs2
  have R : Box4 w1 w.heap.size (.string ⟨#[]⟩) (.int .i64 0) (.string ⟨#[]⟩) (.bool false) := ⟨m1.cell (by simp [go_sem]) hne, m1.cell (by simp [go_sem]) hne, m1.cell (by simp [go_sem]) hne, m1.cell (by simp [go_sem]) hne, fun o => (m1.frozen (a := ⟨w.heap.size, o, none⟩) (by simp) hne).trans (by simp [go_sem]), by have := m1.size; simp at this; omega⟩
  have M1 : Mod (fun b => b = bs) w w1 := (Mod.of_below (balloc (Below.refl _ _) _)).trans m1
  have z1 : w.heap.size < w1.heap.size := R.lt
  have hne1 : w1.heap.size ≠ bs := by omega
  clear m1 h
  unfold rowV
  go_wp2_with fail
  refine (l1Next_any B _ bs a k cap (t + 4) 12 (h1.below (by (repeat (first | exact Below.refl _ _ | assumption | refine Below.drew ?_ | refine balloc ?_ _ | refine bset ?_ (by simp; omega) _ | refine bset ?_ (by simp) _ | refine bstep ?_ (by assumption))))) (by omega) (by omega) (by omega)).mono ?_
  rintro e w2 ⟨n2, rfl, hn2, h2, m2⟩
  have X : Box4 w2 w1.heap.size (.string k1) (.int .i64 v1) (.string x1) (.bool g1) := ⟨m2.cell (by simp [go_sem]) hne1, m2.cell (by simp [go_sem]) hne1, m2.cell (by simp [go_sem]) hne1, m2.cell (by simp [go_sem]) hne1, fun o => (m2.frozen (a := ⟨w1.heap.size, o, none⟩) (by simp) hne1).trans (by simp [go_sem]), by have := m2.size; simp at this; omega⟩
  replace R := (R.below (by (repeat (first | exact Below.refl _ _ | assumption | refine Below.drew ?_ | refine balloc ?_ _ | refine bset ?_ (by simp; omega) _ | refine bset ?_ (by simp) _ | refine bstep ?_ (by assumption))))).mod m2 hne
  have M2 : Mod (fun b => b = bs) w w2 := (M1.transB (by (repeat (first | exact Below.refl _ _ | assumption | refine Below.drew ?_ | refine balloc ?_ _ | refine bset ?_ (by simp; omega) _ | refine bset ?_ (by simp) _ | refine bstep ?_ (by assumption))))).trans m2
  have z2 : w1.heap.size < w2.heap.size := X.lt
  clear m2 h1 M1
  have hne2 : w2.heap.size ≠ bs := by omega
  have hnx : w.heap.size ≠ w1.heap.size := by omega
  have hwn : (0 : Int) ≤ n2 := by omega
  by_cases c0 : n2 = 0
  · subst c0
    go_wp2_with fail
    refine (l1Next_any B _ bs a k cap (t + 5) 3 (h2.below (by (repeat (first | exact Below.refl _ _ | assumption | refine Below.drew ?_ | refine balloc ?_ _ | refine bset ?_ (by simp; omega) _ | refine bset ?_ (by simp) _ | refine bstep ?_ (by assumption))))) (by omega) (by omega) (by omega)).mono ?_
    rintro e w3 ⟨n3, rfl, hn3, h3, m3⟩
    have q0 : w3.cell? ⟨w2.heap.size, 0, none⟩ = some (.string ⟨#[]⟩) := m3.cell (by simp [go_sem]) hne2
    have q1 : w3.cell? ⟨w2.heap.size, 1, none⟩ = some (.string ⟨#[97, 98, 99, 100, 101, 102, 103, 104, 105, 106, 107, 108, 109, 110, 111, 112, 113, 114, 115, 116]⟩) := m3.cell (by simp [go_sem]) hne2
    have q2 : w3.cell? ⟨w2.heap.size, 2, none⟩ = some (.string ⟨#[97, 98, 99, 100, 101, 102, 103, 104, 105, 106, 107, 108, 109, 110, 111, 112, 113, 114, 115, 116, 117]⟩) := m3.cell (by simp [go_sem]) hne2
    have hr3 : n3 < 3 := by omega
    obtain ⟨s, hsc, hss⟩ : ∃ s : ByteArray, w3.cell? ⟨w2.heap.size, n3, none⟩ = some (.string s) ∧ s.size ≤ 21 := by
      match n3, hr3 with
      | 0, _ => exact ⟨_, q0, by decide⟩
      | 1, _ => exact ⟨_, q1, by decide⟩
      | 2, _ => exact ⟨_, q2, by decide⟩
    have hi1 : (0 : Int) ≤ (n3 : Int) := by omega
    obtain ⟨x0, x1', x2, x3, xf, xl⟩ := (X.below (by (repeat (first | exact Below.refl _ _ | assumption | refine Below.drew ?_ | refine balloc ?_ _ | refine bset ?_ (by simp; omega) _ | refine bset ?_ (by simp) _ | refine bstep ?_ (by assumption))))).mod m3 hne1
    obtain ⟨r0, r1, r2, r3, rf, rl⟩ := (R.below (by (repeat (first | exact Below.refl _ _ | assumption | refine Below.drew ?_ | refine balloc ?_ _ | refine bset ?_ (by simp; omega) _ | refine bset ?_ (by simp) _ | refine bstep ?_ (by assumption))))).mod m3 hne
    have M3 : Mod (fun b => b = bs) w w3 := (M2.transB (by (repeat (first | exact Below.refl _ _ | assumption | refine Below.drew ?_ | refine balloc ?_ _ | refine bset ?_ (by simp; omega) _ | refine bset ?_ (by simp) _ | refine bstep ?_ (by assumption))))).trans m3
    clear m3 h2 M2 q0 q1 q2 X R
    go_wp2
    refine bodyPost_ret (v := .agg #[.string s, .int .i64 v1, .string x1, .bool g1]) (by simp [results, Try.results112, go_sem, r0, r1, r2, r3, rf, x0, x1', x2, x3, xf, hnx, Ne.symm hnx]) rfl ⟨⟨s, v1, x1, g1⟩, t + 6, rfl, by dsimp only; omega, by dsimp only; omega, ?_, by omega, ?_⟩
    · exact h3.mod (F := fun b => b = w1.heap.size ∨ b = w.heap.size) (by repeat (first | exact Mod.refl _ _ | refine msetT ?_ _ _ (by first | exact .inl rfl | exact .inr rfl))) (fun b e => by omega)
    · exact M3.trans2 (G := fun b => b = w1.heap.size ∨ b = w.heap.size) (by repeat (first | exact Mod.refl _ _ | refine msetT ?_ _ _ (by first | exact .inl rfl | exact .inr rfl))) (fun b e hb => by omega)
  by_cases c1 : n2 = 1
  · subst c1
    go_wp2_with fail
    refine (l1Pick_any B _ bs a k cap (t + 5) w2.heap.size 4 [0, -1, 1000000, 1000001] (h2.below (by (repeat (first | exact Below.refl _ _ | assumption | refine Below.drew ?_ | refine balloc ?_ _ | refine bset ?_ (by simp; omega) _ | refine bset ?_ (by simp) _ | refine bstep ?_ (by assumption))))) (by omega) (by omega) (by simp) (by simp) ?_).mono ?_
    · intro i hi
      match i, hi with
      | 0, _ => simp [go_sem]
      | 1, _ => simp [go_sem]
      | 2, _ => simp [go_sem]
      | 3, _ => simp [go_sem]
    rintro e w3 ⟨q, rfl, hq, h3, m3⟩
    obtain ⟨x0, x1', x2, x3, xf, xl⟩ := (X.below (by (repeat (first | exact Below.refl _ _ | assumption | refine Below.drew ?_ | refine balloc ?_ _ | refine bset ?_ (by simp; omega) _ | refine bset ?_ (by simp) _ | refine bstep ?_ (by assumption))))).mod m3 hne1
    obtain ⟨r0, r1, r2, r3, rf, rl⟩ := (R.below (by (repeat (first | exact Below.refl _ _ | assumption | refine Below.drew ?_ | refine balloc ?_ _ | refine bset ?_ (by simp; omega) _ | refine bset ?_ (by simp) _ | refine bstep ?_ (by assumption))))).mod m3 hne
    have M3 : Mod (fun b => b = bs) w w3 := (M2.transB (by (repeat (first | exact Below.refl _ _ | assumption | refine Below.drew ?_ | refine balloc ?_ _ | refine bset ?_ (by simp; omega) _ | refine bset ?_ (by simp) _ | refine bstep ?_ (by assumption))))).trans m3
    clear m3 h2 M2 X R
    go_wp2
    refine bodyPost_ret (v := .agg #[.string k1, .int .i64 q, .string x1, .bool g1]) (by simp [results, Try.results112, go_sem, r0, r1, r2, r3, rf, x0, x1', x2, x3, xf, hnx, Ne.symm hnx]) rfl ⟨⟨k1, q, x1, g1⟩, t + 6, rfl, by dsimp only; omega, by dsimp only; omega, ?_, by omega, ?_⟩
    · exact h3.mod (F := fun b => b = w1.heap.size ∨ b = w.heap.size) (by repeat (first | exact Mod.refl _ _ | refine msetT ?_ _ _ (by first | exact .inl rfl | exact .inr rfl))) (fun b e => by omega)
    · exact M3.trans2 (G := fun b => b = w1.heap.size ∨ b = w.heap.size) (by repeat (first | exact Mod.refl _ _ | refine msetT ?_ _ _ (by first | exact .inl rfl | exact .inr rfl))) (fun b e hb => by omega)
  have c0' : ¬ ((n2 : Int) = 0) := by omega
  have c1' : ¬ ((n2 : Int) = 1) := by omega
  by_cases c2 : n2 = 2
  · subst c2
    go_wp2
    go_loopw [24] (fun _ W => ∃ (xs : ByteArray) (tt : Nat), xs.size ≤ 102 ∧ Box4 W w1.heap.size (.string k1) (.int .i64 v1) (.string xs) (.bool g1) ∧ Box4 W w.heap.size (.string ⟨#[]⟩) (.int .i64 0) (.string ⟨#[]⟩) (.bool false) ∧ Src B W bs a k cap tt ∧ tt ≤ t + 5 + xs.size ∧ Mod (fun b => b = bs) w W) (fun _ W => 102 - strLen (W.cell? ⟨w1.heap.size, 2, none⟩))
    case atStart => exact ⟨x1, t + 5, by omega, X, R, h2, by omega, M2⟩
    case round =>
      obtain ⟨xs, tt, hxs, Y, Z, hs, htt, hM⟩ := hrel
      obtain ⟨x0, x1', x2, x3, xf, xl⟩ := Y
      obtain ⟨r0, r1, r2, r3, rf, rl⟩ := Z
      go_wp2
      refine wp_region_noPanic ?_
      refine region_upto (fun W => W.cell? ⟨w1.heap.size, 2, none⟩ = some (.string xs)) 7 (by kernel_rfl) (cell_keep (by (repeat (first | exact Below.refl _ _ | assumption | refine Below.drew ?_ | refine balloc ?_ _ | refine bset ?_ (by simp; omega) _ | refine bset ?_ (by simp) _ | refine bstep ?_ (by assumption)))) x2) (fun hS => ?_)
      refine upto_takeN (i := 0) (v := ?_) rfl (by kernel_rfl) (by kernel_rfl) (by kernel_rfl) (by kernel_rfl) (fun _ _ _ h => h) (by rfl) hS ?_ ?_
      rotate_left
      · intro wS hSw
        try dsimp only at hSw
        first | (go_simp; done) | (go_simp; with_reducible rfl)
      try simp only [Act.put, List.getElem_toArray, List.getElem_cons_zero, List.getElem_cons_succ, List.setIfInBounds_toArray, List.set_cons_zero, List.set_cons_succ]
      refine upto_takeN (i := 1) (v := ?_) rfl (by kernel_rfl) (by kernel_rfl) (by kernel_rfl) (by kernel_rfl) (fun _ _ _ h => h) (by rfl) hS ?_ ?_
      rotate_left
      · intro wS hSw
        try dsimp only at hSw
        first | (go_simp; done) | (go_simp; with_reducible rfl)
      try simp only [Act.put, List.getElem_toArray, List.getElem_cons_zero, List.getElem_cons_succ, List.setIfInBounds_toArray, List.set_cons_zero, List.set_cons_succ]
      refine upto_takeN (i := 2) (v := ?_) rfl (by kernel_rfl) (by kernel_rfl) (by kernel_rfl) (by kernel_rfl) (fun _ _ _ h => h) (by rfl) hS ?_ ?_
      rotate_left
      · intro wS hSw
        try dsimp only at hSw
        first | (go_simp; done) | (go_simp; with_reducible rfl)
      try simp only [Act.put, List.getElem_toArray, List.getElem_cons_zero, List.getElem_cons_succ, List.setIfInBounds_toArray, List.set_cons_zero, List.set_cons_succ]
      refine upto_takeN (i := 3) (v := ?_) rfl (by kernel_rfl) (by kernel_rfl) (by kernel_rfl) (by kernel_rfl) (fun _ _ _ h => h) (by rfl) hS ?_ ?_
      rotate_left
      · intro wS hSw
        try dsimp only at hSw
        first | (go_simp; done) | (go_simp; with_reducible rfl)
      try simp only [Act.put, List.getElem_toArray, List.getElem_cons_zero, List.getElem_cons_succ, List.setIfInBounds_toArray, List.set_cons_zero, List.set_cons_succ]
      refine upto_step (i := 4) (by kernel_rfl) rfl ?_
      intro K hK
      go_simp
      refine (l1Next_any B _ bs a k cap tt 2 (hs.below (by (repeat (first | exact Below.refl _ _ | assumption | refine Below.drew ?_ | refine balloc ?_ _ | refine bset ?_ (by simp; omega) _ | refine bset ?_ (by simp) _ | refine bstep ?_ (by assumption))))) (by omega) (by omega) (by omega)).mono ?_
      rintro e w3 ⟨n3, rfl, hn3, h3, m3⟩
      have hS3 : (fun W : World => W.cell? ⟨w1.heap.size, 2, none⟩ = some (.string xs)) w3 := m3.cell hS hne1
      refine hK _ _ (fun _ => hS3) ?_
      clear hK K
      try simp only [Act.put, List.getElem_toArray, List.getElem_cons_zero, List.getElem_cons_succ, List.setIfInBounds_toArray, List.set_cons_zero, List.set_cons_succ]
      have hwr : IntKind.i64.wrap (100 + (n3 : Int)) = 100 + (n3 : Int) := wrapI _ (by omega) (by omega)
      refine upto_takeN (i := 5) (v := ?_) rfl (by kernel_rfl) (by kernel_rfl) (by kernel_rfl) (by kernel_rfl) (fun _ _ _ h => h) (by rfl) hS3 ?_ ?_
      rotate_left
      · intro wS hSw
        try dsimp only at hSw
        first | (go_simp; done) | (go_simp; with_reducible rfl)
      try simp only [Act.put, List.getElem_toArray, List.getElem_cons_zero, List.getElem_cons_succ, List.setIfInBounds_toArray, List.set_cons_zero, List.set_cons_succ]
      have X3 : Box4 w3 w1.heap.size (.string k1) (.int .i64 v1) (.string xs) (.bool g1) := (Box4.below (W := wr) ⟨x0, x1', x2, x3, xf, xl⟩ (by (repeat (first | exact Below.refl _ _ | assumption | refine Below.drew ?_ | refine balloc ?_ _ | refine bset ?_ (by simp; omega) _ | refine bset ?_ (by simp) _ | refine bstep ?_ (by assumption))))).mod m3 hne1
      have R3 : Box4 w3 w.heap.size (.string ⟨#[]⟩) (.int .i64 0) (.string ⟨#[]⟩) (.bool false) := (Box4.below (W := wr) ⟨r0, r1, r2, r3, rf, rl⟩ (by (repeat (first | exact Below.refl _ _ | assumption | refine Below.drew ?_ | refine balloc ?_ _ | refine bset ?_ (by simp; omega) _ | refine bset ?_ (by simp) _ | refine bstep ?_ (by assumption))))).mod m3 hne
      have M3 : Mod (fun b => b = bs) w w3 := (hM.transB (by (repeat (first | exact Below.refl _ _ | assumption | refine Below.drew ?_ | refine balloc ?_ _ | refine bset ?_ (by simp; omega) _ | refine bset ?_ (by simp) _ | refine bstep ?_ (by assumption))))).trans m3
      have HW2 : Hid (wr.cell? ⟨w1.heap.size, 2, none⟩ = some (.string xs)) := x2
      clear m3 hs hM x0 x1' x2 x3 xf xl r0 r1 r2 r3 rf rl hS
      by_cases hlt3 : (xs.size : Int) < 100 + (n3 : Int)
      · skip
        refine upto_takeN (i := 6) (v := (.bool true)) rfl (by kernel_rfl) (by kernel_rfl) (by kernel_rfl) (by kernel_rfl) (fun _ _ _ h => h) (by rfl) hS3 ?_ ?_
        · intro wS hSw
          try dsimp only at hSw
          go_simp
        try simp only [Act.put, List.getElem_toArray, List.getElem_cons_zero, List.getElem_cons_succ, List.setIfInBounds_toArray, List.set_cons_zero, List.set_cons_succ]
        refine upto_done (by kernel_rfl) ?_
        refine NoPanic.normal ?_
        have HX3 : Hid (Box4 w3 w1.heap.size (.string k1) (.int .i64 v1) (.string xs) (.bool g1)) := X3
        obtain ⟨x0, x1', x2, x3, xf, xl⟩ := X3
        go_wp2
        have hz : (xs ++ ⟨#[118]⟩ : ByteArray).size = xs.size + 1 := by rw [ByteArray.size_append]; rfl
        refine ⟨⟨xs ++ ⟨#[118]⟩, tt + 1, by omega, HX3.out.set2 _, R3.mod (Mod.of_set _ _ _) hnx, h3.mod (Mod.of_set _ _ _) (fun b e => by dsimp only at e; omega), by omega, M3.trans2 (Mod.of_set w3 ⟨w1.heap.size, 2, none⟩ _) (fun b e hb => by dsimp only at e; omega)⟩, ?_⟩
        rw [set_same x2, HW2.out]
        show 102 - (xs ++ ⟨#[118]⟩ : ByteArray).size < 102 - xs.size
        omega
      · skip
        refine upto_takeN (i := 6) (v := (.bool false)) rfl (by kernel_rfl) (by kernel_rfl) (by kernel_rfl) (by kernel_rfl) (fun _ _ _ h => h) (by rfl) hS3 ?_ ?_
        · intro wS hSw
          try dsimp only at hSw
          go_simp
        try simp only [Act.put, List.getElem_toArray, List.getElem_cons_zero, List.getElem_cons_succ, List.setIfInBounds_toArray, List.set_cons_zero, List.set_cons_succ]
        refine upto_done (by kernel_rfl) ?_
        refine NoPanic.normal ?_
        obtain ⟨x0, x1', x2, x3, xf, xl⟩ := X3
        obtain ⟨r0, r1, r2, r3, rf, rl⟩ := R3
        go_wp2
        refine bodyPost_ret (v := .agg #[.string k1, .int .i64 v1, .string xs, .bool g1]) (by simp [results, Try.results112, go_sem, r0, r1, r2, r3, rf, x0, x1', x2, x3, xf, hnx, Ne.symm hnx]) rfl ⟨⟨k1, v1, xs, g1⟩, rfl, by dsimp only; omega, by dsimp only; omega, tt + 1, ?_, by omega, ?_⟩
        · exact h3.mod (F := fun b => b = w1.heap.size ∨ b = w.heap.size) (by repeat (first | exact Mod.refl _ _ | refine msetT ?_ _ _ (by first | exact .inl rfl | exact .inr rfl))) (fun b e => by omega)
        · exact M3.trans2 (G := fun b => b = w1.heap.size ∨ b = w.heap.size) (by repeat (first | exact Mod.refl _ _ | refine msetT ?_ _ _ (by first | exact .inl rfl | exact .inr rfl))) (fun b e hb => by omega)
  · have c2' : ¬ ((n2 : Int) = 2) := by omega
    obtain ⟨x0, x1', x2, x3, xf, xl⟩ := X
    obtain ⟨r0, r1, r2, r3, rf, rl⟩ := R
    go_wp2
    refine bodyPost_ret (v := .agg #[.string k1, .int .i64 v1, .string x1, .bool g1]) (by simp [results, Try.results112, go_sem, r0, r1, r2, r3, rf, x0, x1', x2, x3, xf, hnx, Ne.symm hnx]) rfl ⟨⟨k1, v1, x1, g1⟩, t + 5, rfl, by dsimp only; omega, by dsimp only; omega, ?_, by omega, ?_⟩
    · exact h2.mod (F := fun b => b = w1.heap.size ∨ b = w.heap.size) (by repeat (first | exact Mod.refl _ _ | refine msetT ?_ _ _ (by first | exact .inl rfl | exact .inr rfl))) (fun b e => by omega)
    · exact M2.trans2 (G := fun b => b = w1.heap.size ∨ b = w.heap.size) (by repeat (first | exact Mod.refl _ _ | refine msetT ?_ _ _ (by first | exact .inl rfl | exact .inr rfl))) (fun b e hb => by omega)
end Go.Proofs.Yteebglgbeijolaa

/-
  A table drawn.
-/
namespace Go.Proofs.Yteebglgbeijolaa
open Go.RowKit
set_option linter.unusedSectionVars false
variable [DecidableEq Logg] [Inhabited Logg] [DecidableEq LoggR] [Inhabited LoggR] [DecidableEq BytesR] [Inhabited BytesR] [DecidableEq RecsR] [Inhabited RecsR] [DecidableEq Leg] [Inhabited Leg] [DecidableEq Rw] [Inhabited Rw] [DecidableEq TabR] [Inhabited TabR]
set_option linter.unusedVariables false
set_option linter.unusedSimpArgs false
attribute [local go_sem ↓] Go.wp_at_zero Go.wp_at_succ

theorem OutS.mod {W W' : World} {base : Nat} {v : Value} {ys : List Rw} {F : Nat → Prop} (h : OutS W base v ys) (hm : Mod F W W') (hF : ∀ b, base ≤ b → ¬ F b) : OutS W' base v ys :=
  ⟨h.1, hm.owns h.2 (fun b hb => hF b (h.2.lt b hb).1)⟩
def Small (xs : List Rw) : Prop := ∀ x ∈ xs, x.key.size ≤ 100 ∧ x.val.size ≤ 200
theorem Small.fit {xs : List Rw} (h : Small xs) : Fit xs := fit_mem.2 (fun x hx => by
  have := h x hx
  unfold maxLen
  omega)
theorem Small.put {ys : List Rw} {r : Rw} (h : Small ys) (hr : r.key.size ≤ 100 ∧ r.val.size ≤ 200) : Small (putL ys r) := fun x hx => by
  rcases mem_putL hx with h1 | rfl
  · exact h x h1
  · exact hr
theorem Small.set {ys : List Rw} {r : Rw} (h : Small ys) (hr : r.key.size ≤ 100 ∧ r.val.size ≤ 200) (j : Nat) : Small (ys.set j r) := fun x hx => by
  rcases List.mem_or_eq_of_mem_set hx with h1 | rfl
  · exact h x h1
  · exact hr
theorem rwsC_set : ∀ (ys : List Rw) (j : Nat) (r : Rw), rwsC (ys.set j r) = (((((rwsC ys).set (j * 4) (.string r.key)).set (j * 4 + 1) (.int .i64 r.ver)).set (j * 4 + 2) (.string r.val)).set (j * 4 + 3) (.bool r.gone))
  | [], j, r => by simp [rwsC]
  | y :: ys, 0, r => by
    have e : ∀ x l, rwsC (x :: l) = [.string x.key, .int .i64 x.ver, .string x.val, .bool x.gone] ++ rwsC l := fun x l => by simp [rwsC, rowC]
    rw [List.set_cons_zero, e, e]
    simp
  | y :: ys, j + 1, r => by
    have e : ∀ x l, rwsC (x :: l) = [.string x.key, .int .i64 x.ver, .string x.val, .bool x.gone] ++ rwsC l := fun x l => by simp [rwsC, rowC]
    rw [List.set_cons_succ, e, e, rwsC_set ys j r]
    rw [show (j + 1) * 4 = j * 4 + 1 + 1 + 1 + 1 by omega, show j * 4 + 1 + 1 + 1 + 1 + 1 = (j * 4 + 1) + 1 + 1 + 1 + 1 by omega, show j * 4 + 1 + 1 + 1 + 1 + 2 = (j * 4 + 2) + 1 + 1 + 1 + 1 by omega, show j * 4 + 1 + 1 + 1 + 1 + 3 = (j * 4 + 3) + 1 + 1 + 1 + 1 by omega]
    simp only [List.cons_append, List.nil_append, List.set_cons_succ]
def zeroRows : List Rw := List.replicate 201 ⟨⟨#[]⟩, 0, ⟨#[]⟩, false⟩
theorem zeroRows_small : Small zeroRows := fun x hx => by
  rw [List.eq_of_mem_replicate hx]
  exact ⟨by decide, by decide⟩
theorem made_rows (r : Rw) : ∀ n, (madeCells (rowC r).toArray (n * 4)).toList = rwsC (List.replicate n r)
  | 0 => by simp [madeCells, rwsC]
  | n + 1 => by
    have ih := made_rows r n
    rw [show List.replicate (n + 1) r = List.replicate n r ++ [r] from List.replicate_succ', rwsC_snoc, ← ih]
    simp only [madeCells, Array.toList_map, Array.toList_range]
    rw [show (n + 1) * 4 = n * 4 + 1 + 1 + 1 + 1 by omega, List.range_succ, List.range_succ, List.range_succ, List.range_succ]
    simp only [List.map_append, List.map_cons, List.map_nil, List.append_assoc]
    congr 1
    have e4 : (rowC r).toArray.size = 4 := rfl
    rw [e4, show n * 4 % 4 = 0 by omega, show (n * 4 + 1) % 4 = 1 by omega, show (n * 4 + 1 + 1) % 4 = 2 by omega, show (n * 4 + 1 + 1 + 1) % 4 = 3 by omega]
    rfl
theorem zeroCells : (Value.agg #[.string ⟨#[]⟩, .int .i64 0, .string ⟨#[]⟩, .bool false]).cells = (rowC ⟨⟨#[]⟩, 0, ⟨#[]⟩, false⟩).toArray := by kernel_rfl
theorem zeroRows_made : (madeCells (Value.agg #[.string ⟨#[]⟩, .int .i64 0, .string ⟨#[]⟩, .bool false]).cells (201 * 4)).toList = rwsC zeroRows := by
  rw [zeroCells]
  unfold zeroRows
  exact made_rows ⟨⟨#[]⟩, 0, ⟨#[]⟩, false⟩ 201
theorem zeroRows_len : zeroRows.length = 201 := List.length_replicate
set_option maxRecDepth 20000 in
set_option maxHeartbeats 8000000 in
theorem l5Table_any (B : Nat) (w : World) (bs : Nat) (a : Option Addr) (k cap t : Nat) (h : Src B w bs a k cap t) (ht : t ≤ 70000) :
    Calls Try.prog 73 #[.pointer (some ⟨bs, 0, none⟩)] w fun e w' => ∃ v F xs t', e = .returned v ∧ rowsR.O w' w.heap.size F v xs ∧ xs.length ≤ 201 ∧ Small xs ∧ Src B w' bs a k cap t' ∧ t' ≤ t + 400 ∧ Mod (fun b => b = bs) w w' := by
  have hlt := h.lt
  obtain ⟨i0, hi, hz0, hz1, hz2⟩ := info_parts infoRw
  go_enter Try.func73, Try.ntmps73
  go_wp2_with fail
  refine (l1Next_any B _ bs a k cap t 9 (h.below (by (repeat (first | exact Below.refl _ _ | assumption | refine Below.drew ?_ | refine balloc ?_ _ | refine bset ?_ (by simp; omega) _ | refine bset ?_ (by simp) _ | refine bstep ?_ (by assumption))))) (by omega) (by omega) (by omega)).mono ?_
  rintro e w1 ⟨n1, rfl, hn1, h1, m1⟩
  have O0 : OutS w1 w.heap.size (.slice (some ⟨w.heap.size, 0, none⟩) 0 0) [] := OutS.mod (F := fun b => b = bs) ⟨⟨w.heap.size, 0, rfl⟩, World.ownsRow_lit (base := w.heap.size) (e := 61) (size := 4) w #[] 0 (Nat.le_refl _) (by unfold maxLen; omega) rfl⟩ m1 (fun b hb e => by omega)
  have M1 : Mod (fun b => b = bs) w w1 := (Mod.of_below (balloc (Below.refl _ _) _)).trans m1
  clear m1 h
  go_wp2
  go_loopw [3, 4] (fun v i W => ∃ (ys : List Rw) (m tt : Nat), i = .int .i64 m ∧ m + ys.length ≤ 8 ∧ Hid (OutS W w.heap.size v ys) ∧ Hid (Small ys) ∧ Src B W bs a k cap tt ∧ tt + 4 * m ≤ t + 40 ∧ Mod (fun b => b = bs) w W) (fun _ i _ => (intOf i).toNat)
  case atStart => exact ⟨[], n1, t + 1, rfl, by simp; omega, O0, (fun x hx => by cases hx), h1, by omega, M1⟩
  case round =>
    obtain ⟨ys, m, tt, rfl, hm, HO, HS, hs, htt, hM⟩ := hrel
    clear O0 h1 M1
    by_cases h0 : 0 < m
    · have h0' : (0 : Int) < m := by omega
      go_wp2_with fail
      refine (l5Row_any B _ bs a k cap tt hs (by omega)).mono ?_
      rintro e w2 ⟨r, rfl, hr1, hr2, h2, m2⟩
      have hsz := hM.size
      have hsz2 := m2.size
      have O2 := HO.out.mod m2 (fun b hb e => by omega)
      obtain ⟨g, c, rfl⟩ := HO.out.1
      go_wp2_with fail
      refine (l5Put_L _ ys r w.heap.size w2 O2 (by omega) (by omega)).mono ?_
      rintro e w3 ⟨v3, rfl, O3, b3⟩
      have HO3 : Hid (OutS w3 w.heap.size v3 (putL ys r)) := O3
      have HS3 : Hid (Small (putL ys r)) := HS.out.put ⟨by omega, by omega⟩
      have hlp := (length_putL ys r).2
      obtain ⟨g3, c3, rfl⟩ := O3.1
      have M3 : Mod (fun b => b = bs) w w3 := (hM.trans m2).transB b3
      have h3 := h2.below b3
      clear O3 O2 HO HS hs hM m2 b3 h2
      have hw : IntKind.i64.wrap ((m : Int) - 1) = (m : Int) - 1 := wrapI _ (by omega) (by omega)
      go_wp2
      exact ⟨⟨putL ys r, m - 1, tt + 4, by rw [show ((m - 1 : Nat) : Int) = (m : Int) - 1 by omega], by omega, HO3, HS3, h3, by omega, M3⟩, by simp [intOf]; omega⟩
    · have hm0 : m = 0 := by omega
      subst hm0
      obtain ⟨g, c, rfl⟩ := HO.out.1
      have hO := HO.out.2
      by_cases hl0 : ys.length = 0
      · have : ys = [] := List.eq_nil_of_length_eq_zero hl0
        subst this
        go_wp2
        go_ret
        exact ⟨_, _, [], tt, rfl, ⟨⟨hO, rfl⟩, HS.out.fit⟩, by simp, HS.out, hs, by omega, hM⟩
      have hl0' : ¬ ((ys.length : Int) = 0) := by omega
      go_wp2_with fail
      refine (l1Next_any B _ bs a k cap tt 20 hs (by omega) (by omega) (by omega)).mono ?_
      rintro e w2 ⟨n2, rfl, hn2, h2, m2⟩
      have hsz := hM.size
      have hsz2 := m2.size
      have O2 := HO.out.mod m2 (fun b hb e => by omega)
      have M2 := hM.trans m2
      have HS2 : Hid (Small ys) := HS.out
      clear HO HS hs hM m2 hO
      obtain ⟨L, hL⟩ : ∃ L, L = ys.length := ⟨_, rfl⟩
      have HL : Hid (ys.length = L) := hL.symm
      have HO2 : Hid (OutS w2 w.heap.size (.slice (some ⟨g, 0, none⟩) L c) ys) := by rw [hL]; exact O2
      rw [← hL] at hl0 hl0' hm ⊢
      clear O2 hL
      have hwn : (0 : Int) ≤ n2 := by omega
      by_cases c0 : n2 = 0
      · subst c0
        have hgb : g ≠ bs := by
          have := (HO2.out.2.lt g rfl).1
          omega
        go_wp2_with fail
        refine (l1Next_any B _ bs a k cap (tt + 1) (L : Int) h2 (by omega) (by omega) (by omega)).mono ?_
        rintro e w3 ⟨j, rfl, hj, h3, m3⟩
        have O3 := HO2.out.mod m3 (fun b hb e => by omega)
        have M3 := M2.trans m3
        have hsz3 := m3.size
        clear HO2 M2 m3 h2
        go_wp2_with fail
        refine (l5Bent_any B _ bs a k cap (tt + 1 + 1) h3 (by omega)).mono ?_
        rintro e w4 ⟨⟨rk, rv, rx, rg⟩, t4, rfl, hr1, hr2, h4, ht4, m4⟩
        have O4 := O3.mod m4 (fun b hb e => by omega)
        have M4 := M3.trans m4
        clear O3 M3 m4 h3
        have ho1 := O4.2
        rw [HL.out] at ho1
        have hjL : j < L := by omega
        obtain ⟨u0, g0⟩ := owns_some ho1 (j * 4) (by omega)
        obtain ⟨u1, g1⟩ := owns_some ho1 (j * 4 + 1) (by omega)
        obtain ⟨u2, g2⟩ := owns_some ho1 (j * 4 + 2) (by omega)
        obtain ⟨u3, g3⟩ := owns_some ho1 (j * 4 + 3) (by omega)
        have hf := fun j => ho1.frozenAt j
        have hgw : w.heap.size ≤ g := (ho1.lt g rfl).1
        have hj0 : (0 : Int) ≤ j := by omega
        unfold rowV
        go_wp2
        go_ret
        have s0 := ho1.stored (j * 4) (.string rk)
        have s1 := s0.1.stored (j * 4 + 1) (.int .i64 rv)
        have s2 := s1.1.stored (j * 4 + 2) (.string rx)
        have s3 := (s2.1.stored (j * 4 + 3) (.bool rg)).1
        have hset := rwsC_set ys j ⟨rk, rv, rx, rg⟩
        dsimp only at hset hr1 hr2
        have hlen : (ys.set j ⟨rk, rv, rx, rg⟩).length = L := by rw [List.length_set]; exact HL.out
        rw [← hset] at s3
        have hK : Mod (fun b => b = g) w4 ((((w4.setCell ⟨g, j * 4, none⟩ (.string rk)).setCell ⟨g, j * 4 + 1, none⟩ (.int .i64 rv)).setCell ⟨g, j * 4 + 2, none⟩ (.string rx)).setCell ⟨g, j * 4 + 3, none⟩ (.bool rg)) := by
          refine msetT ?_ _ _ (by rfl)
          refine msetT ?_ _ _ (by rfl)
          refine msetT ?_ _ _ (by rfl)
          refine msetT ?_ _ _ (by rfl)
          exact Mod.refl _ _
        refine ⟨.slice (some ⟨g, 0, none⟩) L c, _, ys.set j ⟨rk, rv, rx, rg⟩, t4, rfl, ⟨⟨by rw [hlen]; exact s3, rfl⟩, (HS2.out.set ⟨hr1, hr2⟩ j).fit⟩, by omega, HS2.out.set ⟨hr1, hr2⟩ j, ?_, by omega, ?_⟩
        · exact h4.mod hK (fun b e => by omega)
        · exact M4.trans2 hK (fun b e hb => by omega)
      have c0' : ¬ ((n2 : Int) = 0) := by omega
      by_cases c1 : n2 = 1
      · subst c1
        have ho1 := HO2.out.2
        rw [HL.out] at ho1
        obtain ⟨p0, p1, p2, p3⟩ : rowCells w2 g (0 + 0 * 4) (ys.getD 0 default) := by
          obtain ⟨a9, c9, e9, _, _, h9⟩ := RowsV_of_owns HO2.out.2
          obtain ⟨b, o, e, h⟩ := h9 0 (by rw [HL.out]; omega)
          simp only [Value.slice.injEq] at e9
          rw [← e9.1] at e
          simp only [Option.some.injEq, Addr.mk.injEq, and_true] at e
          obtain ⟨rfl, rfl⟩ := e
          exact h
        obtain ⟨l, hl⟩ : ∃ l, l = ys.getD 0 default := ⟨_, rfl⟩
        rw [← hl] at p0 p1 p2 p3
        have HLL : Hid (l = ys.getD 0 default) := hl
        clear hl
        go_wp2_with (at_builtin; refine wpList_append_own_at _ rfl _ _ 55 rfl w.heap.size 61 i0 _ 4 48 Try.underlying55 hi hz0 hz1 hz2 rfl (by decide) _ L (rwsC ys) rfl (ho1.alloc _) ⟨w2.heap.size, 0, none⟩ 1 1 (rowC l) rfl rfl ?c1 (rowC_one l) ?c3 ?c4 ?c5 ?_)
        case c1 =>
          intro j u hj
          match j, hj with
          | 0, hj => simp [rowC] at hj; subst hj; simp [Addr.add, go_sem]
          | 1, hj => simp [rowC] at hj; subst hj; simp [Addr.add, go_sem]
          | 2, hj => simp [rowC] at hj; subst hj; simp [Addr.add, go_sem]
          | 3, hj => simp [rowC] at hj; subst hj; simp [Addr.add, go_sem]
          | j + 4, hj => simp [rowC] at hj
        case c3 => unfold maxLen; omega
        case c4 => omega
        case c5 => first | omega | (simp; omega)
        intro v' w5 o5 g5 _ _
        obtain ⟨g', cap', rfl⟩ := ownsRow_succ o5
        have hlen : (ys ++ [l]).length = L + 1 := by rw [List.length_append, HL.out]; rfl
        have hSm : Small (ys ++ [l]) := fun x hx => by
          rcases List.mem_append.1 hx with hx | hx
          · exact HS2.out x hx
          · rw [List.mem_singleton.1 hx, HLL.out]
            have h0 : 0 < ys.length := by rw [HL.out]; omega
            have e : ys.getD 0 default = ys[0] := by simp [List.getD, h0]
            rw [e]
            exact HS2.out _ (List.getElem_mem h0)
        have hgb : g ≠ bs := by
          have := (ho1.lt g rfl).1
          omega
        have hgw : w.heap.size ≤ g := (ho1.lt g rfl).1
        have hK := (Mod.of_below (F := fun b => (Value.slice (some ⟨g, 0, none⟩) L c).ownBlock = some b) (balloc (Below.refl w2.heap.size w2) _)).trans (Mod.of_grown g5)
        go_wp2
        go_ret
        refine ⟨.slice (some ⟨g', 0, none⟩) (L + 1) cap', _, ys ++ [l], tt + 1, rfl, ⟨⟨by rw [hlen, rwsC_snoc]; exact o5, rfl⟩, hSm.fit⟩, by omega, hSm, ?_, by omega, ?_⟩
        · exact h2.mod hK (fun b e => by simp [Value.ownBlock] at e; omega)
        · exact M2.trans2 hK (fun b e hb => by simp [Value.ownBlock] at e; omega)
      have c1' : ¬ ((n2 : Int) = 1) := by omega
      by_cases c2 : n2 = 2
      · subst c2
        obtain ⟨w5, hmk, o5, g5⟩ := run_make_full (P := Try.prog) w2 w.heap.size 55 61 i0 _ 4 Try.underlying55 hi hz0 hz1 .i64 .i64 201 (by rw [hz2]; omega) (by unfold maxLen; omega) (by omega)
        rw [zeroRows_made] at o5
        have hmk' : (Instr.makeSlice 55 (.int .i64 201) (.int .i64 201)).run Try.prog w2 = .ok (.slice (some ⟨w2.heap.size, 0, none⟩) 201 201) w5 := hmk
        have hb5 : Below w2.heap.size w2 w5 := (Below.refl _ _).grown g5 (Nat.le_refl _) (fun k h => by cases h)
        clear hmk g5
        go_wp2
        go_ret
        exact ⟨.slice (some ⟨w2.heap.size, 0, none⟩) 201 201, _, zeroRows, tt + 1, rfl, ⟨⟨by rw [zeroRows_len]; exact o5, rfl⟩, zeroRows_small.fit⟩, by rw [zeroRows_len]; omega, zeroRows_small, h2.below hb5, by omega, M2.transB hb5⟩
      have c2' : ¬ ((n2 : Int) = 2) := by omega
      go_wp2
      go_ret
      have o2 := HO2.out.2
      exact ⟨.slice (some ⟨g, 0, none⟩) L c, _, ys, tt + 1, rfl, ⟨⟨o2, rfl⟩, HS2.out.fit⟩, by rw [HL.out]; omega, HS2.out, h2, by omega, M2⟩
end Go.Proofs.Yteebglgbeijolaa

/-
  The draws of CompactTable and MergeTables.
-/
namespace Go.Proofs.Yteebglgbeijolaa
open Go.RowKit
set_option linter.unusedSectionVars false
variable [DecidableEq Logg] [Inhabited Logg] [DecidableEq LoggR] [Inhabited LoggR] [DecidableEq BytesR] [Inhabited BytesR] [DecidableEq RecsR] [Inhabited RecsR] [DecidableEq Leg] [Inhabited Leg] [DecidableEq Rw] [Inhabited Rw] [DecidableEq TabR] [Inhabited TabR]
set_option linter.unusedVariables false
set_option linter.unusedSimpArgs false
attribute [local go_sem ↓] Go.wp_at_zero Go.wp_at_succ

theorem PO.snoc2 {α : Type} {R : Rep α} {e : Nat} {W W' : World} {base : Nat} {v v' : Value} {n : Nat} {d : Nat → α} {cs : List Value} {us : Nat → Value} {fs : Nat → Nat → Prop} {u : Value} {Fu : Nat → Prop}
    (h : PO R e 1 one W base v n n d cs us fs) (hu : R.O W base Fu u (d n)) (hd : ∀ i, i < n → ∀ b, fs i b → ¬ Fu b) (hvu : ∀ b, Fu b → v.ownBlock ≠ some b)
    (hr : W'.ownsRow base e 1 v' (n + 1) (cs ++ [u])) (hg : W.grownBy W' v.ownBlock) (hv : v'.ownBlock = v.ownBlock ∨ v'.ownBlock = some W.heap.size) :
    PO R e 1 one W' base v' (n + 1) (n + 1) d (cs ++ [u]) (upd us n u) (upd fs n Fu) := by
  have hcl : cs.length = n := by simpa using h.row.1
  have hm := Mod.of_grown hg
  have hold : ∀ b, b < W.heap.size → v.ownBlock ≠ some b → v'.ownBlock ≠ some b := fun b hb hn => by
    rcases hv with hv | hv
    · rw [hv]; exact hn
    · rw [hv]; intro e; simp only [Option.some.injEq] at e; omega
  refine ⟨hr, ?_, fun _ _ => rfl, ?_, ?_, ?_⟩
  · intro i hi
    by_cases hik : i = n
    · subst hik
      rw [upd_at, upd_at]
      exact R.mod hu hm (fun b hb => hvu b hb)
    · rw [upd_ne _ _ hik, upd_ne _ _ hik]
      exact R.mod (h.el i (by omega)) hm (fun b hb => h.out i (by omega) b hb)
  · intro i hi j hj
    obtain rfl : j = 0 := by omega
    rw [Nat.mul_one, Nat.add_zero]
    by_cases hik : i = n
    · subst hik
      rw [upd_at, List.getElem?_append_right (by omega), hcl]
      simp [one]
    · have h1 := h.cell i (by omega) 0 (by omega)
      rw [Nat.mul_one, Nat.add_zero] at h1
      rw [upd_ne _ _ hik, List.getElem?_append_left (by omega), h1]
  · intro i hi b hb
    by_cases hik : i = n
    · subst hik
      rw [upd_at] at hb
      exact hold b (R.rng hu b hb).2 (hvu b hb)
    · rw [upd_ne _ _ hik] at hb
      exact hold b (R.rng (h.el i (by omega)) b hb).2 (h.out i (by omega) b hb)
  · intro i j hi hj hij b h1 h2
    by_cases hik : i = n
    · subst hik
      rw [upd_at] at h1
      rw [upd_ne _ _ (Ne.symm hij)] at h2
      exact hd j (by omega) b h2 h1
    · rw [upd_ne _ _ hik] at h1
      by_cases hjk : j = n
      · subst hjk
        rw [upd_at] at h2
        exact hd i (by omega) b h1 h2
      · rw [upd_ne _ _ hjk] at h2
        exact h.sep i j (by omega) (by omega) hij b h1 h2
structure TbSt (W : World) (base : Nat) (v : Value) (xss : List (List Rw)) (cs : List Value) (us : Nat → Value) (fs : Nat → Nat → Prop) : Prop where
  po : PO rowsR 55 1 one W base v xss.length xss.length (fun i => xss.getD i default) cs us fs
  sm : ∀ i, i < xss.length → Small (xss.getD i default) ∧ (xss.getD i default).length ≤ 201
set_option maxRecDepth 20000 in
set_option maxHeartbeats 8000000 in
theorem drawMerge_any (x : Value) (cs0 : List Byte) (w : World) (hx : BytesV w x cs0) (hn : cs0.length ≤ 1048576) :
    Calls Try.prog 26 #[x] w fun e w' => ∃ v xss, e = .returned v ∧ rowssR.V w' v xss ∧ xss.length ≤ 9 ∧ (∀ i, i < xss.length → Small (xss.getD i default) ∧ (xss.getD i default).length ≤ 201) ∧ Below w.heap.size w w' := by
  have hX := hx
  obtain ⟨ax, cx, rfl, _⟩ := hx
  obtain ⟨i0, hi, hz0, hz1, hz2⟩ := info_parts infoRowss
  go_enter Try.func26, Try.ntmps26
  go_wp2_with fail
  refine (l1Source_any _ cs0 _ (BytesV_below hX (by (repeat (first | exact Below.refl _ _ | assumption | refine Below.drew ?_ | refine balloc ?_ _ | refine bset ?_ (by simp; omega) _ | refine bset ?_ (by simp) _ | refine bstep ?_ (by assumption))))) (by omega)).mono ?_
  rintro e w1 ⟨a, cap, rfl, hs1, hb1⟩
  have z1 := hs1.lt
  go_wp2_with fail
  refine (l1Pick_any w.heap.size _ w.heap.size a cs0.length cap 0 (w1.heap.size + 1) 6 [2, 3, 1, 0, 8, 9] (hs1.below (by (repeat (first | exact Below.refl _ _ | assumption | refine Below.drew ?_ | refine balloc ?_ _ | refine bset ?_ (by simp; omega) _ | refine bset ?_ (by simp) _ | refine bstep ?_ (by assumption))))) (by omega) (by omega) (by simp) (by simp) ?_).mono ?_
  · intro i hi
    match i, hi with
    | 0, _ => simp [go_sem]
    | 1, _ => simp [go_sem]
    | 2, _ => simp [go_sem]
    | 3, _ => simp [go_sem]
    | 4, _ => simp [go_sem]
    | 5, _ => simp [go_sem]
  rintro e w2 ⟨q, rfl, hq, hs2, m2⟩
  have hB2 : Below w.heap.size w w2 := m2.below (balloc (balloc hb1 _) _) (by simp; omega) (fun b hb => by omega)
  have z2 := m2.size
  simp only [World.size_alloc] at z2
  have o2 : w2.ownsRow (w.heap.size + 1) 55 1 (.slice (some ⟨w1.heap.size, 0, none⟩) 0 0) 0 [] := m2.owns ((World.ownsRow_lit (base := w.heap.size + 1) (e := 55) (size := 1) w1 #[] 0 (by omega) (by unfold maxLen; omega) rfl).alloc _) (fun b hb e => by simp [Value.ownBlock] at hb; omega)
  have hq0 : ∃ m : Nat, q = m ∧ m ≤ 9 := by
    simp only [List.mem_cons, List.not_mem_nil, or_false] at hq
    exact ⟨q.toNat, by omega, by omega⟩
  obtain ⟨m, rfl, hm9⟩ := hq0
  clear m2 hq hs1 hb1
  go_wp2
  go_loopw [4, 5] (fun v i W => ∃ (xss : List (List Rw)) (cs : List Value) (us : Nat → Value) (fs : Nat → Nat → Prop) (m tt : Nat), i = .int .i64 m ∧ m + xss.length ≤ 9 ∧ Hid (TbSt W (w.heap.size + 1) v xss cs us fs) ∧ Hid (∃ g c, v = .slice (some ⟨g, 0, none⟩) xss.length c) ∧ Src w.heap.size W w.heap.size a cs0.length cap tt ∧ tt + 400 * m ≤ 4000 ∧ Below w.heap.size w W ∧ w.heap.size + 1 ≤ W.heap.size) (fun _ i _ => (intOf i).toNat)
  case atStart => exact ⟨[], [], fun _ => .slice none 0 0, fun _ _ => False, m, 1, rfl, by simp; omega, ⟨⟨o2, fun i h => absurd h (Nat.not_lt_zero _), fun i h => absurd h (Nat.not_lt_zero _), fun i h => absurd h (Nat.not_lt_zero _), fun i h => absurd h (Nat.not_lt_zero _), fun i j h => absurd h (Nat.not_lt_zero _)⟩, fun i h => absurd h (Nat.not_lt_zero _)⟩, ⟨_, _, rfl⟩, hs2, by omega, hB2, by omega⟩
  case round =>
    obtain ⟨xss, cs, us, fs, m, tt, rfl, hm, HT, HV, hs, htt, hB, hz⟩ := hrel
    clear o2 hB2 hs2
    by_cases h0 : 0 < m
    · have h0' : (0 : Int) < m := by omega
      obtain ⟨g, c, rfl⟩ := HV.out
      go_wp2_with fail
      refine (l5Table_any w.heap.size wr w.heap.size a cs0.length cap tt hs (by omega)).mono ?_
      rintro e w3 ⟨v, F, ys, t3, rfl, o3, hl, hS, hs3, ht3, m3⟩
      obtain ⟨av, cv, rfl⟩ := rows_form (rowsR.ofO o3)
      have z3 := m3.size
      have hB3 : Below w.heap.size w w3 := m3.below hB (by omega) (fun b hb => by omega)
      have P3 := HT.out.po.mod m3 (fun b hb e => by have := (HT.out.po.row.lt b hb).1; omega) (fun i hi b hb e => by have := (rowsR.rng (HT.out.po.el i hi) b hb).1; omega)
      have SM := HT.out.sm
      have HR : Hid ((∀ i, i < xss.length → ∀ b, fs i b → b < wr.heap.size) ∧ g < wr.heap.size) := ⟨fun i hi b hb => (rowsR.rng (HT.out.po.el i hi) b hb).2, (HT.out.po.row.lt g rfl).2⟩
      clear m3 hs hB HT HV
      have hcl : cs.length = xss.length := by simpa using P3.row.1
      have hpr := P3.row
      have hw : IntKind.i64.wrap ((m : Int) - 1) = (m : Int) - 1 := wrapI _ (by omega) (by omega)
      obtain ⟨n, hn'⟩ : ∃ n, n = xss.length := ⟨_, rfl⟩
      have HN : Hid (xss.length = n) := hn'.symm
      rw [← hn'] at hpr hm ⊢
      clear hn' hcl
      go_wp2_with (at_builtin; refine wpList_append_own_at _ rfl _ _ 53 rfl (w.heap.size + 1) 55 i0 _ 1 24 Try.underlying53 hi hz0 hz1 hz2 rfl (by decide) _ n cs rfl (hpr.alloc _) ⟨w3.heap.size, 0, none⟩ 1 1 [.slice av ys.length cv] rfl rfl ?c1 ?c2 ?c3 ?c4 ?c5 ?_)
      case c1 =>
        intro j u hj
        match j, hj with
        | 0, hj => simp at hj; subst hj; simp [Addr.add, go_sem]
        | j + 1, hj => simp at hj
      case c2 =>
        intro u hu
        rw [List.mem_singleton] at hu
        rw [hu]
        rfl
      case c3 => unfold maxLen; omega
      case c4 => omega
      case c5 => first | omega | (simp; omega)
      intro v5 w5 o5 g5 _ l5
      obtain ⟨g', cap', rfl⟩ := ownsRow_succ o5
      have hbA : Below w.heap.size w (w3.alloc (.cells #[.slice av ys.length cv] 55)) := balloc hB3 _
      have hgw := (hpr.lt g rfl).1
      have hB5 : Below w.heap.size w w5 := hbA.grown g5 hbA.size (fun b hb => by simp [Value.ownBlock] at hb; omega)
      have z5 : w3.heap.size + 1 ≤ w5.heap.size := by
        have := (Mod.of_grown g5).size
        rw [World.size_alloc] at this
        exact this
      have hs5 : Src w.heap.size w5 w.heap.size a cs0.length cap t3 := (hs3.below (balloc (Below.refl _ _) _)).mod (Mod.of_grown g5) (fun b hb => by simp [Value.ownBlock] at hb; omega)
      have HT5 : Hid (TbSt w5 (w.heap.size + 1) (.slice (some ⟨g', 0, none⟩) (n + 1) cap') (xss ++ [ys]) (cs ++ [.slice av ys.length cv]) (upd us n (.slice av ys.length cv)) (upd fs n F)) := by
        have hap : ∀ i, i < n → (xss ++ [ys]).getD i default = xss.getD i default := fun i hi => by
          have h1 : i < xss.length := by rw [HN.out]; exact hi
          simp [List.getD, List.getElem?_append_left h1]
        have hat : (xss ++ [ys]).getD n default = ys := by
          have h1 : n = xss.length := HN.out.symm
          simp [List.getD, h1]
        have hln : (xss ++ [ys]).length = n + 1 := by rw [List.length_append, HN.out]; rfl
        refine ⟨?_, ?_⟩
        · rw [hln]
          have P4 : PO rowsR 55 1 one (w3.alloc (.cells #[.slice av ys.length cv] 55)) (w.heap.size + 1) (.slice (some ⟨g, 0, none⟩) n c) n n (fun i => (xss ++ [ys]).getD i default) cs us fs := by
            have P3' := P3
            rw [HN.out] at P3'
            exact (P3'.keep (balloc (Below.refl _ _) _)).cast hap
          have hFb : ∀ b, F b → wr.heap.size ≤ b := fun b hb => (rowsR.rng o3 b hb).1
          refine PO.snoc2 P4 ?_ (fun i hi b hb hf => ?_) (fun b hb e => ?_) o5 g5 (by rw [World.size_alloc]; exact l5)
          · rw [hat]
            exact rowsR.base (rowsR.alloc o3 _) hz
          · have h1 := HR.out.1 i (by rw [HN.out]; exact hi) b hb
            have h2 := hFb b hf
            omega
          · have h1 := HR.out.2
            have h2 := hFb b hb
            simp [Value.ownBlock] at e
            omega
        · intro i hi
          rw [hln] at hi
          by_cases hin : i < n
          · rw [hap i hin]
            exact SM i (by rw [HN.out]; exact hin)
          · have : i = n := by omega
            rw [this, hat]
            exact ⟨hS, hl⟩
      have hln : (xss ++ [ys]).length = n + 1 := by rw [List.length_append, HN.out]; rfl
      have HV5 : Hid (∃ g c, Value.slice (some ⟨g', 0, none⟩) (n + 1) cap' = .slice (some ⟨g, 0, none⟩) (xss ++ [ys]).length c) := ⟨g', cap', by rw [hln]⟩
      have HLN : Hid ((xss ++ [ys]).length = n + 1) := hln
      clear o5 g5 P3 o3 l5 hpr SM hS hln hs3 hB3 hbA
      go_wp2
      exact ⟨⟨xss ++ [ys], _, _, _, m - 1, t3, by rw [show ((m - 1 : Nat) : Int) = (m : Int) - 1 by omega], by rw [HLN.out]; omega, HT5, HV5, hs5, by omega, hB5, by omega⟩, by simp [intOf]; omega⟩
    · have hm0 : m = 0 := by omega
      subst hm0
      obtain ⟨g, c, rfl⟩ := HV.out
      have hV : rowssR.V wr (.slice (some ⟨g, 0, none⟩) xss.length c) xss := rowssR.ofO (base := w.heap.size + 1) ⟨cs, us, fs, HT.out.po, fun b => Iff.rfl⟩
      have HVV : Hid (rowssR.V wr (.slice (some ⟨g, 0, none⟩) xss.length c) xss) := hV
      clear hV
      go_wp2
      go_ret
      exact ⟨_, xss, rfl, HVV.out, by omega, HT.out.sm, hB⟩
end Go.Proofs.Yteebglgbeijolaa

/-
  MergeTables: what is answered; the specification's side.
-/
namespace Go.Proofs.Yteebglgbeijolaa
open Go.RowKit
set_option linter.unusedSectionVars false
variable [DecidableEq Rw] [Inhabited Rw] [DecidableEq TabR] [Inhabited TabR]
set_option linter.unusedVariables false
set_option linter.unusedSimpArgs false
attribute [local go_sem ↓] Go.wp_at_zero Go.wp_at_succ

theorem find_first : ∀ {l : List Int} {k : Nat}, k < l.length → (∀ j, j < k → l.getD j 0 = 0) → l.getD k 0 ≠ 0 → (l.find? (fun c => decide (c ≠ 0))).getD 0 = l.getD k 0
  | [], _, h, _, _ => by simp at h
  | x :: l, 0, _, _, hc => by
    have hx : x ≠ 0 := by simpa using hc
    rw [List.find?_cons_of_pos (by simpa using hx)]
    simp
  | x :: l, k + 1, hk, h, hc => by
    have hx : x = 0 := by simpa using h 0 (by omega)
    rw [List.find?_cons_of_neg (by simp [hx])]
    rw [find_first (l := l) (k := k) (by simpa using hk) (fun j hj => by simpa using h (j + 1) (by omega)) (by simpa using hc)]
    simp
theorem find_none : ∀ {l : List Int}, (∀ j, j < l.length → l.getD j 0 = 0) → (l.find? (fun c => decide (c ≠ 0))).getD 0 = 0
  | [], _ => rfl
  | x :: l, h => by
    have hx : x = 0 := by simpa using h 0 (by simp)
    rw [List.find?_cons_of_neg (by simp [hx])]
    exact find_none (fun j hj => by simpa using h (j + 1) (by simpa using hj))
def firstF (xss : List (List Rw)) : Int := ((xss.map tabF).find? (fun c => decide (c ≠ 0))).getD 0
theorem getD_tabF (xss : List (List Rw)) {j : Nat} (hj : j < xss.length) : (xss.map tabF).getD j 0 = tabF (xss.getD j default) := by simp [List.getD, hj]
theorem firstF_at {xss : List (List Rw)} {k : Nat} (hk : k < xss.length) (h : ∀ j, j < k → tabF (xss.getD j default) = 0) (hc : tabF (xss.getD k default) ≠ 0) : firstF xss = tabF (xss.getD k default) := by
  unfold firstF
  rw [find_first (k := k) (by simpa using hk) (fun j hj => by rw [getD_tabF xss (by omega)]; exact h j hj) (by rw [getD_tabF xss hk]; exact hc), getD_tabF xss hk]
theorem firstF_none {xss : List (List Rw)} (h : ∀ j, j < xss.length → tabF (xss.getD j default) = 0) : firstF xss = 0 :=
  find_none (fun j hj => by rw [List.length_map] at hj; rw [getD_tabF xss hj]; exact h j hj)
def mergeL (xss : List (List Rw)) : List Rw := putsL [] (flatTo (fun i => xss.getD i default) xss.length)
def mergeD (xss : List (List Rw)) : TabR :=
  if 8 < xss.length then ⟨2, []⟩ else if firstF xss ≠ 0 then ⟨firstF xss, []⟩ else if 200 < (mergeL xss).length then ⟨2, []⟩ else ⟨0, mergeL xss⟩
theorem flatTo_len {f : Nat → List Rw} {M : Nat} : ∀ {n : Nat}, (∀ i, i < n → (f i).length ≤ M) → (flatTo f n).length ≤ n * M
  | 0, _ => by simp [flatTo]
  | n + 1, h => by
    have ih := flatTo_len (n := n) (fun i hi => h i (by omega))
    have h1 := h n (by omega)
    have e : flatTo f (n + 1) = flatTo f n ++ f n := rfl
    rw [e, List.length_append, Nat.succ_mul]
    omega
theorem mem_flatTo {f : Nat → List Rw} {x : Rw} : ∀ {n : Nat}, x ∈ flatTo f n → ∃ i, i < n ∧ x ∈ f i
  | 0, h => by simp [flatTo] at h
  | n + 1, h => by
    have e : flatTo f (n + 1) = flatTo f n ++ f n := rfl
    rw [e] at h
    rcases List.mem_append.1 h with h | h
    · obtain ⟨i, hi, hx⟩ := mem_flatTo h
      exact ⟨i, by omega, hx⟩
    · exact ⟨n, by omega, h⟩
theorem mergeL_fit {xss : List (List Rw)} (h : ∀ i, i < xss.length → Fit (xss.getD i default)) : Fit (mergeL xss) := by
  rw [fit_mem]
  intro x hx
  rcases mem_putsL hx with hx | hx
  · simp at hx
  · obtain ⟨i, hi, hx⟩ := mem_flatTo hx
    exact fit_mem.1 (h i hi) x hx
theorem tab_small {xs : List Rw} (h : tabF xs = 0) : ∀ x ∈ xs, rowFault x = 0 := by
  intro x hx
  obtain ⟨i, hi, rfl⟩ := List.mem_iff_getElem.1 hx
  have := (tabAt_zero ((tabF_all h).2 i hi)).1
  simpa [List.getD, hi] using this
theorem firstF_zero {xss : List (List Rw)} (h : firstF xss = 0) : ∀ j, j < xss.length → tabF (xss.getD j default) = 0 := by
  intro j
  induction j using Nat.strongRecOn with
  | _ j ih =>
    intro hj
    by_cases hc : tabF (xss.getD j default) = 0
    · exact hc
    · have := firstF_at hj (fun i hi => ih i hi (by omega)) hc
      omega
theorem mergeL_small {xss : List (List Rw)} (h : ∀ j, j < xss.length → tabF (xss.getD j default) = 0) : ∀ x ∈ mergeL xss, rowFault x = 0 := by
  intro x hx
  rcases mem_putsL hx with hx | hx
  · simp at hx
  · obtain ⟨i, hi, hx⟩ := mem_flatTo hx
    exact tab_small (h i hi) x hx
set_option maxRecDepth 20000 in
set_option maxHeartbeats 4000000 in
theorem specMerge_u (x : Value) (xss : List (List Rw)) (w : World) (hx : rowssR.V w x xss) :
    Calls Try.prog 28 #[x] w fun e w' => ∃ v F, e = .returned v ∧ tabRR.O w' w.heap.size F v (mergeD xss) ∧ Below w.heap.size w w' := by
  have HX : Hid (rowssR.V w x xss) := hx
  obtain ⟨ax, cx, rfl, hcx, hmx, hx⟩ := hx
  unfold maxLen at hmx
  have HN : Hid (Fit (mergeL xss)) := mergeL_fit (fun i hi => by
    obtain ⟨_, _, _, _, _, _, h⟩ := hx i hi
    exact h.2)
  have HD8 : Hid (8 < xss.length → mergeD xss = ⟨2, []⟩) := fun h => by unfold mergeD; rw [if_pos h]
  have HDF : Hid (¬ 8 < xss.length → ∀ k, k < xss.length → (∀ j, j < k → tabF (xss.getD j default) = 0) → tabF (xss.getD k default) ≠ 0 → mergeD xss = ⟨tabF (xss.getD k default), []⟩) := fun h k hk h1 h2 => by
    have e := firstF_at hk h1 h2
    unfold mergeD
    rw [if_neg h, if_pos (by rw [e]; exact h2), e]
  have HDM : Hid (¬ 8 < xss.length → (∀ j, j < xss.length → tabF (xss.getD j default) = 0) → mergeD xss = if 200 < (mergeL xss).length then ⟨2, []⟩ else ⟨0, mergeL xss⟩) := fun h h1 => by
    have e := firstF_none h1
    unfold mergeD
    rw [if_neg h, if_neg (by rw [e]; simp)]
  have HTL : Hid (¬ 8 < xss.length → (∀ j, j < xss.length → tabF (xss.getD j default) = 0) → (flatTo (fun i => xss.getD i default) xss.length).length ≤ 1000000) := fun h h1 => by
    have h2 := flatTo_len (f := fun i => xss.getD i default) (M := 200) (n := xss.length) (fun i hi => (tabF_all (h1 i hi)).1)
    omega
  obtain ⟨D, hD⟩ : ∃ D, mergeD xss = D := ⟨_, rfl⟩
  rw [hD] at HD8 HDF HDM ⊢
  clear hD
  generalize hN : xss.length = n at *
  have HNN : Hid (xss.length = n) := hN
  clear hN
  by_cases h8 : 8 < n
  · have hi8 : decide ((8 : Int) < n) = true := decide_eq_true (by omega)
    have hi9 : (8 : Int) < n := by omega
    have E := HD8.out h8
    subst E
    go_enter Try.func28, Try.ntmps28
    go_wp2
    refine bodyPost_ret (v := .agg #[.int .i64 2, .slice none 0 0]) (by simp [results, Try.results28, go_sem]) rfl ?_
    obtain ⟨F, hF⟩ := tabRR_nil (w.alloc (.cells #[.int .i64 2, .slice none 0 0] 57)) w.heap.size 2
    exact ⟨_, rfl, ⟨F, hF⟩, by (repeat (first | exact Below.refl _ _ | assumption | refine Below.drew ?_ | refine balloc ?_ _ | refine bset ?_ (by simp; omega) _ | refine bset ?_ (by simp) _ | refine bstep ?_ (by assumption)))⟩
  · have hi8 : decide ((8 : Int) < n) = false := decide_eq_false (by omega)
    have hi9 : ¬ ((8 : Int) < n) := by omega
    have HDF2 := HDF.out h8
    have HDF : Hid (∀ k, k < n → (∀ j, j < k → tabF (xss.getD j default) = 0) → tabF (xss.getD k default) ≠ 0 → D = ⟨tabF (xss.getD k default), []⟩) := HDF2
    clear HDF2
    go_enter Try.func28, Try.ntmps28
    go_wp2
    go_loopw [3] (fun i W => ∃ k : Nat, k ≤ n ∧ i = .int .i64 k ∧ Hid (∀ j, j < k → tabF (xss.getD j default) = 0) ∧ W.cell? ⟨w.heap.size, 0, none⟩ = some (.int .i64 0) ∧ W.cell? ⟨w.heap.size, 1, none⟩ = some (.slice none 0 0) ∧ (∀ o, W.frozen? ⟨w.heap.size, o, none⟩ = false) ∧ w.heap.size < W.heap.size ∧ Below w.heap.size w W) (fun i _ => n - (intOf i).toNat)
    case atStart => exact ⟨0, Nat.zero_le _, rfl, fun j h => absurd h (Nat.not_lt_zero _), by simp [go_sem], by simp [go_sem], fun o => by simp [go_sem], by simp, balloc (Below.refl _ _) _⟩
    case round =>
      obtain ⟨k, hk, rfl, HZ, b0, b1, bf, bz, hbl⟩ := hrel
      have hi4 : (0 : Int) ≤ k := by omega
      by_cases hlt : k < n
      · obtain ⟨b, o, u, rfl, _, hc, hu⟩ := hx k hlt
        have g0 : wr.cell? ⟨b, o + k, none⟩ = some u := cell_keep hbl (cells1 hc)
        have hX := RowsV_below hu.1 hbl
        have hi5 : (k : Int) < n := by omega
        clear hc hu hx
        have hXf := hX
        obtain ⟨au, cu, rfl, _⟩ := hXf
        have hC := specTableFault_any _ (xss.getD k default) wr hX
        obtain ⟨m, hm⟩ : ∃ m, (xss.getD k default).length = m := ⟨_, rfl⟩
        rw [hm] at hC g0
        clear hm hX
        obtain ⟨T, hT⟩ : ∃ T, tabF (xss.getD k default) = T := ⟨_, rfl⟩
        have HT : Hid (tabF (xss.getD k default) = T) := hT
        rw [hT] at hC
        clear hT
        go_wp2_with fail
        refine hC.mono ?_
        rintro e w1 ⟨rfl, hb1⟩
        have hB1 := bstep hbl hb1
        have q0 := cell_keep hb1 b0
        have q1 := cell_keep hb1 b1
        have qf := boxKeep ⟨bf, bz⟩ hb1
        clear hC
        by_cases h0 : T = 0
        · subst h0
          go_wp2
          refine ⟨⟨k + 1, by omega, by go_num, fun j hj => ?_, q0, q1, qf.1, qf.2, hB1⟩, by simp [intOf]; omega⟩
          by_cases h : j < k
          · exact HZ.out j h
          · have : j = k := by omega
            subst this
            exact HT.out
        · have h0' : (T == 0) = false := by rw [beq_eq_false_iff_ne]; exact h0
          have E := HDF.out k hlt HZ.out (by rw [HT.out]; exact h0)
          rw [HT.out] at E
          have HE : Hid (D = ⟨T, []⟩) := E
          clear E
          have qf1 := qf.1
          go_wp2
          refine bodyPost_ret (v := .agg #[.int .i64 T, .slice none 0 0]) (by simp [results, Try.results28, go_sem, q0, q1]) rfl ?_
          obtain ⟨F, hF⟩ := tabRR_nil ((w1.setCell ⟨w.heap.size, 0, none⟩ (.int .i64 T)).setCell ⟨w.heap.size, 1, none⟩ (.slice none 0 0)) w.heap.size T
          rw [HE.out]
          first | exact ⟨_, F, rfl, hF, by (repeat (first | exact Below.refl _ _ | assumption | refine Below.drew ?_ | refine balloc ?_ _ | refine bset ?_ (by simp; omega) _ | refine bset ?_ (by simp) _ | refine bstep ?_ (by assumption)))⟩ | exact ⟨_, rfl, ⟨F, hF⟩, by (repeat (first | exact Below.refl _ _ | assumption | refine Below.drew ?_ | refine balloc ?_ _ | refine bset ?_ (by simp; omega) _ | refine bset ?_ (by simp) _ | refine bstep ?_ (by assumption)))⟩
      · obtain rfl : k = n := by omega
        have hi5 : ¬ ((k : Int) < k) := by omega
        have HE := HDM.out h8 (fun j hj => HZ.out j hj)
        have hTL := HTL.out h8 (fun j hj => HZ.out j hj)
        have hC := l5Merge_any (.slice ax k cx) xss wr (rowssR.below HX.out hbl) (by rw [HNN.out]; exact hTL)
        have hM : putsL [] (flatTo (fun i => xss.getD i default) xss.length) = mergeL xss := rfl
        rw [hM] at hC
        have HE2 : Hid (D = if 200 < (mergeL xss).length then ⟨2, []⟩ else ⟨0, mergeL xss⟩) := HE
        clear HE hTL hM
        generalize mergeL xss = ys at *
        obtain ⟨L, hL⟩ : ∃ L, ys.length = L := ⟨_, rfl⟩
        rw [hL] at HE2
        go_wp2_with fail
        refine hC.mono ?_
        rintro e w1 ⟨v, rfl, ⟨⟨g, c, rfl⟩, ho⟩, hb1⟩
        rw [hL] at ho ⊢
        have HL : Hid (ys.length = L) := hL
        clear hL hC
        have hB1 := bstep hbl hb1
        have q0 := cell_keep hb1 b0
        have q1 := cell_keep hb1 b1
        have qf := boxKeep ⟨bf, bz⟩ hb1
        have qf1 := qf.1
        have hbz := hbl.size
        have hLm : L ≤ 9223372036854775807 := by
          rcases ho.2 with ⟨_, h⟩ | ⟨_, cap, _, _, _, _, h1, h2, _⟩
          · omega
          · unfold maxLen at h2; omega
        by_cases h2 : 200 < L
        · have hi7 : (200 : Int) < L := by omega
          have HE : Hid (D = ⟨2, []⟩) := by rw [Hid, HE2.out, if_pos h2]
          go_wp2
          refine bodyPost_ret (v := .agg #[.int .i64 2, .slice none 0 0]) (by simp [results, Try.results28, go_sem, q0, q1]) rfl ?_
          obtain ⟨F, hF⟩ := tabRR_nil ((w1.setCell ⟨w.heap.size, 0, none⟩ (.int .i64 2)).setCell ⟨w.heap.size, 1, none⟩ (.slice none 0 0)) w.heap.size 2
          rw [HE.out]
          first | exact ⟨_, F, rfl, hF, by (repeat (first | exact Below.refl _ _ | assumption | refine Below.drew ?_ | refine balloc ?_ _ | refine bset ?_ (by simp; omega) _ | refine bset ?_ (by simp) _ | refine bstep ?_ (by assumption)))⟩ | exact ⟨_, rfl, ⟨F, hF⟩, by (repeat (first | exact Below.refl _ _ | assumption | refine Below.drew ?_ | refine balloc ?_ _ | refine bset ?_ (by simp; omega) _ | refine bset ?_ (by simp) _ | refine bstep ?_ (by assumption)))⟩
        · have hi7 : ¬ ((200 : Int) < L) := by omega
          have HE : Hid (D = ⟨0, ys⟩) := by rw [Hid, HE2.out, if_neg h2]
          go_wp2
          refine bodyPost_ret (v := .agg #[.int .i64 0, .slice (some ⟨g, 0, none⟩) L c]) (by simp [results, Try.results28, go_sem, q0, q1]) rfl ?_
          have hg : w.heap.size < g := by have := (ho.lt g rfl).1; omega
          have ho2 : ((w1.setCell ⟨w.heap.size, 0, none⟩ (.int .i64 0)).setCell ⟨w.heap.size, 1, none⟩ (.slice (some ⟨g, 0, none⟩) L c)).ownsRow w.heap.size 61 4 (.slice (some ⟨g, 0, none⟩) ys.length c) ys.length (rwsC ys) := by
            rw [HL.out]
            exact owns_base (owns_setCell (owns_setCell ho (by dsimp only; omega) _) (by dsimp only; omega) _) (by omega)
          obtain ⟨F, hF⟩ := tabRR_of (c := 0) ho2 HN.out
          rw [HL.out] at hF
          rw [HE.out]
          first | exact ⟨_, F, rfl, hF, by (repeat (first | exact Below.refl _ _ | assumption | refine Below.drew ?_ | refine balloc ?_ _ | refine bset ?_ (by simp; omega) _ | refine bset ?_ (by simp) _ | refine bstep ?_ (by assumption)))⟩ | exact ⟨_, rfl, ⟨F, hF⟩, by (repeat (first | exact Below.refl _ _ | assumption | refine Below.drew ?_ | refine balloc ?_ _ | refine bset ?_ (by simp; omega) _ | refine bset ?_ (by simp) _ | refine bstep ?_ (by assumption)))⟩
end Go.Proofs.Yteebglgbeijolaa

