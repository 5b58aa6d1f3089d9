/-
  A row drawn with something turned.
-/
import Derived.Test.YtaahmmadcdfcpaaDtb
import Derived.Test.YtaahmmadcdfcpaaRegN
namespace Go.Proofs.Ytaahmmadcdfcpaa
open Go.RowKit
set_option linter.unusedSectionVars false
variable [DecidableEq Logg] [Inhabited Logg] [DecidableEq LoggR] [Inhabited LoggR] [DecidableEq BytesR] [Inhabited BytesR] [DecidableEq RecsR] [Inhabited RecsR] [DecidableEq Leg] [Inhabited Leg] [DecidableEq Rw] [Inhabited Rw] [DecidableEq TabR] [Inhabited TabR]
set_option linter.unusedVariables false
set_option linter.unusedSimpArgs false
attribute [local go_sem ↓] Go.wp_at_zero Go.wp_at_succ

/-- a row's box -/
structure Box4 (W : World) (p : Nat) (v0 v1 v2 v3 : Value) : Prop where
  c0 : W.cell? ⟨p, 0, none⟩ = some v0
  c1 : W.cell? ⟨p, 1, none⟩ = some v1
  c2 : W.cell? ⟨p, 2, none⟩ = some v2
  c3 : W.cell? ⟨p, 3, none⟩ = some v3
  fr : ∀ o, W.frozen? ⟨p, o, none⟩ = false
  lt : p < W.heap.size
theorem Box4.mod {F : Nat → Prop} {W W' : World} {p : Nat} {v0 v1 v2 v3 : Value} (h : Box4 W p v0 v1 v2 v3) (hm : Mod F W W') (hp : ¬ F p) : Box4 W' p v0 v1 v2 v3 :=
  ⟨hm.cell h.c0 hp, hm.cell h.c1 hp, hm.cell h.c2 hp, hm.cell h.c3 hp, fun o => (hm.frozenAt (a := ⟨p, o, none⟩) h.lt hp).trans (h.fr o), Nat.lt_of_lt_of_le h.lt hm.size⟩
theorem Box4.below {W W' : World} {p : Nat} {v0 v1 v2 v3 : Value} (h : Box4 W p v0 v1 v2 v3) (hb : Below W.heap.size W W') : Box4 W' p v0 v1 v2 v3 :=
  h.mod (F := fun _ => False) (Mod.of_below hb) (fun e => e)
theorem Box4.set0 {W : World} {p : Nat} {v0 v1 v2 v3 : Value} (h : Box4 W p v0 v1 v2 v3) (v : Value) : Box4 (W.setCell ⟨p, 0, none⟩ v) p v v1 v2 v3 :=
  ⟨set_same h.c0, by rw [set_other (by simp)]; exact h.c1, by rw [set_other (by simp)]; exact h.c2, by rw [set_other (by simp)]; exact h.c3, fun o => by rw [World.frozen?_setCell]; exact h.fr o, by simpa using h.lt⟩
theorem Box4.set1 {W : World} {p : Nat} {v0 v1 v2 v3 : Value} (h : Box4 W p v0 v1 v2 v3) (v : Value) : Box4 (W.setCell ⟨p, 1, none⟩ v) p v0 v v2 v3 :=
  ⟨by rw [set_other (by simp)]; exact h.c0, set_same h.c1, by rw [set_other (by simp)]; exact h.c2, by rw [set_other (by simp)]; exact h.c3, fun o => by rw [World.frozen?_setCell]; exact h.fr o, by simpa using h.lt⟩
theorem Box4.set2 {W : World} {p : Nat} {v0 v1 v2 v3 : Value} (h : Box4 W p v0 v1 v2 v3) (v : Value) : Box4 (W.setCell ⟨p, 2, none⟩ v) p v0 v1 v v3 :=
  ⟨by rw [set_other (by simp)]; exact h.c0, by rw [set_other (by simp)]; exact h.c1, set_same h.c2, by rw [set_other (by simp)]; exact h.c3, fun o => by rw [World.frozen?_setCell]; exact h.fr o, by simpa using h.lt⟩
def strLen (o : Option Value) : Nat := match o with
  | some (.string s) => s.size
  | _ => 0

set_option maxHeartbeats 8000000 in
theorem l5Bent_any (B : Nat) (w : World) (bs : Nat) (a : Option Addr) (k cap t : Nat) (h : Src B w bs a k cap t) (ht : t ≤ 80000) :
    Calls Try.prog 67 #[.pointer (some ⟨bs, 0, none⟩)] w fun e w' => ∃ (r : Rw) (t' : Nat), e = .returned (rowV r) ∧ r.key.size ≤ 100 ∧ r.val.size ≤ 200 ∧ Src B w' bs a k cap t' ∧ t' ≤ t + 200 ∧ Mod (fun b => b = bs) w w' := by
  have hlt := h.lt
  have hne : w.heap.size ≠ bs := by omega
  unfold rowV
  go_enter Try.func67, Try.ntmps67
  go_wp2_with fail
  refine (l5Row_any B _ bs a k cap t (h.below (by (repeat (first | exact Below.refl _ _ | assumption | refine Below.drew ?_ | refine balloc ?_ _ | refine bset ?_ (by simp; omega) _ | refine bset ?_ (by simp) _ | refine bstep ?_ (by assumption))))) (by omega)).mono ?_
  rintro e w1 ⟨⟨k1, v1, x1, g1⟩, rfl, hs1, hs2, h1, m1⟩
  dsimp only at hs1 hs2
  have R : Box4 w1 w.heap.size (.string ⟨#[]⟩) (.int .i64 0) (.string ⟨#[]⟩) (.bool false) := ⟨m1.cell (by simp [go_sem]) hne, m1.cell (by simp [go_sem]) hne, m1.cell (by simp [go_sem]) hne, m1.cell (by simp [go_sem]) hne, fun o => (m1.frozen (a := ⟨w.heap.size, o, none⟩) (by simp) hne).trans (by simp [go_sem]), by have := m1.size; simp at this; omega⟩
  have M1 : Mod (fun b => b = bs) w w1 := (Mod.of_below (balloc (Below.refl _ _) _)).trans m1
  have z1 : w.heap.size < w1.heap.size := R.lt
  have hne1 : w1.heap.size ≠ bs := by omega
  clear m1 h
  unfold rowV
  go_wp2_with fail
  refine (l1Next_any B _ bs a k cap (t + 4) 12 (h1.below (by (repeat (first | exact Below.refl _ _ | assumption | refine Below.drew ?_ | refine balloc ?_ _ | refine bset ?_ (by simp; omega) _ | refine bset ?_ (by simp) _ | refine bstep ?_ (by assumption))))) (by omega) (by omega) (by omega)).mono ?_
  rintro e w2 ⟨n2, rfl, hn2, h2, m2⟩
  have X : Box4 w2 w1.heap.size (.string k1) (.int .i64 v1) (.string x1) (.bool g1) := ⟨m2.cell (by simp [go_sem]) hne1, m2.cell (by simp [go_sem]) hne1, m2.cell (by simp [go_sem]) hne1, m2.cell (by simp [go_sem]) hne1, fun o => (m2.frozen (a := ⟨w1.heap.size, o, none⟩) (by simp) hne1).trans (by simp [go_sem]), by have := m2.size; simp at this; omega⟩
  replace R := (R.below (by (repeat (first | exact Below.refl _ _ | assumption | refine Below.drew ?_ | refine balloc ?_ _ | refine bset ?_ (by simp; omega) _ | refine bset ?_ (by simp) _ | refine bstep ?_ (by assumption))))).mod m2 hne
  have M2 : Mod (fun b => b = bs) w w2 := (M1.transB (by (repeat (first | exact Below.refl _ _ | assumption | refine Below.drew ?_ | refine balloc ?_ _ | refine bset ?_ (by simp; omega) _ | refine bset ?_ (by simp) _ | refine bstep ?_ (by assumption))))).trans m2
  have z2 : w1.heap.size < w2.heap.size := X.lt
  clear m2 h1 M1
  have hne2 : w2.heap.size ≠ bs := by omega
  have hnx : w.heap.size ≠ w1.heap.size := by omega
  have hwn : (0 : Int) ≤ n2 := by omega
  by_cases c0 : n2 = 0
  · subst c0
    go_wp2_with fail
    refine (l1Next_any B _ bs a k cap (t + 5) 3 (h2.below (by (repeat (first | exact Below.refl _ _ | assumption | refine Below.drew ?_ | refine balloc ?_ _ | refine bset ?_ (by simp; omega) _ | refine bset ?_ (by simp) _ | refine bstep ?_ (by assumption))))) (by omega) (by omega) (by omega)).mono ?_
    rintro e w3 ⟨n3, rfl, hn3, h3, m3⟩
    have q0 : w3.cell? ⟨w2.heap.size, 0, none⟩ = some (.string ⟨#[]⟩) := m3.cell (by simp [go_sem]) hne2
    have q1 : w3.cell? ⟨w2.heap.size, 1, none⟩ = some (.string ⟨#[97, 98, 99, 100, 101, 102, 103, 104, 105, 106, 107, 108, 109, 110, 111, 112, 113, 114, 115, 116]⟩) := m3.cell (by simp [go_sem]) hne2
    have q2 : w3.cell? ⟨w2.heap.size, 2, none⟩ = some (.string ⟨#[97, 98, 99, 100, 101, 102, 103, 104, 105, 106, 107, 108, 109, 110, 111, 112, 113, 114, 115, 116, 117]⟩) := m3.cell (by simp [go_sem]) hne2
    have hr3 : n3 < 3 := by omega
    obtain ⟨s, hsc, hss⟩ : ∃ s : ByteArray, w3.cell? ⟨w2.heap.size, n3, none⟩ = some (.string s) ∧ s.size ≤ 21 := by
      match n3, hr3 with
      | 0, _ => exact ⟨_, q0, by decide⟩
      | 1, _ => exact ⟨_, q1, by decide⟩
      | 2, _ => exact ⟨_, q2, by decide⟩
    have hi1 : (0 : Int) ≤ (n3 : Int) := by omega
    obtain ⟨x0, x1', x2, x3, xf, xl⟩ := (X.below (by (repeat (first | exact Below.refl _ _ | assumption | refine Below.drew ?_ | refine balloc ?_ _ | refine bset ?_ (by simp; omega) _ | refine bset ?_ (by simp) _ | refine bstep ?_ (by assumption))))).mod m3 hne1
    obtain ⟨r0, r1, r2, r3, rf, rl⟩ := (R.below (by (repeat (first | exact Below.refl _ _ | assumption | refine Below.drew ?_ | refine balloc ?_ _ | refine bset ?_ (by simp; omega) _ | refine bset ?_ (by simp) _ | refine bstep ?_ (by assumption))))).mod m3 hne
    have M3 : Mod (fun b => b = bs) w w3 := (M2.transB (by (repeat (first | exact Below.refl _ _ | assumption | refine Below.drew ?_ | refine balloc ?_ _ | refine bset ?_ (by simp; omega) _ | refine bset ?_ (by simp) _ | refine bstep ?_ (by assumption))))).trans m3
    clear m3 h2 M2 q0 q1 q2 X R
    go_wp2
    refine bodyPost_ret (v := .agg #[.string s, .int .i64 v1, .string x1, .bool g1]) (by simp [results, Try.results67, go_sem, r0, r1, r2, r3, rf, x0, x1', x2, x3, xf, hnx, Ne.symm hnx]) rfl ⟨⟨s, v1, x1, g1⟩, t + 6, rfl, by dsimp only; omega, by dsimp only; omega, ?_, by omega, ?_⟩
    · exact h3.mod (F := fun b => b = w1.heap.size ∨ b = w.heap.size) (by repeat (first | exact Mod.refl _ _ | refine msetT ?_ _ _ (by first | exact .inl rfl | exact .inr rfl))) (fun b e => by omega)
    · exact M3.trans2 (G := fun b => b = w1.heap.size ∨ b = w.heap.size) (by repeat (first | exact Mod.refl _ _ | refine msetT ?_ _ _ (by first | exact .inl rfl | exact .inr rfl))) (fun b e hb => by omega)
  by_cases c1 : n2 = 1
  · subst c1
    go_wp2_with fail
    refine (l1Pick_any B _ bs a k cap (t + 5) w2.heap.size 4 [0, -1, 1000000, 1000001] (h2.below (by (repeat (first | exact Below.refl _ _ | assumption | refine Below.drew ?_ | refine balloc ?_ _ | refine bset ?_ (by simp; omega) _ | refine bset ?_ (by simp) _ | refine bstep ?_ (by assumption))))) (by omega) (by omega) (by simp) (by simp) ?_).mono ?_
    · intro i hi
      match i, hi with
      | 0, _ => simp [go_sem]
      | 1, _ => simp [go_sem]
      | 2, _ => simp [go_sem]
      | 3, _ => simp [go_sem]
    rintro e w3 ⟨q, rfl, hq, h3, m3⟩
    obtain ⟨x0, x1', x2, x3, xf, xl⟩ := (X.below (by (repeat (first | exact Below.refl _ _ | assumption | refine Below.drew ?_ | refine balloc ?_ _ | refine bset ?_ (by simp; omega) _ | refine bset ?_ (by simp) _ | refine bstep ?_ (by assumption))))).mod m3 hne1
    obtain ⟨r0, r1, r2, r3, rf, rl⟩ := (R.below (by (repeat (first | exact Below.refl _ _ | assumption | refine Below.drew ?_ | refine balloc ?_ _ | refine bset ?_ (by simp; omega) _ | refine bset ?_ (by simp) _ | refine bstep ?_ (by assumption))))).mod m3 hne
    have M3 : Mod (fun b => b = bs) w w3 := (M2.transB (by (repeat (first | exact Below.refl _ _ | assumption | refine Below.drew ?_ | refine balloc ?_ _ | refine bset ?_ (by simp; omega) _ | refine bset ?_ (by simp) _ | refine bstep ?_ (by assumption))))).trans m3
    clear m3 h2 M2 X R
    go_wp2
    refine bodyPost_ret (v := .agg #[.string k1, .int .i64 q, .string x1, .bool g1]) (by simp [results, Try.results67, go_sem, r0, r1, r2, r3, rf, x0, x1', x2, x3, xf, hnx, Ne.symm hnx]) rfl ⟨⟨k1, q, x1, g1⟩, t + 6, rfl, by dsimp only; omega, by dsimp only; omega, ?_, by omega, ?_⟩
    · exact h3.mod (F := fun b => b = w1.heap.size ∨ b = w.heap.size) (by repeat (first | exact Mod.refl _ _ | refine msetT ?_ _ _ (by first | exact .inl rfl | exact .inr rfl))) (fun b e => by omega)
    · exact M3.trans2 (G := fun b => b = w1.heap.size ∨ b = w.heap.size) (by repeat (first | exact Mod.refl _ _ | refine msetT ?_ _ _ (by first | exact .inl rfl | exact .inr rfl))) (fun b e hb => by omega)
  have c0' : ¬ ((n2 : Int) = 0) := by omega
  have c1' : ¬ ((n2 : Int) = 1) := by omega
  by_cases c2 : n2 = 2
  · subst c2
    go_wp2
    go_loopw [24] (fun _ W => ∃ (xs : ByteArray) (tt : Nat), xs.size ≤ 102 ∧ Box4 W w1.heap.size (.string k1) (.int .i64 v1) (.string xs) (.bool g1) ∧ Box4 W w.heap.size (.string ⟨#[]⟩) (.int .i64 0) (.string ⟨#[]⟩) (.bool false) ∧ Src B W bs a k cap tt ∧ tt ≤ t + 5 + xs.size ∧ Mod (fun b => b = bs) w W) (fun _ W => 102 - strLen (W.cell? ⟨w1.heap.size, 2, none⟩))
    case atStart => exact ⟨x1, t + 5, by omega, X, R, h2, by omega, M2⟩
    case round =>
      obtain ⟨xs, tt, hxs, Y, Z, hs, htt, hM⟩ := hrel
      obtain ⟨x0, x1', x2, x3, xf, xl⟩ := Y
      obtain ⟨r0, r1, r2, r3, rf, rl⟩ := Z
      go_wp2
      refine wp_region_noPanic ?_
      refine region_upto (fun W => W.cell? ⟨w1.heap.size, 2, none⟩ = some (.string xs)) 7 (by kernel_rfl) (cell_keep (by (repeat (first | exact Below.refl _ _ | assumption | refine Below.drew ?_ | refine balloc ?_ _ | refine bset ?_ (by simp; omega) _ | refine bset ?_ (by simp) _ | refine bstep ?_ (by assumption)))) x2) (fun hS => ?_)
      refine upto_takeN (i := 0) (v := ?_) rfl (by kernel_rfl) (by kernel_rfl) (by kernel_rfl) (by kernel_rfl) (fun _ _ _ h => h) (by rfl) hS ?_ ?_
      rotate_left
      · intro wS hSw
        try dsimp only at hSw
        first | (go_simp; done) | (go_simp; with_reducible rfl)
      try simp only [Act.put, List.getElem_toArray, List.getElem_cons_zero, List.getElem_cons_succ, List.setIfInBounds_toArray, List.set_cons_zero, List.set_cons_succ]
      refine upto_takeN (i := 1) (v := ?_) rfl (by kernel_rfl) (by kernel_rfl) (by kernel_rfl) (by kernel_rfl) (fun _ _ _ h => h) (by rfl) hS ?_ ?_
      rotate_left
      · intro wS hSw
        try dsimp only at hSw
        first | (go_simp; done) | (go_simp; with_reducible rfl)
      try simp only [Act.put, List.getElem_toArray, List.getElem_cons_zero, List.getElem_cons_succ, List.setIfInBounds_toArray, List.set_cons_zero, List.set_cons_succ]
      refine upto_takeN (i := 2) (v := ?_) rfl (by kernel_rfl) (by kernel_rfl) (by kernel_rfl) (by kernel_rfl) (fun _ _ _ h => h) (by rfl) hS ?_ ?_
      rotate_left
      · intro wS hSw
        try dsimp only at hSw
        first | (go_simp; done) | (go_simp; with_reducible rfl)
      try simp only [Act.put, List.getElem_toArray, List.getElem_cons_zero, List.getElem_cons_succ, List.setIfInBounds_toArray, List.set_cons_zero, List.set_cons_succ]
      refine upto_takeN (i := 3) (v := ?_) rfl (by kernel_rfl) (by kernel_rfl) (by kernel_rfl) (by kernel_rfl) (fun _ _ _ h => h) (by rfl) hS ?_ ?_
      rotate_left
      · intro wS hSw
        try dsimp only at hSw
        first | (go_simp; done) | (go_simp; with_reducible rfl)
      try simp only [Act.put, List.getElem_toArray, List.getElem_cons_zero, List.getElem_cons_succ, List.setIfInBounds_toArray, List.set_cons_zero, List.set_cons_succ]
      refine upto_step (i := 4) (by kernel_rfl) rfl ?_
      intro K hK
      go_simp
      refine (l1Next_any B _ bs a k cap tt 2 (hs.below (by (repeat (first | exact Below.refl _ _ | assumption | refine Below.drew ?_ | refine balloc ?_ _ | refine bset ?_ (by simp; omega) _ | refine bset ?_ (by simp) _ | refine bstep ?_ (by assumption))))) (by omega) (by omega) (by omega)).mono ?_
      rintro e w3 ⟨n3, rfl, hn3, h3, m3⟩
      have hS3 : (fun W : World => W.cell? ⟨w1.heap.size, 2, none⟩ = some (.string xs)) w3 := m3.cell hS hne1
      refine hK _ _ (fun _ => hS3) ?_
      clear hK K
      try simp only [Act.put, List.getElem_toArray, List.getElem_cons_zero, List.getElem_cons_succ, List.setIfInBounds_toArray, List.set_cons_zero, List.set_cons_succ]
      have hwr : IntKind.i64.wrap (100 + (n3 : Int)) = 100 + (n3 : Int) := wrapI _ (by omega) (by omega)
      refine upto_takeN (i := 5) (v := ?_) rfl (by kernel_rfl) (by kernel_rfl) (by kernel_rfl) (by kernel_rfl) (fun _ _ _ h => h) (by rfl) hS3 ?_ ?_
      rotate_left
      · intro wS hSw
        try dsimp only at hSw
        first | (go_simp; done) | (go_simp; with_reducible rfl)
      try simp only [Act.put, List.getElem_toArray, List.getElem_cons_zero, List.getElem_cons_succ, List.setIfInBounds_toArray, List.set_cons_zero, List.set_cons_succ]
      have X3 : Box4 w3 w1.heap.size (.string k1) (.int .i64 v1) (.string xs) (.bool g1) := (Box4.below (W := wr) ⟨x0, x1', x2, x3, xf, xl⟩ (by (repeat (first | exact Below.refl _ _ | assumption | refine Below.drew ?_ | refine balloc ?_ _ | refine bset ?_ (by simp; omega) _ | refine bset ?_ (by simp) _ | refine bstep ?_ (by assumption))))).mod m3 hne1
      have R3 : Box4 w3 w.heap.size (.string ⟨#[]⟩) (.int .i64 0) (.string ⟨#[]⟩) (.bool false) := (Box4.below (W := wr) ⟨r0, r1, r2, r3, rf, rl⟩ (by (repeat (first | exact Below.refl _ _ | assumption | refine Below.drew ?_ | refine balloc ?_ _ | refine bset ?_ (by simp; omega) _ | refine bset ?_ (by simp) _ | refine bstep ?_ (by assumption))))).mod m3 hne
      have M3 : Mod (fun b => b = bs) w w3 := (hM.transB (by (repeat (first | exact Below.refl _ _ | assumption | refine Below.drew ?_ | refine balloc ?_ _ | refine bset ?_ (by simp; omega) _ | refine bset ?_ (by simp) _ | refine bstep ?_ (by assumption))))).trans m3
      have HW2 : Hid (wr.cell? ⟨w1.heap.size, 2, none⟩ = some (.string xs)) := x2
      clear m3 hs hM x0 x1' x2 x3 xf xl r0 r1 r2 r3 rf rl hS
      by_cases hlt3 : (xs.size : Int) < 100 + (n3 : Int)
      · skip
        refine upto_takeN (i := 6) (v := (.bool true)) rfl (by kernel_rfl) (by kernel_rfl) (by kernel_rfl) (by kernel_rfl) (fun _ _ _ h => h) (by rfl) hS3 ?_ ?_
        · intro wS hSw
          try dsimp only at hSw
          go_simp
        try simp only [Act.put, List.getElem_toArray, List.getElem_cons_zero, List.getElem_cons_succ, List.setIfInBounds_toArray, List.set_cons_zero, List.set_cons_succ]
        refine upto_done (by kernel_rfl) ?_
        refine NoPanic.normal ?_
        have HX3 : Hid (Box4 w3 w1.heap.size (.string k1) (.int .i64 v1) (.string xs) (.bool g1)) := X3
        obtain ⟨x0, x1', x2, x3, xf, xl⟩ := X3
        go_wp2
        have hz : (xs ++ ⟨#[118]⟩ : ByteArray).size = xs.size + 1 := by rw [ByteArray.size_append]; rfl
        refine ⟨⟨xs ++ ⟨#[118]⟩, tt + 1, by omega, HX3.out.set2 _, R3.mod (Mod.of_set _ _ _) hnx, h3.mod (Mod.of_set _ _ _) (fun b e => by dsimp only at e; omega), by omega, M3.trans2 (Mod.of_set w3 ⟨w1.heap.size, 2, none⟩ _) (fun b e hb => by dsimp only at e; omega)⟩, ?_⟩
        rw [set_same x2, HW2.out]
        show 102 - (xs ++ ⟨#[118]⟩ : ByteArray).size < 102 - xs.size
        omega
      · skip
        refine upto_takeN (i := 6) (v := (.bool false)) rfl (by kernel_rfl) (by kernel_rfl) (by kernel_rfl) (by kernel_rfl) (fun _ _ _ h => h) (by rfl) hS3 ?_ ?_
        · intro wS hSw
          try dsimp only at hSw
          go_simp
        try simp only [Act.put, List.getElem_toArray, List.getElem_cons_zero, List.getElem_cons_succ, List.setIfInBounds_toArray, List.set_cons_zero, List.set_cons_succ]
        refine upto_done (by kernel_rfl) ?_
        refine NoPanic.normal ?_
        obtain ⟨x0, x1', x2, x3, xf, xl⟩ := X3
        obtain ⟨r0, r1, r2, r3, rf, rl⟩ := R3
        go_wp2
        refine bodyPost_ret (v := .agg #[.string k1, .int .i64 v1, .string xs, .bool g1]) (by simp [results, Try.results67, go_sem, r0, r1, r2, r3, rf, x0, x1', x2, x3, xf, hnx, Ne.symm hnx]) rfl ⟨⟨k1, v1, xs, g1⟩, rfl, by dsimp only; omega, by dsimp only; omega, tt + 1, ?_, by omega, ?_⟩
        · exact h3.mod (F := fun b => b = w1.heap.size ∨ b = w.heap.size) (by repeat (first | exact Mod.refl _ _ | refine msetT ?_ _ _ (by first | exact .inl rfl | exact .inr rfl))) (fun b e => by omega)
        · exact M3.trans2 (G := fun b => b = w1.heap.size ∨ b = w.heap.size) (by repeat (first | exact Mod.refl _ _ | refine msetT ?_ _ _ (by first | exact .inl rfl | exact .inr rfl))) (fun b e hb => by omega)
  · have c2' : ¬ ((n2 : Int) = 2) := by omega
    obtain ⟨x0, x1', x2, x3, xf, xl⟩ := X
    obtain ⟨r0, r1, r2, r3, rf, rl⟩ := R
    go_wp2
    refine bodyPost_ret (v := .agg #[.string k1, .int .i64 v1, .string x1, .bool g1]) (by simp [results, Try.results67, go_sem, r0, r1, r2, r3, rf, x0, x1', x2, x3, xf, hnx, Ne.symm hnx]) rfl ⟨⟨k1, v1, x1, g1⟩, t + 5, rfl, by dsimp only; omega, by dsimp only; omega, ?_, by omega, ?_⟩
    · exact h2.mod (F := fun b => b = w1.heap.size ∨ b = w.heap.size) (by repeat (first | exact Mod.refl _ _ | refine msetT ?_ _ _ (by first | exact .inl rfl | exact .inr rfl))) (fun b e => by omega)
    · exact M2.trans2 (G := fun b => b = w1.heap.size ∨ b = w.heap.size) (by repeat (first | exact Mod.refl _ _ | refine msetT ?_ _ _ (by first | exact .inl rfl | exact .inr rfl))) (fun b e hb => by omega)

end Go.Proofs.Ytaahmmadcdfcpaa
