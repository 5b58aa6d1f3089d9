/-
  Tables drawn.
-/
import Derived.Test.YtaahmmadcdfcpaaDrw2
import Derived.Test.YtaahmmadcdfcpaaMrgS
namespace Go.Proofs.Ytaahmmadcdfcpaa
open Go.RowKit
set_option linter.unusedSectionVars false
variable [DecidableEq Logg] [Inhabited Logg] [DecidableEq LoggR] [Inhabited LoggR] [DecidableEq BytesR] [Inhabited BytesR] [DecidableEq RecsR] [Inhabited RecsR] [DecidableEq Leg] [Inhabited Leg] [DecidableEq Rw] [Inhabited Rw] [DecidableEq TabR] [Inhabited TabR]
set_option linter.unusedVariables false
set_option linter.unusedSimpArgs false
attribute [local go_sem ↓] Go.wp_at_zero Go.wp_at_succ

set_option maxHeartbeats 1000000 in
theorem l5Key_any (B : Nat) (w : World) (bs : Nat) (a : Option Addr) (k cap t : Nat) (h : Src B w bs a k cap t) (ht : t ≤ 90000) :
    Calls Try.prog 94 #[.pointer (some ⟨bs, 0, none⟩)] w fun e w' => ∃ s : ByteArray, e = .returned (.string s) ∧ s.size ≤ 2 ∧ Src B w' bs a k cap (t + 1) ∧ Mod (fun b => b = bs) w w' := by
  have hlt := h.lt
  go_enter Try.func94, Try.ntmps94
  go_wp2_with fail
  refine (l1Next_any B _ bs a k cap t 5 (h.below (by (repeat (first | exact Below.refl _ _ | assumption | refine Below.drew ?_ | refine balloc ?_ _ | refine bset ?_ (by simp; omega) _ | refine bset ?_ (by simp) _ | refine bstep ?_ (by assumption))))) (by omega) (by omega) (by omega)).mono ?_
  rintro e w1 ⟨r, rfl, hr, hs, hm⟩
  have hne : w.heap.size ≠ bs := by omega
  have q0 : w1.cell? ⟨w.heap.size, 0, none⟩ = some (.string ⟨#[97]⟩) := hm.cell (by simp [go_sem]) hne
  have q1 : w1.cell? ⟨w.heap.size, 1, none⟩ = some (.string ⟨#[98]⟩) := hm.cell (by simp [go_sem]) hne
  have q2 : w1.cell? ⟨w.heap.size, 2, none⟩ = some (.string ⟨#[97, 98]⟩) := hm.cell (by simp [go_sem]) hne
  have q3 : w1.cell? ⟨w.heap.size, 3, none⟩ = some (.string ⟨#[107, 49]⟩) := hm.cell (by simp [go_sem]) hne
  have q4 : w1.cell? ⟨w.heap.size, 4, none⟩ = some (.string ⟨#[107, 50]⟩) := hm.cell (by simp [go_sem]) hne
  have hM : Mod (fun b => b = bs) w w1 := (Mod.of_below (balloc (Below.refl _ _) _)).trans hm
  clear hm h
  have hr5 : r < 5 := by omega
  obtain ⟨s, hsc, hss⟩ : ∃ s : ByteArray, w1.cell? ⟨w.heap.size, r, none⟩ = some (.string s) ∧ s.size ≤ 2 := by
    match r, hr5 with
    | 0, _ => exact ⟨_, q0, by decide⟩
    | 1, _ => exact ⟨_, q1, by decide⟩
    | 2, _ => exact ⟨_, q2, by decide⟩
    | 3, _ => exact ⟨_, q3, by decide⟩
    | 4, _ => exact ⟨_, q4, by decide⟩
  have hi1 : (0 : Int) ≤ (r : Int) := by omega
  clear q0 q1 q2 q3 q4
  go_wp2
  go_ret
  exact ⟨s, rfl, hss, hs, hM⟩

theorem msetT {F : Nat → Prop} {w w' : World} (h : Mod F w w') (a : Addr) (v : Value) (ha : F a.block) : Mod F w (w'.setCell a v) := h.trans ((Mod.of_set w' a v).mono (fun b e => by rw [e]; exact ha))

set_option maxHeartbeats 2000000 in
theorem l5Row_any (B : Nat) (w : World) (bs : Nat) (a : Option Addr) (k cap t : Nat) (h : Src B w bs a k cap t) (ht : t ≤ 90000) :
    Calls Try.prog 66 #[.pointer (some ⟨bs, 0, none⟩)] w fun e w' => ∃ r : Rw, e = .returned (rowV r) ∧ r.key.size ≤ 2 ∧ r.val.size ≤ 2 ∧ Src B w' bs a k cap (t + 4) ∧ Mod (fun b => b = bs) w w' := by
  have hlt := h.lt
  have hne : w.heap.size ≠ bs := by omega
  unfold rowV
  go_enter Try.func66, Try.ntmps66
  go_wp2_with fail
  refine (l5Key_any B _ bs a k cap t (h.below (by (repeat (first | exact Below.refl _ _ | assumption | refine Below.drew ?_ | refine balloc ?_ _ | refine bset ?_ (by simp; omega) _ | refine bset ?_ (by simp) _ | refine bstep ?_ (by assumption))))) ht).mono ?_
  rintro e w1 ⟨s1, rfl, hs1, h1, m1⟩
  have R0 : w1.cell? ⟨w.heap.size, 0, none⟩ = some (.string ⟨#[]⟩) := m1.cell (by simp [go_sem]) hne
  have R1 : w1.cell? ⟨w.heap.size, 1, none⟩ = some (.int .i64 0) := m1.cell (by simp [go_sem]) hne
  have R2 : w1.cell? ⟨w.heap.size, 2, none⟩ = some (.string ⟨#[]⟩) := m1.cell (by simp [go_sem]) hne
  have R3 : w1.cell? ⟨w.heap.size, 3, none⟩ = some (.bool false) := m1.cell (by simp [go_sem]) hne
  have Rf : ∀ o, w1.frozen? ⟨w.heap.size, o, none⟩ = false := fun o => (m1.frozen (a := ⟨w.heap.size, o, none⟩) (by simp) hne).trans (by simp [go_sem])
  have Rz : w.heap.size < w1.heap.size := by have := m1.size; simp at this; omega
  have M1 : Mod (fun b => b = bs) w w1 := (Mod.of_below (balloc (Below.refl _ _) _)).trans m1
  clear m1 h
  go_wp2_with fail
  refine (l1Next_any B _ bs a k cap (t + 1) 9 h1 (by omega) (by omega) (by omega)).mono ?_
  rintro e w2 ⟨r2, rfl, hr2, h2, m2⟩
  replace R0 := m2.cell R0 hne
  replace R1 := m2.cell R1 hne
  replace R2 := m2.cell R2 hne
  replace R3 := m2.cell R3 hne
  replace Rf : ∀ o, w2.frozen? ⟨w.heap.size, o, none⟩ = false := fun o => (m2.frozen (a := ⟨w.heap.size, o, none⟩) Rz hne).trans (Rf o)
  replace Rz : w.heap.size < w2.heap.size := by have := m2.size; omega
  have M2 := M1.trans m2
  clear m2 h1 M1
  have hwr : IntKind.i64.wrap (1 + (r2 : Int)) = 1 + (r2 : Int) := by rw [IntKind.wrap_i64]; omega
  have hl2 := h2.lt
  have hne2 : w2.heap.size ≠ bs := by omega
  go_wp2_with fail
  refine (l1Next_any B _ bs a k cap (t + 2) 4 (h2.below (by (repeat (first | exact Below.refl _ _ | assumption | refine Below.drew ?_ | refine balloc ?_ _ | refine bset ?_ (by simp; omega) _ | refine bset ?_ (by simp) _ | refine bstep ?_ (by assumption))))) (by omega) (by omega) (by omega)).mono ?_
  rintro e w3 ⟨r3, rfl, hr3, h3, m3⟩
  have q0 : w3.cell? ⟨w2.heap.size, 0, none⟩ = some (.string ⟨#[120]⟩) := m3.cell (by simp [go_sem]) hne2
  have q1 : w3.cell? ⟨w2.heap.size, 1, none⟩ = some (.string ⟨#[121]⟩) := m3.cell (by simp [go_sem]) hne2
  have q2 : w3.cell? ⟨w2.heap.size, 2, none⟩ = some (.string ⟨#[]⟩) := m3.cell (by simp [go_sem]) hne2
  have q3 : w3.cell? ⟨w2.heap.size, 3, none⟩ = some (.string ⟨#[122, 122]⟩) := m3.cell (by simp [go_sem]) hne2
  replace R0 := m3.cell (cell_keep (by (repeat (first | exact Below.refl _ _ | assumption | refine Below.drew ?_ | refine balloc ?_ _ | refine bset ?_ (by simp; omega) _ | refine bset ?_ (by simp) _ | refine bstep ?_ (by assumption)))) R0) hne
  replace R1 := m3.cell (cell_keep (by (repeat (first | exact Below.refl _ _ | assumption | refine Below.drew ?_ | refine balloc ?_ _ | refine bset ?_ (by simp; omega) _ | refine bset ?_ (by simp) _ | refine bstep ?_ (by assumption)))) R1) hne
  replace R2 := m3.cell (cell_keep (by (repeat (first | exact Below.refl _ _ | assumption | refine Below.drew ?_ | refine balloc ?_ _ | refine bset ?_ (by simp; omega) _ | refine bset ?_ (by simp) _ | refine bstep ?_ (by assumption)))) R2) hne
  replace R3 := m3.cell (cell_keep (by (repeat (first | exact Below.refl _ _ | assumption | refine Below.drew ?_ | refine balloc ?_ _ | refine bset ?_ (by simp; omega) _ | refine bset ?_ (by simp) _ | refine bstep ?_ (by assumption)))) R3) hne
  have hz3 := m3.size
  simp only [World.size_alloc] at hz3
  replace Rf : ∀ o, w3.frozen? ⟨w.heap.size, o, none⟩ = false := fun o => (m3.frozen (a := ⟨w.heap.size, o, none⟩) (by simp; omega) hne).trans (by rw [(bcell (balloc (Below.refl w2.heap.size w2) _)).2 _ _ Rz]; exact Rf o)
  replace Rz : w.heap.size < w3.heap.size := by omega
  have M3 : Mod (fun b => b = bs) w w3 := (M2.transB (balloc (Below.refl _ _) _)).trans m3
  clear m3 h2 M2
  have hr4 : r3 < 4 := by omega
  obtain ⟨s3, hsc, hss⟩ : ∃ s : ByteArray, w3.cell? ⟨w2.heap.size, r3, none⟩ = some (.string s) ∧ s.size ≤ 2 := by
    match r3, hr4 with
    | 0, _ => exact ⟨_, q0, by decide⟩
    | 1, _ => exact ⟨_, q1, by decide⟩
    | 2, _ => exact ⟨_, q2, by decide⟩
    | 3, _ => exact ⟨_, q3, by decide⟩
  have hi1 : (0 : Int) ≤ (r3 : Int) := by omega
  have hl3 := h3.lt
  have hne3 : w3.heap.size ≠ bs := by omega
  clear q0 q1 q2 q3
  go_wp2_with fail
  refine (l1Chance_any B _ bs a k cap (t + 3) 4 (h3.below (by (repeat (first | exact Below.refl _ _ | assumption | refine Below.drew ?_ | refine balloc ?_ _ | refine bset ?_ (by simp; omega) _ | refine bset ?_ (by simp) _ | refine bstep ?_ (by assumption))))) (by omega) (by omega) (by omega)).mono ?_
  rintro e w4 ⟨ch, rfl, h4, m4⟩
  have x0 : w4.cell? ⟨w3.heap.size, 0, none⟩ = some (.string s1) := m4.cell (by simp [go_sem]) hne3
  have x1 : w4.cell? ⟨w3.heap.size, 1, none⟩ = some (.int .i64 (1 + (r2 : Int))) := m4.cell (by simp [go_sem]) hne3
  have x2 : w4.cell? ⟨w3.heap.size, 2, none⟩ = some (.string s3) := m4.cell (by simp [go_sem]) hne3
  have x3 : w4.cell? ⟨w3.heap.size, 3, none⟩ = some (.bool false) := m4.cell (by simp [go_sem]) hne3
  have xf : ∀ o, w4.frozen? ⟨w3.heap.size, o, none⟩ = false := fun o => (m4.frozen (a := ⟨w3.heap.size, o, none⟩) (by simp) hne3).trans (by simp [go_sem])
  replace R0 := m4.cell (cell_keep (by (repeat (first | exact Below.refl _ _ | assumption | refine Below.drew ?_ | refine balloc ?_ _ | refine bset ?_ (by simp; omega) _ | refine bset ?_ (by simp) _ | refine bstep ?_ (by assumption)))) R0) hne
  replace R1 := m4.cell (cell_keep (by (repeat (first | exact Below.refl _ _ | assumption | refine Below.drew ?_ | refine balloc ?_ _ | refine bset ?_ (by simp; omega) _ | refine bset ?_ (by simp) _ | refine bstep ?_ (by assumption)))) R1) hne
  replace R2 := m4.cell (cell_keep (by (repeat (first | exact Below.refl _ _ | assumption | refine Below.drew ?_ | refine balloc ?_ _ | refine bset ?_ (by simp; omega) _ | refine bset ?_ (by simp) _ | refine bstep ?_ (by assumption)))) R2) hne
  replace R3 := m4.cell (cell_keep (by (repeat (first | exact Below.refl _ _ | assumption | refine Below.drew ?_ | refine balloc ?_ _ | refine bset ?_ (by simp; omega) _ | refine bset ?_ (by simp) _ | refine bstep ?_ (by assumption)))) R3) hne
  have hz4 := m4.size
  simp only [World.size_alloc] at hz4
  replace Rf : ∀ o, w4.frozen? ⟨w.heap.size, o, none⟩ = false := fun o => (m4.frozen (a := ⟨w.heap.size, o, none⟩) (by simp; omega) hne).trans (by rw [(bcell (balloc (Below.refl w3.heap.size w3) _)).2 _ _ Rz]; exact Rf o)
  have M4 : Mod (fun b => b = bs) w w4 := (M3.transB (balloc (Below.refl _ _) _)).trans m4
  have hnx : w.heap.size ≠ w3.heap.size := by omega
  clear m4 h3 M3 hsc
  cases ch with
  | false =>
    go_wp2
    refine bodyPost_ret (v := .agg #[.string s1, .int .i64 (1 + (r2 : Int)), .string s3, .bool false]) (by simp [results, Try.results66, go_sem, R0, R1, R2, R3, Rf]) rfl ⟨⟨s1, 1 + (r2 : Int), s3, false⟩, rfl, hs1, hss, ?_⟩
    have hK : Mod (fun b => b = w3.heap.size ∨ b = w.heap.size) w4 ((((w4.setCell ⟨w.heap.size, 0, none⟩ (.string s1)).setCell ⟨w.heap.size, 1, none⟩ (.int .i64 (1 + (r2 : Int)))).setCell ⟨w.heap.size, 2, none⟩ (.string s3)).setCell ⟨w.heap.size, 3, none⟩ (.bool false)) := msetT (msetT (msetT (msetT (Mod.refl _ _) _ _ (.inr rfl)) _ _ (.inr rfl)) _ _ (.inr rfl)) _ _ (.inr rfl)
    exact ⟨h4.mod hK (fun b e => by omega), M4.trans2 hK (fun b e hb => by omega)⟩
  | true =>
    go_wp2
    refine bodyPost_ret (v := .agg #[.string s1, .int .i64 (1 + (r2 : Int)), .string ⟨#[]⟩, .bool true]) (by simp [results, Try.results66, go_sem, R0, R1, R2, R3, Rf, x0, x1, x2, x3, xf, hnx, Ne.symm hnx]) rfl ⟨⟨s1, 1 + (r2 : Int), ⟨#[]⟩, true⟩, rfl, hs1, (by show ByteArray.size ⟨#[]⟩ ≤ 2; decide), ?_⟩
    have hK : Mod (fun b => b = w3.heap.size ∨ b = w.heap.size) w4 ((((((w4.setCell ⟨w3.heap.size, 3, none⟩ (.bool true)).setCell ⟨w3.heap.size, 2, none⟩ (.string ⟨#[]⟩)).setCell ⟨w.heap.size, 0, none⟩ (.string s1)).setCell ⟨w.heap.size, 1, none⟩ (.int .i64 (1 + (r2 : Int)))).setCell ⟨w.heap.size, 2, none⟩ (.string ⟨#[]⟩)).setCell ⟨w.heap.size, 3, none⟩ (.bool true)) := msetT (msetT (msetT (msetT (msetT (msetT (Mod.refl _ _) _ _ (.inl rfl)) _ _ (.inl rfl)) _ _ (.inr rfl)) _ _ (.inr rfl)) _ _ (.inr rfl)) _ _ (.inr rfl)
    exact ⟨h4.mod hK (fun b e => by omega), M4.trans2 hK (fun b e hb => by omega)⟩

end Go.Proofs.Ytaahmmadcdfcpaa
