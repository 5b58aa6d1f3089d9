/-
  The draw of ScanTable.
-/
import Derived.Test.YtaahmmadcdfcpaaDte
import Derived.Test.YtaahmmadcdfcpaaRegV
namespace Go.Proofs.Ytaahmmadcdfcpaa
open Go.RowKit
set_option linter.unusedSectionVars false
variable [DecidableEq Logg] [Inhabited Logg] [DecidableEq LoggR] [Inhabited LoggR] [DecidableEq BytesR] [Inhabited BytesR] [DecidableEq RecsR] [Inhabited RecsR] [DecidableEq Leg] [Inhabited Leg] [DecidableEq Rw] [Inhabited Rw] [DecidableEq TabR] [Inhabited TabR]
set_option linter.unusedVariables false
set_option linter.unusedSimpArgs false
attribute [local go_sem ↓] Go.wp_at_zero Go.wp_at_succ

theorem upto_mono {P : Program} {md : Region.Mode} {ops : Array Oper} {Q : Exit → Act → World → Prop} {S S' : World → Prop} {t : Nat} (hS : ∀ w, S' w → S w) : ∀ (f : Nat) (listed : Array Bool) (a : Act) (w : World), wpUpto P md ops Q S' t f listed a w → wpUpto P md ops Q S t f listed a w
  | 0, _, _, _, h => h
  | f + 1, _, _, _, h => ⟨h.1, fun i hi => wpOp_mono (fun _ _ h' => ⟨fun e => hS _ (h'.1 e), upto_mono hS f _ _ _ h'.2⟩) (h.2 i hi)⟩
theorem upto_world {P : Program} {md : Region.Mode} {ops : Array Oper} {Q : Exit → Act → World → Prop} {S : World → Prop} {t f : Nat} {listed : Array Bool} {a : Act} {w : World} (h : ∀ W, W = w → wpUpto P md ops Q S t f listed a W) : wpUpto P md ops Q S t f listed a w := h w rfl

/-- a source that goes on, and the rows that were drawn of it -/
structure DsSt (w : World) (a : Option Addr) (k cap : Nat) (v : Value) (F : Nat → Prop) (xs : List Rw) (W : World) (t : Nat) : Prop where
  hs : Src w.heap.size W w.heap.size a k cap t
  hB : Below w.heap.size w W
  o : rowsR.O W (w.heap.size + 1) F v xs
theorem DsSt.call {w : World} {a : Option Addr} {k cap : Nat} {v : Value} {F : Nat → Prop} {xs : List Rw} {W W' : World} {t t' : Nat} (h : DsSt w a k cap v F xs W t) (hs : Src w.heap.size W' w.heap.size a k cap t') (m : Mod (fun b => b = w.heap.size) W W') : DsSt w a k cap v F xs W' t' :=
  ⟨hs, m.below h.hB h.hB.size (fun b hb => by omega), rowsR.mod h.o m (fun b hb e => by have := (rowsR.rng h.o b hb).1; omega)⟩
theorem DsSt.new {w : World} {a : Option Addr} {k cap : Nat} {v : Value} {F : Nat → Prop} {xs : List Rw} {W W' : World} {t : Nat} (h : DsSt w a k cap v F xs W t) (hb : Below W.heap.size W W') : DsSt w a k cap v F xs W' t :=
  ⟨h.hs.below hb, bstep h.hB hb, rowsR.mod h.o (Mod.of_below (F := fun _ => False) hb) (fun b hb e => e)⟩
def txt5 (g : Nat) (W : World) : Prop := W.cell? ⟨g, 0, none⟩ = some (.string ⟨#[]⟩) ∧ W.cell? ⟨g, 1, none⟩ = some (.string ⟨#[97]⟩) ∧ W.cell? ⟨g, 2, none⟩ = some (.string ⟨#[107]⟩) ∧ W.cell? ⟨g, 3, none⟩ = some (.string ⟨#[107, 49]⟩) ∧ W.cell? ⟨g, 4, none⟩ = some (.string ⟨#[122, 122, 122]⟩)
theorem txt5_mod {g : Nat} {W W' : World} {F : Nat → Prop} (h : txt5 g W) (m : Mod F W W') (hg : ¬ F g) : txt5 g W' :=
  ⟨m.cell h.1 hg, m.cell h.2.1 hg, m.cell h.2.2.1 hg, m.cell h.2.2.2.1 hg, m.cell h.2.2.2.2 hg⟩
theorem txt5_at {g : Nat} {W : World} {r : Nat} (h : txt5 g W) (hr : (r : Int) < 5) : ∃ s : ByteArray, W.cell? ⟨g, r, none⟩ = some (.string s) ∧ s.size ≤ 3 := by
  obtain ⟨q0, q1, q2, q3, q4⟩ := h
  have hr5 : r < 5 := by omega
  match r, hr5 with
  | 0, _ => exact ⟨_, q0, by decide⟩
  | 1, _ => exact ⟨_, q1, by decide⟩
  | 2, _ => exact ⟨_, q2, by decide⟩
  | 3, _ => exact ⟨_, q3, by decide⟩
  | 4, _ => exact ⟨_, q4, by decide⟩

def pick5 (g n : Nat) (W : World) : Prop := ∀ i, i < [(n : Int), 9, 5, 0, 4611686018427387904].length → W.cell? ⟨g, i, none⟩ = some (.int .i64 ([(n : Int), 9, 5, 0, 4611686018427387904].getD i 0))
theorem pick5_mod {g n : Nat} {W W' : World} (h : pick5 g n W) (b : Below W.heap.size W W') : pick5 g n W' := fun i hi => cell_keep b (h i hi)
theorem five_at {g : Nat} {W : World} {y0 y1 y2 y3 y4 : Int} (h0 : W.cell? ⟨g, 0, none⟩ = some (.int .i64 y0)) (h1 : W.cell? ⟨g, 1, none⟩ = some (.int .i64 y1)) (h2 : W.cell? ⟨g, 2, none⟩ = some (.int .i64 y2)) (h3 : W.cell? ⟨g, 3, none⟩ = some (.int .i64 y3)) (h4 : W.cell? ⟨g, 4, none⟩ = some (.int .i64 y4)) (i : Nat) (hi : i < [y0, y1, y2, y3, y4].length) : W.cell? ⟨g, i, none⟩ = some (.int .i64 ([y0, y1, y2, y3, y4].getD i 0)) := by
  match i, hi with
  | 0, _ => exact h0
  | 1, _ => exact h1
  | 2, _ => exact h2
  | 3, _ => exact h3
  | 4, _ => exact h4

set_option maxRecDepth 20000 in
set_option maxHeartbeats 8000000 in
theorem drawScan_any (x : Value) (cs : List Byte) (w : World) (hx : BytesV w x cs) (hn : cs.length ≤ 1048576) :
    Calls Try.prog 7 #[x] w fun e w' => ∃ v xs p fl, e = .returned (.tuple #[v, .string p, .int .i64 fl]) ∧ rowsR.V w' v xs ∧ xs.length ≤ 201 ∧ Small xs ∧ p.size ≤ 3 ∧ Below w.heap.size w w' := by
  have hX := hx
  obtain ⟨ax, cx, rfl, _⟩ := hx
  go_enter Try.func7, Try.ntmps7
  go_wp2_with fail
  refine (l1Source_any _ cs _ (BytesV_below hX (by (repeat (first | exact Below.refl _ _ | assumption | refine Below.drew ?_ | refine balloc ?_ _ | refine bset ?_ (by simp; omega) _ | refine bset ?_ (by simp) _ | refine bstep ?_ (by assumption))))) (by omega)).mono ?_
  rintro e w1 ⟨a, cap, rfl, hs1, hb1⟩
  have z1 := hs1.lt
  go_wp2_with fail
  refine (l5Table_any w.heap.size w1 w.heap.size a cs.length cap 0 hs1 (by omega)).mono ?_
  rintro e w2 ⟨v, F, xs, t2, rfl, o2, hl, hS, hs2, ht2, m2⟩
  have hB2 : Below w.heap.size w w2 := m2.below hb1 (by omega) (fun b hb => by omega)
  have z2 := m2.size
  have HS : Hid (Small xs) := hS
  clear m2 hb1 hs1 hS
  obtain ⟨av, cv, rfl⟩ := rows_form (rowsR.ofO o2)
  have D2 : DsSt w a cs.length cap (.slice av xs.length cv) F xs w2 t2 := ⟨hs2, hB2, rowsR.base o2 (by omega)⟩
  obtain ⟨L, hL⟩ : ∃ L, L = xs.length := ⟨_, rfl⟩
  have HL : Hid (xs.length = L) := hL.symm
  rw [← hL] at D2 hl ⊢
  clear hL o2 hs2 hB2
  go_wp2
  refine wp_region_noPanic ?_
  refine region_upto (fun _ => True) 14 (by kernel_rfl) trivial (fun hS => ?_)
  have D3 := D2.new (Below.drew (Below.refl _ _))
  refine upto_world ?_
  intro W0 hW0
  rw [← hW0] at D3
  clear hW0 D2
  have gw : w.heap.size < W0.heap.size := D3.hs.lt
  refine upto_takeN (i := 0) (v := ?_) rfl (by kernel_rfl) (by kernel_rfl) (by kernel_rfl) (by kernel_rfl) (fun _ _ _ h => h) (by rfl) hS ?_ ?_
  rotate_left
  · intro wS hSw
    try dsimp only at hSw
    first | (go_simp; done) | (go_simp; with_reducible rfl)
  try simp only [Act.put, List.getElem_toArray, List.getElem_cons_zero, List.getElem_cons_succ, List.setIfInBounds_toArray, List.set_cons_zero, List.set_cons_succ]
  refine upto_takeN (i := 2) (v := ?_) rfl (by kernel_rfl) (by kernel_rfl) (by kernel_rfl) (by kernel_rfl) (fun _ _ _ h => h) (by rfl) hS ?_ ?_
  rotate_left
  · intro wS hSw
    try dsimp only at hSw
    first | (go_simp; done) | (go_simp; with_reducible rfl)
  try simp only [Act.put, List.getElem_toArray, List.getElem_cons_zero, List.getElem_cons_succ, List.setIfInBounds_toArray, List.set_cons_zero, List.set_cons_succ]
  refine upto_takeN (i := 6) (v := ?_) rfl (by kernel_rfl) (by kernel_rfl) (by kernel_rfl) (by kernel_rfl) (fun _ _ _ h => h) (by rfl) hS ?_ ?_
  rotate_left
  · intro wS hSw
    try dsimp only at hSw
    first | (go_simp; done) | (go_simp; with_reducible rfl)
  try simp only [Act.put, List.getElem_toArray, List.getElem_cons_zero, List.getElem_cons_succ, List.setIfInBounds_toArray, List.set_cons_zero, List.set_cons_succ]
  refine upto_takeN (i := 7) (v := ?_) rfl (by kernel_rfl) (by kernel_rfl) (by kernel_rfl) (by kernel_rfl) (fun _ _ _ h => h) (by rfl) hS ?_ ?_
  rotate_left
  · intro wS hSw
    try dsimp only at hSw
    first | (go_simp; done) | (go_simp; with_reducible rfl)
  try simp only [Act.put, List.getElem_toArray, List.getElem_cons_zero, List.getElem_cons_succ, List.setIfInBounds_toArray, List.set_cons_zero, List.set_cons_succ]
  refine upto_two (i := 1) (j := 3) (by kernel_rfl) rfl rfl ?_ ?_
  · intro K hK
    go_simp
    refine hK _ _ (fun _ => trivial) ?_
    clear hK K
    try simp only [Act.put, List.getElem_toArray, List.getElem_cons_zero, List.getElem_cons_succ, List.setIfInBounds_toArray, List.set_cons_zero, List.set_cons_succ]
    refine upto_world ?_
    intro W1 hW1
    have b1 : Below W0.heap.size W0 W1 := by rw [hW1]; (repeat (first | exact Below.refl _ _ | assumption | refine Below.drew ?_ | refine balloc ?_ _ | refine bset ?_ (by simp; omega) _ | refine bset ?_ (by simp) _ | refine bstep ?_ (by assumption)))
    have z11 : W0.heap.size < W1.heap.size := by rw [hW1]; simp
    have D11 := D3.new b1
    have q1 : txt5 W0.heap.size W1 := by rw [hW1]; refine ⟨?_, ?_, ?_, ?_, ?_⟩ <;> simp [go_sem]
    clear hW1
    refine upto_step (i := 3) (by kernel_rfl) rfl ?_
    intro K hK
    go_simp
    refine (l1Next_any w.heap.size W1 w.heap.size a cs.length cap t2 5 D11.hs (by omega) (by omega) (by omega)).mono ?_
    rintro e W2 ⟨r, rfl, hr, hs2, m2⟩
    have D12 := D11.call hs2 m2
    have z12 := m2.size
    have q2 := txt5_mod q1 m2 (by omega)
    refine hK _ _ (fun _ => trivial) ?_
    clear hK K
    try simp only [Act.put, List.getElem_toArray, List.getElem_cons_zero, List.getElem_cons_succ, List.setIfInBounds_toArray, List.set_cons_zero, List.set_cons_succ]
    obtain ⟨s, hsc, hss⟩ := txt5_at q2 hr
    refine upto_mono (S' := fun W => W.cell? ⟨W0.heap.size, r, none⟩ = some (.string s)) (fun _ _ => trivial) _ _ _ _ ?_
    have hi0 : (0 : Int) ≤ (r : Int) := by omega
    have hi5 := hr
    refine upto_takeN (i := 4) (v := ?_) rfl (by kernel_rfl) (by kernel_rfl) (by kernel_rfl) (by kernel_rfl) (fun _ _ _ h => h) (by rfl) hsc ?_ ?_
    rotate_left
    · intro wS hSw
      try dsimp only at hSw
      first | (go_simp; done) | (go_simp; with_reducible rfl)
    try simp only [Act.put, List.getElem_toArray, List.getElem_cons_zero, List.getElem_cons_succ, List.setIfInBounds_toArray, List.set_cons_zero, List.set_cons_succ]
    refine upto_takeN (i := 5) (v := ?_) rfl (by kernel_rfl) (by kernel_rfl) (by kernel_rfl) (by kernel_rfl) (fun _ _ _ h => h) (by rfl) hsc ?_ ?_
    rotate_left
    · intro wS hSw
      try dsimp only at hSw
      first | (go_simp; done) | (go_simp; with_reducible rfl)
    try simp only [Act.put, List.getElem_toArray, List.getElem_cons_zero, List.getElem_cons_succ, List.setIfInBounds_toArray, List.set_cons_zero, List.set_cons_succ]
    refine upto_step (i := 8) (by kernel_rfl) rfl ?_
    intro K hK
    go_simp
    refine (l1Next_any w.heap.size W2 w.heap.size a cs.length cap (t2 + 1) 11 D12.hs (by omega) (by omega) (by omega)).mono ?_
    rintro e W3 ⟨n, rfl, hn, hs3, m3⟩
    have D13 := D12.call hs3 m3
    have z13 := m3.size
    replace hsc := m3.cell hsc (by dsimp only; omega)
    refine hK _ _ (fun _ => hsc) ?_
    clear hK K
    try simp only [Act.put, List.getElem_toArray, List.getElem_cons_zero, List.getElem_cons_succ, List.setIfInBounds_toArray, List.set_cons_zero, List.set_cons_succ]
    refine upto_step (i := 9) (by kernel_rfl) rfl ?_
    intro K hK
    go_simp
    refine hK _ _ (fun _ => cell_keep (by (repeat (first | exact Below.refl _ _ | assumption | refine Below.drew ?_ | refine balloc ?_ _ | refine bset ?_ (by simp; omega) _ | refine bset ?_ (by simp) _ | refine bstep ?_ (by assumption)))) hsc) ?_
    clear hK K
    try simp only [Act.put, List.getElem_toArray, List.getElem_cons_zero, List.getElem_cons_succ, List.setIfInBounds_toArray, List.set_cons_zero, List.set_cons_succ]
    refine upto_world ?_
    intro W4 hW4
    have b4 : Below W3.heap.size W3 W4 := by rw [hW4]; (repeat (first | exact Below.refl _ _ | assumption | refine Below.drew ?_ | refine balloc ?_ _ | refine bset ?_ (by simp; omega) _ | refine bset ?_ (by simp) _ | refine bstep ?_ (by assumption)))
    have z14 : W3.heap.size < W4.heap.size := by rw [hW4]; simp
    have D14 := D13.new b4
    have p4 : pick5 W3.heap.size n W4 := by rw [hW4]; intro i hi; exact five_at (by simp [go_sem]) (by simp [go_sem]) (by simp [go_sem]) (by simp [go_sem]) (by simp [go_sem]) i hi
    replace hsc := cell_keep b4 hsc
    clear hW4
    refine upto_step (i := 10) (by kernel_rfl) rfl ?_
    intro K hK
    go_simp
    refine (l1Pick_any w.heap.size W4 w.heap.size a cs.length cap ((t2 + 1) + 1) W3.heap.size 5 [(n : Int), 9, 5, 0, 4611686018427387904] D14.hs (by omega) (by omega) (by simp) (by simp) p4).mono ?_
    rintro e W5 ⟨fl, rfl, _, hs5, m5⟩
    have D15 := D14.call hs5 m5
    have z15 := m5.size
    replace hsc := m5.cell hsc (by dsimp only; omega)
    refine hK _ _ (fun _ => hsc) ?_
    clear hK K
    try simp only [Act.put, List.getElem_toArray, List.getElem_cons_zero, List.getElem_cons_succ, List.setIfInBounds_toArray, List.set_cons_zero, List.set_cons_succ]
    refine upto_takeN (i := 11) (v := ?_) rfl (by kernel_rfl) (by kernel_rfl) (by kernel_rfl) (by kernel_rfl) (fun _ _ _ h => h) (by rfl) hsc ?_ ?_
    rotate_left
    · intro wS hSw
      try dsimp only at hSw
      first | (go_simp; done) | (go_simp; with_reducible rfl)
    try simp only [Act.put, List.getElem_toArray, List.getElem_cons_zero, List.getElem_cons_succ, List.setIfInBounds_toArray, List.set_cons_zero, List.set_cons_succ]
    refine upto_takeN (i := 12) (v := ?_) rfl (by kernel_rfl) (by kernel_rfl) (by kernel_rfl) (by kernel_rfl) (fun _ _ _ h => h) (by rfl) hsc ?_ ?_
    rotate_left
    · intro wS hSw
      try dsimp only at hSw
      first | (go_simp; done) | (go_simp; with_reducible rfl)
    try simp only [Act.put, List.getElem_toArray, List.getElem_cons_zero, List.getElem_cons_succ, List.setIfInBounds_toArray, List.set_cons_zero, List.set_cons_succ]
    refine upto_takeN (i := 13) (v := ?_) rfl (by kernel_rfl) (by kernel_rfl) (by kernel_rfl) (by kernel_rfl) (fun _ _ _ h => h) (by rfl) hsc ?_ ?_
    rotate_left
    · intro wS hSw
      try dsimp only at hSw
      first | (go_simp; done) | (go_simp; with_reducible rfl)
    try simp only [Act.put, List.getElem_toArray, List.getElem_cons_zero, List.getElem_cons_succ, List.setIfInBounds_toArray, List.set_cons_zero, List.set_cons_succ]
    refine upto_done (by kernel_rfl) ?_
    refine NoPanic.normal ?_
    have hB9 := D15.hB
    have o9 := D15.o
    clear hsc
    go_wp2
    exact bodyPost_ret (v := .tuple #[.slice av L cv, .string s, .int .i64 fl]) (by simp [results, Try.results7, go_sem]) rfl ⟨.slice av L cv, xs, s, fl, rfl, rowsR.ofO o9, by rw [HL.out]; omega, HS.out, hss, hB9⟩
  · intro K hK
    go_simp
    refine (l1Next_any w.heap.size W0 w.heap.size a cs.length cap t2 5 D3.hs (by omega) (by omega) (by omega)).mono ?_
    rintro e W6 ⟨r, rfl, hr, hs6, m6⟩
    have D16 := D3.call hs6 m6
    have z16 := m6.size
    refine hK _ _ (fun _ => trivial) ?_
    clear hK K
    try simp only [Act.put, List.getElem_toArray, List.getElem_cons_zero, List.getElem_cons_succ, List.setIfInBounds_toArray, List.set_cons_zero, List.set_cons_succ]
    refine upto_two (i := 1) (j := 8) (by kernel_rfl) rfl rfl ?_ ?_
    · intro K hK
      go_simp
      refine hK _ _ (fun _ => trivial) ?_
      clear hK K
      try simp only [Act.put, List.getElem_toArray, List.getElem_cons_zero, List.getElem_cons_succ, List.setIfInBounds_toArray, List.set_cons_zero, List.set_cons_succ]
      refine upto_world ?_
      intro W7 hW7
      have b7 : Below W6.heap.size W6 W7 := by rw [hW7]; (repeat (first | exact Below.refl _ _ | assumption | refine Below.drew ?_ | refine balloc ?_ _ | refine bset ?_ (by simp; omega) _ | refine bset ?_ (by simp) _ | refine bstep ?_ (by assumption)))
      have z17 : W6.heap.size < W7.heap.size := by rw [hW7]; simp
      have D17 := D16.new b7
      have q7 : txt5 W6.heap.size W7 := by rw [hW7]; refine ⟨?_, ?_, ?_, ?_, ?_⟩ <;> simp [go_sem]
      clear hW7
      obtain ⟨s, hsc, hss⟩ := txt5_at q7 hr
      refine upto_mono (S' := fun W => W.cell? ⟨W6.heap.size, r, none⟩ = some (.string s)) (fun _ _ => trivial) _ _ _ _ ?_
      have hi0 : (0 : Int) ≤ (r : Int) := by omega
      have hi5 := hr
      refine upto_takeN (i := 4) (v := ?_) rfl (by kernel_rfl) (by kernel_rfl) (by kernel_rfl) (by kernel_rfl) (fun _ _ _ h => h) (by rfl) hsc ?_ ?_
      rotate_left
      · intro wS hSw
        try dsimp only at hSw
        first | (go_simp; done) | (go_simp; with_reducible rfl)
      try simp only [Act.put, List.getElem_toArray, List.getElem_cons_zero, List.getElem_cons_succ, List.setIfInBounds_toArray, List.set_cons_zero, List.set_cons_succ]
      refine upto_takeN (i := 5) (v := ?_) rfl (by kernel_rfl) (by kernel_rfl) (by kernel_rfl) (by kernel_rfl) (fun _ _ _ h => h) (by rfl) hsc ?_ ?_
      rotate_left
      · intro wS hSw
        try dsimp only at hSw
        first | (go_simp; done) | (go_simp; with_reducible rfl)
      try simp only [Act.put, List.getElem_toArray, List.getElem_cons_zero, List.getElem_cons_succ, List.setIfInBounds_toArray, List.set_cons_zero, List.set_cons_succ]
      refine upto_step (i := 8) (by kernel_rfl) rfl ?_
      intro K hK
      go_simp
      refine (l1Next_any w.heap.size W7 w.heap.size a cs.length cap (t2 + 1) 11 D17.hs (by omega) (by omega) (by omega)).mono ?_
      rintro e W8 ⟨n, rfl, hn, hs8, m8⟩
      have D18 := D17.call hs8 m8
      have z18 := m8.size
      replace hsc := m8.cell hsc (by dsimp only; omega)
      refine hK _ _ (fun _ => hsc) ?_
      clear hK K
      try simp only [Act.put, List.getElem_toArray, List.getElem_cons_zero, List.getElem_cons_succ, List.setIfInBounds_toArray, List.set_cons_zero, List.set_cons_succ]
      refine upto_step (i := 9) (by kernel_rfl) rfl ?_
      intro K hK
      go_simp
      refine hK _ _ (fun _ => cell_keep (by (repeat (first | exact Below.refl _ _ | assumption | refine Below.drew ?_ | refine balloc ?_ _ | refine bset ?_ (by simp; omega) _ | refine bset ?_ (by simp) _ | refine bstep ?_ (by assumption)))) hsc) ?_
      clear hK K
      try simp only [Act.put, List.getElem_toArray, List.getElem_cons_zero, List.getElem_cons_succ, List.setIfInBounds_toArray, List.set_cons_zero, List.set_cons_succ]
      refine upto_world ?_
      intro W9 hW9
      have b9 : Below W8.heap.size W8 W9 := by rw [hW9]; (repeat (first | exact Below.refl _ _ | assumption | refine Below.drew ?_ | refine balloc ?_ _ | refine bset ?_ (by simp; omega) _ | refine bset ?_ (by simp) _ | refine bstep ?_ (by assumption)))
      have z19 : W8.heap.size < W9.heap.size := by rw [hW9]; simp
      have D19 := D18.new b9
      have p9 : pick5 W8.heap.size n W9 := by rw [hW9]; intro i hi; exact five_at (by simp [go_sem]) (by simp [go_sem]) (by simp [go_sem]) (by simp [go_sem]) (by simp [go_sem]) i hi
      replace hsc := cell_keep b9 hsc
      clear hW9
      refine upto_step (i := 10) (by kernel_rfl) rfl ?_
      intro K hK
      go_simp
      refine (l1Pick_any w.heap.size W9 w.heap.size a cs.length cap ((t2 + 1) + 1) W8.heap.size 5 [(n : Int), 9, 5, 0, 4611686018427387904] D19.hs (by omega) (by omega) (by simp) (by simp) p9).mono ?_
      rintro e W10 ⟨fl, rfl, _, hs10, m10⟩
      have D20 := D19.call hs10 m10
      have z20 := m10.size
      replace hsc := m10.cell hsc (by dsimp only; omega)
      refine hK _ _ (fun _ => hsc) ?_
      clear hK K
      try simp only [Act.put, List.getElem_toArray, List.getElem_cons_zero, List.getElem_cons_succ, List.setIfInBounds_toArray, List.set_cons_zero, List.set_cons_succ]
      refine upto_takeN (i := 11) (v := ?_) rfl (by kernel_rfl) (by kernel_rfl) (by kernel_rfl) (by kernel_rfl) (fun _ _ _ h => h) (by rfl) hsc ?_ ?_
      rotate_left
      · intro wS hSw
        try dsimp only at hSw
        first | (go_simp; done) | (go_simp; with_reducible rfl)
      try simp only [Act.put, List.getElem_toArray, List.getElem_cons_zero, List.getElem_cons_succ, List.setIfInBounds_toArray, List.set_cons_zero, List.set_cons_succ]
      refine upto_takeN (i := 12) (v := ?_) rfl (by kernel_rfl) (by kernel_rfl) (by kernel_rfl) (by kernel_rfl) (fun _ _ _ h => h) (by rfl) hsc ?_ ?_
      rotate_left
      · intro wS hSw
        try dsimp only at hSw
        first | (go_simp; done) | (go_simp; with_reducible rfl)
      try simp only [Act.put, List.getElem_toArray, List.getElem_cons_zero, List.getElem_cons_succ, List.setIfInBounds_toArray, List.set_cons_zero, List.set_cons_succ]
      refine upto_takeN (i := 13) (v := ?_) rfl (by kernel_rfl) (by kernel_rfl) (by kernel_rfl) (by kernel_rfl) (fun _ _ _ h => h) (by rfl) hsc ?_ ?_
      rotate_left
      · intro wS hSw
        try dsimp only at hSw
        first | (go_simp; done) | (go_simp; with_reducible rfl)
      try simp only [Act.put, List.getElem_toArray, List.getElem_cons_zero, List.getElem_cons_succ, List.setIfInBounds_toArray, List.set_cons_zero, List.set_cons_succ]
      refine upto_done (by kernel_rfl) ?_
      refine NoPanic.normal ?_
      have hB9 := D20.hB
      have o9 := D20.o
      clear hsc
      go_wp2
      exact bodyPost_ret (v := .tuple #[.slice av L cv, .string s, .int .i64 fl]) (by simp [results, Try.results7, go_sem]) rfl ⟨.slice av L cv, xs, s, fl, rfl, rowsR.ofO o9, by rw [HL.out]; omega, HS.out, hss, hB9⟩
    · intro K hK
      go_simp
      refine (l1Next_any w.heap.size W6 w.heap.size a cs.length cap (t2 + 1) 11 D16.hs (by omega) (by omega) (by omega)).mono ?_
      rintro e W11 ⟨n, rfl, hn, hs11, m11⟩
      have D21 := D16.call hs11 m11
      have z21 := m11.size
      refine hK _ _ (fun _ => trivial) ?_
      clear hK K
      try simp only [Act.put, List.getElem_toArray, List.getElem_cons_zero, List.getElem_cons_succ, List.setIfInBounds_toArray, List.set_cons_zero, List.set_cons_succ]
      refine upto_two (i := 1) (j := 9) (by kernel_rfl) rfl rfl ?_ ?_
      · intro K hK
        go_simp
        refine hK _ _ (fun _ => trivial) ?_
        clear hK K
        try simp only [Act.put, List.getElem_toArray, List.getElem_cons_zero, List.getElem_cons_succ, List.setIfInBounds_toArray, List.set_cons_zero, List.set_cons_succ]
        refine upto_world ?_
        intro W12 hW12
        have b12 : Below W11.heap.size W11 W12 := by rw [hW12]; (repeat (first | exact Below.refl _ _ | assumption | refine Below.drew ?_ | refine balloc ?_ _ | refine bset ?_ (by simp; omega) _ | refine bset ?_ (by simp) _ | refine bstep ?_ (by assumption)))
        have z22 : W11.heap.size < W12.heap.size := by rw [hW12]; simp
        have D22 := D21.new b12
        have q12 : txt5 W11.heap.size W12 := by rw [hW12]; refine ⟨?_, ?_, ?_, ?_, ?_⟩ <;> simp [go_sem]
        clear hW12
        obtain ⟨s, hsc, hss⟩ := txt5_at q12 hr
        refine upto_mono (S' := fun W => W.cell? ⟨W11.heap.size, r, none⟩ = some (.string s)) (fun _ _ => trivial) _ _ _ _ ?_
        have hi0 : (0 : Int) ≤ (r : Int) := by omega
        have hi5 := hr
        refine upto_takeN (i := 4) (v := ?_) rfl (by kernel_rfl) (by kernel_rfl) (by kernel_rfl) (by kernel_rfl) (fun _ _ _ h => h) (by rfl) hsc ?_ ?_
        rotate_left
        · intro wS hSw
          try dsimp only at hSw
          first | (go_simp; done) | (go_simp; with_reducible rfl)
        try simp only [Act.put, List.getElem_toArray, List.getElem_cons_zero, List.getElem_cons_succ, List.setIfInBounds_toArray, List.set_cons_zero, List.set_cons_succ]
        refine upto_takeN (i := 5) (v := ?_) rfl (by kernel_rfl) (by kernel_rfl) (by kernel_rfl) (by kernel_rfl) (fun _ _ _ h => h) (by rfl) hsc ?_ ?_
        rotate_left
        · intro wS hSw
          try dsimp only at hSw
          first | (go_simp; done) | (go_simp; with_reducible rfl)
        try simp only [Act.put, List.getElem_toArray, List.getElem_cons_zero, List.getElem_cons_succ, List.setIfInBounds_toArray, List.set_cons_zero, List.set_cons_succ]
        refine upto_step (i := 9) (by kernel_rfl) rfl ?_
        intro K hK
        go_simp
        refine hK _ _ (fun _ => cell_keep (by (repeat (first | exact Below.refl _ _ | assumption | refine Below.drew ?_ | refine balloc ?_ _ | refine bset ?_ (by simp; omega) _ | refine bset ?_ (by simp) _ | refine bstep ?_ (by assumption)))) hsc) ?_
        clear hK K
        try simp only [Act.put, List.getElem_toArray, List.getElem_cons_zero, List.getElem_cons_succ, List.setIfInBounds_toArray, List.set_cons_zero, List.set_cons_succ]
        refine upto_world ?_
        intro W13 hW13
        have b13 : Below W12.heap.size W12 W13 := by rw [hW13]; (repeat (first | exact Below.refl _ _ | assumption | refine Below.drew ?_ | refine balloc ?_ _ | refine bset ?_ (by simp; omega) _ | refine bset ?_ (by simp) _ | refine bstep ?_ (by assumption)))
        have z23 : W12.heap.size < W13.heap.size := by rw [hW13]; simp
        have D23 := D22.new b13
        have p13 : pick5 W12.heap.size n W13 := by rw [hW13]; intro i hi; exact five_at (by simp [go_sem]) (by simp [go_sem]) (by simp [go_sem]) (by simp [go_sem]) (by simp [go_sem]) i hi
        replace hsc := cell_keep b13 hsc
        clear hW13
        refine upto_step (i := 10) (by kernel_rfl) rfl ?_
        intro K hK
        go_simp
        refine (l1Pick_any w.heap.size W13 w.heap.size a cs.length cap ((t2 + 1) + 1) W12.heap.size 5 [(n : Int), 9, 5, 0, 4611686018427387904] D23.hs (by omega) (by omega) (by simp) (by simp) p13).mono ?_
        rintro e W14 ⟨fl, rfl, _, hs14, m14⟩
        have D24 := D23.call hs14 m14
        have z24 := m14.size
        replace hsc := m14.cell hsc (by dsimp only; omega)
        refine hK _ _ (fun _ => hsc) ?_
        clear hK K
        try simp only [Act.put, List.getElem_toArray, List.getElem_cons_zero, List.getElem_cons_succ, List.setIfInBounds_toArray, List.set_cons_zero, List.set_cons_succ]
        refine upto_takeN (i := 11) (v := ?_) rfl (by kernel_rfl) (by kernel_rfl) (by kernel_rfl) (by kernel_rfl) (fun _ _ _ h => h) (by rfl) hsc ?_ ?_
        rotate_left
        · intro wS hSw
          try dsimp only at hSw
          first | (go_simp; done) | (go_simp; with_reducible rfl)
        try simp only [Act.put, List.getElem_toArray, List.getElem_cons_zero, List.getElem_cons_succ, List.setIfInBounds_toArray, List.set_cons_zero, List.set_cons_succ]
        refine upto_takeN (i := 12) (v := ?_) rfl (by kernel_rfl) (by kernel_rfl) (by kernel_rfl) (by kernel_rfl) (fun _ _ _ h => h) (by rfl) hsc ?_ ?_
        rotate_left
        · intro wS hSw
          try dsimp only at hSw
          first | (go_simp; done) | (go_simp; with_reducible rfl)
        try simp only [Act.put, List.getElem_toArray, List.getElem_cons_zero, List.getElem_cons_succ, List.setIfInBounds_toArray, List.set_cons_zero, List.set_cons_succ]
        refine upto_takeN (i := 13) (v := ?_) rfl (by kernel_rfl) (by kernel_rfl) (by kernel_rfl) (by kernel_rfl) (fun _ _ _ h => h) (by rfl) hsc ?_ ?_
        rotate_left
        · intro wS hSw
          try dsimp only at hSw
          first | (go_simp; done) | (go_simp; with_reducible rfl)
        try simp only [Act.put, List.getElem_toArray, List.getElem_cons_zero, List.getElem_cons_succ, List.setIfInBounds_toArray, List.set_cons_zero, List.set_cons_succ]
        refine upto_done (by kernel_rfl) ?_
        refine NoPanic.normal ?_
        have hB9 := D24.hB
        have o9 := D24.o
        clear hsc
        go_wp2
        exact bodyPost_ret (v := .tuple #[.slice av L cv, .string s, .int .i64 fl]) (by simp [results, Try.results7, go_sem]) rfl ⟨.slice av L cv, xs, s, fl, rfl, rowsR.ofO o9, by rw [HL.out]; omega, HS.out, hss, hB9⟩
      · intro K hK
        go_simp
        refine hK _ _ (fun _ => trivial) ?_
        clear hK K
        try simp only [Act.put, List.getElem_toArray, List.getElem_cons_zero, List.getElem_cons_succ, List.setIfInBounds_toArray, List.set_cons_zero, List.set_cons_succ]
        refine upto_world ?_
        intro W15 hW15
        have b15 : Below W11.heap.size W11 W15 := by rw [hW15]; (repeat (first | exact Below.refl _ _ | assumption | refine Below.drew ?_ | refine balloc ?_ _ | refine bset ?_ (by simp; omega) _ | refine bset ?_ (by simp) _ | refine bstep ?_ (by assumption)))
        have z25 : W11.heap.size < W15.heap.size := by rw [hW15]; simp
        have D25 := D21.new b15
        have p15 : pick5 W11.heap.size n W15 := by rw [hW15]; intro i hi; exact five_at (by simp [go_sem]) (by simp [go_sem]) (by simp [go_sem]) (by simp [go_sem]) (by simp [go_sem]) i hi
        clear hW15
        refine upto_two (i := 1) (j := 10) (by kernel_rfl) rfl rfl ?_ ?_
        · intro K hK
          go_simp
          refine hK _ _ (fun _ => trivial) ?_
          clear hK K
          try simp only [Act.put, List.getElem_toArray, List.getElem_cons_zero, List.getElem_cons_succ, List.setIfInBounds_toArray, List.set_cons_zero, List.set_cons_succ]
          refine upto_world ?_
          intro W16 hW16
          have b16 : Below W15.heap.size W15 W16 := by rw [hW16]; (repeat (first | exact Below.refl _ _ | assumption | refine Below.drew ?_ | refine balloc ?_ _ | refine bset ?_ (by simp; omega) _ | refine bset ?_ (by simp) _ | refine bstep ?_ (by assumption)))
          have z26 : W15.heap.size < W16.heap.size := by rw [hW16]; simp
          have D26 := D25.new b16
          have q16 : txt5 W15.heap.size W16 := by rw [hW16]; refine ⟨?_, ?_, ?_, ?_, ?_⟩ <;> simp [go_sem]
          have p16 := pick5_mod p15 b16
          clear hW16
          obtain ⟨s, hsc, hss⟩ := txt5_at q16 hr
          refine upto_mono (S' := fun W => W.cell? ⟨W15.heap.size, r, none⟩ = some (.string s)) (fun _ _ => trivial) _ _ _ _ ?_
          have hi0 : (0 : Int) ≤ (r : Int) := by omega
          have hi5 := hr
          refine upto_takeN (i := 4) (v := ?_) rfl (by kernel_rfl) (by kernel_rfl) (by kernel_rfl) (by kernel_rfl) (fun _ _ _ h => h) (by rfl) hsc ?_ ?_
          rotate_left
          · intro wS hSw
            try dsimp only at hSw
            first | (go_simp; done) | (go_simp; with_reducible rfl)
          try simp only [Act.put, List.getElem_toArray, List.getElem_cons_zero, List.getElem_cons_succ, List.setIfInBounds_toArray, List.set_cons_zero, List.set_cons_succ]
          refine upto_takeN (i := 5) (v := ?_) rfl (by kernel_rfl) (by kernel_rfl) (by kernel_rfl) (by kernel_rfl) (fun _ _ _ h => h) (by rfl) hsc ?_ ?_
          rotate_left
          · intro wS hSw
            try dsimp only at hSw
            first | (go_simp; done) | (go_simp; with_reducible rfl)
          try simp only [Act.put, List.getElem_toArray, List.getElem_cons_zero, List.getElem_cons_succ, List.setIfInBounds_toArray, List.set_cons_zero, List.set_cons_succ]
          refine upto_step (i := 10) (by kernel_rfl) rfl ?_
          intro K hK
          go_simp
          refine (l1Pick_any w.heap.size W16 w.heap.size a cs.length cap ((t2 + 1) + 1) W11.heap.size 5 [(n : Int), 9, 5, 0, 4611686018427387904] D26.hs (by omega) (by omega) (by simp) (by simp) p16).mono ?_
          rintro e W17 ⟨fl, rfl, _, hs17, m17⟩
          have D27 := D26.call hs17 m17
          have z27 := m17.size
          replace hsc := m17.cell hsc (by dsimp only; omega)
          refine hK _ _ (fun _ => hsc) ?_
          clear hK K
          try simp only [Act.put, List.getElem_toArray, List.getElem_cons_zero, List.getElem_cons_succ, List.setIfInBounds_toArray, List.set_cons_zero, List.set_cons_succ]
          refine upto_takeN (i := 11) (v := ?_) rfl (by kernel_rfl) (by kernel_rfl) (by kernel_rfl) (by kernel_rfl) (fun _ _ _ h => h) (by rfl) hsc ?_ ?_
          rotate_left
          · intro wS hSw
            try dsimp only at hSw
            first | (go_simp; done) | (go_simp; with_reducible rfl)
          try simp only [Act.put, List.getElem_toArray, List.getElem_cons_zero, List.getElem_cons_succ, List.setIfInBounds_toArray, List.set_cons_zero, List.set_cons_succ]
          refine upto_takeN (i := 12) (v := ?_) rfl (by kernel_rfl) (by kernel_rfl) (by kernel_rfl) (by kernel_rfl) (fun _ _ _ h => h) (by rfl) hsc ?_ ?_
          rotate_left
          · intro wS hSw
            try dsimp only at hSw
            first | (go_simp; done) | (go_simp; with_reducible rfl)
          try simp only [Act.put, List.getElem_toArray, List.getElem_cons_zero, List.getElem_cons_succ, List.setIfInBounds_toArray, List.set_cons_zero, List.set_cons_succ]
          refine upto_takeN (i := 13) (v := ?_) rfl (by kernel_rfl) (by kernel_rfl) (by kernel_rfl) (by kernel_rfl) (fun _ _ _ h => h) (by rfl) hsc ?_ ?_
          rotate_left
          · intro wS hSw
            try dsimp only at hSw
            first | (go_simp; done) | (go_simp; with_reducible rfl)
          try simp only [Act.put, List.getElem_toArray, List.getElem_cons_zero, List.getElem_cons_succ, List.setIfInBounds_toArray, List.set_cons_zero, List.set_cons_succ]
          refine upto_done (by kernel_rfl) ?_
          refine NoPanic.normal ?_
          have hB9 := D27.hB
          have o9 := D27.o
          clear hsc
          go_wp2
          exact bodyPost_ret (v := .tuple #[.slice av L cv, .string s, .int .i64 fl]) (by simp [results, Try.results7, go_sem]) rfl ⟨.slice av L cv, xs, s, fl, rfl, rowsR.ofO o9, by rw [HL.out]; omega, HS.out, hss, hB9⟩
        · intro K hK
          go_simp
          refine (l1Pick_any w.heap.size W15 w.heap.size a cs.length cap ((t2 + 1) + 1) W11.heap.size 5 [(n : Int), 9, 5, 0, 4611686018427387904] D25.hs (by omega) (by omega) (by simp) (by simp) p15).mono ?_
          rintro e W18 ⟨fl, rfl, _, hs18, m18⟩
          have D28 := D25.call hs18 m18
          have z28 := m18.size
          refine hK _ _ (fun _ => trivial) ?_
          clear hK K
          try simp only [Act.put, List.getElem_toArray, List.getElem_cons_zero, List.getElem_cons_succ, List.setIfInBounds_toArray, List.set_cons_zero, List.set_cons_succ]
          refine upto_takeN (i := 11) (v := ?_) rfl (by kernel_rfl) (by kernel_rfl) (by kernel_rfl) (by kernel_rfl) (fun _ _ _ h => h) (by rfl) trivial ?_ ?_
          rotate_left
          · intro wS hSw
            try dsimp only at hSw
            first | (go_simp; done) | (go_simp; with_reducible rfl)
          try simp only [Act.put, List.getElem_toArray, List.getElem_cons_zero, List.getElem_cons_succ, List.setIfInBounds_toArray, List.set_cons_zero, List.set_cons_succ]
          refine upto_step (i := 1) (by kernel_rfl) rfl ?_
          intro K hK
          go_simp
          refine hK _ _ (fun _ => trivial) ?_
          clear hK K
          try simp only [Act.put, List.getElem_toArray, List.getElem_cons_zero, List.getElem_cons_succ, List.setIfInBounds_toArray, List.set_cons_zero, List.set_cons_succ]
          refine upto_world ?_
          intro W19 hW19
          have b19 : Below W18.heap.size W18 W19 := by rw [hW19]; (repeat (first | exact Below.refl _ _ | assumption | refine Below.drew ?_ | refine balloc ?_ _ | refine bset ?_ (by simp; omega) _ | refine bset ?_ (by simp) _ | refine bstep ?_ (by assumption)))
          have z29 : W18.heap.size < W19.heap.size := by rw [hW19]; simp
          have D29 := D28.new b19
          have q19 : txt5 W18.heap.size W19 := by rw [hW19]; refine ⟨?_, ?_, ?_, ?_, ?_⟩ <;> simp [go_sem]
          clear hW19
          obtain ⟨s, hsc, hss⟩ := txt5_at q19 hr
          refine upto_mono (S' := fun W => W.cell? ⟨W18.heap.size, r, none⟩ = some (.string s)) (fun _ _ => trivial) _ _ _ _ ?_
          have hi0 : (0 : Int) ≤ (r : Int) := by omega
          have hi5 := hr
          refine upto_takeN (i := 4) (v := ?_) rfl (by kernel_rfl) (by kernel_rfl) (by kernel_rfl) (by kernel_rfl) (fun _ _ _ h => h) (by rfl) hsc ?_ ?_
          rotate_left
          · intro wS hSw
            try dsimp only at hSw
            first | (go_simp; done) | (go_simp; with_reducible rfl)
          try simp only [Act.put, List.getElem_toArray, List.getElem_cons_zero, List.getElem_cons_succ, List.setIfInBounds_toArray, List.set_cons_zero, List.set_cons_succ]
          refine upto_takeN (i := 5) (v := ?_) rfl (by kernel_rfl) (by kernel_rfl) (by kernel_rfl) (by kernel_rfl) (fun _ _ _ h => h) (by rfl) hsc ?_ ?_
          rotate_left
          · intro wS hSw
            try dsimp only at hSw
            first | (go_simp; done) | (go_simp; with_reducible rfl)
          try simp only [Act.put, List.getElem_toArray, List.getElem_cons_zero, List.getElem_cons_succ, List.setIfInBounds_toArray, List.set_cons_zero, List.set_cons_succ]
          refine upto_takeN (i := 12) (v := ?_) rfl (by kernel_rfl) (by kernel_rfl) (by kernel_rfl) (by kernel_rfl) (fun _ _ _ h => h) (by rfl) hsc ?_ ?_
          rotate_left
          · intro wS hSw
            try dsimp only at hSw
            first | (go_simp; done) | (go_simp; with_reducible rfl)
          try simp only [Act.put, List.getElem_toArray, List.getElem_cons_zero, List.getElem_cons_succ, List.setIfInBounds_toArray, List.set_cons_zero, List.set_cons_succ]
          refine upto_takeN (i := 13) (v := ?_) rfl (by kernel_rfl) (by kernel_rfl) (by kernel_rfl) (by kernel_rfl) (fun _ _ _ h => h) (by rfl) hsc ?_ ?_
          rotate_left
          · intro wS hSw
            try dsimp only at hSw
            first | (go_simp; done) | (go_simp; with_reducible rfl)
          try simp only [Act.put, List.getElem_toArray, List.getElem_cons_zero, List.getElem_cons_succ, List.setIfInBounds_toArray, List.set_cons_zero, List.set_cons_succ]
          refine upto_done (by kernel_rfl) ?_
          refine NoPanic.normal ?_
          have hB9 := D29.hB
          have o9 := D29.o
          clear hsc
          go_wp2
          exact bodyPost_ret (v := .tuple #[.slice av L cv, .string s, .int .i64 fl]) (by simp [results, Try.results7, go_sem]) rfl ⟨.slice av L cv, xs, s, fl, rfl, rowsR.ofO o9, by rw [HL.out]; omega, HS.out, hss, hB9⟩

end Go.Proofs.Ytaahmmadcdfcpaa
