/-
  The specification's l2Settle: legs added, shard by shard.
-/
import Derived.Test.YteebglgbeijolaaAddB
import Derived.Test.YteebglgbeijolaaLegsOn
import Derived.Test.YteebglgbeijolaaSLedgR
import Derived.Test.YteebglgbeijolaaRegT
import Derived.Test.YteebglgbeijolaaSep2
namespace Go.Proofs.Yteebglgbeijolaa
open Go.RowKit
set_option linter.unusedSectionVars false
variable [DecidableEq Bal] [Inhabited Bal] [DecidableEq Ledg] [Inhabited Ledg] [DecidableEq Leg] [Inhabited Leg] [DecidableEq Cont] [Inhabited Cont] [DecidableEq LedgR] [Inhabited LedgR]
set_option linter.unusedVariables false
set_option linter.unusedSimpArgs false
attribute [local go_sem ↓] Go.wp_at_zero Go.wp_at_succ

/-- what is settled, shard by shard -/
def settleAt (g : List (List Bal)) (ls : List Leg) (i : Nat) : List Bal := addB (g.getD i default) (onSh i ls)
def settleL (g : List (List Bal)) (ls : List Leg) : List (List Bal) := (List.range g.length).map (settleAt g ls)
theorem settleL_len (g : List (List Bal)) (ls : List Leg) : (settleL g ls).length = g.length := by simp [settleL]
theorem settleL_get (g : List (List Bal)) (ls : List Leg) {i : Nat} (h : i < g.length) : (settleL g ls).getD i default = settleAt g ls i := by simp [settleL, List.getD, h]

theorem mod_frozen {F : Nat → Prop} {w w' : World} (h : Mod F w w') {a : Addr} (hl : a.block < w.heap.size) (hn : ¬ F a.block) : w'.frozen? a = w.frozen? a := World.frozen?_of_block (h.block a.block hl hn)
/-- the boxes of l2Settle -/
structure StSt (w W : World) (n : Nat) (ag : Option Addr) (cg : Nat) (id : Int) (ac : Option Addr) (m cc : Nat) (v : Value) : Prop where
  g0 : W.cell? ⟨w.heap.size, 0, none⟩ = some (.slice ag n cg)
  y0 : W.cell? ⟨w.heap.size + 1, 0, none⟩ = some (.int .i64 id)
  y1 : W.cell? ⟨w.heap.size + 1, 1, none⟩ = some (.slice ac m cc)
  r0 : W.cell? ⟨w.heap.size + 1 + 1, 0, none⟩ = some (.slice none 0 0)
  o0 : W.cell? ⟨w.heap.size + 1 + 1 + 1, 0, none⟩ = some v
  rf : ∀ o, W.frozen? ⟨w.heap.size + 1 + 1, o, none⟩ = false
  of : ∀ o, W.frozen? ⟨w.heap.size + 1 + 1 + 1, o, none⟩ = false
  sz : w.heap.size + 4 ≤ W.heap.size
  blw : Below w.heap.size w W
theorem StSt.mod {w W W' : World} {n : Nat} {ag : Option Addr} {cg : Nat} {id : Int} {ac : Option Addr} {m cc : Nat} {v : Value} {F : Nat → Prop} (h : StSt w W n ag cg id ac m cc v) (hm : Mod F W W') (hF : ∀ b, F b → w.heap.size + 4 ≤ b) : StSt w W' n ag cg id ac m cc v := by
  have hsz := h.sz
  have hn : ∀ b, b < w.heap.size + 4 → ¬ F b := fun b hb e => by have := hF b e; omega
  exact ⟨hm.cell h.g0 (hn _ (by dsimp only; omega)), hm.cell h.y0 (hn _ (by dsimp only; omega)), hm.cell h.y1 (hn _ (by dsimp only; omega)), hm.cell h.r0 (hn _ (by dsimp only; omega)), hm.cell h.o0 (hn _ (by dsimp only; omega)),
    fun o => (mod_frozen hm (a := ⟨w.heap.size + 1 + 1, o, none⟩) (by dsimp only; omega) (hn _ (by dsimp only; omega))).trans (h.rf o), fun o => (mod_frozen hm (a := ⟨w.heap.size + 1 + 1 + 1, o, none⟩) (by dsimp only; omega) (hn _ (by dsimp only; omega))).trans (h.of o), Nat.le_trans hsz hm.size, hm.below h.blw (by omega) (fun b hb => by have := hF b hb; omega)⟩
theorem StSt.below {w W W' : World} {n : Nat} {ag : Option Addr} {cg : Nat} {id : Int} {ac : Option Addr} {m cc : Nat} {v : Value} (h : StSt w W n ag cg id ac m cc v) (hb : Below W.heap.size W W') : StSt w W' n ag cg id ac m cc v :=
  h.mod (F := fun _ => False) (Mod.of_below hb) (fun _ e => e.elim)
theorem StSt.put {w W : World} {n : Nat} {ag : Option Addr} {cg : Nat} {id : Int} {ac : Option Addr} {m cc : Nat} {v : Value} (h : StSt w W n ag cg id ac m cc v) (v' : Value) : StSt w (W.setCell ⟨w.heap.size + 1 + 1 + 1, 0, none⟩ v') n ag cg id ac m cc v' :=
  ⟨by rw [set_other (by simp)]; exact h.g0, by rw [set_other (by simp)]; exact h.y0, by rw [set_other (by simp)]; exact h.y1, by rw [set_other (by simp)]; exact h.r0, set_same h.o0, fun o => by rw [World.frozen?_setCell]; exact h.rf o, fun o => by rw [World.frozen?_setCell]; exact h.of o, by simpa using h.sz, h.blw.setCell (by dsimp only; omega) _⟩

theorem StSt.all {w W : World} {n : Nat} {ag : Option Addr} {cg : Nat} {id : Int} {ac : Option Addr} {m cc : Nat} {v : Value} {b o k : Nat} {u : Value} (h : StSt w W n ag cg id ac m cc v) (hc : W.cell? ⟨b, o + k, none⟩ = some u) :
    StSt w W n ag cg id ac m cc v ∧ W.cell? ⟨w.heap.size + 1 + 1 + 1, 0, none⟩ = some v ∧ W.cell? ⟨w.heap.size, 0, none⟩ = some (.slice ag n cg) ∧ W.cell? ⟨w.heap.size + 1, 0, none⟩ = some (.int .i64 id) ∧ W.cell? ⟨w.heap.size + 1, 1, none⟩ = some (.slice ac m cc) ∧ W.cell? ⟨b, o + k, none⟩ = some u :=
  ⟨h, h.o0, h.g0, h.y0, h.y1, hc⟩

set_option maxRecDepth 20000 in
set_option maxHeartbeats 8000000 in
theorem l2Settle_any (x y : Value) (g : Ledg) (c : Cont) (w : World) (hx : ledgR.V w x g) (hy : contR.V w y c) (hok : ∀ i, i < g.shards.length → AddOk (g.shards.getD i default) (onSh i c.legs)) (hn : g.shards.length ≤ 1000) (hl : c.legs.length ≤ 1048576) :
    Calls Try.prog 89 #[x, y] w fun e w' => ∃ v F, e = .returned v ∧ ledgR.O w' w.heap.size F v ⟨settleL g.shards c.legs⟩ ∧ Below w.heap.size w w' := by
  obtain ⟨u1, rfl, hx⟩ := hx
  obtain ⟨u2, rfl, hy⟩ := hy
  obtain ⟨ag, cg, rfl⟩ := balss_form hx
  obtain ⟨ac, cc, rfl⟩ := legs_form hy
  obtain ⟨i0, hi, hz0, hz1, hz2⟩ := info_parts infoBalss
  obtain ⟨gs⟩ := g
  obtain ⟨id, ls⟩ := c
  dsimp only at *
  have HOK : Hid (∀ i, i < gs.length → AddOk (gs.getD i default) (onSh i ls)) := hok
  have HL : Hid (∀ W, Below w.heap.size w W → LegsV W (.slice ac ls.length cc) ls) := fun W hW => LegsV_below hy hW
  have HLN : Hid (ls.length ≤ 1048576) := hl
  have HB : Hid (∀ k, k < gs.length → ∃ b o u cu, ag = some ⟨b, o, none⟩ ∧ b < w.heap.size ∧ w.cell? ⟨b, o + k, none⟩ = some (.slice u (gs.getD k default).length cu) ∧ balsR.V w (.slice u (gs.getD k default).length cu) (gs.getD k default)) := fun k hk => by
    obtain ⟨a9, c9, e9, _, _, h9⟩ := hx
    simp only [Value.slice.injEq] at e9
    obtain ⟨b, o, u, e, _, hc, hu⟩ := h9 k hk
    obtain ⟨ua, uc, rfl⟩ := bals_form hu
    exact ⟨b, o, ua, uc, e9.1.trans e, World.block_lt_of_cell? _ _ (cells1 hc), cells1 hc, hu⟩
  clear hx hy hok hl
  obtain ⟨n, hn'⟩ : ∃ n, n = gs.length := ⟨_, rfl⟩
  have HN : Hid (gs.length = n) := hn'.symm
  obtain ⟨m, hm'⟩ : ∃ m, m = ls.length := ⟨_, rfl⟩
  rw [← hm'] at HL
  rw [← hn'] at hn
  rw [← hn', ← hm']
  clear hn' hm'
  go_enter Try.func89, Try.ntmps89
  go_wp2
  go_loopw [6] (fun i W => ∃ (k : Nat) (a : Option Addr) (c : Nat) (cs : List Value) (us : Nat → Value) (fs : Nat → Nat → Prop), k ≤ n ∧ i = .int .i64 k ∧ Hid (PO balsR 171 1 one W (w.heap.size + 4) (.slice a k c) k k (settleAt gs ls) cs us fs) ∧ Hid (StSt w W n ag cg id ac m cc (.slice a k c))) (fun i _ => n - (intOf i).toNat)
  case atStart =>
    refine ⟨0, none, 0, [], fun _ => .slice none 0 0, fun _ _ => False, Nat.zero_le _, rfl, ⟨World.ownsRow_nil _ _ _ _, fun i h => absurd h (Nat.not_lt_zero _), fun i h => absurd h (Nat.not_lt_zero _), fun i h => absurd h (Nat.not_lt_zero _), fun i h => absurd h (Nat.not_lt_zero _), fun i j h => absurd h (Nat.not_lt_zero _)⟩, ?_⟩
    exact ⟨by simp [go_sem], by simp [go_sem], by simp [go_sem], by simp [go_sem], by simp [go_sem], fun o => by simp [go_sem], fun o => by simp [go_sem], by simp, by (repeat (first | exact Below.refl _ _ | assumption | refine Below.drew ?_ | refine balloc ?_ _ | refine bset ?_ (by simp; omega) _ | refine bset ?_ (by simp) _ | refine bstep ?_ (by assumption)))⟩
  case round =>
    obtain ⟨k, a, c, cs, us, fs, hk, rfl, HP, HS⟩ := hrel
    rename World => w5
    obtain ⟨g0, y0, y1, r0, o0, rf, of, sz, blw⟩ := HS.out
    by_cases hkn : k < n
    · have hk' : (k : Int) < n := by omega
      have hk0 : (0 : Int) ≤ k := by omega
      have hwk : IntKind.i64.wrap ((k : Int) + 1) = (k : Int) + 1 := wrapId (by omega) (by omega)
      obtain ⟨b, o, u, cu, rfl, hbz, hcu, hBV⟩ := HB.out k (by rw [HN.out]; exact hkn)
      have hAO := HOK.out k (by rw [HN.out]; exact hkn)
      have HAO : Hid (AddOk (gs.getD k default) (onSh k ls)) := hAO
      have HBV : Hid (∀ W, Below w.heap.size w W → balsR.V W (.slice u (gs.getD k default).length cu) (gs.getD k default)) := fun W hW => balsR.below hBV hW
      clear hAO hBV
      obtain ⟨lb, hlb⟩ : ∃ lb, lb = (gs.getD k default).length := ⟨_, rfl⟩
      rw [← hlb] at hcu HBV
      clear hlb
      have hc5 := cell_keep blw hcu
      go_wp2
      refine wp_region_noPanic ?_
      refine region_upto (fun W => StSt w W n (some ⟨b, o, none⟩) cg id ac m cc (.slice a k c) ∧ W.cell? ⟨w.heap.size + 1 + 1 + 1, 0, none⟩ = some (.slice a k c) ∧ W.cell? ⟨w.heap.size, 0, none⟩ = some (.slice (some ⟨b, o, none⟩) n cg) ∧ W.cell? ⟨w.heap.size + 1, 0, none⟩ = some (.int .i64 id) ∧ W.cell? ⟨w.heap.size + 1, 1, none⟩ = some (.slice ac m cc) ∧ W.cell? ⟨b, o + k, none⟩ = some (.slice u lb cu)) 14 (by kernel_rfl) ((HS.out.below (by (repeat (first | exact Below.refl _ _ | assumption | refine Below.drew ?_ | refine balloc ?_ _ | refine bset ?_ (by simp; omega) _ | refine bset ?_ (by simp) _ | refine bstep ?_ (by assumption))))).all (cell_keep (by (repeat (first | exact Below.refl _ _ | assumption | refine Below.drew ?_ | refine balloc ?_ _ | refine bset ?_ (by simp; omega) _ | refine bset ?_ (by simp) _ | refine bstep ?_ (by assumption)))) hc5)) (fun hS => ?_)
      refine upto_take (i := 0) (v := ?_) rfl (by kernel_rfl) (by kernel_rfl) (by kernel_rfl) (by kernel_rfl) (fun _ _ _ h => h) (by rfl) hS ?_ ?_
      rotate_left
      · intro wS hSw
        try dsimp only at hSw
        first | (go_simp; done) | (go_simp; with_reducible rfl)
      try simp only [Act.put, List.getElem_toArray, List.getElem_cons_zero, List.getElem_cons_succ, List.setIfInBounds_toArray, List.set_cons_zero, List.set_cons_succ]
      refine upto_take (i := 1) (v := ?_) rfl (by kernel_rfl) (by kernel_rfl) (by kernel_rfl) (by kernel_rfl) (fun _ _ _ h => h) (by rfl) hS ?_ ?_
      rotate_left
      · intro wS hSw
        try dsimp only at hSw
        first | (go_simp; done) | (go_simp; with_reducible rfl)
      try simp only [Act.put, List.getElem_toArray, List.getElem_cons_zero, List.getElem_cons_succ, List.setIfInBounds_toArray, List.set_cons_zero, List.set_cons_succ]
      refine upto_take (i := 2) (v := ?_) rfl (by kernel_rfl) (by kernel_rfl) (by kernel_rfl) (by kernel_rfl) (fun _ _ _ h => h) (by rfl) hS ?_ ?_
      rotate_left
      · intro wS hSw
        try dsimp only at hSw
        first | (go_simp; done) | (go_simp; with_reducible rfl)
      try simp only [Act.put, List.getElem_toArray, List.getElem_cons_zero, List.getElem_cons_succ, List.setIfInBounds_toArray, List.set_cons_zero, List.set_cons_succ]
      refine upto_take (i := 3) (v := ?_) rfl (by kernel_rfl) (by kernel_rfl) (by kernel_rfl) (by kernel_rfl) (fun _ _ _ h => h) (by rfl) hS ?_ ?_
      rotate_left
      · intro wS hSw
        try dsimp only at hSw
        first | (go_simp; done) | (go_simp; with_reducible rfl)
      try simp only [Act.put, List.getElem_toArray, List.getElem_cons_zero, List.getElem_cons_succ, List.setIfInBounds_toArray, List.set_cons_zero, List.set_cons_succ]
      refine upto_take (i := 4) (v := ?_) rfl (by kernel_rfl) (by kernel_rfl) (by kernel_rfl) (by kernel_rfl) (fun _ _ _ h => h) (by rfl) hS ?_ ?_
      rotate_left
      · intro wS hSw
        try dsimp only at hSw
        first | (go_simp; done) | (go_simp; with_reducible rfl)
      try simp only [Act.put, List.getElem_toArray, List.getElem_cons_zero, List.getElem_cons_succ, List.setIfInBounds_toArray, List.set_cons_zero, List.set_cons_succ]
      refine upto_take (i := 5) (v := ?_) rfl (by kernel_rfl) (by kernel_rfl) (by kernel_rfl) (by kernel_rfl) (fun _ _ _ h => h) (by rfl) hS ?_ ?_
      rotate_left
      · intro wS hSw
        try dsimp only at hSw
        first | (go_simp; done) | (go_simp; with_reducible rfl)
      try simp only [Act.put, List.getElem_toArray, List.getElem_cons_zero, List.getElem_cons_succ, List.setIfInBounds_toArray, List.set_cons_zero, List.set_cons_succ]
      refine upto_take (i := 6) (v := ?_) rfl (by kernel_rfl) (by kernel_rfl) (by kernel_rfl) (by kernel_rfl) (fun _ _ _ h => h) (by rfl) hS ?_ ?_
      rotate_left
      · intro wS hSw
        try dsimp only at hSw
        first | (go_simp; done) | (go_simp; with_reducible rfl)
      try simp only [Act.put, List.getElem_toArray, List.getElem_cons_zero, List.getElem_cons_succ, List.setIfInBounds_toArray, List.set_cons_zero, List.set_cons_succ]
      refine upto_take (i := 7) (v := ?_) rfl (by kernel_rfl) (by kernel_rfl) (by kernel_rfl) (by kernel_rfl) (fun _ _ _ h => h) (by rfl) hS ?_ ?_
      rotate_left
      · intro wS hSw
        try dsimp only at hSw
        first | (go_simp; done) | (go_simp; with_reducible rfl)
      try simp only [Act.put, List.getElem_toArray, List.getElem_cons_zero, List.getElem_cons_succ, List.setIfInBounds_toArray, List.set_cons_zero, List.set_cons_succ]
      refine upto_take (i := 8) (v := ?_) rfl (by kernel_rfl) (by kernel_rfl) (by kernel_rfl) (by kernel_rfl) (fun _ _ _ h => h) (by rfl) hS ?_ ?_
      rotate_left
      · intro wS hSw
        try dsimp only at hSw
        first | (go_simp; done) | (go_simp; with_reducible rfl)
      try simp only [Act.put, List.getElem_toArray, List.getElem_cons_zero, List.getElem_cons_succ, List.setIfInBounds_toArray, List.set_cons_zero, List.set_cons_succ]
      refine upto_step (i := 9) (by kernel_rfl) rfl ?_
      intro K hK
      go_simp
      refine (l1Legs_any id _ ls k _ (HL.out _ hS.1.blw) HLN.out).mono ?_
      rintro e w6 ⟨v6, rfl, o6, hb6⟩
      have hS6 : (fun W => StSt w W n (some ⟨b, o, none⟩) cg id ac m cc (.slice a k c) ∧ W.cell? ⟨w.heap.size + 1 + 1 + 1, 0, none⟩ = some (.slice a k c) ∧ W.cell? ⟨w.heap.size, 0, none⟩ = some (.slice (some ⟨b, o, none⟩) n cg) ∧ W.cell? ⟨w.heap.size + 1, 0, none⟩ = some (.int .i64 id) ∧ W.cell? ⟨w.heap.size + 1, 1, none⟩ = some (.slice ac m cc) ∧ W.cell? ⟨b, o + k, none⟩ = some (.slice u lb cu)) w6 := (hS.1.below hb6).all (cell_keep hb6 hS.2.2.2.2.2)
      obtain ⟨p6, q6, e6⟩ : ∃ p6 q6, v6 = .slice p6 (onSh k ls).length q6 := by
        obtain ⟨p6, q6, e, _⟩ := LegsV_of_owns o6
        exact ⟨p6, q6, e⟩
      subst e6
      have HV6 : Hid (legsR.V w6 (.slice p6 (onSh k ls).length q6) (onSh k ls)) := LegsV_of_owns o6
      clear o6
      have hb56 : Below w5.heap.size w5 w6 := bstep (by (repeat (first | exact Below.refl _ _ | assumption | refine Below.drew ?_ | refine balloc ?_ _ | refine bset ?_ (by simp; omega) _ | refine bset ?_ (by simp) _ | refine bstep ?_ (by assumption)))) hb6
      refine hK _ _ (fun _ => hS6) ?_
      clear hK K hS hb6
      try simp only [Act.put, List.getElem_toArray, List.getElem_cons_zero, List.getElem_cons_succ, List.setIfInBounds_toArray, List.set_cons_zero, List.set_cons_succ]
      refine upto_step (i := 10) (by kernel_rfl) rfl ?_
      intro K hK
      go_simp
      refine (l2Add_any _ _ (gs.getD k default) (onSh k ls) _ (HBV.out _ hS6.1.blw) HV6.out HAO.out).mono ?_
      rintro e w7 ⟨v7, F7, rfl, o7, hb7⟩
      obtain ⟨p7, q7, rfl⟩ := bals_form (balsR.ofO o7)
      have hS7 : (fun W => StSt w W n (some ⟨b, o, none⟩) cg id ac m cc (.slice a k c) ∧ W.cell? ⟨w.heap.size + 1 + 1 + 1, 0, none⟩ = some (.slice a k c) ∧ W.cell? ⟨w.heap.size, 0, none⟩ = some (.slice (some ⟨b, o, none⟩) n cg) ∧ W.cell? ⟨w.heap.size + 1, 0, none⟩ = some (.int .i64 id) ∧ W.cell? ⟨w.heap.size + 1, 1, none⟩ = some (.slice ac m cc) ∧ W.cell? ⟨b, o + k, none⟩ = some (.slice u lb cu)) w7 := (hS6.1.below hb7).all (cell_keep hb7 hS6.2.2.2.2.2)
      have hb57 : Below w5.heap.size w5 w7 := bstep hb56 hb7
      have HO7 : Hid (balsR.O w7 w5.heap.size F7 (.slice p7 (settleAt gs ls k).length q7) (settleAt gs ls k)) := balsR.base o7 (by have := hb56.size; omega)
      refine hK _ _ (fun _ => hS7) ?_
      clear hK K hS6 hb7 o7 HV6 hb56
      have hlL : (addB (gs.getD k default) (onSh k ls)).length = (settleAt gs ls k).length := rfl
      rw [hlL]
      clear hlL
      generalize hq7 : (settleAt gs ls k).length = l7 at *
      have HL7 : Hid ((settleAt gs ls k).length = l7) := hq7
      clear hq7
      try simp only [Act.put, List.getElem_toArray, List.getElem_cons_zero, List.getElem_cons_succ, List.setIfInBounds_toArray, List.set_cons_zero, List.set_cons_succ]
      refine upto_step (i := 11) (by kernel_rfl) rfl ?_
      intro K hK
      go_simp
      have hb58 : Below w5.heap.size w5 (w7.alloc (.cells #[.slice p7 l7 q7] 171)) := balloc hb57 _
      have hS8 : (fun W => StSt w W n (some ⟨b, o, none⟩) cg id ac m cc (.slice a k c) ∧ W.cell? ⟨w.heap.size + 1 + 1 + 1, 0, none⟩ = some (.slice a k c) ∧ W.cell? ⟨w.heap.size, 0, none⟩ = some (.slice (some ⟨b, o, none⟩) n cg) ∧ W.cell? ⟨w.heap.size + 1, 0, none⟩ = some (.int .i64 id) ∧ W.cell? ⟨w.heap.size + 1, 1, none⟩ = some (.slice ac m cc) ∧ W.cell? ⟨b, o + k, none⟩ = some (.slice u lb cu)) (w7.alloc (.cells #[.slice p7 l7 q7] 171)) := (hS7.1.below (balloc (Below.refl _ _) _)).all (cell_keep (balloc (Below.refl _ _) _) hS7.2.2.2.2.2)
      refine hK _ _ (fun _ => hS8) ?_
      clear hK K hS7
      try simp only [Act.put, List.getElem_toArray, List.getElem_cons_zero, List.getElem_cons_succ, List.setIfInBounds_toArray, List.set_cons_zero, List.set_cons_succ]
      have hO8 : balsR.O (w7.alloc (.cells #[.slice p7 l7 q7] 171)) w5.heap.size F7 (.slice p7 l7 q7) (settleAt gs ls k) := balsR.alloc HO7.out _
      refine upto_step (i := 12) (by kernel_rfl) rfl ?_
      intro K hK
      refine step_append_at _ rfl _ _ 76 rfl (w.heap.size + 4) 171 i0 _ 1 24 Try.underlying76 hi hz0 hz1 hz2 rfl (by decide) _ k cs rfl (owns_below HP.out.row hb58) ⟨w7.heap.size, 0, none⟩ 1 1 [.slice p7 l7 q7] rfl rfl ?_ ?_ (by unfold maxLen; omega) (by omega) (by have := hb58.size; omega) ?_
      · intro j u hj
        match j, hj with
        | 0, hj => simp at hj; subst hj; simp [Addr.add, go_sem]
        | j + 1, hj => simp at hj
      · intro u hu
        rw [List.mem_singleton] at hu
        rw [hu]
        rfl
      intro v9 w9 o9 g9 l9
      have hown : ∀ b, (Value.slice a k c).ownBlock = some b → w.heap.size + 4 ≤ b := fun b hb => (HP.out.row.lt b hb).1
      have HP9 : Hid (PO balsR 171 1 one w9 (w.heap.size + 4) v9 (k + 1) (k + 1) (settleAt gs ls) (cs ++ [.slice p7 l7 q7]) (upd us k (.slice p7 l7 q7)) (upd fs k F7)) := HP.out.append sz hb58 hO8 rfl o9 g9 (l9.imp (fun e => e) (fun e => ⟨_, e, Nat.le_refl _⟩))
      have hS9 : (fun W => StSt w W n (some ⟨b, o, none⟩) cg id ac m cc (.slice a k c) ∧ W.cell? ⟨w.heap.size + 1 + 1 + 1, 0, none⟩ = some (.slice a k c) ∧ W.cell? ⟨w.heap.size, 0, none⟩ = some (.slice (some ⟨b, o, none⟩) n cg) ∧ W.cell? ⟨w.heap.size + 1, 0, none⟩ = some (.int .i64 id) ∧ W.cell? ⟨w.heap.size + 1, 1, none⟩ = some (.slice ac m cc) ∧ W.cell? ⟨b, o + k, none⟩ = some (.slice u lb cu)) w9 := (hS8.1.mod (Mod.of_grown g9) hown).all ((Mod.of_grown g9).cell hS8.2.2.2.2.2 (fun e => by have := hown _ e; dsimp only at this; omega))
      obtain ⟨a9, c9, rfl⟩ : ∃ a9 c9, v9 = .slice a9 (k + 1) c9 := by
        rcases o9.2 with ⟨rfl, h⟩ | ⟨g', cap', _, rfl, _⟩
        · omega
        · exact ⟨_, _, rfl⟩
      refine hK _ _ (fun _ => hS9) ?_
      clear hK K hS8 g9 l9 o9 hO8 HO7 hb57 hb58
      try simp only [Act.put, List.getElem_toArray, List.getElem_cons_zero, List.getElem_cons_succ, List.setIfInBounds_toArray, List.set_cons_zero, List.set_cons_succ]
      refine upto_step (i := 13) (by kernel_rfl) rfl ?_
      intro K hK
      go_simp
      refine hK _ _ (fun _ => hS9) ?_
      clear hK K
      try simp only [Act.put, List.getElem_toArray, List.getElem_cons_zero, List.getElem_cons_succ, List.setIfInBounds_toArray, List.set_cons_zero, List.set_cons_succ]
      obtain ⟨o9', of9⟩ : w9.cell? ⟨w.heap.size + 1 + 1 + 1, 0, none⟩ = some (.slice a k c) ∧ ∀ o, w9.frozen? ⟨w.heap.size + 1 + 1 + 1, o, none⟩ = false := ⟨hS9.1.o0, hS9.1.of⟩
      refine upto_step (i := 14) (by kernel_rfl) rfl ?_
      intro K hK
      go_simp
      refine hK _ _ (fun h => absurd rfl h) ?_
      clear hK K
      refine upto_done (by kernel_rfl) ?_
      refine NoPanic.normal ?_
      have HS10 : Hid (StSt w (w9.setCell ⟨w.heap.size + 1 + 1 + 1, 0, none⟩ (.slice a9 (k + 1) c9)) n (some ⟨b, o, none⟩) cg id ac m cc (.slice a9 (k + 1) c9)) := hS9.1.put _
      have HP10 : Hid (PO balsR 171 1 one (w9.setCell ⟨w.heap.size + 1 + 1 + 1, 0, none⟩ (.slice a9 (k + 1) c9)) (w.heap.size + 4) (.slice a9 (k + 1) c9) (k + 1) (k + 1) (settleAt gs ls) (cs ++ [.slice p7 l7 q7]) (upd us k (.slice p7 l7 q7)) (upd fs k F7)) := HP9.out.mod (Mod.of_set _ _ _) (fun b' hb' e => by have := (HP9.out.row.lt b' hb').1; dsimp only at e; omega) (fun i hi b' hb' e => by have := (balsR.rng (HP9.out.el i hi) b' hb').1; dsimp only at e; omega)
      clear hS9 HP9 o9' of9 g0 y0 y1 r0 o0 rf of sz blw
      go_wp2
      exact ⟨⟨k + 1, _, _, _, _, _, by omega, by go_num, HP10, HS10⟩, by simp [intOf]; omega⟩
    · have hkn' : k = n := by omega
      subst hkn'
      have hk' : ¬ ((k : Int) < k) := by omega
      have HO : Hid (∃ F, balssR.O w5 (w.heap.size + 4) F (.slice a k c) (settleL gs ls)) := by
        refine ⟨_, cs, us, fs, ?_, fun b => Iff.rfl⟩
        rw [settleL_len, HN.out]
        exact HP.out.cast (fun i hi => settleL_get gs ls (by rw [HN.out]; exact hi))
      go_wp2
      refine bodyPost_ret (v := .agg #[.slice a k c]) (by simp [results, Try.results89, go_sem, r0, rf, o0]) rfl ?_
      obtain ⟨F, hO⟩ := HO.out
      exact ⟨_, rfl, ⟨F, _, F, rfl, balssR.base (balssR.set hO _ (by dsimp only; omega)) (by omega), fun b => Iff.rfl⟩, blw.setCell (by first | omega | (dsimp only; omega)) _⟩

end Go.Proofs.Yteebglgbeijolaa
