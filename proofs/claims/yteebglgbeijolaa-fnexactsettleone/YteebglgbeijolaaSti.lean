/-
  impl.SettleOne.
-/
import Derived.Test.YteebglgbeijolaaStb
import Derived.Test.YteebglgbeijolaaCan2
namespace Go.Proofs.Yteebglgbeijolaa
open Go.RowKit
set_option linter.unusedSectionVars false
variable [DecidableEq Rw] [Inhabited Rw] [DecidableEq Bal] [Inhabited Bal] [DecidableEq Ledg] [Inhabited Ledg] [DecidableEq Leg] [Inhabited Leg] [DecidableEq Cont] [Inhabited Cont] [DecidableEq LedgR] [Inhabited LedgR]
set_option linter.unusedVariables false
set_option linter.unusedSimpArgs false
attribute [local go_sem ↓] Go.wp_at_zero Go.wp_at_succ

set_option maxRecDepth 20000 in
set_option maxHeartbeats 4000000 in
theorem implSettle_u (x y : Value) (g : Ledg) (c : Cont) (w : World) (hx : ledgR.V w x g) (hy : contR.V w y c) :
    Calls Try.prog 39 #[x, y] w fun e w' => ∃ v F, e = .returned v ∧ ledgRR.O w' w.heap.size F v (settleD g c) ∧ Below w.heap.size w w' := by
  have hX := hx
  have hY := hy
  obtain ⟨ag, cg, rfl⟩ := ledg_form hx
  obtain ⟨ac, cc, rfl⟩ := cont_form hy
  have HX : Hid (∀ W, Below w.heap.size w W → ledgR.V W (.agg #[.slice ag g.shards.length cg]) g) := fun W hW => ledgR.below hX hW
  have HY : Hid (∀ W, Below w.heap.size w W → contR.V W (.agg #[.int .i64 c.id, .slice ac c.legs.length cc]) c) := fun W hW => contR.below hY hW
  have HLG : Hid (∀ W, Below w.heap.size w W → legsR.V W (.slice ac c.legs.length cc) c.legs) := fun W hW => by
    obtain ⟨u, e, hu⟩ := HY.out W hW
    simp only [Value.agg.injEq, Array.mk.injEq, List.cons.injEq, and_true, true_and] at e
    rw [e]
    exact hu
  have HF : Hid (canG g c = 0 → _) := fun h => settle_facts (g := g) (c := c) h
  have HC : Hid (∀ W, Below w.heap.size w W → Calls Try.prog 92 #[.agg #[.slice ag g.shards.length cg], .agg #[.int .i64 c.id, .slice ac c.legs.length cc]] W fun e w' => e = .returned (.int .i64 (canG g c)) ∧ Below W.heap.size W w') := fun W hW => implCan_any _ _ g c W (HX.out W hW) (HY.out W hW)
  have HO : Hid (canG g c = 0 → ∀ W, Below w.heap.size w W → Calls Try.prog 93 #[.agg #[.slice ag g.shards.length cg]] W fun e w' => ∃ b, e = .returned (.agg #[.int .i64 g.shards.length, .map (some b)]) ∧ W.heap.size ≤ b ∧ Book w' b 54 (bookF g.shards) ∧ Below W.heap.size W w') := fun h W hW => bookOf_any _ g W (HX.out W hW) (settle_facts h).1.2.2.2
  have HA : Hid (canG g c = 0 → ∀ W b, Below w.heap.size w W → Book W b 54 (bookF g.shards) → Calls Try.prog 94 #[.agg #[.int .i64 g.shards.length, .map (some b)], .slice ac c.legs.length cc] W fun e w' => e = .returned (.tuple #[]) ∧ ∃ m', Book w' b m' (addLs (bookF g.shards) c.legs) ∧ Mod (fun i => i = b) W w') := fun h W b hW hB => by
    obtain ⟨⟨_, _, h8, _⟩, _, _, _, h5⟩ := settle_facts h
    refine (bookAdd_any g.shards.length b 54 _ _ c.legs W hB (HLG.out W hW) (by omega) h5).mono ?_
    rintro e w' ⟨rfl, m', _, h1, h2⟩
    exact ⟨rfl, m', h1, h2⟩
  have HL : Hid (canG g c = 0 → ∀ W b m, Book W b m (addLs (bookF g.shards) c.legs) → Calls Try.prog 95 #[.agg #[.int .i64 g.shards.length, .map (some b)]] W fun e w' => ∃ v F, e = .returned (.agg #[v]) ∧ balssR.O w' W.heap.size F v (settleL g.shards c.legs) ∧ Below W.heap.size W w') := fun h W b m hB => by
    obtain ⟨⟨h1, h3, h8, _⟩, hr, hk, hs, h5⟩ := settle_facts h
    have hd := kdom_settle hr hk hs
    refine (bookLedger_any g.shards.length b m _ W hB h1 h3 hd).mono ?_
    rintro e w' ⟨v, F, ys, rfl, hD, hP, hO, hb⟩
    refine ⟨v, F, rfl, ?_, hb⟩
    rw [← lay_settled hr hk (by omega) hd hD hP (hs' := (List.range g.shards.length).map (shK (addLs (bookF g.shards) c.legs) ys)) (by simp) (fun i hi => by simp [List.getD, hi])]
    exact hO
  have HD : Hid (settleD g c = if canG g c = 0 then ⟨0, ⟨settleL g.shards c.legs⟩⟩ else ⟨canG g c, ⟨[]⟩⟩) := rfl
  clear hx hy hX hY HF HLG HX HY
  generalize g.shards.length = n at *
  generalize c.legs.length = m at *
  generalize c.id = id at *
  generalize canG g c = q at *
  go_enter Try.func39, Try.ntmps39
  go_wp2_with fail
  refine (HC.out _ (by (repeat (first | exact Below.refl _ _ | assumption | refine Below.drew ?_ | refine balloc ?_ _ | refine bset ?_ (by simp; omega) _ | refine bset ?_ (by simp) _ | refine bstep ?_ (by assumption))))).mono ?_
  rintro e w1 ⟨rfl, hb1⟩
  have g0 : w1.cell? ⟨w.heap.size, 0, none⟩ = some (.slice ag n cg) := cell_keep hb1 (by simp [go_sem])
  have y0 : w1.cell? ⟨w.heap.size + 1, 0, none⟩ = some (.int .i64 id) := cell_keep hb1 (by simp [go_sem])
  have y1 : w1.cell? ⟨w.heap.size + 1, 1, none⟩ = some (.slice ac m cc) := cell_keep hb1 (by simp [go_sem])
  have r0 : w1.cell? ⟨w.heap.size + 1 + 1, 0, none⟩ = some (.int .i64 0) := cell_keep hb1 (by simp [go_sem])
  have r1 : w1.cell? ⟨w.heap.size + 1 + 1, 1, none⟩ = some (.slice none 0 0) := cell_keep hb1 (by simp [go_sem])
  have rf : ∀ o, w1.frozen? ⟨w.heap.size + 1 + 1, o, none⟩ = false := fun o => by rw [(bcell hb1).2 _ _ (by simp)]; simp [go_sem]
  have hB1 : Below w.heap.size w w1 := by (repeat (first | exact Below.refl _ _ | assumption | refine Below.drew ?_ | refine balloc ?_ _ | refine bset ?_ (by simp; omega) _ | refine bset ?_ (by simp) _ | refine bstep ?_ (by assumption)))
  have z1 := hb1.size
  simp only [World.size_alloc] at z1
  clear hb1
  by_cases hq : q = 0
  · subst hq
    go_wp2_with fail
    refine (HO.out (by first | rfl | trivial) _ hB1).mono ?_
    rintro e w2 ⟨b, rfl, hbb, hbk, hb2⟩
    replace y1 := cell_keep hb2 y1
    replace r0 := cell_keep hb2 r0
    replace r1 := cell_keep hb2 r1
    replace rf : ∀ o, w2.frozen? ⟨w.heap.size + 1 + 1, o, none⟩ = false := fun o => by rw [(bcell hb2).2 _ _ (by first | omega | (dsimp only; omega))]; exact rf o
    have hB2 : Below w.heap.size w w2 := bstep hB1 hb2
    have z2 := hb2.size
    have zb := hbk.lt
    have HBK : Hid (Book w2 b 54 (bookF g.shards)) := hbk
    clear hb2 g0 y0 hB1 hbk
    have y1z : w.heap.size + 1 < w2.heap.size := by omega
    have r1z : w.heap.size + 1 + 1 < w2.heap.size := by omega
    go_wp2_with fail
    refine (HA.out (by first | rfl | trivial) _ b (by (repeat (first | exact Below.refl _ _ | assumption | refine Below.drew ?_ | refine balloc ?_ _ | refine bset ?_ (by simp; omega) _ | refine bset ?_ (by simp) _ | refine bstep ?_ (by assumption)))) (HBK.out.below (by (repeat (first | exact Below.refl _ _ | assumption | refine Below.drew ?_ | refine balloc ?_ _ | refine bset ?_ (by simp; omega) _ | refine bset ?_ (by simp) _ | refine bstep ?_ (by assumption)))))).mono ?_
    rintro e w3 ⟨rfl, m3, hbk3, hm3⟩
    have hBA : Below w.heap.size w (w2.alloc (.cells #[.int .i64 n, .map (some b)] 143)) := by (repeat (first | exact Below.refl _ _ | assumption | refine Below.drew ?_ | refine balloc ?_ _ | refine bset ?_ (by simp; omega) _ | refine bset ?_ (by simp) _ | refine bstep ?_ (by assumption)))
    have k0 : w3.cell? ⟨w2.heap.size, 0, none⟩ = some (.int .i64 n) := hm3.cell (by simp [go_sem]) (by dsimp only; omega)
    have k1 : w3.cell? ⟨w2.heap.size, 1, none⟩ = some (.map (some b)) := hm3.cell (by simp [go_sem]) (by dsimp only; omega)
    have z3 := hm3.size
    simp only [World.size_alloc] at z3
    have hB3 : Below w.heap.size w w3 := Mod.below hBA hm3 (by simp; omega) (fun i e => by omega)
    replace rf : ∀ o, w3.frozen? ⟨w.heap.size + 1 + 1, o, none⟩ = false := fun o => (mod_frozen hm3 (a := ⟨w.heap.size + 1 + 1, o, none⟩) (by simp; omega) (by dsimp only; omega)).trans (by rw [(bcell (balloc (Below.refl w2.heap.size w2) _)).2 _ _ (by first | omega | (dsimp only; omega))]; exact rf o)
    replace r0 := hm3.cell (cell_keep (balloc (Below.refl _ _) _) r0) (by dsimp only; omega)
    replace r1 := hm3.cell (cell_keep (balloc (Below.refl _ _) _) r1) (by dsimp only; omega)
    clear hm3 y1 hB2 hBA HBK
    have HB3 : Hid (Book w3 b m3 (addLs (bookF g.shards) c.legs)) := hbk3
    clear hbk3
    go_wp2_with fail
    refine (HL.out (by first | rfl | trivial) _ b m3 HB3.out).mono ?_
    rintro e w4 ⟨v4, F3, rfl, o3, hb4⟩
    obtain ⟨a2, c2, rfl⟩ := balss_form (balssR.ofO o3)
    replace r0 := cell_keep hb4 r0
    replace r1 := cell_keep hb4 r1
    replace rf : ∀ o, w4.frozen? ⟨w.heap.size + 1 + 1, o, none⟩ = false := fun o => by rw [(bcell hb4).2 _ _ (by first | omega | (dsimp only; omega))]; exact rf o
    have hB4 : Below w.heap.size w w4 := bstep hB3 hb4
    have z4 := hb4.size
    have HO3 : Hid (balssR.O w4 w3.heap.size F3 (.slice a2 (settleL g.shards c.legs).length c2) (settleL g.shards c.legs)) := o3
    clear hb4 o3 hB3 k0 k1
    dsimp only
    generalize hLL : (settleL g.shards c.legs).length = L at *
    clear hLL
    go_wp2
    refine bodyPost_ret (v := .agg #[.int .i64 0, .slice a2 L c2]) (by simp [results, Try.results39, go_sem, r0, r1, rf]) rfl ?_
    rw [HD.out, if_pos (by trivial)]
    refine ⟨_, F3, rfl, ⟨_, F3, rfl, ⟨_, F3, rfl, balssR.base (balssR.set (balssR.set HO3.out _ (by first | omega | (dsimp only; omega))) _ (by first | omega | (dsimp only; omega))) (by omega), fun b => Iff.rfl⟩, fun b => Iff.rfl⟩, ?_⟩
    exact (hB4.setCell (by first | omega | (dsimp only; omega)) _).setCell (by first | omega | (dsimp only; omega)) _
  · go_wp2
    refine bodyPost_ret (v := .agg #[.int .i64 q, .slice none 0 0]) (by simp [results, Try.results39, go_sem, r0, r1, rf]) rfl ?_
    rw [HD.out, if_neg hq]
    obtain ⟨F, hO⟩ := balss_nil ((w1.setCell ⟨w.heap.size + 1 + 1, 0, none⟩ (.int .i64 q)).setCell ⟨w.heap.size + 1 + 1, 1, none⟩ (.slice none 0 0)) w.heap.size
    refine ⟨_, F, rfl, ⟨_, F, rfl, ⟨_, F, rfl, hO, fun b => Iff.rfl⟩, fun b => Iff.rfl⟩, ?_⟩
    exact (hB1.setCell (by first | omega | (dsimp only; omega)) _).setCell (by first | omega | (dsimp only; omega)) _

end Go.Proofs.Yteebglgbeijolaa
