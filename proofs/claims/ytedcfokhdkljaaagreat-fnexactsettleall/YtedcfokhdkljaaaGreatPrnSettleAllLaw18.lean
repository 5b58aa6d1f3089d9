import Derived.Test.YtedcfokhdkljaaaGreatPrnSettleAllLaw17
import Derived.Test.YtedcfokhdkljaaaGreatPrnSettleAllLaw10
import Derived.Test.YtedcfokhdkljaaaGreatPrnSettleAllLaw2
import Derived.Maps.AppendAt

/-
  impl.SettleAll.
-/
namespace Go.Proofs.YtedcfokhdkljaaaGreat
open Go.RowKit
set_option linter.unusedSectionVars false
variable [DecidableEq Rw] [Inhabited Rw] [DecidableEq Bal] [Inhabited Bal] [DecidableEq Ledg] [Inhabited Ledg] [DecidableEq Leg] [Inhabited Leg] [DecidableEq Cont] [Inhabited Cont] [DecidableEq LedgR] [Inhabited LedgR] [DecidableEq OutcR] [Inhabited OutcR]
set_option linter.unusedVariables false
set_option linter.unusedSimpArgs false
attribute [local go_sem ↓] Go.wp_at_zero Go.wp_at_succ

set_option maxRecDepth 20000 in
set_option maxHeartbeats 4000000 in
theorem bookSettle_any (b m : Nat) (gs : List (List Bal)) (y : Value) (c : Cont) (w : World) (hb : Book w b m (bookF gs)) (hy : contR.V w y c) (h0 : ledFault ⟨gs⟩ = 0) (hm : m + 8 < 1000000) :
    Calls Tryz.prog 26 #[.agg #[.int .i64 gs.length, .map (some b)], y] w fun e w' => e = .returned (.int .i64 (outA gs c)) ∧ ∃ m', m' ≤ m + 8 ∧ Book w' b m' (bookF (stepA gs c)) ∧ Mod (fun i => i = b) w w' := by
  have hY := hy
  obtain ⟨ac, cc, rfl⟩ := cont_form hy
  have HY : Hid (∀ W, Below w.heap.size w W → contR.V W (.agg #[.int .i64 c.id, .slice ac c.legs.length cc]) c) := fun W hW => contR.below hY hW
  have HLG : Hid (∀ W, Below w.heap.size w W → legsR.V W (.slice ac c.legs.length cc) c.legs) := fun W hW => by
    obtain ⟨u, e, hu⟩ := HY.out W hW
    simp only [Value.agg.injEq, Array.mk.injEq, List.cons.injEq, and_true, true_and] at e
    rw [e]
    exact hu
  have hn3 : gs.length ≤ 3 := (ledOk_of h0).2.1
  have HC : Hid (∀ W, Below w.heap.size w W → Calls Tryz.prog 47 #[.agg #[.int .i64 gs.length, .map (some b)], .agg #[.int .i64 c.id, .slice ac c.legs.length cc]] W fun e w' => e = .returned (.int .i64 (canF gs.length (bookF gs) c)) ∧ Below W.heap.size W w') := fun W hW => settleFault_any gs.length b m (bookF gs) _ c W (hb.below hW) (HY.out W hW) (smallF_of (g := ⟨gs⟩) h0) hn3
  have HA : Hid (canF gs.length (bookF gs) c = 0 → ∀ W, Below w.heap.size w W → Calls Tryz.prog 48 #[.agg #[.int .i64 gs.length, .map (some b)], .slice ac c.legs.length cc] W fun e w' => e = .returned (.tuple #[]) ∧ ∃ m', m' ≤ m + 8 ∧ Book w' b m' (bookF (stepA gs c)) ∧ Mod (fun i => i = b) W w') := fun h W hW => by
    have hG : canG ⟨gs⟩ c = 0 := by rw [canG_F h0]; exact h
    obtain ⟨⟨_, _, h8, _⟩, _, _, _, h5⟩ := settle_facts hG
    refine (bookAdd_any gs.length b m _ _ c.legs W (hb.below hW) (HLG.out W hW) (by omega) h5).mono ?_
    rintro e w' ⟨rfl, m', hm', h1, h2⟩
    refine ⟨rfl, m', by omega, ?_, h2⟩
    have e : stepA gs c = settleL gs c.legs := by unfold stepA; rw [if_pos h]
    rw [e, (settled_ok hG).2]
    exact h1
  have HO1 : Hid (canF gs.length (bookF gs) c = 0 → outA gs c = 1) := fun h => by unfold outA; rw [if_pos h]
  have HO2 : Hid (¬ canF gs.length (bookF gs) c = 0 → outA gs c = 2 ∧ stepA gs c = gs) := fun h => by unfold outA stepA; rw [if_neg h, if_neg h]; exact ⟨rfl, rfl⟩
  have HBK : Hid (Book w b m (bookF gs)) := hb
  have zb := hb.lt
  clear hy hY HY HLG hb hn3 h0
  generalize hcF : canF gs.length (bookF gs) c = q at *
  clear hcF
  generalize gs.length = n at *
  generalize c.legs.length = k at *
  generalize c.id = id at *
  go_enter Tryz.func26, Tryz.ntmps26
  go_wp2_with fail
  refine (HC.out _ (by (repeat (first | exact Below.refl _ _ | assumption | refine Below.drew ?_ | refine balloc ?_ _ | refine bset ?_ (by simp; omega) _ | refine bset ?_ (by simp) _ | refine bstep ?_ (by assumption))))).mono ?_
  rintro e w1 ⟨rfl, hb1⟩
  have k0 : w1.cell? ⟨w.heap.size, 0, none⟩ = some (.int .i64 n) := cell_keep hb1 (by simp [go_sem])
  have k1 : w1.cell? ⟨w.heap.size, 1, none⟩ = some (.map (some b)) := cell_keep hb1 (by simp [go_sem])
  have y1 : w1.cell? ⟨w.heap.size + 1, 1, none⟩ = some (.slice ac k cc) := cell_keep hb1 (by simp [go_sem])
  have hB1 : Below w.heap.size w w1 := by (repeat (first | exact Below.refl _ _ | assumption | refine Below.drew ?_ | refine balloc ?_ _ | refine bset ?_ (by simp; omega) _ | refine bset ?_ (by simp) _ | refine bstep ?_ (by assumption)))
  clear hb1
  by_cases hq : q = 0
  · subst hq
    go_wp2_with fail
    refine (HA.out (by first | rfl | trivial) _ hB1).mono ?_
    rintro e w2 ⟨rfl, m2, hm2, hbk2, hmo⟩
    have HE : Hid (m2 ≤ m + 8 ∧ Book w2 b m2 (bookF (stepA gs c)) ∧ Mod (fun i => i = b) w w2) := ⟨hm2, hbk2, (Mod.of_below hB1).trans hmo⟩
    clear hm2 hbk2 hmo hB1 k0 k1 y1
    go_wp2
    go_ret
    exact ⟨by rw [HO1.out (by first | rfl | trivial)]; rfl, m2, HE.out.1, HE.out.2.1, HE.out.2.2⟩
  · go_wp2
    go_ret
    obtain ⟨h1, h2⟩ := HO2.out hq
    refine ⟨by rw [h1]; rfl, m, by omega, ?_, Mod.of_below hB1⟩
    rw [h2]
    exact HBK.out.below hB1
theorem outc_nil (w : World) (base : Nat) (q : Int) : ∃ F, outcRR.O w base F (.agg #[.int .i64 q, .slice none 0 0, .slice none 0 0]) ⟨q, [], ⟨[]⟩⟩ := by
  obtain ⟨F2, h2⟩ := balss_nil w base
  refine ⟨_, _, _, _, F2, rfl, ⟨World.ownsRow_nil _ _ _ _, rfl⟩, ⟨_, F2, rfl, h2, fun b => Iff.rfl⟩, fun b hb => by simp [Value.ownBlock] at hb, fun b => Iff.rfl⟩
theorem ledger_back (b m : Nat) (gs : List (List Bal)) (w : World) (hb : Book w b m (bookF gs)) (h0 : ledFault ⟨gs⟩ = 0) :
    Calls Tryz.prog 27 #[.agg #[.int .i64 gs.length, .map (some b)]] w fun e w' => ∃ v F, e = .returned (.agg #[v]) ∧ balssR.O w' w.heap.size F v gs ∧ Below w.heap.size w w' := by
  obtain ⟨h1, h3, hok⟩ := ledOk_of h0
  dsimp only at h1 h3 hok
  have hr : ∀ i, i < gs.length → RiseB (gs.getD i default) := fun i hi => rise_of (hok i hi)
  have hd : KDom gs.length (addLs (bookF gs) []) := kdom_settle hr (fun l h => by cases h) (fun l h => by cases h)
  refine (bookLedger_any gs.length b m _ w hb h1 h3 hd).mono ?_
  rintro e w' ⟨v, F, ys, rfl, hD, hP, hO, hb'⟩
  refine ⟨v, F, rfl, ?_, hb'⟩
  have h := lay_settled hr (ls := []) (fun l h => by cases h) (by omega) hd hD hP (hs' := (List.range gs.length).map (shK (addLs (bookF gs) []) ys)) (by simp) (fun i hi => by simp [List.getD, hi])
  rw [settleL_nil] at h
  have hO' : balssR.O w' w.heap.size F v ((List.range gs.length).map (shK (addLs (bookF gs) []) ys)) := hO
  rw [h] at hO'
  exact hO'
end Go.Proofs.YtedcfokhdkljaaaGreat

/-
  impl.SettleAll.
-/
namespace Go.Proofs.YtedcfokhdkljaaaGreat
open Go.RowKit
set_option linter.unusedSectionVars false
variable [DecidableEq Rw] [Inhabited Rw] [DecidableEq Bal] [Inhabited Bal] [DecidableEq Ledg] [Inhabited Ledg] [DecidableEq Leg] [Inhabited Leg] [DecidableEq Cont] [Inhabited Cont] [DecidableEq LedgR] [Inhabited LedgR] [DecidableEq OutcR] [Inhabited OutcR]
set_option linter.unusedVariables false
set_option linter.unusedSimpArgs false
attribute [local go_sem ↓] Go.wp_at_zero Go.wp_at_succ

theorem intsO_one (ys : List Int) : ∀ u ∈ intsC ys, u.oneCell' = true := by
  intro u hu
  simp only [intsC, List.mem_map] at hu
  obtain ⟨y, _, rfl⟩ := hu
  rfl
theorem srcO_one {w' : World} {g : Nat} {v : Int} (h : w'.cell? ⟨g, 0, none⟩ = some (.int .i64 v)) : ∀ j u, (intsC [v])[j]? = some u → w'.cell? ((⟨g, 0, none⟩ : Addr).add j) = some u := by
  intro j u hj
  match j, hj with
  | 0, hj => simp [intsC] at hj; subst hj; simpa [Addr.add] using h
  | j + 1, hj => simp [intsC] at hj
set_option maxRecDepth 20000 in
set_option maxHeartbeats 8000000 in
theorem implAll_u (x y : Value) (g : Ledg) (cs : List Cont) (w : World) (hx : ledgR.V w x g) (hy : contsR.V w y cs) :
    Calls Tryz.prog 9 #[x, y] w fun e w' => ∃ v F, e = .returned v ∧ outcRR.O w' w.heap.size F v (allD g cs) ∧ Below w.heap.size w w' := by
  have hX := hx
  obtain ⟨ag, cg, rfl⟩ := ledg_form hx
  obtain ⟨ay, cy, rfl, hcy, hmy, hyy⟩ := hy
  unfold maxLen at hmy
  obtain ⟨i0, hi, hz0, hz1, hz2⟩ := info_parts infoInt
  have HX : Hid (∀ W, Below w.heap.size w W → ledgR.V W (.agg #[.slice ag g.shards.length cg]) g) := fun W hW => ledgR.below hX hW
  have HC : Hid (∀ W, Below w.heap.size w W → Calls Tryz.prog 24 #[.agg #[.slice ag g.shards.length cg]] W fun e w' => e = .returned (.int .i64 (ledFault g)) ∧ Below W.heap.size W w') := fun W hW => implLedFault_any _ g W (HX.out W hW)
  have HO : Hid (ledFault g = 0 → ∀ W, Below w.heap.size w W → Calls Tryz.prog 25 #[.agg #[.slice ag g.shards.length cg]] W fun e w' => ∃ b, e = .returned (.agg #[.int .i64 g.shards.length, .map (some b)]) ∧ W.heap.size ≤ b ∧ Book w' b 54 (bookF g.shards) ∧ Below W.heap.size W w') := fun h W hW => bookOf_any _ g W (HX.out W hW) h
  have HS : Hid (ledFault g = 0 → ∀ k, k < cs.length → ∀ W b m u, Book W b m (bookF (allG g.shards (cs.take k))) → contR.V W u (cs.getD k default) → m + 8 < 1000000 → Calls Tryz.prog 26 #[.agg #[.int .i64 g.shards.length, .map (some b)], u] W fun e w' => e = .returned (.int .i64 (outA (allG g.shards (cs.take k)) (cs.getD k default))) ∧ ∃ m', m' ≤ m + 8 ∧ Book w' b m' (bookF (allG g.shards (cs.take (k + 1)))) ∧ Mod (fun i => i = b) W w') := fun h k hk W b m u hB hu hm => by
    obtain ⟨h1, h2⟩ := allG_ok (gs := g.shards) h (cs.take k)
    have h3 := bookSettle_any b m _ u _ W hB hu h1 hm
    rw [h2, ← allG_take _ _ hk] at h3
    exact h3
  have HL : Hid (ledFault g = 0 → ∀ W b m, Book W b m (bookF (allG g.shards cs)) → Calls Tryz.prog 27 #[.agg #[.int .i64 g.shards.length, .map (some b)]] W fun e w' => ∃ v F, e = .returned (.agg #[v]) ∧ balssR.O w' W.heap.size F v (allG g.shards cs) ∧ Below W.heap.size W w') := fun h W b m hB => by
    obtain ⟨h1, h2⟩ := allG_ok (gs := g.shards) h cs
    have h3 := ledger_back b m _ W hB h1
    rw [h2] at h3
    exact h3
  have HD : Hid (allD g cs = if ledFault g = 0 then (if 100 < cs.length then ⟨2, [], ⟨[]⟩⟩ else ⟨0, allO g.shards cs, ⟨allG g.shards cs⟩⟩) else ⟨ledFault g, [], ⟨[]⟩⟩) := rfl
  have HT : Hid (∀ k, k < cs.length → allO g.shards (cs.take (k + 1)) = allO g.shards (cs.take k) ++ [outA (allG g.shards (cs.take k)) (cs.getD k default)]) := fun k hk => allO_take _ _ hk
  have HTN : Hid (cs.take cs.length = cs) := List.take_length
  have HAL : Hid ((allO g.shards cs).length = cs.length) := allO_len _ _
  have HYY : Hid (∀ k, k < cs.length → ∃ b o u, ay = some ⟨b, o, none⟩ ∧ (∀ j, j < 2 → w.cell? ⟨b, o + k * 2 + j, none⟩ = (lvCont u)[j]?) ∧ contR.V w u (cs.getD k default)) := fun k hk => by
    obtain ⟨b, o, u, h1, _, h2, h3⟩ := hyy k hk
    exact ⟨b, o, u, h1, h2, h3⟩
  clear hx hX HX hyy
  generalize hq : ledFault g = q at *
  clear hq
  generalize hN : cs.length = N at *
  clear hN
  generalize g.shards.length = n at *
  go_enter Tryz.func9, Tryz.ntmps9
  go_wp2_with fail
  refine (HC.out _ (by (repeat (first | exact Below.refl _ _ | assumption | refine Below.drew ?_ | refine balloc ?_ _ | refine bset ?_ (by simp; omega) _ | refine bset ?_ (by simp) _ | refine bstep ?_ (by assumption))))).mono ?_
  rintro e w1 ⟨rfl, hb1⟩
  have g0 : w1.cell? ⟨w.heap.size, 0, none⟩ = some (.slice ag n cg) := cell_keep hb1 (by simp [go_sem])
  have r0 : w1.cell? ⟨w.heap.size + 1, 0, none⟩ = some (.int .i64 0) := cell_keep hb1 (by simp [go_sem])
  have r1 : w1.cell? ⟨w.heap.size + 1, 1, none⟩ = some (.slice none 0 0) := cell_keep hb1 (by simp [go_sem])
  have r2 : w1.cell? ⟨w.heap.size + 1, 2, none⟩ = some (.slice none 0 0) := cell_keep hb1 (by simp [go_sem])
  have rf : ∀ o, w1.frozen? ⟨w.heap.size + 1, o, none⟩ = false := fun o => by rw [(bcell hb1).2 _ _ (by simp)]; simp [go_sem]
  have hB1 : Below w.heap.size w w1 := by (repeat (first | exact Below.refl _ _ | assumption | refine Below.drew ?_ | refine balloc ?_ _ | refine bset ?_ (by simp; omega) _ | refine bset ?_ (by simp) _ | refine bstep ?_ (by assumption)))
  have z1 := hb1.size
  simp only [World.size_alloc] at z1
  clear hb1
  by_cases hq : q = 0
  · subst hq
    by_cases h100 : 100 < N
    · have h100' : (100 : Int) < (N : Int) := by omega
      go_wp2
      refine bodyPost_ret (v := .agg #[.int .i64 2, .slice none 0 0, .slice none 0 0]) (by simp [results, Tryz.results9, go_sem, r0, r1, r2, rf]) rfl ?_
      rw [HD.out, if_pos (by trivial), if_pos (by first | exact h100 | trivial)]
      obtain ⟨F, hO⟩ := outc_nil (((w1.setCell ⟨w.heap.size + 1, 0, none⟩ (.int .i64 2)).setCell ⟨w.heap.size + 1, 1, none⟩ (.slice none 0 0)).setCell ⟨w.heap.size + 1, 2, none⟩ (.slice none 0 0)) w.heap.size 2
      refine ⟨_, F, rfl, hO, ?_⟩
      exact ((hB1.setCell (by first | omega | (dsimp only; omega)) _).setCell (by first | omega | (dsimp only; omega)) _).setCell (by first | omega | (dsimp only; omega)) _
    · have h100' : ¬ (100 : Int) < (N : Int) := by omega
      go_wp2_with fail
      refine (HO.out (by first | rfl | trivial) _ hB1).mono ?_
      rintro e w2 ⟨b, rfl, hbb, hbk, hb2⟩
      replace r0 := cell_keep hb2 r0
      replace r1 := cell_keep hb2 r1
      replace r2 := cell_keep hb2 r2
      replace rf : ∀ o, w2.frozen? ⟨w.heap.size + 1, o, none⟩ = false := fun o => by rw [(bcell hb2).2 _ _ (by first | omega | (dsimp only; omega))]; exact rf o
      have hB2 : Below w.heap.size w w2 := bstep hB1 hb2
      have z2 := hb2.size
      have zb := hbk.lt
      have HBK : Hid (Book w2 b 54 (bookF g.shards)) := hbk
      clear hb2 g0 hB1 hbk
      go_wp2
      have q0 : (w2.alloc (.cells #[.int .i64 n, .map (some b)] 60)).cell? ⟨w2.heap.size, 0, none⟩ = some (.int .i64 n) := by simp [go_sem]
      have q1 : (w2.alloc (.cells #[.int .i64 n, .map (some b)] 60)).cell? ⟨w2.heap.size, 1, none⟩ = some (.map (some b)) := by simp [go_sem]
      have hb3 : Below w2.heap.size w2 (w2.alloc (.cells #[.int .i64 n, .map (some b)] 60)) := balloc (Below.refl _ _) _
      replace r0 := cell_keep hb3 r0
      replace r1 := cell_keep hb3 r1
      replace r2 := cell_keep hb3 r2
      replace rf : ∀ o, (w2.alloc (.cells #[.int .i64 n, .map (some b)] 60)).frozen? ⟨w.heap.size + 1, o, none⟩ = false := fun o => by rw [(bcell hb3).2 _ _ (by first | omega | (dsimp only; omega))]; exact rf o
      have hB3 : Below w.heap.size w (w2.alloc (.cells #[.int .i64 n, .map (some b)] 60)) := bstep hB2 hb3
      have HB3 : Hid (Book (w2.alloc (.cells #[.int .i64 n, .map (some b)] 60)) b 54 (bookF g.shards)) := HBK.out.below hb3
      have hsz : (w2.alloc (.cells #[.int .i64 n, .map (some b)] 60)).heap.size = w2.heap.size + 1 := by simp
      clear hb3 hB2 HBK
      generalize w2.alloc (.cells #[.int .i64 n, .map (some b)] 60) = Y at *
      generalize w2.heap.size = B at *
      go_loopw [7, 24] (fun u ii W => ∃ k m' : Nat, k ≤ N ∧ ii = .int .i64 k ∧ m' ≤ 54 + 8 * k ∧ Hid (Book W b m' (bookF (allG g.shards (cs.take k)))) ∧ W.ownsRow Y.heap.size 2 1 u k (intsC (allO g.shards (cs.take k))) ∧ Mod (fun i => i = b ∨ Y.heap.size ≤ i) Y W) (fun _ ii _ => N - (intOf ii).toNat)
      case atStart => exact ⟨0, 54, Nat.zero_le _, rfl, by omega, HB3.out, World.ownsRow_nil _ _ _ _, Mod.refl _ _⟩
      case round =>
        obtain ⟨k, m', hk, rfl, hm', HBk, hO, hM⟩ := hrel
        have zY := hM.size
        have hBr : Below w.heap.size w wr := Mod.below hB3 hM (by omega) (fun i e => by rcases e with e | e <;> omega)
        have q0r := hM.cell q0 (by dsimp only; omega)
        have q1r := hM.cell q1 (by dsimp only; omega)
        obtain ⟨pu, cu, rfl⟩ := owns_form hO
        have zB : B < wr.heap.size := by omega
        by_cases hlt : k < N
        · obtain ⟨bx, ox, ux, rfl, pc, hv⟩ := HYY.out k hlt
          have hV := hv
          obtain ⟨ac, cc, rfl⟩ := cont_form hv
          have HT' := HT.out k hlt
          have HSk := HS.out (by first | rfl | trivial) k hlt
          have HTk : Hid (allO g.shards (cs.take (k + 1)) = allO g.shards (cs.take k) ++ [outA (allG g.shards (cs.take k)) (cs.getD k default)]) := HT'
          clear HT'
          have HSS : Hid (∀ W b m u, Book W b m (bookF (allG g.shards (cs.take k))) → contR.V W u (cs.getD k default) → m + 8 < 1000000 → Calls Tryz.prog 26 #[.agg #[.int .i64 n, .map (some b)], u] W fun e w' => e = .returned (.int .i64 (outA (allG g.shards (cs.take k)) (cs.getD k default))) ∧ ∃ m', m' ≤ m + 8 ∧ Book w' b m' (bookF (allG g.shards (cs.take (k + 1)))) ∧ Mod (fun i => i = b) W w') := HSk
          clear HSk
          obtain ⟨c, hc⟩ : ∃ c, c = cs.getD k default := ⟨_, rfl⟩
          rw [← hc] at hV pc HTk HSS
          have c0 : wr.cell? ⟨bx, ox + k * 2, none⟩ = some (.int .i64 c.id) := cell_keep hBr (pc 0 (by omega))
          have c1 : wr.cell? ⟨bx, ox + k * 2 + 1, none⟩ = some (.slice ac c.legs.length cc) := cell_keep hBr (pc 1 (by omega))
          have HV : Hid (∀ W, Below w.heap.size w W → contR.V W (.agg #[.int .i64 c.id, .slice ac c.legs.length cc]) c) := fun W hW => contR.below hV hW
          clear hV pc hv hc
          generalize outA (allG g.shards (cs.take k)) c = o at *
          generalize c.legs.length = lc at *
          generalize c.id = idc at *
          have hk' : (k : Int) < (N : Int) := by omega
          have hk0 : (0 : Int) ≤ (k : Int) := by omega
          go_wp2_with fail
          refine (HSS.out (wr.alloc (.cells #[.int .i64 idc, .slice ac lc cc] 54)) b m' _ (HBk.out.below (balloc (Below.refl _ _) _)) (HV.out _ (by (repeat (first | exact Below.refl _ _ | assumption | refine Below.drew ?_ | refine balloc ?_ _ | refine bset ?_ (by simp; omega) _ | refine bset ?_ (by simp) _ | refine bstep ?_ (by assumption))))) (by omega)).mono ?_
          rintro e w3 ⟨rfl, m3, hm3, hbk3, hmo⟩
          have hO3 : w3.ownsRow Y.heap.size 2 1 (.slice pu k cu) k (intsC (allO g.shards (cs.take k))) := hmo.owns (hO.alloc _) (fun i hi e => by have := (hO.lt i hi).1; omega)
          have hz3 := hmo.size
          simp only [World.size_alloc] at hz3
          have hM3 : Mod (fun i => i = b ∨ Y.heap.size ≤ i) Y w3 := (hM.alloc _).trans (hmo.mono (fun i e => .inl e))
          have HB4 : Hid (Book w3 b m3 (bookF (allG g.shards (cs.take (k + 1))))) := hbk3
          clear hbk3 hmo hM hO HBk c0 c1
          have q0s := hM3.cell q0 (by dsimp only; omega)
          have q1s := hM3.cell q1 (by dsimp only; omega)
          go_wp2_with (at_builtin; refine wpList_append_own _ rfl _ _ 28 rfl Y.heap.size 2 i0 _ 1 8 Tryz.underlying28 hi hz0 hz1 hz2 rfl (by decide) _ _ _ rfl (hO3.alloc _) ⟨w3.heap.size, 0, none⟩ 1 1 (intsC [o]) rfl rfl ?c1 (intsO_one _) ?c3 ?c4 ?c5 ?_)
          case c1 => exact srcO_one (by simp [go_sem])
          case c3 => unfold maxLen; omega
          case c4 => omega
          case c5 => simp; omega
          intro v' w4 hown' hgrow _
          have o1 := own_of (hO3.alloc (.cells #[.int .i64 o] 2))
          have HB5 : Hid (Book w4 b m3 (bookF (allG g.shards (cs.take (k + 1))))) := (HB4.out.below (balloc (Below.refl _ _) _)).kept hgrow (own_not o1 (.inl (by omega)))
          have hM4 : Mod (fun i => i = b ∨ Y.heap.size ≤ i) Y w4 := (hM3.alloc _).trans ((Mod.of_grown hgrow).mono (fun i hi => .inr (o1 i hi).1))
          clear hgrow hO3 o1 HB4 hM3
          have hO5 : w4.ownsRow Y.heap.size 2 1 v' (k + 1) (intsC (allO g.shards (cs.take (k + 1)))) := by
            rw [HTk.out, hsz]
            simpa [intsC] using hown'
          clear hown'
          go_wp2
          exact ⟨⟨k + 1, m3, by omega, by go_num, by omega, HB5, hO5, hM4⟩, by simp [intOf]; omega⟩
        · have hkN : k = N := by omega
          subst hkN
          rw [HTN.out] at hO HBk
          have hkk : ¬ (k : Int) < (k : Int) := by omega
          replace r0 := hM.cell r0 (by dsimp only; omega)
          replace r1 := hM.cell r1 (by dsimp only; omega)
          replace r2 := hM.cell r2 (by dsimp only; omega)
          replace rf : ∀ o, wr.frozen? ⟨w.heap.size + 1, o, none⟩ = false := fun o => (mod_frozen hM (a := ⟨w.heap.size + 1, o, none⟩) (by dsimp only; omega) (by dsimp only; omega)).trans (rf o)
          clear hM
          go_wp2_with fail
          refine (HL.out (by first | rfl | trivial) _ b m' HBk.out).mono ?_
          rintro e w5 ⟨v5, F5, rfl, o5, hb5⟩
          obtain ⟨a5, c5, rfl⟩ := balss_form (balssR.ofO o5)
          replace r0 := cell_keep hb5 r0
          replace r1 := cell_keep hb5 r1
          replace r2 := cell_keep hb5 r2
          replace rf : ∀ o, w5.frozen? ⟨w.heap.size + 1, o, none⟩ = false := fun o => by rw [(bcell hb5).2 _ _ (by first | omega | (dsimp only; omega))]; exact rf o
          have hB5 : Below w.heap.size w w5 := bstep hBr hb5
          have hO5 := owns_below hO hb5
          have hlt5 : ∀ i, (Value.slice pu k cu).ownBlock = some i → i < wr.heap.size := fun i hi => (hO.lt i hi).2
          have HO5 : Hid (balssR.O w5 wr.heap.size F5 (.slice a5 (allG g.shards cs).length c5) (allG g.shards cs)) := o5
          have z5 := hb5.size
          have HI5 : Hid (intsR.O w5 Y.heap.size (fun i => (Value.slice pu k cu).ownBlock = some i) (.slice pu k cu) (allO g.shards cs)) := ⟨by rw [HAL.out]; exact hO5, rfl⟩
          clear hb5 o5 hO hO5 HBk q0r q1r hBr
          dsimp only
          generalize hLL : (allG g.shards cs).length = L at *
          clear hLL
          go_wp2
          refine bodyPost_ret (v := .agg #[.int .i64 0, .slice pu k cu, .slice a5 L c5]) (by simp [results, Tryz.results9, go_sem, r0, r1, r2, rf]) rfl ?_
          rw [HD.out, if_pos (by trivial), if_neg (by first | exact h100 | trivial)]
          refine ⟨_, (fun i => (Value.slice pu k cu).ownBlock = some i ∨ F5 i), rfl, ⟨_, _, (fun i => (Value.slice pu k cu).ownBlock = some i), F5, rfl, ?_, ⟨_, F5, rfl, ?_, fun i => Iff.rfl⟩, ?_, fun i => Iff.rfl⟩, ?_⟩
          · exact intsR.base (intsR.set (intsR.set (intsR.set HI5.out _ (by first | omega | (dsimp only; omega))) _ (by first | omega | (dsimp only; omega))) _ (by first | omega | (dsimp only; omega))) (by omega)
          · exact balssR.base (balssR.set (balssR.set (balssR.set HO5.out _ (by first | omega | (dsimp only; omega))) _ (by first | omega | (dsimp only; omega))) _ (by first | omega | (dsimp only; omega))) (by omega)
          · intro i hi h5
            have h1 := hlt5 i hi
            have h2 := (balssR.rng HO5.out i h5).1
            omega
          · exact ((hB5.setCell (by first | omega | (dsimp only; omega)) _).setCell (by first | omega | (dsimp only; omega)) _).setCell (by first | omega | (dsimp only; omega)) _
  · go_wp2
    refine bodyPost_ret (v := .agg #[.int .i64 q, .slice none 0 0, .slice none 0 0]) (by simp [results, Tryz.results9, go_sem, r0, r1, r2, rf]) rfl ?_
    rw [HD.out, if_neg hq]
    obtain ⟨F, hO⟩ := outc_nil (((w1.setCell ⟨w.heap.size + 1, 0, none⟩ (.int .i64 q)).setCell ⟨w.heap.size + 1, 1, none⟩ (.slice none 0 0)).setCell ⟨w.heap.size + 1, 2, none⟩ (.slice none 0 0)) w.heap.size q
    refine ⟨_, F, rfl, hO, ?_⟩
    exact ((hB1.setCell (by first | omega | (dsimp only; omega)) _).setCell (by first | omega | (dsimp only; omega)) _).setCell (by first | omega | (dsimp only; omega)) _
end Go.Proofs.YtedcfokhdkljaaaGreat

/-
  spec.SettleAll.
-/
namespace Go.Proofs.YtedcfokhdkljaaaGreat
open Go.RowKit
set_option linter.unusedSectionVars false
variable [DecidableEq Rw] [Inhabited Rw] [DecidableEq Bal] [Inhabited Bal] [DecidableEq Ledg] [Inhabited Ledg] [DecidableEq Leg] [Inhabited Leg] [DecidableEq Cont] [Inhabited Cont] [DecidableEq LedgR] [Inhabited LedgR] [DecidableEq OutcR] [Inhabited OutcR]
set_option linter.unusedVariables false
set_option linter.unusedSimpArgs false
attribute [local go_sem ↓] Go.wp_at_zero Go.wp_at_succ

structure AlSt (w0 W : World) (B base : Nat) (u v : Value) (os : List Int) (gs : List (List Bal)) : Prop where
  c0 : W.cell? ⟨B, 0, none⟩ = some (.int .i64 0)
  c1 : W.cell? ⟨B, 1, none⟩ = some u
  c2 : W.cell? ⟨B, 2, none⟩ = some v
  fr : ∀ o, W.frozen? ⟨B, o, none⟩ = false
  own : ∃ F2, W.ownsRow (B + 1) 2 1 u os.length (intsC os) ∧ balssR.O W base F2 v gs ∧ (∀ i, F2 i → i ≠ B) ∧ ∀ i, u.ownBlock = some i → ¬ F2 i
def AlE (g : Ledg) (cs : List Cont) (w : World) (e : Ending) (w' : World) : Prop := ∃ v F, e = .returned v ∧ outcRR.O w' w.heap.size F v (allD g cs) ∧ Below w.heap.size w w'
set_option maxRecDepth 20000 in
set_option maxHeartbeats 8000000 in
theorem specAll_e (x y : Value) (g : Ledg) (cs : List Cont) (w : World) (hx : ledgR.V w x g) (hy : contsR.V w y cs) :
    Calls Tryz.prog 6 #[x, y] w fun e w' => AlE g cs w e w' := by
  have hX := hx
  obtain ⟨ag, cg, rfl⟩ := ledg_form hx
  obtain ⟨ay, cy, rfl, hcy, hmy, hyy⟩ := hy
  unfold maxLen at hmy
  obtain ⟨i0, hi, hz0, hz1, hz2⟩ := info_parts infoInt
  have HX : Hid (∀ W, Below w.heap.size w W → ledgR.V W (.agg #[.slice ag g.shards.length cg]) g) := fun W hW => ledgR.below hX hW
  have HC : Hid (∀ W, Below w.heap.size w W → Calls Tryz.prog 19 #[.agg #[.slice ag g.shards.length cg]] W fun e w' => e = .returned (.int .i64 (ledFault g)) ∧ Below W.heap.size W w') := fun W hW => specLedFault_any _ g W (HX.out W hW)
  have HS0 : Hid (ledFault g = 0 → ∀ W, Below w.heap.size w W → Calls Tryz.prog 20 #[.agg #[.slice ag g.shards.length cg], .agg #[.int .i64 0, .slice none 0 0]] W fun e w' => ∃ v F, e = .returned (.agg #[v]) ∧ balssR.O w' W.heap.size F v g.shards ∧ Below W.heap.size W w') := fun h W hW => by
    obtain ⟨h1, h3, hok⟩ := ledOk_of h
    refine (l2Settle_any _ _ g ⟨0, []⟩ W (HX.out W hW) ⟨_, rfl, legsR.ofO (base := 0) ⟨World.ownsRow_nil _ _ _ _, rfl⟩⟩ (fun i hi => addOk_of (hok i hi) (fun x hx => by simp [onSh] at hx) (by simp [onSh])) (by omega) (by simp)).mono ?_
    rintro e w' ⟨v, F, rfl, ⟨u, F', rfl, o, hF⟩, hb⟩
    dsimp only at o
    rw [settleL_nil] at o
    exact ⟨u, F', rfl, o, hb⟩
  have HCk : Hid (ledFault g = 0 → ∀ k, k < cs.length → ∀ W x u, balssR.V W x (allG g.shards (cs.take k)) → contR.V W u (cs.getD k default) → Calls Tryz.prog 21 #[.agg #[x], u] W fun e w' => e = .returned (.int .i64 (canF (allG g.shards (cs.take k)).length (bookF (allG g.shards (cs.take k))) (cs.getD k default))) ∧ Below W.heap.size W w') := fun h k hk W x u hx hu => by
    obtain ⟨h1, h2⟩ := allG_ok (gs := g.shards) h (cs.take k)
    exact l2Can_any (.agg #[x]) u ⟨allG g.shards (cs.take k)⟩ _ W ⟨_, rfl, hx⟩ hu (canF_small h1)
  have HSk : Hid (ledFault g = 0 → ∀ k, k < cs.length → canF (allG g.shards (cs.take k)).length (bookF (allG g.shards (cs.take k))) (cs.getD k default) = 0 → ∀ W x u, balssR.V W x (allG g.shards (cs.take k)) → contR.V W u (cs.getD k default) → Calls Tryz.prog 20 #[.agg #[x], u] W fun e w' => ∃ v F, e = .returned (.agg #[v]) ∧ balssR.O w' W.heap.size F v (allG g.shards (cs.take (k + 1))) ∧ Below W.heap.size W w') := fun h k hk hc W x u hx hu => by
    obtain ⟨h1, h2⟩ := allG_ok (gs := g.shards) h (cs.take k)
    have hG : canG ⟨allG g.shards (cs.take k)⟩ (cs.getD k default) = 0 := by rw [canG_F h1]; exact hc
    obtain ⟨_, hcf, _⟩ := canG_inv hG
    obtain ⟨_, _, h8, _⟩ := cf_inv hcf
    refine (l2Settle_any (.agg #[x]) u ⟨allG g.shards (cs.take k)⟩ _ W ⟨_, rfl, hx⟩ hu (settle_addOk h1 hcf) (by have := (ledOk_of h1).2.1; dsimp only at this ⊢; omega) (by omega)).mono ?_
    rintro e w' ⟨v, F, rfl, ⟨u, F', rfl, o, hF⟩, hb⟩
    refine ⟨u, F', rfl, ?_, hb⟩
    rw [allG_take _ _ hk]
    unfold stepA
    rw [if_pos hc]
    exact o
  have HT1 : Hid (∀ k, k < cs.length → canF (allG g.shards (cs.take k)).length (bookF (allG g.shards (cs.take k))) (cs.getD k default) = 0 → allO g.shards (cs.take (k + 1)) = allO g.shards (cs.take k) ++ [1]) := fun k hk hc => by
    rw [allO_take _ _ hk]; unfold outA; rw [if_pos hc]
  have HT2 : Hid (∀ k, k < cs.length → ¬ canF (allG g.shards (cs.take k)).length (bookF (allG g.shards (cs.take k))) (cs.getD k default) = 0 → allO g.shards (cs.take (k + 1)) = allO g.shards (cs.take k) ++ [2] ∧ allG g.shards (cs.take (k + 1)) = allG g.shards (cs.take k)) := fun k hk hc => by
    rw [allO_take _ _ hk, allG_take _ _ hk]; unfold outA stepA; rw [if_neg hc, if_neg hc]; exact ⟨rfl, rfl⟩
  have HD : Hid (allD g cs = if ledFault g = 0 then (if 100 < cs.length then ⟨2, [], ⟨[]⟩⟩ else ⟨0, allO g.shards cs, ⟨allG g.shards cs⟩⟩) else ⟨ledFault g, [], ⟨[]⟩⟩) := rfl
  have HTN : Hid (cs.take cs.length = cs) := List.take_length
  have HLO : Hid (∀ k, k ≤ cs.length → (allO g.shards (cs.take k)).length = k) := fun k hk => by rw [allO_len, List.length_take]; omega
  have HYY : Hid (∀ k, k < cs.length → ∃ b o u, ay = some ⟨b, o, none⟩ ∧ (∀ j, j < 2 → w.cell? ⟨b, o + k * 2 + j, none⟩ = (lvCont u)[j]?) ∧ contR.V w u (cs.getD k default)) := fun k hk => by
    obtain ⟨b, o, u, h1, _, h2, h3⟩ := hyy k hk
    exact ⟨b, o, u, h1, h2, h3⟩
  clear hx hX HX hyy
  generalize hq : ledFault g = q at *
  clear hq
  generalize hN : cs.length = N at *
  clear hN
  generalize g.shards.length = n at *
  go_enter Tryz.func6, Tryz.ntmps6
  go_wp2_with fail
  refine (HC.out _ (by (repeat (first | exact Below.refl _ _ | assumption | refine Below.drew ?_ | refine balloc ?_ _ | refine bset ?_ (by simp; omega) _ | refine bset ?_ (by simp) _ | refine bstep ?_ (by assumption))))).mono ?_
  rintro e w1 ⟨rfl, hb1⟩
  have g0 : w1.cell? ⟨w.heap.size, 0, none⟩ = some (.slice ag n cg) := cell_keep hb1 (by simp [go_sem])
  have r0 : w1.cell? ⟨w.heap.size + 1, 0, none⟩ = some (.int .i64 0) := cell_keep hb1 (by simp [go_sem])
  have r1 : w1.cell? ⟨w.heap.size + 1, 1, none⟩ = some (.slice none 0 0) := cell_keep hb1 (by simp [go_sem])
  have r2 : w1.cell? ⟨w.heap.size + 1, 2, none⟩ = some (.slice none 0 0) := cell_keep hb1 (by simp [go_sem])
  have rf : ∀ o, w1.frozen? ⟨w.heap.size + 1, o, none⟩ = false := fun o => by rw [(bcell hb1).2 _ _ (by simp)]; simp [go_sem]
  have hB1 : Below w.heap.size w w1 := by (repeat (first | exact Below.refl _ _ | assumption | refine Below.drew ?_ | refine balloc ?_ _ | refine bset ?_ (by simp; omega) _ | refine bset ?_ (by simp) _ | refine bstep ?_ (by assumption)))
  have z1 := hb1.size
  simp only [World.size_alloc] at z1
  clear hb1
  by_cases hq : q = 0
  · subst hq
    by_cases h100 : 100 < N
    · have h100' : (100 : Int) < (N : Int) := by omega
      go_wp2
      refine bodyPost_ret (v := .agg #[.int .i64 2, .slice none 0 0, .slice none 0 0]) (by simp [results, Tryz.results6, go_sem, r0, r1, r2, rf]) rfl ?_
      unfold AlE
      rw [HD.out, if_pos (by trivial), if_pos (by first | exact h100 | trivial)]
      obtain ⟨F, hO⟩ := outc_nil (((w1.setCell ⟨w.heap.size + 1, 0, none⟩ (.int .i64 2)).setCell ⟨w.heap.size + 1, 1, none⟩ (.slice none 0 0)).setCell ⟨w.heap.size + 1, 2, none⟩ (.slice none 0 0)) w.heap.size 2
      refine ⟨_, F, rfl, hO, ?_⟩
      exact ((hB1.setCell (by first | omega | (dsimp only; omega)) _).setCell (by first | omega | (dsimp only; omega)) _).setCell (by first | omega | (dsimp only; omega)) _
    · have h100' : ¬ (100 : Int) < (N : Int) := by omega
      go_wp2_with fail
      refine (HS0.out (by first | rfl | trivial) _ hB1).mono ?_
      rintro e w2 ⟨v2, F2, rfl, o2, hb2⟩
      obtain ⟨a2, c2, rfl⟩ := balss_form (balssR.ofO o2)
      replace r0 := cell_keep hb2 r0
      replace r1 := cell_keep hb2 r1
      replace r2 := cell_keep hb2 r2
      replace rf : ∀ o, w2.frozen? ⟨w.heap.size + 1, o, none⟩ = false := fun o => by rw [(bcell hb2).2 _ _ (by first | omega | (dsimp only; omega))]; exact rf o
      have hB2 : Below w.heap.size w w2 := bstep hB1 hb2
      have z2 := hb2.size
      have HO2 : Hid (balssR.O w2 w1.heap.size F2 (.slice a2 g.shards.length c2) g.shards) := o2
      clear hb2 g0 hB1 o2
      generalize g.shards.length = L2 at *
      go_wp2
      have hb3 : Below w2.heap.size w2 (w2.alloc (.cells #[.int .i64 0, .slice none 0 0, .slice a2 L2 c2] 33)) := balloc (Below.refl _ _) _
      have HA3 : Hid (AlSt w (w2.alloc (.cells #[.int .i64 0, .slice none 0 0, .slice a2 L2 c2] 33)) w2.heap.size w1.heap.size (.slice none 0 0) (.slice a2 L2 c2) [] g.shards) := ⟨by simp [go_sem], by simp [go_sem], by simp [go_sem], fun o => by simp [go_sem], F2, World.ownsRow_nil _ _ _ _, balssR.keep HO2.out hb3, fun i hi => by have := (balssR.rng HO2.out i hi).2; omega, fun i hi => by simp [Value.ownBlock] at hi⟩
      replace r0 := cell_keep hb3 r0
      replace r1 := cell_keep hb3 r1
      replace r2 := cell_keep hb3 r2
      replace rf : ∀ o, (w2.alloc (.cells #[.int .i64 0, .slice none 0 0, .slice a2 L2 c2] 33)).frozen? ⟨w.heap.size + 1, o, none⟩ = false := fun o => by rw [(bcell hb3).2 _ _ (by first | omega | (dsimp only; omega))]; exact rf o
      have hB3 : Below w.heap.size w (w2.alloc (.cells #[.int .i64 0, .slice none 0 0, .slice a2 L2 c2] 33)) := bstep hB2 hb3
      have hsz : (w2.alloc (.cells #[.int .i64 0, .slice none 0 0, .slice a2 L2 c2] 33)).heap.size = w2.heap.size + 1 := by simp
      clear hb3 hB2 HO2
      generalize w2.alloc (.cells #[.int .i64 0, .slice none 0 0, .slice a2 L2 c2] 33) = Y at *
      generalize w2.heap.size = B at *
      go_loopw [7] (fun ii W => ∃ (k : Nat) (u v : Value), k ≤ N ∧ ii = .int .i64 k ∧ Hid (AlSt w W B w1.heap.size u v (allO g.shards (cs.take k)) (allG g.shards (cs.take k))) ∧ Mod (fun i => i = B ∨ Y.heap.size ≤ i) Y W) (fun ii _ => N - (intOf ii).toNat)
      case atStart => exact ⟨0, _, _, Nat.zero_le _, rfl, HA3, Mod.refl _ _⟩
      case round =>
        obtain ⟨k, u, v, hk, rfl, HA, hM⟩ := hrel
        have zY := hM.size
        have zB : B < wr.heap.size := by omega
        have hBr : Below w.heap.size w wr := Mod.below hB3 hM (by omega) (fun i e => by rcases e with e | e <;> omega)
        obtain ⟨b0, b1, b2, bf, FL, hO, hG, hFB, hFF⟩ := HA.out
        clear HA
        rw [HLO.out k hk] at hO
        obtain ⟨pu, cu, rfl⟩ := owns_form hO
        obtain ⟨pv, cv, rfl⟩ := balss_form (balssR.ofO hG)
        have HG : Hid (balssR.O wr w1.heap.size FL (.slice pv (allG g.shards (cs.take k)).length cv) (allG g.shards (cs.take k))) := hG
        clear hG
        by_cases hlt : k < N
        · obtain ⟨bx, ox, ux, rfl, pc, hv⟩ := HYY.out k hlt
          have hV := hv
          obtain ⟨ac, cc, rfl⟩ := cont_form hv
          have HCC : Hid (∀ W x u, balssR.V W x (allG g.shards (cs.take k)) → contR.V W u (cs.getD k default) → Calls Tryz.prog 21 #[.agg #[x], u] W fun e w' => e = .returned (.int .i64 (canF (allG g.shards (cs.take k)).length (bookF (allG g.shards (cs.take k))) (cs.getD k default))) ∧ Below W.heap.size W w') := HCk.out (by first | rfl | trivial) k hlt
          have HSS : Hid (canF (allG g.shards (cs.take k)).length (bookF (allG g.shards (cs.take k))) (cs.getD k default) = 0 → ∀ W x u, balssR.V W x (allG g.shards (cs.take k)) → contR.V W u (cs.getD k default) → Calls Tryz.prog 20 #[.agg #[x], u] W fun e w' => ∃ v F, e = .returned (.agg #[v]) ∧ balssR.O w' W.heap.size F v (allG g.shards (cs.take (k + 1))) ∧ Below W.heap.size W w') := HSk.out (by first | rfl | trivial) k hlt
          have HTa : Hid (canF (allG g.shards (cs.take k)).length (bookF (allG g.shards (cs.take k))) (cs.getD k default) = 0 → allO g.shards (cs.take (k + 1)) = allO g.shards (cs.take k) ++ [1]) := HT1.out k hlt
          have HTb : Hid (¬ canF (allG g.shards (cs.take k)).length (bookF (allG g.shards (cs.take k))) (cs.getD k default) = 0 → allO g.shards (cs.take (k + 1)) = allO g.shards (cs.take k) ++ [2] ∧ allG g.shards (cs.take (k + 1)) = allG g.shards (cs.take k)) := HT2.out k hlt
          generalize canF (allG g.shards (cs.take k)).length (bookF (allG g.shards (cs.take k))) (cs.getD k default) = cq at *
          obtain ⟨c, hc⟩ : ∃ c, c = cs.getD k default := ⟨_, rfl⟩
          rw [← hc] at hV pc HCC HSS
          have e0 : wr.cell? ⟨bx, ox + k * 2, none⟩ = some (.int .i64 c.id) := cell_keep hBr (pc 0 (by omega))
          have e1 : wr.cell? ⟨bx, ox + k * 2 + 1, none⟩ = some (.slice ac c.legs.length cc) := cell_keep hBr (pc 1 (by omega))
          have zx : bx < w.heap.size := World.block_lt_of_cell? w _ (pc 0 (by omega))
          have HV : Hid (∀ W, Below w.heap.size w W → contR.V W (.agg #[.int .i64 c.id, .slice ac c.legs.length cc]) c) := fun W hW => contR.below hV hW
          clear hV pc hv hc
          obtain ⟨G, hGe⟩ : ∃ G, G = allG g.shards (cs.take k) := ⟨_, rfl⟩
          rw [← hGe] at HG HCC HSS HTb
          generalize c.legs.length = lc at *
          generalize c.id = idc at *
          obtain ⟨LG, hLG⟩ : ∃ L, L = G.length := ⟨_, rfl⟩
          rw [← hGe, ← hLG] at b2
          rw [← hLG] at HG
          clear hLG
          have hk' : (k : Int) < (N : Int) := by omega
          have hk0 : (0 : Int) ≤ (k : Int) := by omega
          have hCan := HCC.out
          go_wp2
          refine wp_region_noPanic ?_
          refine region_upto (fun W => Below wr.heap.size wr W ∧ W.cell? ⟨B, 2, none⟩ = some (.slice pv LG cv) ∧ W.cell? ⟨bx, ox + k * 2, none⟩ = some (.int .i64 idc) ∧ W.cell? ⟨bx, ox + k * 2 + 1, none⟩ = some (.slice ac lc cc)) 8 (by kernel_rfl) ⟨by (repeat (first | exact Below.refl _ _ | assumption | refine Below.drew ?_ | refine balloc ?_ _ | refine bset ?_ (by simp; omega) _ | refine bset ?_ (by simp) _ | refine bstep ?_ (by assumption))), cell_keep (by (repeat (first | exact Below.refl _ _ | assumption | refine Below.drew ?_ | refine balloc ?_ _ | refine bset ?_ (by simp; omega) _ | refine bset ?_ (by simp) _ | refine bstep ?_ (by assumption)))) b2, cell_keep (by (repeat (first | exact Below.refl _ _ | assumption | refine Below.drew ?_ | refine balloc ?_ _ | refine bset ?_ (by simp; omega) _ | refine bset ?_ (by simp) _ | refine bstep ?_ (by assumption)))) e0, cell_keep (by (repeat (first | exact Below.refl _ _ | assumption | refine Below.drew ?_ | refine balloc ?_ _ | refine bset ?_ (by simp; omega) _ | refine bset ?_ (by simp) _ | refine bstep ?_ (by assumption)))) e1⟩ (fun hS => ?_)
          refine upto_takeN (i := 0) (v := ?_) rfl (by kernel_rfl) (by kernel_rfl) (by kernel_rfl) (by kernel_rfl) (fun _ _ _ h => h) (by rfl) hS ?_ ?_
          rotate_left
          · intro wS hSw
            try dsimp only at hSw
            first | (go_simp; done) | (go_simp; with_reducible rfl)
          try simp only [Act.put, List.getElem_toArray, List.getElem_cons_zero, List.getElem_cons_succ, List.setIfInBounds_toArray, List.set_cons_zero, List.set_cons_succ]
          refine upto_takeN (i := 1) (v := ?_) rfl (by kernel_rfl) (by kernel_rfl) (by kernel_rfl) (by kernel_rfl) (fun _ _ _ h => h) (by rfl) hS ?_ ?_
          rotate_left
          · intro wS hSw
            try dsimp only at hSw
            first | (go_simp; done) | (go_simp; with_reducible rfl)
          try simp only [Act.put, List.getElem_toArray, List.getElem_cons_zero, List.getElem_cons_succ, List.setIfInBounds_toArray, List.set_cons_zero, List.set_cons_succ]
          refine upto_takeN (i := 2) (v := ?_) rfl (by kernel_rfl) (by kernel_rfl) (by kernel_rfl) (by kernel_rfl) (fun _ _ _ h => h) (by rfl) hS ?_ ?_
          rotate_left
          · intro wS hSw
            try dsimp only at hSw
            first | (go_simp; done) | (go_simp; with_reducible rfl)
          try simp only [Act.put, List.getElem_toArray, List.getElem_cons_zero, List.getElem_cons_succ, List.setIfInBounds_toArray, List.set_cons_zero, List.set_cons_succ]
          refine upto_takeN (i := 3) (v := ?_) rfl (by kernel_rfl) (by kernel_rfl) (by kernel_rfl) (by kernel_rfl) (fun _ _ _ h => h) (by rfl) hS ?_ ?_
          rotate_left
          · intro wS hSw
            try dsimp only at hSw
            first | (go_simp; done) | (go_simp; with_reducible rfl)
          try simp only [Act.put, List.getElem_toArray, List.getElem_cons_zero, List.getElem_cons_succ, List.setIfInBounds_toArray, List.set_cons_zero, List.set_cons_succ]
          refine upto_takeN (i := 4) (v := ?_) rfl (by kernel_rfl) (by kernel_rfl) (by kernel_rfl) (by kernel_rfl) (fun _ _ _ h => h) (by rfl) hS ?_ ?_
          rotate_left
          · intro wS hSw
            try dsimp only at hSw
            first | (go_simp; done) | (go_simp; with_reducible rfl)
          try simp only [Act.put, List.getElem_toArray, List.getElem_cons_zero, List.getElem_cons_succ, List.setIfInBounds_toArray, List.set_cons_zero, List.set_cons_succ]
          refine upto_takeN (i := 5) (v := ?_) rfl (by kernel_rfl) (by kernel_rfl) (by kernel_rfl) (by kernel_rfl) (fun _ _ _ h => h) (by rfl) hS ?_ ?_
          rotate_left
          · intro wS hSw
            try dsimp only at hSw
            first | (go_simp; done) | (go_simp; with_reducible rfl)
          try simp only [Act.put, List.getElem_toArray, List.getElem_cons_zero, List.getElem_cons_succ, List.setIfInBounds_toArray, List.set_cons_zero, List.set_cons_succ]
          refine upto_step (i := 6) (by kernel_rfl) rfl ?_
          intro K hK
          go_simp
          refine (HCC.out _ _ _ (balssR.below (balssR.ofO HG.out) hS.1) (HV.out _ (bstep hBr hS.1))).mono ?_
          rintro e w3 ⟨rfl, hb3⟩
          have hb3' : Below wr.heap.size wr w3 := bstep hS.1 hb3
          have hS3 := And.intro hb3' (And.intro (cell_keep hb3 hS.2.1) (And.intro (cell_keep hb3 hS.2.2.1) (cell_keep hb3 hS.2.2.2)))
          refine hK _ _ (fun _ => hS3) ?_
          clear hK K hS hb3
          have hS := hS3
          clear hS3
          try simp only [Act.put, List.getElem_toArray, List.getElem_cons_zero, List.getElem_cons_succ, List.setIfInBounds_toArray, List.set_cons_zero, List.set_cons_succ]
          by_cases hcq : cq = 0
          · subst hcq
            refine upto_takeN (i := 7) (v := (.bool true)) rfl (by kernel_rfl) (by kernel_rfl) (by kernel_rfl) (by kernel_rfl) (fun _ _ _ h => h) (by rfl) hS ?_ ?_
            · intro wS hSw
              try dsimp only at hSw
              go_simp
            try simp only [Act.put, List.getElem_toArray, List.getElem_cons_zero, List.getElem_cons_succ, List.setIfInBounds_toArray, List.set_cons_zero, List.set_cons_succ]
            refine upto_done (by kernel_rfl) ?_
            refine NoPanic.normal ?_
            have HB0 : Hid (AlSt w w3 B w1.heap.size (.slice pu k cu) (.slice pv LG cv) (allO g.shards (cs.take k)) G) := ⟨cell_keep hb3' b0, cell_keep hb3' b1, cell_keep hb3' b2, fun o => (hb3'.frozen (p := ⟨B, o, none⟩) zB).trans (bf o), FL, by rw [HLO.out k hk]; exact owns_below hO hb3', balssR.keep HG.out hb3', hFB, hFF⟩
            have d2 := cell_keep hb3' b2
            have d0 := cell_keep hb3' e0
            have d1 := cell_keep hb3' e1
            have hB3r : Below w.heap.size w w3 := bstep hBr hb3'
            have hM3 := hM.transB' hb3'
            have z3 := hb3'.size
            have HV3 : Hid (balssR.V w3 (.slice pv LG cv) G) := balssR.below (balssR.ofO HG.out) hb3'
            clear b0 b1 b2 bf e0 e1 hb3' hBr hM hO HG hFB hFF
            go_wp2
            refine wp_region_noPanic ?_
            refine region_upto (fun W => Below w3.heap.size w3 W ∧ W.cell? ⟨B, 2, none⟩ = some (.slice pv LG cv) ∧ W.cell? ⟨bx, ox + k * 2, none⟩ = some (.int .i64 idc) ∧ W.cell? ⟨bx, ox + k * 2 + 1, none⟩ = some (.slice ac lc cc)) 8 (by kernel_rfl) ⟨by (repeat (first | exact Below.refl _ _ | assumption | refine Below.drew ?_ | refine balloc ?_ _ | refine bset ?_ (by simp; omega) _ | refine bset ?_ (by simp) _ | refine bstep ?_ (by assumption))), cell_keep (by (repeat (first | exact Below.refl _ _ | assumption | refine Below.drew ?_ | refine balloc ?_ _ | refine bset ?_ (by simp; omega) _ | refine bset ?_ (by simp) _ | refine bstep ?_ (by assumption)))) d2, cell_keep (by (repeat (first | exact Below.refl _ _ | assumption | refine Below.drew ?_ | refine balloc ?_ _ | refine bset ?_ (by simp; omega) _ | refine bset ?_ (by simp) _ | refine bstep ?_ (by assumption)))) d0, cell_keep (by (repeat (first | exact Below.refl _ _ | assumption | refine Below.drew ?_ | refine balloc ?_ _ | refine bset ?_ (by simp; omega) _ | refine bset ?_ (by simp) _ | refine bstep ?_ (by assumption)))) d1⟩ (fun hS => ?_)
            refine upto_take (i := 0) (v := ?_) rfl (by kernel_rfl) (by kernel_rfl) (by kernel_rfl) (by kernel_rfl) (fun _ _ _ h => h) (by rfl) hS ?_ ?_
            rotate_left
            · intro wS hSw
              try dsimp only at hSw
              first | (go_simp; done) | (go_simp; with_reducible rfl)
            try simp only [Act.put, List.getElem_toArray, List.getElem_cons_zero, List.getElem_cons_succ, List.setIfInBounds_toArray, List.set_cons_zero, List.set_cons_succ]
            refine upto_take (i := 1) (v := ?_) rfl (by kernel_rfl) (by kernel_rfl) (by kernel_rfl) (by kernel_rfl) (fun _ _ _ h => h) (by rfl) hS ?_ ?_
            rotate_left
            · intro wS hSw
              try dsimp only at hSw
              first | (go_simp; done) | (go_simp; with_reducible rfl)
            try simp only [Act.put, List.getElem_toArray, List.getElem_cons_zero, List.getElem_cons_succ, List.setIfInBounds_toArray, List.set_cons_zero, List.set_cons_succ]
            refine upto_take (i := 2) (v := ?_) rfl (by kernel_rfl) (by kernel_rfl) (by kernel_rfl) (by kernel_rfl) (fun _ _ _ h => h) (by rfl) hS ?_ ?_
            rotate_left
            · intro wS hSw
              try dsimp only at hSw
              first | (go_simp; done) | (go_simp; with_reducible rfl)
            try simp only [Act.put, List.getElem_toArray, List.getElem_cons_zero, List.getElem_cons_succ, List.setIfInBounds_toArray, List.set_cons_zero, List.set_cons_succ]
            refine upto_take (i := 3) (v := ?_) rfl (by kernel_rfl) (by kernel_rfl) (by kernel_rfl) (by kernel_rfl) (fun _ _ _ h => h) (by rfl) hS ?_ ?_
            rotate_left
            · intro wS hSw
              try dsimp only at hSw
              first | (go_simp; done) | (go_simp; with_reducible rfl)
            try simp only [Act.put, List.getElem_toArray, List.getElem_cons_zero, List.getElem_cons_succ, List.setIfInBounds_toArray, List.set_cons_zero, List.set_cons_succ]
            refine upto_take (i := 4) (v := ?_) rfl (by kernel_rfl) (by kernel_rfl) (by kernel_rfl) (by kernel_rfl) (fun _ _ _ h => h) (by rfl) hS ?_ ?_
            rotate_left
            · intro wS hSw
              try dsimp only at hSw
              first | (go_simp; done) | (go_simp; with_reducible rfl)
            try simp only [Act.put, List.getElem_toArray, List.getElem_cons_zero, List.getElem_cons_succ, List.setIfInBounds_toArray, List.set_cons_zero, List.set_cons_succ]
            refine upto_take (i := 5) (v := ?_) rfl (by kernel_rfl) (by kernel_rfl) (by kernel_rfl) (by kernel_rfl) (fun _ _ _ h => h) (by rfl) hS ?_ ?_
            rotate_left
            · intro wS hSw
              try dsimp only at hSw
              first | (go_simp; done) | (go_simp; with_reducible rfl)
            try simp only [Act.put, List.getElem_toArray, List.getElem_cons_zero, List.getElem_cons_succ, List.setIfInBounds_toArray, List.set_cons_zero, List.set_cons_succ]
            refine upto_step (i := 6) (by kernel_rfl) rfl ?_
            intro K hK
            go_simp
            refine (HSS.out (by first | rfl | trivial) _ _ _ (balssR.below HV3.out hS.1) (HV.out _ (bstep hB3r hS.1))).mono ?_
            rintro e w4 ⟨v4, F4, rfl, o4, hb4⟩
            obtain ⟨a4, c4, rfl⟩ := balss_form (balssR.ofO o4)
            have hb4' : Below w3.heap.size w3 w4 := bstep hS.1 hb4
            have z4 := hb4'.size
            have HO4 : Hid (balssR.O w4 w3.heap.size F4 (.slice a4 (allG g.shards (cs.take (k + 1))).length c4) (allG g.shards (cs.take (k + 1)))) := balssR.base o4 hS.1.size
            have hap : Hid (∀ i, F4 i → w3.heap.size ≤ i) := fun i hi => (balssR.rng HO4.out i hi).1
            generalize (allG g.shards (cs.take (k + 1))).length = L4 at *
            have hS4 := And.intro hb4' (And.intro (cell_keep hb4 hS.2.1) (And.intro (cell_keep hb4 hS.2.2.1) (cell_keep hb4 hS.2.2.2)))
            refine hK _ _ (fun _ => hS4) ?_
            clear hK K hS hb4 o4
            have hS := hS4
            clear hS4
            try simp only [Act.put, List.getElem_toArray, List.getElem_cons_zero, List.getElem_cons_succ, List.setIfInBounds_toArray, List.set_cons_zero, List.set_cons_succ]
            refine upto_take (i := 7) (v := ?_) rfl (by kernel_rfl) (by kernel_rfl) (by kernel_rfl) (by kernel_rfl) (fun _ _ _ h => h) (by rfl) hS ?_ ?_
            rotate_left
            · intro wS hSw
              try dsimp only at hSw
              first | (go_simp; done) | (go_simp; with_reducible rfl)
            try simp only [Act.put, List.getElem_toArray, List.getElem_cons_zero, List.getElem_cons_succ, List.setIfInBounds_toArray, List.set_cons_zero, List.set_cons_succ]
            have d2' := cell_keep hb4' d2
            obtain ⟨b0, b1, _, bf, FL, hO, hG, hFB, hFF⟩ := HB0.out
            rw [HLO.out k hk] at hO
            have f4 : ∀ o, w4.frozen? ⟨B, o, none⟩ = false := fun o => (hb4'.frozen (p := ⟨B, o, none⟩) (show B < w3.heap.size by omega)).trans (bf o)
            refine upto_step (i := 8) (by kernel_rfl) rfl ?_
            intro K hK
            go_simp
            refine hK _ _ (fun h => absurd rfl h) ?_
            clear hK K
            refine upto_done (by kernel_rfl) ?_
            refine NoPanic.normal ?_
            have t0 : (w4.setCell ⟨B, 2, none⟩ (.slice a4 L4 c4)).cell? ⟨B, 0, none⟩ = some (.int .i64 0) := (set_other (by simp)).trans (cell_keep hb4' b0)
            have t1 : (w4.setCell ⟨B, 2, none⟩ (.slice a4 L4 c4)).cell? ⟨B, 1, none⟩ = some (.slice pu k cu) := (set_other (by simp)).trans (cell_keep hb4' b1)
            have t2 : (w4.setCell ⟨B, 2, none⟩ (.slice a4 L4 c4)).cell? ⟨B, 2, none⟩ = some (.slice a4 L4 c4) := set_same d2'
            have tf : ∀ o, (w4.setCell ⟨B, 2, none⟩ (.slice a4 L4 c4)).frozen? ⟨B, o, none⟩ = false := fun o => (World.frozen?_setCell _ _ _ _).trans (f4 o)
            have tO : (w4.setCell ⟨B, 2, none⟩ (.slice a4 L4 c4)).ownsRow (B + 1) 2 1 (.slice pu k cu) k (intsC (allO g.shards (cs.take k))) := owns_setCell (owns_below hO hb4') (by dsimp only; omega) _
            have tG : Hid (balssR.O (w4.setCell ⟨B, 2, none⟩ (.slice a4 L4 c4)) w1.heap.size F4 (.slice a4 L4 c4) (allG g.shards (cs.take (k + 1)))) := balssR.base (balssR.set HO4.out _ (by dsimp only; omega)) (by omega)
            have tFB : ∀ i, F4 i → i ≠ B := fun i hi => by have := hap.out i hi; omega
            have tFF : ∀ i, (Value.slice pu k cu).ownBlock = some i → ¬ F4 i := fun i hi h => by
              have h1 := (hO.lt i hi).2
              have h2 := hap.out i h
              omega
            have tM : Mod (fun i => i = B ∨ Y.heap.size ≤ i) Y (w4.setCell ⟨B, 2, none⟩ (.slice a4 L4 c4)) := (hM3.transB' hb4').trans ((Mod.of_set _ _ _).mono (fun i hi => .inl hi))
            have HTO : Hid (allO g.shards (cs.take (k + 1)) = allO g.shards (cs.take k) ++ [1]) := HTa.out (by first | rfl | trivial)
            have zW : B < (w4.setCell ⟨B, 2, none⟩ (.slice a4 L4 c4)).heap.size := by simp; omega
            have zW1 : w1.heap.size ≤ (w4.setCell ⟨B, 2, none⟩ (.slice a4 L4 c4)).heap.size := by simp; omega
            clear HO4 hap HB0 b0 b1 bf hO hG hFB hFF f4 d2 d0 d1 d2' hb4' hM3 hB3r HV3
            generalize w4.setCell ⟨B, 2, none⟩ (.slice a4 L4 c4) = W5 at *
            go_wp2_with (at_builtin; refine wpList_append_own_at _ rfl _ _ 28 rfl (B + 1) 2 i0 _ 1 8 Tryz.underlying28 hi hz0 hz1 hz2 rfl (by decide) _ _ _ rfl (tO.alloc _) ⟨W5.heap.size, 0, none⟩ 1 1 (intsC [1]) rfl rfl ?c1 (intsO_one _) ?c3 ?c4 ?c5 ?_)
            case c1 => exact srcO_one (by simp [go_sem])
            case c3 => unfold maxLen; omega
            case c4 => omega
            case c5 => simp; omega
            intro v' w6 hown' hgrow _ hat
            have o1 := own_of (tO.alloc (.cells #[.int .i64 1] 2))
            have s0 := hgrow.cell (cell_keep (balloc (Below.refl _ _) _) t0) (own_not o1 (.inl (by dsimp only; omega)))
            have s1 := hgrow.cell (cell_keep (balloc (Below.refl _ _) _) t1) (own_not o1 (.inl (by dsimp only; omega)))
            have s2 := hgrow.cell (cell_keep (balloc (Below.refl _ _) _) t2) (own_not o1 (.inl (by dsimp only; omega)))
            have sf : ∀ o, w6.frozen? ⟨B, o, none⟩ = false := fun o => (mod_frozen (Mod.of_grown hgrow) (a := ⟨B, o, none⟩) (by simp; omega) (fun e => own_not o1 (.inl (by dsimp only; omega)) e.symm)).trans (by rw [(bcell (balloc (Below.refl _ _) _)).2 _ _ (by first | omega | (dsimp only; omega))]; exact tf o)
            have HG6 : Hid (balssR.O w6 w1.heap.size F4 (.slice a4 L4 c4) (allG g.shards (cs.take (k + 1)))) := balssR.mod (balssR.keep tG.out (balloc (Below.refl _ _) _)) (Mod.of_grown hgrow) (fun i hi e => tFF i e hi)
            have hFF6 : ∀ i, v'.ownBlock = some i → ¬ F4 i := fun i hi h => by
              rcases hat with e | e
              · exact tFF i (by rw [← e]; exact hi) h
              · rw [e] at hi
                simp only [Option.some.injEq, World.size_alloc] at hi
                have := (balssR.rng tG.out i h).2
                omega
            have hM6 : Mod (fun i => i = B ∨ Y.heap.size ≤ i) Y w6 := (tM.alloc _).trans ((Mod.of_grown hgrow).mono (fun i hi => .inr (by have := (o1 i hi).1; omega)))
            have hO6 : w6.ownsRow (B + 1) 2 1 v' (k + 1) (intsC (allO g.shards (cs.take (k + 1)))) := by
              rw [HTO.out]
              simpa [intsC] using hown'
            obtain ⟨p6, c6, rfl⟩ := owns_form hO6
            have HE : Hid (AlSt w (w6.setCell ⟨B, 1, none⟩ (.slice p6 (k + 1) c6)) B w1.heap.size (.slice p6 (k + 1) c6) (.slice a4 L4 c4) (allO g.shards (cs.take (k + 1))) (allG g.shards (cs.take (k + 1)))) := ⟨(set_other (by simp)).trans s0, set_same s1, (set_other (by simp)).trans s2, fun o => (World.frozen?_setCell _ _ _ _).trans (sf o), F4, by rw [HLO.out (k + 1) (by omega)]; exact owns_setCell hO6 (by dsimp only; omega) _, balssR.mod HG6.out (Mod.of_set _ _ _) (fun i hi e => tFB i hi e), tFB, hFF6⟩
            have hM7 : Mod (fun i => i = B ∨ Y.heap.size ≤ i) Y (w6.setCell ⟨B, 1, none⟩ (.slice p6 (k + 1) c6)) := hM6.trans ((Mod.of_set _ _ _).mono (fun i hi => .inl hi))
            clear hown' hgrow hat o1 HG6 hFF6 hM6 hO6 tO tG tFF tFB tM t0 t1 t2 tf
            go_wp2
            exact ⟨⟨k + 1, _, _, by omega, by go_num, HE, hM7⟩, by simp [intOf]; omega⟩
          · have hne : (cq == 0) = false := by simp [hcq]
            refine upto_takeN (i := 7) (v := (.bool false)) rfl (by kernel_rfl) (by kernel_rfl) (by kernel_rfl) (by kernel_rfl) (fun _ _ _ h => h) (by rfl) hS ?_ ?_
            · intro wS hSw
              try dsimp only at hSw
              go_simp
            try simp only [Act.put, List.getElem_toArray, List.getElem_cons_zero, List.getElem_cons_succ, List.setIfInBounds_toArray, List.set_cons_zero, List.set_cons_succ]
            refine upto_done (by kernel_rfl) ?_
            refine NoPanic.normal ?_
            obtain ⟨HT3, HG3⟩ := HTb.out hcq
            have t0 := cell_keep hb3' b0
            have t1 := cell_keep hb3' b1
            have t2 := cell_keep hb3' b2
            have tf : ∀ o, w3.frozen? ⟨B, o, none⟩ = false := fun o => (hb3'.frozen (p := ⟨B, o, none⟩) zB).trans (bf o)
            have tO := owns_below hO hb3'
            have tG : Hid (balssR.O w3 w1.heap.size FL (.slice pv LG cv) (allG g.shards (cs.take (k + 1)))) := by
              show balssR.O _ _ _ _ _
              rw [HG3]
              exact balssR.keep HG.out hb3'
            have tFB : ∀ i, FL i → i ≠ B := hFB
            have tFF : ∀ i, (Value.slice pu k cu).ownBlock = some i → ¬ FL i := hFF
            have tM := hM.transB' hb3'
            have HTO : Hid (allO g.shards (cs.take (k + 1)) = allO g.shards (cs.take k) ++ [2]) := HT3
            have z3 := hb3'.size
            have zW : B < w3.heap.size := by omega
            clear HT3 HG3 b0 b1 b2 bf hO HG hFB hFF hb3' e0 e1 hM hBr
            go_wp2_with (at_builtin; refine wpList_append_own_at _ rfl _ _ 28 rfl (B + 1) 2 i0 _ 1 8 Tryz.underlying28 hi hz0 hz1 hz2 rfl (by decide) _ _ _ rfl (tO.alloc _) ⟨w3.heap.size, 0, none⟩ 1 1 (intsC [2]) rfl rfl ?c1 (intsO_one _) ?c3 ?c4 ?c5 ?_)
            case c1 => exact srcO_one (by simp [go_sem])
            case c3 => unfold maxLen; omega
            case c4 => omega
            case c5 => simp; omega
            intro v' w6 hown' hgrow _ hat
            have o1 := own_of (tO.alloc (.cells #[.int .i64 2] 2))
            have s0 := hgrow.cell (cell_keep (balloc (Below.refl _ _) _) t0) (own_not o1 (.inl (by dsimp only; omega)))
            have s1 := hgrow.cell (cell_keep (balloc (Below.refl _ _) _) t1) (own_not o1 (.inl (by dsimp only; omega)))
            have s2 := hgrow.cell (cell_keep (balloc (Below.refl _ _) _) t2) (own_not o1 (.inl (by dsimp only; omega)))
            have sf : ∀ o, w6.frozen? ⟨B, o, none⟩ = false := fun o => (mod_frozen (Mod.of_grown hgrow) (a := ⟨B, o, none⟩) (by simp; omega) (fun e => own_not o1 (.inl (by dsimp only; omega)) e.symm)).trans (by rw [(bcell (balloc (Below.refl _ _) _)).2 _ _ (by first | omega | (dsimp only; omega))]; exact tf o)
            have HG6 : Hid (balssR.O w6 w1.heap.size FL (.slice pv LG cv) (allG g.shards (cs.take (k + 1)))) := balssR.mod (balssR.keep tG.out (balloc (Below.refl _ _) _)) (Mod.of_grown hgrow) (fun i hi e => tFF i e hi)
            have hFF6 : ∀ i, v'.ownBlock = some i → ¬ FL i := fun i hi h => by
              rcases hat with e | e
              · exact tFF i (by rw [← e]; exact hi) h
              · rw [e] at hi
                simp only [Option.some.injEq, World.size_alloc] at hi
                have := (balssR.rng tG.out i h).2
                omega
            have hM6 : Mod (fun i => i = B ∨ Y.heap.size ≤ i) Y w6 := (tM.alloc _).trans ((Mod.of_grown hgrow).mono (fun i hi => .inr (by have := (o1 i hi).1; omega)))
            have hO6 : w6.ownsRow (B + 1) 2 1 v' (k + 1) (intsC (allO g.shards (cs.take (k + 1)))) := by
              rw [HTO.out]
              simpa [intsC] using hown'
            obtain ⟨p6, c6, rfl⟩ := owns_form hO6
            have HE : Hid (AlSt w (w6.setCell ⟨B, 1, none⟩ (.slice p6 (k + 1) c6)) B w1.heap.size (.slice p6 (k + 1) c6) (.slice pv LG cv) (allO g.shards (cs.take (k + 1))) (allG g.shards (cs.take (k + 1)))) := ⟨(set_other (by simp)).trans s0, set_same s1, (set_other (by simp)).trans s2, fun o => (World.frozen?_setCell _ _ _ _).trans (sf o), FL, by rw [HLO.out (k + 1) (by omega)]; exact owns_setCell hO6 (by dsimp only; omega) _, balssR.mod HG6.out (Mod.of_set _ _ _) (fun i hi e => tFB i hi e), tFB, hFF6⟩
            have hM7 : Mod (fun i => i = B ∨ Y.heap.size ≤ i) Y (w6.setCell ⟨B, 1, none⟩ (.slice p6 (k + 1) c6)) := hM6.trans ((Mod.of_set _ _ _).mono (fun i hi => .inl hi))
            clear hown' hgrow hat o1 HG6 hFF6 hM6 hO6 tO tG tFF tFB tM t0 t1 t2 tf
            go_wp2
            exact ⟨⟨k + 1, _, _, by omega, by go_num, HE, hM7⟩, by simp [intOf]; omega⟩
        · have hkN : k = N := by omega
          subst hkN
          rw [HTN.out] at hO HG
          rw [HTN.out] at b2
          have hkk : ¬ (k : Int) < (k : Int) := by omega
          replace r0 := hM.cell r0 (by dsimp only; omega)
          replace r1 := hM.cell r1 (by dsimp only; omega)
          replace r2 := hM.cell r2 (by dsimp only; omega)
          replace rf : ∀ o, wr.frozen? ⟨w.heap.size + 1, o, none⟩ = false := fun o => (mod_frozen hM (a := ⟨w.heap.size + 1, o, none⟩) (by dsimp only; omega) (by dsimp only; omega)).trans (rf o)
          have HAL : Hid ((allO g.shards cs).length = k) := by have h := HLO.out k (Nat.le_refl _); rw [HTN.out] at h; exact h
          have HI5 : Hid (intsR.O wr (B + 1) (fun i => (Value.slice pu k cu).ownBlock = some i) (.slice pu k cu) (allO g.shards cs)) := ⟨by rw [HAL.out]; exact hO, rfl⟩
          generalize (allG g.shards cs).length = L at *
          clear hM hO hFB
          go_wp2
          refine bodyPost_ret (v := .agg #[.int .i64 0, .slice pu k cu, .slice pv L cv]) (by simp [results, Tryz.results6, go_sem, r0, r1, r2, rf]) rfl ?_
          unfold AlE
          rw [HD.out, if_pos (by trivial), if_neg (by first | exact h100 | trivial)]
          refine ⟨_, (fun i => (Value.slice pu k cu).ownBlock = some i ∨ FL i), rfl, ⟨_, _, (fun i => (Value.slice pu k cu).ownBlock = some i), FL, rfl, ?_, ⟨_, FL, rfl, ?_, fun i => Iff.rfl⟩, ?_, fun i => Iff.rfl⟩, ?_⟩
          · exact intsR.base (intsR.set (intsR.set (intsR.set HI5.out _ (by first | omega | (dsimp only; omega))) _ (by first | omega | (dsimp only; omega))) _ (by first | omega | (dsimp only; omega))) (by omega)
          · exact balssR.base (balssR.set (balssR.set (balssR.set HG.out _ (by first | omega | (dsimp only; omega))) _ (by first | omega | (dsimp only; omega))) _ (by first | omega | (dsimp only; omega))) (by omega)
          · exact fun i hi => hFF i hi
          · exact ((hBr.setCell (by first | omega | (dsimp only; omega)) _).setCell (by first | omega | (dsimp only; omega)) _).setCell (by first | omega | (dsimp only; omega)) _
  · go_wp2
    refine bodyPost_ret (v := .agg #[.int .i64 q, .slice none 0 0, .slice none 0 0]) (by simp [results, Tryz.results6, go_sem, r0, r1, r2, rf]) rfl ?_
    unfold AlE
    rw [HD.out, if_neg hq]
    obtain ⟨F, hO⟩ := outc_nil (((w1.setCell ⟨w.heap.size + 1, 0, none⟩ (.int .i64 q)).setCell ⟨w.heap.size + 1, 1, none⟩ (.slice none 0 0)).setCell ⟨w.heap.size + 1, 2, none⟩ (.slice none 0 0)) w.heap.size q
    refine ⟨_, F, rfl, hO, ?_⟩
    exact ((hB1.setCell (by first | omega | (dsimp only; omega)) _).setCell (by first | omega | (dsimp only; omega)) _).setCell (by first | omega | (dsimp only; omega)) _
theorem specAll_u (x y : Value) (g : Ledg) (cs : List Cont) (w : World) (hx : ledgR.V w x g) (hy : contsR.V w y cs) :
    Calls Tryz.prog 6 #[x, y] w fun e w' => ∃ v F, e = .returned v ∧ outcRR.O w' w.heap.size F v (allD g cs) ∧ Below w.heap.size w w' := (specAll_e x y g cs w hx hy).mono (fun e w' h => h)
end Go.Proofs.YtedcfokhdkljaaaGreat

/-
  SettleAll's answer is small.
-/
namespace Go.Proofs.YtedcfokhdkljaaaGreat
open Go.RowKit
set_option linter.unusedSectionVars false
variable [DecidableEq Rw] [Inhabited Rw] [DecidableEq Bal] [Inhabited Bal] [DecidableEq Ledg] [Inhabited Ledg] [DecidableEq Leg] [Inhabited Leg] [DecidableEq Cont] [Inhabited Cont] [DecidableEq LedgR] [Inhabited LedgR] [DecidableEq OutcR] [Inhabited OutcR]
set_option linter.unusedVariables false

theorem balss_le {ss : List (List Bal)} (h3 : ss.length ≤ 3) (hb : ∀ i, i < ss.length → (ss.getD i default).length ≤ 18) : wtL wtBals ss ≤ 100 := by
  unfold wtL
  have hc : ∀ k, k ≤ ss.length → cntTo wtBals k ss ≤ k * 18 := by
    intro k
    induction k with
    | zero => intro _; simp [cntTo]
    | succ k ih =>
      intro hk
      have h4 := ih (by omega)
      have h5 := hb k (by omega)
      rw [cntTo_succ wtBals k ss (by omega)]
      have h6 : wtBals (ss.getD k default) = (ss.getD k default).length := rfl
      omega
  have := hc ss.length (Nat.le_refl _)
  omega
theorem allD_le (g : Ledg) (cs : List Cont) : wtOutcR (allD g cs) ≤ 300 := by
  unfold allD wtOutcR
  split
  · rename_i h
    split
    · show ([] : List Int).length + wtL wtBals ([] : List (List Bal)) ≤ 300
      simp [wtL, cntTo]
    · rename_i hn
      obtain ⟨h1, h2⟩ := allG_ok (gs := g.shards) h cs
      obtain ⟨_, h3, hok⟩ := ledOk_of h1
      have h4 := balss_le h3 (fun i hi => (hok i hi).len)
      show (allO g.shards cs).length + wtL wtBals (allG g.shards cs) ≤ 300
      rw [allO_len]
      dsimp only at h4
      omega
  · show ([] : List Int).length + wtL wtBals ([] : List (List Bal)) ≤ 300
    simp [wtL, cntTo]
end Go.Proofs.YtedcfokhdkljaaaGreat

