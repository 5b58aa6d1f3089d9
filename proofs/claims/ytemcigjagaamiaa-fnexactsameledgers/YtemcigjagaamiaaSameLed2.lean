/-
  SameLedgers on both sides (the functions themselves).
-/
import Derived.Test.YtemcigjagaamiaaSameLed
namespace Go.Proofs.Ytemcigjagaamiaa
open Go.RowKit
set_option linter.unusedSectionVars false
variable [DecidableEq Bal] [Inhabited Bal] [DecidableEq Ledg] [Inhabited Ledg] [DecidableEq Leg] [Inhabited Leg]
attribute [local go_sem ↓] Go.wp_at_zero Go.wp_at_succ

theorem ledg_dec (g g' : Ledg) : decide (g.shards = g'.shards) = decide (g = g') := by
  obtain ⟨a⟩ := g
  obtain ⟨b⟩ := g'
  simp

set_option maxHeartbeats 1000000 in
theorem implSame_any (x y : Value) (g g' : Ledg) (w : World) (hx : ledgR.V w x g) (hy : ledgR.V w y g') :
    Calls Try.prog 30 #[x, y] w fun e w' => e = .returned (.bool (decide (g = g'))) ∧ Below w.heap.size w w' := by
  obtain ⟨u, rfl, hu⟩ := hx
  obtain ⟨v, rfl, hv⟩ := hy
  obtain ⟨ax, cx, rfl⟩ := balss_form hu
  obtain ⟨ay, cy, rfl⟩ := balss_form hv
  go_enter Try.func30, Try.ntmps30
  go_wp2_with fail
  refine (equalFunc_any _ _ g.shards g'.shards _ (balssR.below hu (by (repeat (first | exact Below.refl _ _ | assumption | refine Below.drew ?_ | refine balloc ?_ _ | refine bset ?_ (by simp; omega) _ | refine bset ?_ (by simp) _ | refine bstep ?_ (by assumption))))) (balssR.below hv (by (repeat (first | exact Below.refl _ _ | assumption | refine Below.drew ?_ | refine balloc ?_ _ | refine bset ?_ (by simp; omega) _ | refine bset ?_ (by simp) _ | refine bstep ?_ (by assumption)))))).mono ?_
  rintro e w' ⟨rfl, hb⟩
  rw [ledg_dec]
  go_wp2
  go_ret
  exact ⟨rfl, by (repeat (first | exact Below.refl _ _ | assumption | refine Below.drew ?_ | refine balloc ?_ _ | refine bset ?_ (by simp; omega) _ | refine bset ?_ (by simp) _ | refine bstep ?_ (by assumption)))⟩

set_option maxHeartbeats 4000000 in
theorem specSame_any (x y : Value) (g g' : Ledg) (w : World) (hx : ledgR.V w x g) (hy : ledgR.V w y g') :
    Calls Try.prog 29 #[x, y] w fun e w' => e = .returned (.bool (decide (g = g'))) ∧ Below w.heap.size w w' := by
  obtain ⟨u, rfl, ax, cx, rfl, hcx, hmx, hx⟩ := hx
  obtain ⟨v, rfl, ay, cy, rfl, hcy, hmy, hy⟩ := hy
  unfold maxLen at hmx hmy
  rw [← ledg_dec]
  generalize g.shards = xs at *
  generalize g'.shards = ys at *
  by_cases hl : xs.length = ys.length
  · generalize hn' : xs.length = n at *
    have HN : Hid (xs.length = n) := hn'
    have HM : Hid (ys.length = n) := hl.symm
    rw [← hl] at hy hcy ⊢
    clear hn' hl
    go_enter Try.func29, Try.ntmps29
    go_wp2
    go_loopw [5] (fun i w' => ∃ k : Nat, k ≤ n ∧ i = .int .i64 k ∧ (∀ j, j < k → xs.getD j default = ys.getD j default) ∧ Below w.heap.size w w' ∧ w'.cell? ⟨w.heap.size, 0, none⟩ = some (.slice ax n cx) ∧ w'.cell? ⟨w.heap.size + 1, 0, none⟩ = some (.slice ay n cy)) (fun i _ => n - (intOf i).toNat)
    case atStart => exact ⟨0, Nat.zero_le _, rfl, fun j hj => by omega, by (repeat (first | exact Below.refl _ _ | assumption | refine Below.drew ?_ | refine balloc ?_ _ | refine bset ?_ (by simp; omega) _ | refine bset ?_ (by simp) _ | refine bstep ?_ (by assumption))), by simp [go_sem], by simp [go_sem]⟩
    case round =>
      obtain ⟨k, hk, rfl, hs, hbl, q1, q2⟩ := hrel
      have HS : Hid (∀ j, j < k → xs.getD j default = ys.getD j default) := hs
      clear hs
      by_cases hlt : k < n
      · obtain ⟨bx, ox, u, rfl, _, hc, hu⟩ := hx k hlt
        obtain ⟨b2, o2, v, rfl, _, hd, hv⟩ := hy k hlt
        have c1 := cell_keep hbl (cells1 hc)
        have d1 := cell_keep hbl (cells1 hd)
        have hu1 := balsR.below hu hbl
        have hv1 := balsR.below hv hbl
        clear hu hc hv hd hx hy
        obtain ⟨l, hl⟩ : ∃ l, l = xs.getD k default := ⟨_, rfl⟩
        rw [← hl] at hu1
        have HL : Hid (l = xs.getD k default) := hl
        obtain ⟨o, ho⟩ : ∃ o, o = ys.getD k default := ⟨_, rfl⟩
        rw [← ho] at hv1
        have HO : Hid (o = ys.getD k default) := ho
        clear hl ho
        have i1 : (k : Int) < (n : Int) := by omega
        obtain ⟨a', c', rfl⟩ := bals_form hu1
        obtain ⟨a2, c2, rfl⟩ := bals_form hv1
        go_wp2
        go_quiet (fail)
        by_cases hll : l.length = o.length
        · have hB := bdrewN hbl nq
          replace q1 := cell_keep (bdrewN (Below.refl _ _) nq) q1
          replace q2 := cell_keep (bdrewN (Below.refl _ _) nq) q2
          replace c1 := cell_keep (bdrewN (Below.refl _ _) nq) c1
          replace d1 := cell_keep (bdrewN (Below.refl _ _) nq) d1
          replace hu1 := balsR.below hu1 (bdrewN (Below.refl _ _) nq)
          replace hv1 := balsR.below hv1 (bdrewN (Below.refl _ _) nq)
          clear hbl
          generalize wr.drewN nq = wo at *
          obtain ⟨a1', c1', e1, hcc, hmc, hu1⟩ := hu1
          obtain ⟨a2', c2', e2, hcc2, hmc2, hv1⟩ := hv1
          simp only [Value.slice.injEq, true_and] at e1 e2
          obtain ⟨rfl, rfl⟩ := e1
          obtain ⟨rfl, rfl⟩ := e2
          unfold maxLen at hmc hmc2
          generalize hm' : l.length = m at *
          have HLN : Hid (l.length = m) := hm'
          have HLM : Hid (o.length = m) := hll.symm
          rw [← hll] at hv1 hcc2 d1 ⊢
          clear hm' hll
          go_wp2
          go_loopw [6] (fun i w' => ∃ p : Nat, p ≤ m ∧ i = .int .i64 p ∧ (∀ j, j < p → l.getD j default = o.getD j default) ∧ Below wo.heap.size wo w') (fun i _ => m - (intOf i).toNat)
          case atStart => exact ⟨0, Nat.zero_le _, rfl, fun j hj => by omega, Below.refl _ _⟩
          case round =>
            obtain ⟨p, hp, rfl, hs, hb3⟩ := hrel
            have HS3 : Hid (∀ j, j < p → l.getD j default = o.getD j default) := hs
            clear hs
            have q3 := cell_keep hb3 q1
            have q4 := cell_keep hb3 q2
            have c3 := cell_keep hb3 c1
            have d3 := cell_keep hb3 d1
            by_cases hlt3 : p < m
            · obtain ⟨b5, o5, rfl, g1⟩ := hu1 p hlt3
              obtain ⟨b6, o6, rfl, g2⟩ := hv1 p hlt3
              obtain ⟨lx, hlx⟩ : ∃ lx, lx = l.getD p default := ⟨_, rfl⟩
              obtain ⟨ly, hly⟩ : ∃ ly, ly = o.getD p default := ⟨_, rfl⟩
              rw [← hlx] at g1
              rw [← hly] at g2
              have HX : Hid (lx = l.getD p default) := hlx
              have HY : Hid (ly = o.getD p default) := hly
              clear hlx hly hu1 hv1
              obtain ⟨e1, e2, e3⟩ := balCells_below hb3 g1
              obtain ⟨f1, f2, f3⟩ := balCells_below hb3 g2
              have hnq := neqBal lx ly
              have hgd := eqGuardBal
              have i2 : (p : Int) < (m : Int) := by omega
              clear g1 g2 q1 q2 c1 d1
              go_wp2
              go_quiet (fail)
              clear hnq hgd
              generalize hd : decide (lx = ly) = b
              have HD : Hid (decide (lx = ly) = b) := hd
              clear hd
              cases b with
              | true =>
                go_wp2
                have he : lx = ly := of_decide_eq_true HD.out
                refine ⟨⟨p + 1, by omega, by go_num, ?_, bdrewN hb3 _⟩, by simp [intOf]; omega⟩
                intro j hj
                by_cases e : j = p
                · subst e; rw [← HX.out, ← HY.out, he]
                · exact HS3.out j (by omega)
              | false =>
                go_wp2
                go_ret
                have he : ¬ lx = ly := of_decide_eq_false HD.out
                refine ⟨?_, bdrewN (bstep hB hb3) _⟩
                rw [ne_of_getD (k := k) (by
                  rw [← HL.out, ← HO.out]
                  intro e
                  rw [HX.out, HY.out, e] at he
                  exact he rfl)]
                rfl
            · go_wp2
              have hpm : p = m := by omega
              subst hpm
              refine ⟨⟨k + 1, by omega, by go_num, ?_, bstep hB hb3, q3, q4⟩, by simp [intOf]; omega⟩
              intro j hj
              by_cases e : j = k
              · subst e
                rw [← HL.out, ← HO.out]
                exact rows_eq_of (by rw [HLN.out, HLM.out]) (by rw [HLN.out]; exact HS3.out)
              · exact HS.out j (by omega)
        · have e : decide (xs = ys) = false := ne_of_getD (k := k) (by
            rw [← HL.out, ← HO.out]
            intro e
            rw [e] at hll
            exact hll rfl)
          have HE : Hid (decide (xs = ys) = false) := e
          clear e
          generalize l.length = m1 at *
          generalize o.length = m2 at *
          have hl2 : ¬ (m1 : Int) = (m2 : Int) := by omega
          go_wp2
          go_ret
          refine ⟨?_, bdrewN hbl _⟩
          rw [HE.out]
          rfl
      · go_wp2
        go_ret
        have hkn : k = n := by omega
        subst hkn
        refine ⟨?_, hbl⟩
        have e : xs = ys := rows_eq_of (by rw [HN.out, HM.out]) (by rw [HN.out]; exact HS.out)
        rw [decide_eq_true e]
        rfl
  · have e : decide (xs = ys) = false := by
      simp only [decide_eq_false_iff_not]
      intro e
      rw [e] at hl
      exact hl rfl
    rw [e]
    clear hx hy
    generalize xs.length = n at *
    generalize ys.length = m at *
    have hl2 : ¬ (n : Int) = (m : Int) := by omega
    go_enter Try.func29, Try.ntmps29
    go_wp2
    go_ret
    exact ⟨rfl, by (repeat (first | exact Below.refl _ _ | assumption | refine Below.drew ?_ | refine balloc ?_ _ | refine bset ?_ (by simp; omega) _ | refine bset ?_ (by simp) _ | refine bstep ?_ (by assumption)))⟩

end Go.Proofs.Ytemcigjagaamiaa
