/-
  What can be settled: in plain mathematics, and the specification's side.
-/
import Derived.Test.YteebglgbeijolaaBalOf
import Derived.Test.YteebglgbeijolaaSumOf
import Derived.Test.YteebglgbeijolaaSCont
namespace Go.Proofs.Yteebglgbeijolaa
open Go.RowKit
set_option linter.unusedSectionVars false
variable [DecidableEq Bal] [Inhabited Bal] [DecidableEq Ledg] [Inhabited Ledg] [DecidableEq Leg] [Inhabited Leg] [DecidableEq Cont] [Inhabited Cont]
attribute [local go_sem ↓] Go.wp_at_zero Go.wp_at_succ

def canV (v : Int) : Int := if v < 0 then 6 else if 1000000000000 < v then 3 else 0
/-- may a leg be added to the balances of a shard? -/
def canB (xs : List Bal) (l : Leg) : Int := canV (hasB l.ac l.ast xs + l.am)
def canL (f : Int → Int → Int → Option Int) (l : Leg) : Int := canV ((f l.sh l.ac l.ast).getD 0 + l.am)
def noneL (n : Nat) (l : Leg) : Int := if (n : Int) ≤ l.sh then 4 else 0
def canF (n : Nat) (f : Int → Int → Int → Option Int) (c : Cont) : Int :=
  if contractFault c.id c.legs = 0 then (if scanI (fun k => noneL n (c.legs.getD k default)) c.legs.length = 0 then scanI (fun k => canL f (c.legs.getD k default)) c.legs.length else scanI (fun k => noneL n (c.legs.getD k default)) c.legs.length) else contractFault c.id c.legs
def canG (g : Ledg) (c : Cont) : Int := if ledFault g = 0 then canF g.shards.length (bookF g.shards) c else ledFault g

/-- amounts that are had, within their bound -/
def smallB (xs : List Bal) : Prop := ∀ a t, 0 ≤ hasB a t xs ∧ hasB a t xs ≤ 1000000000000
theorem hasB_le {a t : Int} : ∀ {xs : List Bal}, (∀ k, k < xs.length → balOk (xs.getD k default) = true) → 0 ≤ hasB a t xs ∧ hasB a t xs ≤ 1000000000000
  | [], _ => by simp [hasB]
  | x :: r, h => by
    simp only [hasB]
    split
    · have := (balOk_iff.1 (h 0 (by simp))).2
      simp only [List.getD_cons_zero] at this
      omega
    · exact hasB_le (fun k hk => by have := h (k + 1) (by simpa using hk); simpa only [List.getD_cons_succ] using this)
theorem smallB_of {xs : List Bal} (h : BalsOk xs) : smallB xs := fun _ _ => hasB_le h.ok

theorem legKeep {w w' : World} {b o : Nat} {l : Leg} (hb : Below w.heap.size w w') (h : legCells w b o l) :
    Below w.heap.size w w' ∧ w'.cell? ⟨b, o, none⟩ = some (.int .i64 l.sh) ∧ w'.cell? ⟨b, o + 1, none⟩ = some (.int .i64 l.ac) ∧ w'.cell? ⟨b, o + 2, none⟩ = some (.int .i64 l.ast) ∧ w'.cell? ⟨b, o + 3, none⟩ = some (.int .i64 l.am) :=
  ⟨hb, legCells_below hb h⟩

set_option maxHeartbeats 1000000 in
theorem l2Legs_any (x y : Value) (xs : List Bal) (ls : List Leg) (w : World) (hx : balsR.V w x xs) (hy : legsR.V w y ls) (hs : smallB xs) (ha : small ls) :
    Calls Try.prog 151 #[x, y] w fun e w' => e = .returned (.int .i64 (scanI (fun k => canB xs (ls.getD k default)) ls.length)) ∧ Below w.heap.size w w' := by
  have hX := hx
  obtain ⟨ax, cx, rfl⟩ := bals_form hx
  obtain ⟨ay, cy, rfl, hcy, hmy, hy⟩ := hy
  unfold maxLen at hmy
  have HA : Hid (small ls) := ha
  have HSM : Hid (smallB xs) := hs
  clear ha hs hx
  generalize hn' : ls.length = n at *
  have HN : Hid (ls.length = n) := hn'
  clear hn'
  go_enter Try.func151, Try.ntmps151
  go_wp2
  go_loopw [5] (fun i w' => ∃ k : Nat, k ≤ n ∧ i = .int .i64 k ∧ scanI (fun k => canB xs (ls.getD k default)) k = 0 ∧ Below w.heap.size w w') (fun i _ => n - (intOf i).toNat)
  case atStart => exact ⟨0, Nat.zero_le _, rfl, rfl, Below.refl _ _⟩
  case round =>
    obtain ⟨k, hk, rfl, hs, hbl⟩ := hrel
    have HS : Hid (scanI (fun k => canB xs (ls.getD k default)) k = 0) := hs
    clear hs
    by_cases hlt : k < n
    · obtain ⟨bx, ox, rfl, g1⟩ := hy k hlt
      have hsm := HA.out k (by rw [HN.out]; exact hlt)
      obtain ⟨l, hl⟩ : ∃ l, l = ls.getD k default := ⟨_, rfl⟩
      rw [← hl] at g1 hsm
      have HL : Hid (l = ls.getD k default) := hl
      clear hl hy
      have hhs := HSM.out l.ac l.ast
      have g2 := legCells_below hbl g1
      obtain ⟨a1, a2, a3, a4⟩ := g2
      have hXr := balsR.below hX hbl
      obtain ⟨v, hv⟩ : ∃ v, v = hasB l.ac l.ast xs := ⟨_, rfl⟩
      rw [← hv] at hhs
      have HV : Hid (v = hasB l.ac l.ast xs) := hv
      have v1 : IntKind.i64.wrap (v + l.am) = v + l.am := wrapId (by omega) (by omega)
      have i1 : (k : Int) < (n : Int) := by omega
      have HAT : Hid (canB xs (ls.getD k default) = canV (v + l.am)) := by show _ = _; rw [← HL.out, canB, HV.out]
      clear hsm hhs
      have g3 : legCells wr bx (ox + k * 4) l := ⟨a1, a2, a3, a4⟩
      go_wp2
      go_region_held3 (fun w' => Below wr.heap.size wr w' ∧ w'.cell? ⟨bx, ox + k * 4, none⟩ = some (.int .i64 l.sh) ∧ w'.cell? ⟨bx, ox + k * 4 + 1, none⟩ = some (.int .i64 l.ac) ∧ w'.cell? ⟨bx, ox + k * 4 + 2, none⟩ = some (.int .i64 l.ast) ∧ w'.cell? ⟨bx, ox + k * 4 + 3, none⟩ = some (.int .i64 l.am))
        ((refine legKeep ?_ g3; (repeat (first | exact Below.refl _ _ | assumption | refine Below.drew ?_ | refine balloc ?_ _ | refine bstep ?_ (by assumption)))))
        (first | (go_at_call 153; refine (l2Has_any _ xs l.ac l.ast _ (balsR.below hXr (Below.drew (Below.refl _ _)))).mono ?_; rw [← hv]; rintro e w3 ⟨rfl, rfl⟩))
      rename_i hH
      have hB := bstep hbl hH.1
      clear hH
      rw [← hv, v1]
      clear hv v1
      generalize v + l.am = z at *
      go_wp2
      · rename_i c1
        go_ret
        refine ⟨?_, hB⟩
        rw [scanI_hit HS.out (by rw [HAT.out, canV, if_pos c1]; omega) _ hlt, HAT.out, canV, if_pos c1]
        rfl
      · rename_i c1 c2
        go_ret
        refine ⟨?_, hB⟩
        rw [scanI_hit HS.out (by rw [HAT.out, canV, if_neg (by omega), if_pos c2]; omega) _ hlt, HAT.out, canV, if_neg (by omega), if_pos c2]
        rfl
      · rename_i c1 c2
        refine ⟨⟨k + 1, by omega, by go_num, scanI_succ HS.out ?_, hB⟩, by simp [intOf]; omega⟩
        rw [HAT.out, canV, if_neg (by omega), if_neg (by omega)]
    · go_wp2
      go_ret
      have hkn : k = n := by omega
      subst hkn
      refine ⟨?_, hbl⟩
      rw [HS.out]
      rfl

theorem l2Legs1_any (x y : Value) (xs : List Bal) (l : Leg) (w : World) (hx : balsR.V w x xs) (hy : legsR.V w y [l]) (hs : smallB xs) (ha : small [l]) :
    Calls Try.prog 151 #[x, y] w fun e w' => e = .returned (.int .i64 (canB xs l)) ∧ Below w.heap.size w w' := by
  refine (l2Legs_any x y xs [l] w hx hy hs ha).mono ?_
  rintro e w' ⟨rfl, hb⟩
  exact ⟨rfl, hb⟩

theorem hasB_book {g : Ledg} {l : Leg} (h0 : 0 ≤ l.sh) (h : l.sh < g.shards.length) : canB (g.shards.getD l.sh.toNat default) l = canL (bookF g.shards) l := by
  rw [canB, canL, hasB_get, bookF, if_pos ⟨h0, h⟩]

set_option maxHeartbeats 4000000 in
theorem l2Can_any (x y : Value) (g : Ledg) (c : Cont) (w : World) (hx : ledgR.V w x g) (hy : contR.V w y c) (hsm : ∀ k, k < g.shards.length → smallB (g.shards.getD k default)) :
    Calls Try.prog 125 #[x, y] w fun e w' => e = .returned (.int .i64 (canF g.shards.length (bookF g.shards) c)) ∧ Below w.heap.size w w' := by
  obtain ⟨u, rfl, ax, cx, rfl, hcx, hmx, hxx⟩ := hx
  obtain ⟨u2, rfl, hu2⟩ := hy
  have hU2 := hu2
  obtain ⟨ay, cy, rfl, hcy, hmy, hyy⟩ := hu2
  unfold maxLen at hmx hmy
  have HSM : Hid (∀ k, k < g.shards.length → smallB (g.shards.getD k default)) := hsm
  clear hsm
  go_enter Try.func125, Try.ntmps125
  go_wp2_with fail
  refine (specFault_any c.id _ c.legs _ (LegsV_below hU2 (by (repeat (first | exact Below.refl _ _ | assumption | refine Below.drew ?_ | refine balloc ?_ _ | refine bset ?_ (by simp; omega) _ | refine bset ?_ (by simp) _ | refine bstep ?_ (by assumption)))))).mono ?_
  rintro e w1 ⟨rfl, hb1⟩
  have hB1 : Below w.heap.size w w1 := by (repeat (first | exact Below.refl _ _ | assumption | refine Below.drew ?_ | refine balloc ?_ _ | refine bset ?_ (by simp; omega) _ | refine bset ?_ (by simp) _ | refine bstep ?_ (by assumption)))
  have b0 : w1.cell? ⟨w.heap.size, 0, none⟩ = some (.slice ax g.shards.length cx) := cell_keep hb1 (by simp [go_sem])
  have d1 : w1.cell? ⟨w.heap.size + 1, 1, none⟩ = some (.slice ay c.legs.length cy) := cell_keep hb1 (by simp [go_sem])
  clear hb1
  by_cases hf : contractFault c.id c.legs = 0
  · have HF : Hid (contractFault c.id c.legs = 0) := hf
    obtain ⟨_, hl2, hl8, hok, _⟩ := cf_inv hf
    rw [hf]
    clear hf
    have HOK : Hid (okTo c.legs c.legs.length) := hok
    clear hok
    generalize hn' : g.shards.length = n at *
    have HN : Hid (g.shards.length = n) := hn'
    generalize hm' : c.legs.length = m at *
    have HM : Hid (c.legs.length = m) := hm'
    clear hn' hm'
    go_wp2
    go_loopw [6] (fun i w' => ∃ k : Nat, k ≤ m ∧ i = .int .i64 k ∧ scanI (fun k => noneL n (c.legs.getD k default)) k = 0 ∧ Below w1.heap.size w1 w') (fun i _ => m - (intOf i).toNat)
    case atStart => exact ⟨0, Nat.zero_le _, rfl, rfl, Below.refl _ _⟩
    case round =>
      obtain ⟨k, hk, rfl, hs, hbl⟩ := hrel
      have HS : Hid (scanI (fun k => noneL n (c.legs.getD k default)) k = 0) := hs
      clear hs
      have b1 := cell_keep hbl b0
      have d2 := cell_keep hbl d1
      by_cases hlt : k < m
      · obtain ⟨bx, ox, rfl, g1⟩ := hyy k hlt
        obtain ⟨l, hl⟩ : ∃ l, l = c.legs.getD k default := ⟨_, rfl⟩
        rw [← hl] at g1
        have HL : Hid (l = c.legs.getD k default) := hl
        clear hl hxx hyy
        obtain ⟨a1, a2, a3, a4⟩ := legCells_below (bstep hB1 hbl) g1
        have i1 : (k : Int) < (m : Int) := by omega
        go_wp2
        go_quiet (fail)
        go_wp2
        · rename_i c1
          go_ret
          refine ⟨?_, bdrewN (bstep hB1 hbl) _⟩
          have hat : noneL n (c.legs.getD k default) = 4 := by rw [← HL.out, noneL, if_pos c1]
          have hsc : scanI (fun k => noneL n (c.legs.getD k default)) m = 4 := by rw [scanI_hit HS.out (by rw [hat]; omega) _ hlt, hat]
          rw [canF, if_pos HF.out, HM.out, HN.out, if_neg (by rw [hsc]; omega), hsc]
          rfl
        · rename_i c1
          refine ⟨⟨k + 1, by omega, by go_num, scanI_succ HS.out ?_, bdrewN hbl _⟩, by simp [intOf]; omega⟩
          rw [← HL.out, noneL, if_neg (by omega)]
      · have hkm : k = m := by omega
        subst hkm
        go_wp2
        have hB2 := bstep hB1 hbl
        generalize wr = wo at *
        go_loopw [7] (fun i w' => ∃ j : Nat, j ≤ k ∧ i = .int .i64 j ∧ scanI (fun k => canL (bookF g.shards) (c.legs.getD k default)) j = 0 ∧ Below wo.heap.size wo w') (fun i _ => k - (intOf i).toNat)
        case atStart => exact ⟨0, Nat.zero_le _, rfl, rfl, Below.refl _ _⟩
        case round =>
          obtain ⟨j, hj, rfl, hs, hb3⟩ := hrel
          have HS3 : Hid (scanI (fun k => canL (bookF g.shards) (c.legs.getD k default)) j = 0) := hs
          clear hs
          have b3 := cell_keep hb3 b1
          have d3 := cell_keep hb3 d2
          by_cases hlt3 : j < k
          · obtain ⟨bx, ox, rfl, g1⟩ := hyy j hlt3
            obtain ⟨l, hl⟩ : ∃ l, l = c.legs.getD j default := ⟨_, rfl⟩
            rw [← hl] at g1
            have HL : Hid (l = c.legs.getD j default) := hl
            have hnl : noneL n l = 0 := by rw [hl]; exact scanI_zero HS.out j hlt3
            have hlf : legFault l = 0 := by rw [hl]; exact (HOK.out j hlt3).1
            clear hl
            obtain ⟨⟨s0, s1⟩, ⟨t0, t1⟩, ⟨t2, t3⟩, ⟨t4, t5⟩, t6⟩ := legFault_zero hlf
            have hsn : l.sh < (n : Int) := by
              unfold noneL at hnl
              split at hnl <;> omega
            obtain ⟨ks, hks⟩ : ∃ ks : Nat, l.sh = ks := ⟨l.sh.toNat, by omega⟩
            have hksn : ks < n := by omega
            obtain ⟨b5, o5, u, rfl, _, hc, hu⟩ := hxx ks hksn
            have hBx := bstep hB2 hb3
            have e1 := cell_keep hBx (cells1 hc)
            have hu1 := balsR.below hu hBx
            clear hu hc hxx
            have hat : canL (bookF g.shards) l = canB (g.shards.getD ks default) l := by
              rw [← hasB_book (by omega) (by rw [HN.out]; exact hsn), hks]
              simp
            have hsmk : smallB (g.shards.getD ks default) := HSM.out ks hksn
            obtain ⟨q, hq⟩ : ∃ q, q = g.shards.getD ks default := ⟨_, rfl⟩
            rw [← hq] at hu1 hat hsmk
            have HAT : Hid (canL (bookF g.shards) (c.legs.getD j default) = canB q l) := by show _ = _; rw [← HL.out]; exact hat
            have HSQ : Hid (smallB q) := hsmk
            clear hq hat hsmk
            obtain ⟨a', c', rfl⟩ := bals_form hu1
            have g2 := legCells_below hBx g1
            obtain ⟨a1, a2, a3, a4⟩ := g2
            rw [hks] at a1
            have hl1 : LegsV wr (.slice (some ⟨bx, ox + j * 4, none⟩) 1 (cy - j)) [l] := by
              refine ⟨_, _, rfl, by simp; omega, by unfold maxLen; omega, fun i hi => ?_⟩
              simp at hi
              subst hi
              exact ⟨bx, ox + j * 4, rfl, by simpa using legCells_below hBx g1⟩
            have hsl : small [l] := fun i hi => by
              simp at hi
              subst hi
              exact ⟨t4, t5⟩
            have i1 : (j : Int) < (k : Int) := by omega
            have i2 : (ks : Int) < (n : Int) := by omega
            have v1 : IntKind.i64.wrap ((j : Int) + 1) = j + 1 := wrapId (by omega) (by omega)
            have i4 : (j : Int) + 1 ≤ (cy : Int) := by omega
            have i5 : (0 : Int) ≤ (j : Int) + 1 := by omega
            have i6 : ¬ cy = j := by omega
            clear g1
            go_wp2
            go_region_held3 (fun w' => Below wr.heap.size wr w' ∧ w'.cell? ⟨w.heap.size, 0, none⟩ = some (.slice (some ⟨b5, o5, none⟩) n cx) ∧ w'.cell? ⟨w.heap.size + 1, 1, none⟩ = some (.slice (some ⟨bx, ox, none⟩) k cy) ∧ w'.cell? ⟨bx, ox + j * 4, none⟩ = some (.int .i64 ks) ∧ w'.cell? ⟨b5, o5 + ks, none⟩ = some (.slice a' q.length c'))
              ((refine keepN4 ?_ b3 d3 a1 e1; (repeat (first | exact Below.refl _ _ | assumption | refine Below.drew ?_ | refine balloc ?_ _ | refine bstep ?_ (by assumption)))))
              (first | (go_at_call 151; refine (l2Legs1_any _ _ q l _ (balsR.below hu1 (Below.drew (Below.refl _ _))) (LegsV_below hl1 (Below.drew (Below.refl _ _))) HSQ.out hsl).mono ?_; rintro e w3 ⟨rfl, hb5⟩))
            rename_i hH
            have hBZ := hH.1
            clear hH
            generalize hz : canB q l = z at *
            have HZ : Hid (canL (bookF g.shards) (c.legs.getD j default) = z) := HAT
            clear hz
            by_cases hz0 : z = 0
            · subst hz0
              go_wp2
              exact ⟨⟨j + 1, by omega, by go_num, scanI_succ HS3.out HZ.out, bstep hb3 hBZ⟩, by simp [intOf]; omega⟩
            · go_wp2
              go_ret
              refine ⟨?_, bstep hBx hBZ⟩
              rw [canF, if_pos HF.out, HM.out, HN.out, if_pos HS.out, scanI_hit HS3.out (by rw [HZ.out]; exact hz0) _ hlt3, HZ.out]
              rfl
          · go_wp2
            go_ret
            refine ⟨?_, bstep hB2 hb3⟩
            have hjk : j = k := by omega
            subst hjk
            rw [canF, if_pos HF.out, HM.out, HN.out, if_pos HS.out, HS3.out]
            rfl
  · go_wp2
    go_ret
    refine ⟨?_, by (repeat (first | exact Below.refl _ _ | assumption | refine Below.drew ?_ | refine balloc ?_ _ | refine bset ?_ (by simp; omega) _ | refine bset ?_ (by simp) _ | refine bstep ?_ (by assumption)))⟩
    rw [canF, if_neg hf]
    rfl

theorem canF_small {g : Ledg} (h : ledFault g = 0) : ∀ k, k < g.shards.length → smallB (g.shards.getD k default) := fun k hk => smallB_of ((ledOk_of h).2.2 k hk)

set_option maxHeartbeats 1000000 in
theorem specCan_any (x y : Value) (g : Ledg) (c : Cont) (w : World) (hx : ledgR.V w x g) (hy : contR.V w y c) :
    Calls Try.prog 88 #[x, y] w fun e w' => e = .returned (.int .i64 (canG g c)) ∧ Below w.heap.size w w' := by
  have hX := hx
  have hY := hy
  obtain ⟨u, rfl, hu⟩ := hx
  obtain ⟨ax, cx, rfl⟩ := balss_form hu
  obtain ⟨u2, rfl, hu2⟩ := hy
  obtain ⟨ay, cy, rfl⟩ := legs_form hu2
  clear hu hu2
  go_enter Try.func88, Try.ntmps88
  go_wp2_with fail
  refine (specLedFault_any _ g _ (ledgR.below hX (by (repeat (first | exact Below.refl _ _ | assumption | refine Below.drew ?_ | refine balloc ?_ _ | refine bset ?_ (by simp; omega) _ | refine bset ?_ (by simp) _ | refine bstep ?_ (by assumption)))))).mono ?_
  rintro e w1 ⟨rfl, hb1⟩
  have hB1 : Below w.heap.size w w1 := by (repeat (first | exact Below.refl _ _ | assumption | refine Below.drew ?_ | refine balloc ?_ _ | refine bset ?_ (by simp; omega) _ | refine bset ?_ (by simp) _ | refine bstep ?_ (by assumption)))
  have b0 : w1.cell? ⟨w.heap.size, 0, none⟩ = some (.slice ax g.shards.length cx) := cell_keep hb1 (by simp [go_sem])
  have d0 : w1.cell? ⟨w.heap.size + 1, 0, none⟩ = some (.int .i64 c.id) := cell_keep hb1 (by simp [go_sem])
  have d1 : w1.cell? ⟨w.heap.size + 1, 1, none⟩ = some (.slice ay c.legs.length cy) := cell_keep hb1 (by simp [go_sem])
  clear hb1
  by_cases hf : ledFault g = 0
  · have HF : Hid (ledFault g = 0) := hf
    rw [hf]
    clear hf
    go_wp2_with fail
    refine (l2Can_any _ _ g c _ (ledgR.below hX (by (repeat (first | exact Below.refl _ _ | assumption | refine Below.drew ?_ | refine balloc ?_ _ | refine bset ?_ (by simp; omega) _ | refine bset ?_ (by simp) _ | refine bstep ?_ (by assumption))))) (contR.below hY (by (repeat (first | exact Below.refl _ _ | assumption | refine Below.drew ?_ | refine balloc ?_ _ | refine bset ?_ (by simp; omega) _ | refine bset ?_ (by simp) _ | refine bstep ?_ (by assumption))))) (canF_small HF.out)).mono ?_
    rintro e w2 ⟨rfl, hb2⟩
    go_wp2
    go_ret
    refine ⟨?_, by (repeat (first | exact Below.refl _ _ | assumption | refine Below.drew ?_ | refine balloc ?_ _ | refine bset ?_ (by simp; omega) _ | refine bset ?_ (by simp) _ | refine bstep ?_ (by assumption)))⟩
    rw [canG, if_pos HF.out]
    rfl
  · go_wp2
    go_ret
    refine ⟨?_, by (repeat (first | exact Below.refl _ _ | assumption | refine Below.drew ?_ | refine balloc ?_ _ | refine bset ?_ (by simp; omega) _ | refine bset ?_ (by simp) _ | refine bstep ?_ (by assumption)))⟩
    rw [canG, if_neg hf]
    rfl

end Go.Proofs.Yteebglgbeijolaa
