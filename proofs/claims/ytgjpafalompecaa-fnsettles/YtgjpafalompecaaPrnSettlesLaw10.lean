import Derived.Test.YtgjpafalompecaaPrnSettlesLaw9
import Derived.Test.YtgjpafalompecaaPrnSettlesLaw1
import Derived.Test.YtgjpafalompecaaPrnSettlesLaw7
import Derived.Maps.RangeWalk
import Derived.WalkKit

/-
  Contract. (Written by program: nest.py.)
-/
namespace Go.Proofs.Ytgjpafalompecaa
open Go.RowKit
set_option linter.unusedSectionVars false
variable [DecidableEq Leg] [Inhabited Leg]
attribute [local go_sem ↓] Go.wp_at_zero Go.wp_at_succ

structure Cont where
  id : Int
  legs : List Leg
variable [DecidableEq Cont] [Inhabited Cont]

def contR : Rep Cont where
  V := fun w v x => ∃ u1, v = .agg #[.int .i64 x.id, u1] ∧ legsR.V w u1 x.legs
  O := fun w base F v x => ∃ u1 F1, v = .agg #[.int .i64 x.id, u1] ∧ legsR.O w base F1 u1 x.legs ∧ (∀ b, F b ↔ (F1 b))
  below := fun h hb => by
    obtain ⟨u1, rfl, h1⟩ := h
    exact ⟨u1, rfl, legsR.below h1 hb⟩
  ofO := fun h => by
    obtain ⟨u1, F1, rfl, h1, _⟩ := h
    exact ⟨u1, rfl, legsR.ofO h1⟩
  mod := fun h hm hd => by
    obtain ⟨u1, F1, rfl, h1, hF⟩ := h
    exact ⟨u1, F1, rfl, legsR.mod h1 hm (fun b hb => hd b ((hF b).2 hb)), hF⟩
  rng := fun h b hb => by
    obtain ⟨u1, F1, rfl, h1, hF⟩ := h
    rcases (hF b).1 hb with hb
    · exact legsR.rng h1 b hb
  base := fun h hb => by
    obtain ⟨u1, F1, rfl, h1, hF⟩ := h
    exact ⟨u1, F1, rfl, legsR.base h1 hb, hF⟩
theorem cont_form {w : World} {v : Value} {x : Cont} (h : contR.V w v x) : ∃ a1 c1, v = .agg #[.int .i64 x.id, .slice a1 x.legs.length c1] := by
  obtain ⟨u1, rfl, h1⟩ := h
  obtain ⟨a1, c1, rfl⟩ := legs_form h1
  exact ⟨_, _, rfl⟩
end Go.Proofs.Ytgjpafalompecaa

/-
  What can be settled: in plain mathematics, and the specification's side.
-/
namespace Go.Proofs.Ytgjpafalompecaa
open Go.RowKit
set_option linter.unusedSectionVars false
variable [DecidableEq Bal] [Inhabited Bal] [DecidableEq Ledg] [Inhabited Ledg] [DecidableEq Leg] [Inhabited Leg] [DecidableEq Cont] [Inhabited Cont]
attribute [local go_sem ↓] Go.wp_at_zero Go.wp_at_succ

def canV (v : Int) : Int := if v < 0 then 6 else if 1000000000000 < v then 3 else 0
def canB (xs : List Bal) (l : Leg) : Int := canV (hasB l.ac l.ast xs + l.am)
def canL (f : Int → Int → Int → Option Int) (l : Leg) : Int := canV ((f l.sh l.ac l.ast).getD 0 + l.am)
def noneL (n : Nat) (l : Leg) : Int := if (n : Int) ≤ l.sh then 4 else 0
def canF (n : Nat) (f : Int → Int → Int → Option Int) (c : Cont) : Int :=
  if contractFault c.id c.legs = 0 then (if scanI (fun k => noneL n (c.legs.getD k default)) c.legs.length = 0 then scanI (fun k => canL f (c.legs.getD k default)) c.legs.length else scanI (fun k => noneL n (c.legs.getD k default)) c.legs.length) else contractFault c.id c.legs
def canG (g : Ledg) (c : Cont) : Int := if ledFault g = 0 then canF g.shards.length (bookF g.shards) c else ledFault g
def smallB (xs : List Bal) : Prop := ∀ a t, 0 ≤ hasB a t xs ∧ hasB a t xs ≤ 1000000000000
theorem hasB_le {a t : Int} : ∀ {xs : List Bal}, (∀ k, k < xs.length → balOk (xs.getD k default) = true) → 0 ≤ hasB a t xs ∧ hasB a t xs ≤ 1000000000000
  | [], _ => by simp [hasB]
  | x :: r, h => by
    simp only [hasB]
    split
    · have := (balOk_iff.1 (h 0 (by simp))).2
      simp only [List.getD_cons_zero] at this
      omega
    · exact hasB_le (fun k hk => by have := h (k + 1) (by simpa using hk); simpa only [List.getD_cons_succ] using this)
theorem smallB_of {xs : List Bal} (h : BalsOk xs) : smallB xs := fun _ _ => hasB_le h.ok
theorem legKeep {w w' : World} {b o : Nat} {l : Leg} (hb : Below w.heap.size w w') (h : legCells w b o l) :
    Below w.heap.size w w' ∧ w'.cell? ⟨b, o, none⟩ = some (.int .i64 l.sh) ∧ w'.cell? ⟨b, o + 1, none⟩ = some (.int .i64 l.ac) ∧ w'.cell? ⟨b, o + 2, none⟩ = some (.int .i64 l.ast) ∧ w'.cell? ⟨b, o + 3, none⟩ = some (.int .i64 l.am) :=
  ⟨hb, legCells_below hb h⟩
set_option maxHeartbeats 1000000 in
theorem l2Legs_any (x y : Value) (xs : List Bal) (ls : List Leg) (w : World) (hx : balsR.V w x xs) (hy : legsR.V w y ls) (hs : smallB xs) (ha : small ls) :
    Calls Try.prog 50 #[x, y] w fun e w' => e = .returned (.int .i64 (scanI (fun k => canB xs (ls.getD k default)) ls.length)) ∧ Below w.heap.size w w' := by
  have hX := hx
  obtain ⟨ax, cx, rfl⟩ := bals_form hx
  obtain ⟨ay, cy, rfl, hcy, hmy, hy⟩ := hy
  unfold maxLen at hmy
  have HA : Hid (small ls) := ha
  have HSM : Hid (smallB xs) := hs
  clear ha hs hx
  generalize hn' : ls.length = n at *
  have HN : Hid (ls.length = n) := hn'
  clear hn'
  go_enter Try.func50, Try.ntmps50
  go_wp2
  go_loopw [5] (fun i w' => ∃ k : Nat, k ≤ n ∧ i = .int .i64 k ∧ scanI (fun k => canB xs (ls.getD k default)) k = 0 ∧ Below w.heap.size w w') (fun i _ => n - (intOf i).toNat)
  case atStart => exact ⟨0, Nat.zero_le _, rfl, rfl, Below.refl _ _⟩
  case round =>
    obtain ⟨k, hk, rfl, hs, hbl⟩ := hrel
    have HS : Hid (scanI (fun k => canB xs (ls.getD k default)) k = 0) := hs
    clear hs
    by_cases hlt : k < n
    · obtain ⟨bx, ox, rfl, g1⟩ := hy k hlt
      have hsm := HA.out k (by rw [HN.out]; exact hlt)
      obtain ⟨l, hl⟩ : ∃ l, l = ls.getD k default := ⟨_, rfl⟩
      rw [← hl] at g1 hsm
      have HL : Hid (l = ls.getD k default) := hl
      clear hl hy
      have hhs := HSM.out l.ac l.ast
      have g2 := legCells_below hbl g1
      obtain ⟨a1, a2, a3, a4⟩ := g2
      have hXr := balsR.below hX hbl
      obtain ⟨v, hv⟩ : ∃ v, v = hasB l.ac l.ast xs := ⟨_, rfl⟩
      rw [← hv] at hhs
      have HV : Hid (v = hasB l.ac l.ast xs) := hv
      have v1 : IntKind.i64.wrap (v + l.am) = v + l.am := wrapId (by omega) (by omega)
      have i1 : (k : Int) < (n : Int) := by omega
      have HAT : Hid (canB xs (ls.getD k default) = canV (v + l.am)) := by show _ = _; rw [← HL.out, canB, HV.out]
      clear hsm hhs
      have g3 : legCells wr bx (ox + k * 4) l := ⟨a1, a2, a3, a4⟩
      go_wp2
      go_region_held3 (fun w' => Below wr.heap.size wr w' ∧ w'.cell? ⟨bx, ox + k * 4, none⟩ = some (.int .i64 l.sh) ∧ w'.cell? ⟨bx, ox + k * 4 + 1, none⟩ = some (.int .i64 l.ac) ∧ w'.cell? ⟨bx, ox + k * 4 + 2, none⟩ = some (.int .i64 l.ast) ∧ w'.cell? ⟨bx, ox + k * 4 + 3, none⟩ = some (.int .i64 l.am))
        ((refine legKeep ?_ g3; (repeat (first | exact Below.refl _ _ | assumption | refine Below.drew ?_ | refine balloc ?_ _ | refine bstep ?_ (by assumption)))))
        (first | (go_at_call 72; refine (l2Has_any _ xs l.ac l.ast _ (balsR.below hXr (Below.drew (Below.refl _ _)))).mono ?_; rw [← hv]; rintro e w3 ⟨rfl, rfl⟩))
      rename_i hH
      have hB := bstep hbl hH.1
      clear hH
      rw [← hv, v1]
      clear hv v1
      generalize v + l.am = z at *
      go_wp2
      · rename_i c1
        go_ret
        refine ⟨?_, hB⟩
        rw [scanI_hit HS.out (by rw [HAT.out, canV, if_pos c1]; omega) _ hlt, HAT.out, canV, if_pos c1]
        rfl
      · rename_i c1 c2
        go_ret
        refine ⟨?_, hB⟩
        rw [scanI_hit HS.out (by rw [HAT.out, canV, if_neg (by omega), if_pos c2]; omega) _ hlt, HAT.out, canV, if_neg (by omega), if_pos c2]
        rfl
      · rename_i c1 c2
        refine ⟨⟨k + 1, by omega, by go_num, scanI_succ HS.out ?_, hB⟩, by simp [intOf]; omega⟩
        rw [HAT.out, canV, if_neg (by omega), if_neg (by omega)]
    · go_wp2
      go_ret
      have hkn : k = n := by omega
      subst hkn
      refine ⟨?_, hbl⟩
      rw [HS.out]
      rfl
theorem l2Legs1_any (x y : Value) (xs : List Bal) (l : Leg) (w : World) (hx : balsR.V w x xs) (hy : legsR.V w y [l]) (hs : smallB xs) (ha : small [l]) :
    Calls Try.prog 50 #[x, y] w fun e w' => e = .returned (.int .i64 (canB xs l)) ∧ Below w.heap.size w w' := by
  refine (l2Legs_any x y xs [l] w hx hy hs ha).mono ?_
  rintro e w' ⟨rfl, hb⟩
  exact ⟨rfl, hb⟩
theorem hasB_book {g : Ledg} {l : Leg} (h0 : 0 ≤ l.sh) (h : l.sh < g.shards.length) : canB (g.shards.getD l.sh.toNat default) l = canL (bookF g.shards) l := by
  rw [canB, canL, hasB_get, bookF, if_pos ⟨h0, h⟩]
set_option maxHeartbeats 4000000 in
theorem l2Can_any (x y : Value) (g : Ledg) (c : Cont) (w : World) (hx : ledgR.V w x g) (hy : contR.V w y c) (hsm : ∀ k, k < g.shards.length → smallB (g.shards.getD k default)) :
    Calls Try.prog 23 #[x, y] w fun e w' => e = .returned (.int .i64 (canF g.shards.length (bookF g.shards) c)) ∧ Below w.heap.size w w' := by
  obtain ⟨u, rfl, ax, cx, rfl, hcx, hmx, hxx⟩ := hx
  obtain ⟨u2, rfl, hu2⟩ := hy
  have hU2 := hu2
  obtain ⟨ay, cy, rfl, hcy, hmy, hyy⟩ := hu2
  unfold maxLen at hmx hmy
  have HSM : Hid (∀ k, k < g.shards.length → smallB (g.shards.getD k default)) := hsm
  clear hsm
  go_enter Try.func23, Try.ntmps23
  go_wp2_with fail
  refine (specFault_any c.id _ c.legs _ (LegsV_below hU2 (by (repeat (first | exact Below.refl _ _ | assumption | refine Below.drew ?_ | refine balloc ?_ _ | refine bset ?_ (by simp; omega) _ | refine bset ?_ (by simp) _ | refine bstep ?_ (by assumption)))))).mono ?_
  rintro e w1 ⟨rfl, hb1⟩
  have hB1 : Below w.heap.size w w1 := by (repeat (first | exact Below.refl _ _ | assumption | refine Below.drew ?_ | refine balloc ?_ _ | refine bset ?_ (by simp; omega) _ | refine bset ?_ (by simp) _ | refine bstep ?_ (by assumption)))
  have b0 : w1.cell? ⟨w.heap.size, 0, none⟩ = some (.slice ax g.shards.length cx) := cell_keep hb1 (by simp [go_sem])
  have d1 : w1.cell? ⟨w.heap.size + 1, 1, none⟩ = some (.slice ay c.legs.length cy) := cell_keep hb1 (by simp [go_sem])
  clear hb1
  by_cases hf : contractFault c.id c.legs = 0
  · have HF : Hid (contractFault c.id c.legs = 0) := hf
    obtain ⟨_, hl2, hl8, hok, _⟩ := cf_inv hf
    rw [hf]
    clear hf
    have HOK : Hid (okTo c.legs c.legs.length) := hok
    clear hok
    generalize hn' : g.shards.length = n at *
    have HN : Hid (g.shards.length = n) := hn'
    generalize hm' : c.legs.length = m at *
    have HM : Hid (c.legs.length = m) := hm'
    clear hn' hm'
    go_wp2
    go_loopw [6] (fun i w' => ∃ k : Nat, k ≤ m ∧ i = .int .i64 k ∧ scanI (fun k => noneL n (c.legs.getD k default)) k = 0 ∧ Below w1.heap.size w1 w') (fun i _ => m - (intOf i).toNat)
    case atStart => exact ⟨0, Nat.zero_le _, rfl, rfl, Below.refl _ _⟩
    case round =>
      obtain ⟨k, hk, rfl, hs, hbl⟩ := hrel
      have HS : Hid (scanI (fun k => noneL n (c.legs.getD k default)) k = 0) := hs
      clear hs
      have b1 := cell_keep hbl b0
      have d2 := cell_keep hbl d1
      by_cases hlt : k < m
      · obtain ⟨bx, ox, rfl, g1⟩ := hyy k hlt
        obtain ⟨l, hl⟩ : ∃ l, l = c.legs.getD k default := ⟨_, rfl⟩
        rw [← hl] at g1
        have HL : Hid (l = c.legs.getD k default) := hl
        clear hl hxx hyy
        obtain ⟨a1, a2, a3, a4⟩ := legCells_below (bstep hB1 hbl) g1
        have i1 : (k : Int) < (m : Int) := by omega
        go_wp2
        go_quiet (fail)
        go_wp2
        · rename_i c1
          go_ret
          refine ⟨?_, bdrewN (bstep hB1 hbl) _⟩
          have hat : noneL n (c.legs.getD k default) = 4 := by rw [← HL.out, noneL, if_pos c1]
          have hsc : scanI (fun k => noneL n (c.legs.getD k default)) m = 4 := by rw [scanI_hit HS.out (by rw [hat]; omega) _ hlt, hat]
          rw [canF, if_pos HF.out, HM.out, HN.out, if_neg (by rw [hsc]; omega), hsc]
          rfl
        · rename_i c1
          refine ⟨⟨k + 1, by omega, by go_num, scanI_succ HS.out ?_, bdrewN hbl _⟩, by simp [intOf]; omega⟩
          rw [← HL.out, noneL, if_neg (by omega)]
      · have hkm : k = m := by omega
        subst hkm
        go_wp2
        have hB2 := bstep hB1 hbl
        generalize wr = wo at *
        go_loopw [7] (fun i w' => ∃ j : Nat, j ≤ k ∧ i = .int .i64 j ∧ scanI (fun k => canL (bookF g.shards) (c.legs.getD k default)) j = 0 ∧ Below wo.heap.size wo w') (fun i _ => k - (intOf i).toNat)
        case atStart => exact ⟨0, Nat.zero_le _, rfl, rfl, Below.refl _ _⟩
        case round =>
          obtain ⟨j, hj, rfl, hs, hb3⟩ := hrel
          have HS3 : Hid (scanI (fun k => canL (bookF g.shards) (c.legs.getD k default)) j = 0) := hs
          clear hs
          have b3 := cell_keep hb3 b1
          have d3 := cell_keep hb3 d2
          by_cases hlt3 : j < k
          · obtain ⟨bx, ox, rfl, g1⟩ := hyy j hlt3
            obtain ⟨l, hl⟩ : ∃ l, l = c.legs.getD j default := ⟨_, rfl⟩
            rw [← hl] at g1
            have HL : Hid (l = c.legs.getD j default) := hl
            have hnl : noneL n l = 0 := by rw [hl]; exact scanI_zero HS.out j hlt3
            have hlf : legFault l = 0 := by rw [hl]; exact (HOK.out j hlt3).1
            clear hl
            obtain ⟨⟨s0, s1⟩, ⟨t0, t1⟩, ⟨t2, t3⟩, ⟨t4, t5⟩, t6⟩ := legFault_zero hlf
            have hsn : l.sh < (n : Int) := by
              unfold noneL at hnl
              split at hnl <;> omega
            obtain ⟨ks, hks⟩ : ∃ ks : Nat, l.sh = ks := ⟨l.sh.toNat, by omega⟩
            have hksn : ks < n := by omega
            obtain ⟨b5, o5, u, rfl, _, hc, hu⟩ := hxx ks hksn
            have hBx := bstep hB2 hb3
            have e1 := cell_keep hBx (cells1 hc)
            have hu1 := balsR.below hu hBx
            clear hu hc hxx
            have hat : canL (bookF g.shards) l = canB (g.shards.getD ks default) l := by
              rw [← hasB_book (by omega) (by rw [HN.out]; exact hsn), hks]
              simp
            have hsmk : smallB (g.shards.getD ks default) := HSM.out ks hksn
            obtain ⟨q, hq⟩ : ∃ q, q = g.shards.getD ks default := ⟨_, rfl⟩
            rw [← hq] at hu1 hat hsmk
            have HAT : Hid (canL (bookF g.shards) (c.legs.getD j default) = canB q l) := by show _ = _; rw [← HL.out]; exact hat
            have HSQ : Hid (smallB q) := hsmk
            clear hq hat hsmk
            obtain ⟨a', c', rfl⟩ := bals_form hu1
            have g2 := legCells_below hBx g1
            obtain ⟨a1, a2, a3, a4⟩ := g2
            rw [hks] at a1
            have hl1 : LegsV wr (.slice (some ⟨bx, ox + j * 4, none⟩) 1 (cy - j)) [l] := by
              refine ⟨_, _, rfl, by simp; omega, by unfold maxLen; omega, fun i hi => ?_⟩
              simp at hi
              subst hi
              exact ⟨bx, ox + j * 4, rfl, by simpa using legCells_below hBx g1⟩
            have hsl : small [l] := fun i hi => by
              simp at hi
              subst hi
              exact ⟨t4, t5⟩
            have i1 : (j : Int) < (k : Int) := by omega
            have i2 : (ks : Int) < (n : Int) := by omega
            have v1 : IntKind.i64.wrap ((j : Int) + 1) = j + 1 := wrapId (by omega) (by omega)
            have i4 : (j : Int) + 1 ≤ (cy : Int) := by omega
            have i5 : (0 : Int) ≤ (j : Int) + 1 := by omega
            have i6 : ¬ cy = j := by omega
            clear g1
            go_wp2
            go_region_held3 (fun w' => Below wr.heap.size wr w' ∧ w'.cell? ⟨w.heap.size, 0, none⟩ = some (.slice (some ⟨b5, o5, none⟩) n cx) ∧ w'.cell? ⟨w.heap.size + 1, 1, none⟩ = some (.slice (some ⟨bx, ox, none⟩) k cy) ∧ w'.cell? ⟨bx, ox + j * 4, none⟩ = some (.int .i64 ks) ∧ w'.cell? ⟨b5, o5 + ks, none⟩ = some (.slice a' q.length c'))
              ((refine keepN4 ?_ b3 d3 a1 e1; (repeat (first | exact Below.refl _ _ | assumption | refine Below.drew ?_ | refine balloc ?_ _ | refine bstep ?_ (by assumption)))))
              (first | (go_at_call 50; refine (l2Legs1_any _ _ q l _ (balsR.below hu1 (Below.drew (Below.refl _ _))) (LegsV_below hl1 (Below.drew (Below.refl _ _))) HSQ.out hsl).mono ?_; rintro e w3 ⟨rfl, hb5⟩))
            rename_i hH
            have hBZ := hH.1
            clear hH
            generalize hz : canB q l = z at *
            have HZ : Hid (canL (bookF g.shards) (c.legs.getD j default) = z) := HAT
            clear hz
            by_cases hz0 : z = 0
            · subst hz0
              go_wp2
              exact ⟨⟨j + 1, by omega, by go_num, scanI_succ HS3.out HZ.out, bstep hb3 hBZ⟩, by simp [intOf]; omega⟩
            · go_wp2
              go_ret
              refine ⟨?_, bstep hBx hBZ⟩
              rw [canF, if_pos HF.out, HM.out, HN.out, if_pos HS.out, scanI_hit HS3.out (by rw [HZ.out]; exact hz0) _ hlt3, HZ.out]
              rfl
          · go_wp2
            go_ret
            refine ⟨?_, bstep hB2 hb3⟩
            have hjk : j = k := by omega
            subst hjk
            rw [canF, if_pos HF.out, HM.out, HN.out, if_pos HS.out, HS3.out]
            rfl
  · go_wp2
    go_ret
    refine ⟨?_, by (repeat (first | exact Below.refl _ _ | assumption | refine Below.drew ?_ | refine balloc ?_ _ | refine bset ?_ (by simp; omega) _ | refine bset ?_ (by simp) _ | refine bstep ?_ (by assumption)))⟩
    rw [canF, if_neg hf]
    rfl
theorem canF_small {g : Ledg} (h : ledFault g = 0) : ∀ k, k < g.shards.length → smallB (g.shards.getD k default) := fun k hk => smallB_of ((ledOk_of h).2.2 k hk)
set_option maxHeartbeats 1000000 in
theorem specCan_any (x y : Value) (g : Ledg) (c : Cont) (w : World) (hx : ledgR.V w x g) (hy : contR.V w y c) :
    Calls Try.prog 8 #[x, y] w fun e w' => e = .returned (.int .i64 (canG g c)) ∧ Below w.heap.size w w' := by
  have hX := hx
  have hY := hy
  obtain ⟨u, rfl, hu⟩ := hx
  obtain ⟨ax, cx, rfl⟩ := balss_form hu
  obtain ⟨u2, rfl, hu2⟩ := hy
  obtain ⟨ay, cy, rfl⟩ := legs_form hu2
  clear hu hu2
  go_enter Try.func8, Try.ntmps8
  go_wp2_with fail
  refine (specLedFault_any _ g _ (ledgR.below hX (by (repeat (first | exact Below.refl _ _ | assumption | refine Below.drew ?_ | refine balloc ?_ _ | refine bset ?_ (by simp; omega) _ | refine bset ?_ (by simp) _ | refine bstep ?_ (by assumption)))))).mono ?_
  rintro e w1 ⟨rfl, hb1⟩
  have hB1 : Below w.heap.size w w1 := by (repeat (first | exact Below.refl _ _ | assumption | refine Below.drew ?_ | refine balloc ?_ _ | refine bset ?_ (by simp; omega) _ | refine bset ?_ (by simp) _ | refine bstep ?_ (by assumption)))
  have b0 : w1.cell? ⟨w.heap.size, 0, none⟩ = some (.slice ax g.shards.length cx) := cell_keep hb1 (by simp [go_sem])
  have d0 : w1.cell? ⟨w.heap.size + 1, 0, none⟩ = some (.int .i64 c.id) := cell_keep hb1 (by simp [go_sem])
  have d1 : w1.cell? ⟨w.heap.size + 1, 1, none⟩ = some (.slice ay c.legs.length cy) := cell_keep hb1 (by simp [go_sem])
  clear hb1
  by_cases hf : ledFault g = 0
  · have HF : Hid (ledFault g = 0) := hf
    rw [hf]
    clear hf
    go_wp2_with fail
    refine (l2Can_any _ _ g c _ (ledgR.below hX (by (repeat (first | exact Below.refl _ _ | assumption | refine Below.drew ?_ | refine balloc ?_ _ | refine bset ?_ (by simp; omega) _ | refine bset ?_ (by simp) _ | refine bstep ?_ (by assumption))))) (contR.below hY (by (repeat (first | exact Below.refl _ _ | assumption | refine Below.drew ?_ | refine balloc ?_ _ | refine bset ?_ (by simp; omega) _ | refine bset ?_ (by simp) _ | refine bstep ?_ (by assumption))))) (canF_small HF.out)).mono ?_
    rintro e w2 ⟨rfl, hb2⟩
    go_wp2
    go_ret
    refine ⟨?_, by (repeat (first | exact Below.refl _ _ | assumption | refine Below.drew ?_ | refine balloc ?_ _ | refine bset ?_ (by simp; omega) _ | refine bset ?_ (by simp) _ | refine bstep ?_ (by assumption)))⟩
    rw [canG, if_pos HF.out]
    rfl
  · go_wp2
    go_ret
    refine ⟨?_, by (repeat (first | exact Below.refl _ _ | assumption | refine Below.drew ?_ | refine balloc ?_ _ | refine bset ?_ (by simp; omega) _ | refine bset ?_ (by simp) _ | refine bstep ?_ (by assumption)))⟩
    rw [canG, if_neg hf]
    rfl
end Go.Proofs.Ytgjpafalompecaa

/-
  What can be settled: the program's side.
-/
namespace Go.Proofs.Ytgjpafalompecaa
open Go.RowKit
set_option linter.unusedSectionVars false
variable [DecidableEq Bal] [Inhabited Bal] [DecidableEq Ledg] [Inhabited Ledg] [DecidableEq Leg] [Inhabited Leg] [DecidableEq Cont] [Inhabited Cont]
attribute [local go_sem ↓] Go.wp_at_zero Go.wp_at_succ

theorem keyOfLeg_any (l : Leg) (w : World) : Calls Try.prog 44 #[.agg #[.int .i64 l.sh, .int .i64 l.ac, .int .i64 l.ast, .int .i64 l.am]] w fun e w' => e = .returned (kv l.sh l.ac l.ast) ∧ Below w.heap.size w w' := by
  go_enter Try.func44, Try.ntmps44
  go_wp2_with fail
  refine (keyOf_any _ _ _ _).mono ?_
  rintro e w1 ⟨rfl, hb1⟩
  have hB1 : Below w.heap.size w w1 := by (repeat (first | exact Below.refl _ _ | assumption | refine Below.drew ?_ | refine balloc ?_ _ | refine bset ?_ (by simp; omega) _ | refine bset ?_ (by simp) _ | refine bstep ?_ (by assumption)))
  have r0 : w1.cell? ⟨w.heap.size + 1, 0, none⟩ = some (.int .i64 0) := cell_keep hb1 (by simp [go_sem])
  have r1 : w1.cell? ⟨w.heap.size + 1, 1, none⟩ = some (.int .i64 0) := cell_keep hb1 (by simp [go_sem])
  have r2 : w1.cell? ⟨w.heap.size + 1, 2, none⟩ = some (.int .i64 0) := cell_keep hb1 (by simp [go_sem])
  have hrf : ∀ o, w1.frozen? ⟨w.heap.size + 1, o, none⟩ = false := fun o => by rw [(bcell hb1).2 _ _ (by simp)]; simp [go_sem]
  clear hb1
  unfold kv
  go_wp2
  refine bodyPost_ret (v := .agg #[.int .i64 l.sh, .int .i64 l.ac, .int .i64 l.ast]) ?_ rfl ⟨rfl, by (repeat (first | exact Below.refl _ _ | assumption | refine Below.drew ?_ | refine balloc ?_ _ | refine bset ?_ (by simp; omega) _ | refine bset ?_ (by simp) _ | refine bstep ?_ (by assumption)))⟩
  simp [results, Try.results44, go_sem, r0, r1, r2]
def smallF (f : Int → Int → Int → Option Int) : Prop := ∀ s a t, 0 ≤ (f s a t).getD 0 ∧ (f s a t).getD 0 ≤ 1000000000000
theorem smallF_of {g : Ledg} (h : ledFault g = 0) : smallF (bookF g.shards) := fun s a t => by
  unfold bookF
  split
  · rename_i hs
    rw [← hasB_get]
    exact canF_small h s.toNat (by omega) a t
  · simp
set_option maxHeartbeats 2000000 in
theorem amountsFault_any (n : Nat) (b m : Nat) (f : Int → Int → Int → Option Int) (y : Value) (ls : List Leg) (w : World) (hb : Book w b m f) (hy : legsR.V w y ls) (hs : smallF f) (hok : ∀ k, k < ls.length → legFault (ls.getD k default) = 0) :
    Calls Try.prog 51 #[.agg #[.int .i64 n, .map (some b)], y] w fun e w' => e = .returned (.int .i64 (scanI (fun k => canL f (ls.getD k default)) ls.length)) ∧ Below w.heap.size w w' := by
  obtain ⟨ay, cy, rfl, hcy, hmy, hy⟩ := hy
  unfold maxLen at hmy
  have HOK : Hid (∀ k, k < ls.length → legFault (ls.getD k default) = 0) := hok
  have HSM : Hid (smallF f) := hs
  clear hs hok
  generalize hn' : ls.length = q at *
  have HN : Hid (ls.length = q) := hn'
  clear hn'
  go_enter Try.func51, Try.ntmps51
  go_wp2
  go_loopw [10] (fun i w' => ∃ k : Nat, k ≤ q ∧ i = .int .i64 k ∧ scanI (fun k => canL f (ls.getD k default)) k = 0 ∧ w'.cell? ⟨w.heap.size, 1, none⟩ = some (.map (some b)) ∧ Below w.heap.size w w') (fun i _ => q - (intOf i).toNat)
  case atStart => exact ⟨0, Nat.zero_le _, rfl, rfl, by simp [go_sem], by (repeat (first | exact Below.refl _ _ | assumption | refine Below.drew ?_ | refine balloc ?_ _ | refine bset ?_ (by simp; omega) _ | refine bset ?_ (by simp) _ | refine bstep ?_ (by assumption)))⟩
  case round =>
    obtain ⟨k, hk, rfl, hs, hc1, hbl⟩ := hrel
    have HS : Hid (scanI (fun k => canL f (ls.getD k default)) k = 0) := hs
    clear hs
    by_cases hlt : k < q
    · obtain ⟨bx, ox, rfl, g1⟩ := hy k hlt
      have hlf := HOK.out k hlt
      obtain ⟨l, hl⟩ : ∃ l, l = ls.getD k default := ⟨_, rfl⟩
      rw [← hl] at g1 hlf
      have HL : Hid (l = ls.getD k default) := hl
      clear hl hy
      obtain ⟨⟨s0, s1⟩, ⟨t0, t1⟩, ⟨t2, t3⟩, ⟨t4, t5⟩, t6⟩ := legFault_zero hlf
      have hhs := HSM.out l.sh l.ac l.ast
      obtain ⟨a1, a2, a3, a4⟩ := legCells_below hbl g1
      have hw : kwf l.sh l.ac l.ast := ⟨wf_of (by omega) (by omega), wf_of (by omega) (by omega), wf_of (by omega) (by omega)⟩
      obtain ⟨v, hv⟩ : ∃ v, v = (f l.sh l.ac l.ast).getD 0 := ⟨_, rfl⟩
      rw [← hv] at hhs
      have HAT : Hid (canL f (ls.getD k default) = canV (v + l.am)) := by show _ = _; rw [← HL.out, canL, hv]
      have hlk : ∀ W, Below w.heap.size w W → (Instr.lookup 54 (.map (some b)) (kv l.sh l.ac l.ast) false).run Try.prog W = .ok (.int .i64 v) W := fun W hW => by rw [hv]; exact ((hb.below hW).look hw).1
      clear hv
      have v1 : IntKind.i64.wrap (v + l.am) = v + l.am := wrapId (by omega) (by omega)
      have hz : w.heap.size < wr.heap.size := World.block_lt_of_cell? _ _ hc1
      have h0 : Below w.heap.size w (wr.alloc (.cells #[.int .i64 l.sh, .int .i64 l.ac, .int .i64 l.ast, .int .i64 l.am] 40)) ∧ (wr.alloc (.cells #[.int .i64 l.sh, .int .i64 l.ac, .int .i64 l.ast, .int .i64 l.am] 40)).cell? ⟨w.heap.size, 1, none⟩ = some (.map (some b)) ∧ (wr.alloc (.cells #[.int .i64 l.sh, .int .i64 l.ac, .int .i64 l.ast, .int .i64 l.am] 40)).cell? ⟨wr.heap.size, 0, none⟩ = some (.int .i64 l.sh) ∧ (wr.alloc (.cells #[.int .i64 l.sh, .int .i64 l.ac, .int .i64 l.ast, .int .i64 l.am] 40)).cell? ⟨wr.heap.size, 1, none⟩ = some (.int .i64 l.ac) ∧ (wr.alloc (.cells #[.int .i64 l.sh, .int .i64 l.ac, .int .i64 l.ast, .int .i64 l.am] 40)).cell? ⟨wr.heap.size, 2, none⟩ = some (.int .i64 l.ast) ∧ (wr.alloc (.cells #[.int .i64 l.sh, .int .i64 l.ac, .int .i64 l.ast, .int .i64 l.am] 40)).cell? ⟨wr.heap.size, 3, none⟩ = some (.int .i64 l.am) :=
        ⟨by (repeat (first | exact Below.refl _ _ | assumption | refine Below.drew ?_ | refine balloc ?_ _ | refine bset ?_ (by simp; omega) _ | refine bset ?_ (by simp) _ | refine bstep ?_ (by assumption))), cell_keep (balloc (Below.refl _ _) _) hc1, by simp [go_sem], by simp [go_sem], by simp [go_sem], by simp [go_sem]⟩
      go_wp2
      generalize hW : wr.alloc (.cells #[.int .i64 l.sh, .int .i64 l.ac, .int .i64 l.ast, .int .i64 l.am] 40) = W at *
      clear hW a1 a2 a3 a4 g1 hc1
      go_region_held3 (fun w' => Below w.heap.size w w' ∧ w'.cell? ⟨w.heap.size, 1, none⟩ = some (.map (some b)) ∧ w'.cell? ⟨wr.heap.size, 0, none⟩ = some (.int .i64 l.sh) ∧ w'.cell? ⟨wr.heap.size, 1, none⟩ = some (.int .i64 l.ac) ∧ w'.cell? ⟨wr.heap.size, 2, none⟩ = some (.int .i64 l.ast) ∧ w'.cell? ⟨wr.heap.size, 3, none⟩ = some (.int .i64 l.am))
        ((first | exact keepS5 h0 (Below.drew (Below.refl _ _)) | exact hS3))
        (first | (go_at_call 44; refine (keyOfLeg_any l _).mono ?_; rintro e w3 ⟨rfl, hb5⟩; have hS3 := keepS5 (keepS5 h0 (Below.drew (Below.refl _ _))) hb5; have hl5 := hlk _ hS3.1))
      rename_i hH
      have hB := hH.1
      have hc2 := hH.2.1
      clear hH hS3 hl5 hlk
      generalize v + l.am = z at *
      go_wp2
      · rename_i c1
        go_ret
        refine ⟨?_, hB⟩
        rw [scanI_hit HS.out (by rw [HAT.out, canV, if_pos c1]; omega) _ hlt, HAT.out, canV, if_pos c1]
        rfl
      · rename_i c1 c2
        go_ret
        refine ⟨?_, hB⟩
        rw [scanI_hit HS.out (by rw [HAT.out, canV, if_neg (by omega), if_pos c2]; omega) _ hlt, HAT.out, canV, if_neg (by omega), if_pos c2]
        rfl
      · rename_i c1 c2
        refine ⟨⟨k + 1, by omega, by go_num, scanI_succ HS.out ?_, hc2, hB⟩, by simp [intOf]; omega⟩
        rw [HAT.out, canV, if_neg (by omega), if_neg (by omega)]
    · go_wp2
      go_ret
      have hkn : k = q := by omega
      subst hkn
      refine ⟨?_, hbl⟩
      rw [HS.out]
      rfl
theorem canF_none {n : Nat} {f : Int → Int → Int → Option Int} {c : Cont} {k : Nat} (h0 : contractFault c.id c.legs = 0) (hk : k < c.legs.length) (hs : scanI (fun k => noneL n (c.legs.getD k default)) k = 0) (h : noneL n (c.legs.getD k default) = 4) : canF n f c = 4 := by
  have hsc : scanI (fun k => noneL n (c.legs.getD k default)) c.legs.length = 4 := by rw [scanI_hit hs (by rw [h]; omega) _ hk, h]
  rw [canF, if_pos h0, if_neg (by rw [hsc]; omega), hsc]
set_option maxHeartbeats 2000000 in
theorem settleFault_any (n : Nat) (b m : Nat) (f : Int → Int → Int → Option Int) (y : Value) (c : Cont) (w : World) (hb : Book w b m f) (hy : contR.V w y c) (hs : smallF f) (hn : n ≤ 3) :
    Calls Try.prog 24 #[.agg #[.int .i64 n, .map (some b)], y] w fun e w' => e = .returned (.int .i64 (canF n f c)) ∧ Below w.heap.size w w' := by
  obtain ⟨u2, rfl, hu2⟩ := hy
  have hU2 := hu2
  obtain ⟨ay, cy, rfl, hcy, hmy, hyy⟩ := hu2
  unfold maxLen at hmy
  have HSM : Hid (smallF f) := hs
  clear hs
  go_enter Try.func24, Try.ntmps24
  go_wp2_with fail
  refine (implFault_any c.id _ c.legs _ (LegsV_below hU2 (by (repeat (first | exact Below.refl _ _ | assumption | refine Below.drew ?_ | refine balloc ?_ _ | refine bset ?_ (by simp; omega) _ | refine bset ?_ (by simp) _ | refine bstep ?_ (by assumption)))))).mono ?_
  rintro e w1 ⟨rfl, hb1⟩
  have hB1 : Below w.heap.size w w1 := by (repeat (first | exact Below.refl _ _ | assumption | refine Below.drew ?_ | refine balloc ?_ _ | refine bset ?_ (by simp; omega) _ | refine bset ?_ (by simp) _ | refine bstep ?_ (by assumption)))
  have b0 : w1.cell? ⟨w.heap.size, 0, none⟩ = some (.int .i64 n) := cell_keep hb1 (by simp [go_sem])
  have b1 : w1.cell? ⟨w.heap.size, 1, none⟩ = some (.map (some b)) := cell_keep hb1 (by simp [go_sem])
  have d1 : w1.cell? ⟨w.heap.size + 1, 1, none⟩ = some (.slice ay c.legs.length cy) := cell_keep hb1 (by simp [go_sem])
  clear hb1
  by_cases hf : contractFault c.id c.legs = 0
  · have HF : Hid (contractFault c.id c.legs = 0) := hf
    obtain ⟨_, hl2, hl8, hok, _⟩ := cf_inv hf
    rw [hf]
    clear hf
    have HOK : Hid (okTo c.legs c.legs.length) := hok
    clear hok
    generalize hm' : c.legs.length = q at *
    have HM : Hid (c.legs.length = q) := hm'
    clear hm'
    go_wp2
    go_loopw [16] (fun i w' => ∃ k : Nat, k ≤ q ∧ i = .int .i64 k ∧ scanI (fun k => noneL n (c.legs.getD k default)) k = 0 ∧ Below w1.heap.size w1 w') (fun i _ => q - (intOf i).toNat)
    case atStart => exact ⟨0, Nat.zero_le _, rfl, rfl, Below.refl _ _⟩
    case round =>
      obtain ⟨k, hk, rfl, hs, hbl⟩ := hrel
      have HS : Hid (scanI (fun k => noneL n (c.legs.getD k default)) k = 0) := hs
      clear hs
      have e0 := cell_keep hbl b0
      have e1 := cell_keep hbl b1
      have e2 := cell_keep hbl d1
      by_cases hlt : k < q
      · obtain ⟨bx, ox, rfl, g1⟩ := hyy k hlt
        have hlf : legFault (c.legs.getD k default) = 0 := (HOK.out k hlt).1
        obtain ⟨l, hl⟩ : ∃ l, l = c.legs.getD k default := ⟨_, rfl⟩
        rw [← hl] at g1 hlf
        have HL : Hid (l = c.legs.getD k default) := hl
        clear hl hyy
        obtain ⟨⟨s0, s1⟩, _⟩ := legFault_zero hlf
        obtain ⟨a1, a2, a3, a4⟩ := legCells_below (bstep hB1 hbl) g1
        have z0 := World.block_lt_of_cell? _ _ e0
        dsimp only at z0
        go_wp2_with fail
        refine (hasShard_any n _ l.sh _ hn ⟨_, rfl⟩).mono ?_
        rintro e w3 ⟨rfl, hb3⟩
        have hBB : Below w1.heap.size w1 w3 := by (repeat (first | exact Below.refl _ _ | assumption | refine Below.drew ?_ | refine balloc ?_ _ | refine bset ?_ (by simp; omega) _ | refine bset ?_ (by simp) _ | refine bstep ?_ (by assumption)))
        cases hin : inB l.sh 0 ((n : Int) - 1)
        · have hat : noneL n (c.legs.getD k default) = 4 := by
            rw [← HL.out, noneL, if_pos]
            by_cases hh : (n : Int) ≤ l.sh
            · exact hh
            · have : inB l.sh 0 ((n : Int) - 1) = true := inBi.2 ⟨by omega, by omega⟩
              rw [this] at hin
              cases hin
          have HAT : Hid (noneL n (c.legs.getD k default) = 4) := hat
          clear hat
          go_wp2
          go_ret
          refine ⟨?_, bstep hB1 hBB⟩
          rw [canF_none HF.out (by rw [HM.out]; exact hlt) HS.out HAT.out]
          rfl
        · have := inBi.1 hin
          go_wp2
          refine ⟨⟨k + 1, by omega, by go_num, scanI_succ HS.out ?_, hBB⟩, by simp [intOf]; omega⟩
          rw [← HL.out, noneL, if_neg (by omega)]
      · have hkm : k = q := by omega
        subst hkm
        have hB2 := bstep hB1 hbl
        clear hyy
        go_wp2_with fail
        refine (amountsFault_any n b m f _ c.legs _ (hb.below (by (repeat (first | exact Below.refl _ _ | assumption | refine Below.drew ?_ | refine balloc ?_ _ | refine bset ?_ (by simp; omega) _ | refine bset ?_ (by simp) _ | refine bstep ?_ (by assumption))))) (LegsV_below hU2 (by (repeat (first | exact Below.refl _ _ | assumption | refine Below.drew ?_ | refine balloc ?_ _ | refine bset ?_ (by simp; omega) _ | refine bset ?_ (by simp) _ | refine bstep ?_ (by assumption))))) HSM.out (fun i hi => (HOK.out i (by rw [HM.out] at hi; exact hi)).1)).mono ?_
        rintro e w3 ⟨rfl, hb3⟩
        go_wp2
        go_ret
        refine ⟨?_, bstep hB2 hb3⟩
        rw [canF, if_pos HF.out, if_pos (by rw [HM.out]; exact HS.out)]
        rfl
  · go_wp2
    go_ret
    refine ⟨?_, by (repeat (first | exact Below.refl _ _ | assumption | refine Below.drew ?_ | refine balloc ?_ _ | refine bset ?_ (by simp; omega) _ | refine bset ?_ (by simp) _ | refine bstep ?_ (by assumption)))⟩
    rw [canF, if_neg hf]
    rfl
set_option maxHeartbeats 1000000 in
theorem implCan_any (x y : Value) (g : Ledg) (c : Cont) (w : World) (hx : ledgR.V w x g) (hy : contR.V w y c) :
    Calls Try.prog 9 #[x, y] w fun e w' => e = .returned (.int .i64 (canG g c)) ∧ Below w.heap.size w w' := by
  have hX := hx
  have hY := hy
  obtain ⟨u, rfl, hu⟩ := hx
  obtain ⟨ax, cx, rfl⟩ := balss_form hu
  obtain ⟨u2, rfl, hu2⟩ := hy
  obtain ⟨ay, cy, rfl⟩ := legs_form hu2
  clear hu hu2
  go_enter Try.func9, Try.ntmps9
  go_wp2_with fail
  refine (implLedFault_any _ g _ (ledgR.below hX (by (repeat (first | exact Below.refl _ _ | assumption | refine Below.drew ?_ | refine balloc ?_ _ | refine bset ?_ (by simp; omega) _ | refine bset ?_ (by simp) _ | refine bstep ?_ (by assumption)))))).mono ?_
  rintro e w1 ⟨rfl, hb1⟩
  have hB1 : Below w.heap.size w w1 := by (repeat (first | exact Below.refl _ _ | assumption | refine Below.drew ?_ | refine balloc ?_ _ | refine bset ?_ (by simp; omega) _ | refine bset ?_ (by simp) _ | refine bstep ?_ (by assumption)))
  have b0 : w1.cell? ⟨w.heap.size, 0, none⟩ = some (.slice ax g.shards.length cx) := cell_keep hb1 (by simp [go_sem])
  have d0 : w1.cell? ⟨w.heap.size + 1, 0, none⟩ = some (.int .i64 c.id) := cell_keep hb1 (by simp [go_sem])
  have d1 : w1.cell? ⟨w.heap.size + 1, 1, none⟩ = some (.slice ay c.legs.length cy) := cell_keep hb1 (by simp [go_sem])
  clear hb1
  by_cases hf : ledFault g = 0
  · have HF : Hid (ledFault g = 0) := hf
    have hl3 := (ledOk_of hf).2.1
    rw [hf]
    clear hf
    have hXr := ledgR.below hX hB1
    have hYr := contR.below hY hB1
    go_wp2
    go_region_held3 (fun w' => Below w1.heap.size w1 w' ∧ w'.cell? ⟨w.heap.size, 0, none⟩ = some (.slice ax g.shards.length cx) ∧ w'.cell? ⟨w.heap.size + 1, 0, none⟩ = some (.int .i64 c.id) ∧ w'.cell? ⟨w.heap.size + 1, 1, none⟩ = some (.slice ay c.legs.length cy))
      ((refine keepN3 ?_ b0 d0 d1; (repeat (first | exact Below.refl _ _ | assumption | refine Below.drew ?_ | refine balloc ?_ _ | refine bstep ?_ (by assumption)))))
      (first | (go_at_call 19; refine (bookOf_any _ g _ (ledgR.below hXr (Below.drew (Below.refl _ _))) HF.out).mono ?_; rintro e w2 ⟨b, rfl, hbb, hK, hb2⟩) | (go_at_call 24; refine (settleFault_any g.shards.length b 54 (bookF g.shards) _ c _ hK (contR.below (contR.below hYr (Below.drew (Below.refl _ _))) hb2) (smallF_of HF.out) hl3).mono ?_; rintro e w3 ⟨rfl, hb3⟩))
    rename_i hH
    have hBZ := bstep hB1 hH.1
    clear hH
    go_wp2
    go_ret
    refine ⟨?_, hBZ⟩
    rw [canG, if_pos HF.out]
    rfl
  · go_wp2
    go_ret
    refine ⟨?_, by (repeat (first | exact Below.refl _ _ | assumption | refine Below.drew ?_ | refine balloc ?_ _ | refine bset ?_ (by simp; omega) _ | refine bset ?_ (by simp) _ | refine bstep ?_ (by assumption)))⟩
    rw [canG, if_neg hf]
    rfl
end Go.Proofs.Ytgjpafalompecaa

/-
  TotalOf: in plain mathematics, and the program's walk over the book.
-/
namespace Go.Proofs.Ytgjpafalompecaa
open Go.RowKit Go.Maps
set_option linter.unusedSectionVars false
variable [DecidableEq Bal] [Inhabited Bal] [DecidableEq Ledg] [Inhabited Ledg] [DecidableEq Leg] [Inhabited Leg] [DecidableEq Cont] [Inhabited Cont]
attribute [local go_sem ↓] Go.wp_at_zero Go.wp_at_succ

def sum6 (q : Int → Int) : Int := q 0 + q 1 + q 2 + q 3 + q 4 + q 5
def sumD (q : Int → Int → Int) : Int := sum6 (q 0) + sum6 (q 1) + sum6 (q 2)
theorem sum6_congr {q q' : Int → Int} (h : ∀ a, 0 ≤ a → a ≤ 5 → q' a = q a) : sum6 q' = sum6 q := by
  unfold sum6
  rw [h 0 (by omega) (by omega), h 1 (by omega) (by omega), h 2 (by omega) (by omega), h 3 (by omega) (by omega), h 4 (by omega) (by omega), h 5 (by omega) (by omega)]
theorem sumD_congr {q q' : Int → Int → Int} (h : ∀ s a, 0 ≤ s → s ≤ 2 → 0 ≤ a → a ≤ 5 → q' s a = q s a) : sumD q' = sumD q := by
  unfold sumD
  rw [sum6_congr (fun a => h 0 a (by omega) (by omega)), sum6_congr (fun a => h 1 a (by omega) (by omega)), sum6_congr (fun a => h 2 a (by omega) (by omega))]
theorem sum6_upd {q q' : Int → Int} {a : Int} (h0 : 0 ≤ a) (h5 : a ≤ 5) (h : ∀ b, b ≠ a → q' b = q b) : sum6 q' = sum6 q - q a + q' a := by
  unfold sum6
  have ha : a = 0 ∨ a = 1 ∨ a = 2 ∨ a = 3 ∨ a = 4 ∨ a = 5 := by omega
  rcases ha with rfl | rfl | rfl | rfl | rfl | rfl
  · rw [h 1 (by omega), h 2 (by omega), h 3 (by omega), h 4 (by omega), h 5 (by omega)]; omega
  · rw [h 0 (by omega), h 2 (by omega), h 3 (by omega), h 4 (by omega), h 5 (by omega)]; omega
  · rw [h 0 (by omega), h 1 (by omega), h 3 (by omega), h 4 (by omega), h 5 (by omega)]; omega
  · rw [h 0 (by omega), h 1 (by omega), h 2 (by omega), h 4 (by omega), h 5 (by omega)]; omega
  · rw [h 0 (by omega), h 1 (by omega), h 2 (by omega), h 3 (by omega), h 5 (by omega)]; omega
  · rw [h 0 (by omega), h 1 (by omega), h 2 (by omega), h 3 (by omega), h 4 (by omega)]; omega
theorem sumD_upd {q q' : Int → Int → Int} {s a : Int} (h0 : 0 ≤ s) (h2 : s ≤ 2) (h0' : 0 ≤ a) (h5 : a ≤ 5) (h : ∀ s' a', ¬ (s' = s ∧ a' = a) → q' s' a' = q s' a') : sumD q' = sumD q - q s a + q' s a := by
  have hs : s = 0 ∨ s = 1 ∨ s = 2 := by omega
  have e : sum6 (q' s) = sum6 (q s) - q s a + q' s a := sum6_upd h0' h5 (fun b hb => h s b (fun x => hb x.2))
  unfold sumD
  rcases hs with rfl | rfl | rfl
  · rw [e, sum6_congr (q := q 1) (q' := q' 1) (fun b _ _ => h 1 b (by omega)), sum6_congr (q := q 2) (q' := q' 2) (fun b _ _ => h 2 b (by omega))]; omega
  · rw [e, sum6_congr (q := q 0) (q' := q' 0) (fun b _ _ => h 0 b (by omega)), sum6_congr (q := q 2) (q' := q' 2) (fun b _ _ => h 2 b (by omega))]; omega
  · rw [e, sum6_congr (q := q 0) (q' := q' 0) (fun b _ _ => h 0 b (by omega)), sum6_congr (q := q 1) (q' := q' 1) (fun b _ _ => h 1 b (by omega))]; omega
theorem sumD_le {q : Int → Int → Int} (h : ∀ s a, 0 ≤ q s a ∧ q s a ≤ 1000000000000) : 0 ≤ sumD q ∧ sumD q ≤ 18000000000000 := by
  unfold sumD sum6
  have := h 0 0; have := h 0 1; have := h 0 2; have := h 0 3; have := h 0 4; have := h 0 5
  have := h 1 0; have := h 1 1; have := h 1 2; have := h 1 3; have := h 1 4; have := h 1 5
  have := h 2 0; have := h 2 1; have := h 2 2; have := h 2 3; have := h 2 4; have := h 2 5
  omega
theorem sum_shard (t : Int) : ∀ (xs : List Bal), (∀ x ∈ xs, 0 ≤ x.ac ∧ x.ac ≤ 5) → xs.Pairwise (fun x y => ¬ (x.ac = y.ac ∧ x.ast = y.ast)) → sum6 (fun a => hasB a t xs) = sumB t xs
  | [], _, _ => by simp [sum6, hasB, sumB]
  | x :: r, h1, h2 => by
    obtain ⟨h3, h4⟩ := List.pairwise_cons.1 h2
    have ih := sum_shard t r (fun y hy => h1 y (by simp [hy])) h4
    obtain ⟨b0, b5⟩ := h1 x (by simp)
    simp only [sumB]
    by_cases ht : x.ast = t
    · rw [if_pos ht]
      have hz : hasB x.ac t r = 0 := by
        have : ∀ (l : List Bal), (∀ y ∈ l, ¬ (x.ac = y.ac ∧ x.ast = y.ast)) → hasB x.ac t l = 0 := by
          intro l
          induction l with
          | nil => intro _; rfl
          | cons y l ihl =>
            intro h
            simp only [hasB]
            rw [if_neg (fun e => h y (by simp) ⟨e.1.symm, by rw [ht, e.2]⟩)]
            exact ihl (fun z hz => h z (by simp [hz]))
        exact this r h3
      have e : sum6 (fun a => hasB a t (x :: r)) = sum6 (fun a => hasB a t r) - hasB x.ac t r + hasB x.ac t (x :: r) := by
        refine sum6_upd (q := fun a => hasB a t r) (q' := fun a => hasB a t (x :: r)) b0 b5 (fun b hb => ?_)
        simp only [hasB]
        rw [if_neg (fun e => hb e.1.symm)]
      rw [e, hz, ih]
      simp [hasB, ht]
      omega
    · rw [if_neg ht, ← ih]
      have e : (fun a => hasB a t (x :: r)) = fun a => hasB a t r := by
        funext a
        simp only [hasB]
        rw [if_neg (fun e => ht e.2)]
      rw [e]
      omega
theorem shard_ok {xs : List Bal} (h : BalsOk xs) : (∀ x ∈ xs, 0 ≤ x.ac ∧ x.ac ≤ 5) ∧ xs.Pairwise (fun x y => ¬ (x.ac = y.ac ∧ x.ast = y.ast)) := by
  refine ⟨fun x hx => ?_, ?_⟩
  · obtain ⟨i, hi, rfl⟩ := List.getElem_of_mem hx
    have := (balOk_iff.1 (h.ok i hi)).1.1
    simpa [List.getD, hi] using this
  · rw [List.pairwise_iff_getElem]
    intro i j hi hj hij
    have := rising h hij hj
    simp only [List.getD, List.getElem?_eq_getElem hi, List.getElem?_eq_getElem hj, Option.getD_some] at this
    rintro ⟨e1, e2⟩
    rw [e1, e2] at this
    omega
theorem sum_in {sh : List (List Bal)} (t : Int) {k : Nat} (hk : k < sh.length) (h : BalsOk (sh.getD k default)) : sum6 (fun a => (bookF sh k a t).getD 0) = sumB t (sh.getD k default) := by
  rw [← sum_shard t _ (shard_ok h).1 (shard_ok h).2]
  refine sum6_congr (fun a _ _ => ?_)
  rw [bookF, if_pos (by omega), hasB_get]
  simp
theorem sum_out {sh : List (List Bal)} (t s : Int) (hs : (sh.length : Int) ≤ s) : sum6 (fun a => (bookF sh s a t).getD 0) = 0 := by
  have e : ∀ a, (bookF sh s a t).getD 0 = 0 := fun a => by rw [bookF, if_neg (by omega)]; rfl
  simp [sum6, e]
theorem sumD_book {g : Ledg} (h : ledFault g = 0) (t : Int) : sumD (fun s a => (bookF g.shards s a t).getD 0) = sumG t g.shards := by
  obtain ⟨h1, h3, hok⟩ := ledOk_of h
  obtain ⟨sh⟩ := g
  dsimp only at *
  unfold sumD
  match sh, h1, h3, hok with
  | [x], _, _, hok =>
    have e0 := sum_in (sh := [x]) t (k := 0) (by simp) (hok 0 (by simp))
    have e1 := sum_out (sh := [x]) t 1 (by simp)
    have e2 := sum_out (sh := [x]) t 2 (by simp)
    simp only [e1, e2, sumG]
    have : sum6 (fun a => (bookF [x] 0 a t).getD 0) = sumB t x := e0
    omega
  | [x, y], _, _, hok =>
    have e0 : sum6 (fun a => (bookF [x, y] 0 a t).getD 0) = sumB t x := sum_in (sh := [x, y]) t (k := 0) (by simp) (hok 0 (by simp))
    have e1 : sum6 (fun a => (bookF [x, y] 1 a t).getD 0) = sumB t y := sum_in (sh := [x, y]) t (k := 1) (by simp) (hok 1 (by simp))
    have e2 := sum_out (sh := [x, y]) t 2 (by simp)
    simp only [e2, sumG]
    omega
  | [x, y, z], _, _, hok =>
    have e0 : sum6 (fun a => (bookF [x, y, z] 0 a t).getD 0) = sumB t x := sum_in (sh := [x, y, z]) t (k := 0) (by simp) (hok 0 (by simp))
    have e1 : sum6 (fun a => (bookF [x, y, z] 1 a t).getD 0) = sumB t y := sum_in (sh := [x, y, z]) t (k := 1) (by simp) (hok 1 (by simp))
    have e2 : sum6 (fun a => (bookF [x, y, z] 2 a t).getD 0) = sumB t z := sum_in (sh := [x, y, z]) t (k := 2) (by simp) (hok 2 (by simp))
    simp only [sumG]
    omega
def leftOf (ko : Value → Option Lit) (left : Lit → Bool) (s a t : Int) : Bool := match ko (kv s a t) with | some kl => left kl | none => false
theorem leftOf_some {left : Lit → Bool} {s a t : Int} {kl : Lit} (hk : keyOf Try.prog 64 (kv s a t) = some kl) : leftOf (keyOf Try.prog 64) left s a t = left kl := by
  unfold leftOf
  rw [hk]
def came (ko : Value → Option Lit) (f : Int → Int → Int → Option Int) (left : Lit → Bool) (t : Int) : Int := sumD (fun s a => if leftOf ko left s a t then 0 else (f s a t).getD 0)
def domF (f : Int → Int → Int → Option Int) : Prop := ∀ s a t, (f s a t).isSome = true → (0 ≤ s ∧ s ≤ 2) ∧ (0 ≤ a ∧ a ≤ 5) ∧ (0 ≤ t ∧ t ≤ 2)
theorem came_start {f : Int → Int → Int → Option Int} {D : DataW Unit} (h : ∀ s a t kl, keyOf Try.prog 64 (kv s a t) = some kl → Maps.has D kl = (f s a t).isSome ∧ D.atKey kl (.lit (.int .i64 0)) = .lit (.int .i64 ((f s a t).getD 0))) {t : Int} (ht : 0 ≤ t ∧ t ≤ 2) : came (keyOf Try.prog 64) f (Maps.has D) t = 0 := by
  have e : ∀ s a, 0 ≤ s → s ≤ 2 → 0 ≤ a → a ≤ 5 → (if leftOf (keyOf Try.prog 64) (Maps.has D) s a t then 0 else (f s a t).getD 0) = (fun _ _ => (0 : Int)) s a := by
    intro s a h0 h1 h2 h3
    obtain ⟨kl, hk⟩ := keyOf_kv (s := s) (a := a) (t := t) ⟨wf_of (by omega) (by omega), wf_of (by omega) (by omega), wf_of (by omega) (by omega)⟩
    rw [leftOf_some hk, (h s a t kl hk).1]
    cases hf : f s a t <;> simp
  unfold came
  rw [sumD_congr e]
  simp [sumD, sum6]
theorem came_end {f : Int → Int → Int → Option Int} {left : Lit → Bool} (h : ∀ kl, left kl = false) (t : Int) : came (keyOf Try.prog 64) f left t = sumD (fun s a => (f s a t).getD 0) := by
  unfold came
  refine sumD_congr (fun s a _ _ _ _ => ?_)
  have : leftOf (keyOf Try.prog 64) left s a t = false := by
    unfold leftOf
    split
    · exact h _
    · rfl
  rw [this]
  simp
theorem leftOf_strike {left : Lit → Bool} {s a t s' a' t' : Int} {kl : Lit} (hk : keyOf Try.prog 64 (kv s a t) = some kl) :
    leftOf (keyOf Try.prog 64) (fun z => left z && !z.sameKey kl) s' a' t' = (leftOf (keyOf Try.prog 64) left s' a' t' && !decide (s' = s ∧ a' = a ∧ t' = t)) := by
  unfold leftOf
  split
  · rename_i kl' hk'
    by_cases e : kl' = kl
    · subst e
      obtain ⟨rfl, rfl, rfl⟩ := kv_inj (holdLaw.inj hk' hk)
      simp [WideAt.sameKey_self (holdLaw.key hk)]
    · have : ¬ (s' = s ∧ a' = a ∧ t' = t) := by
        rintro ⟨rfl, rfl, rfl⟩
        rw [hk] at hk'
        exact e (by simpa using hk'.symm)
      show (left kl' && !kl'.sameKey kl) = _
      rw [sameKey_ne e]
      simp [this]
  · rfl
theorem came_step {f : Int → Int → Int → Option Int} {left : Lit → Bool} {s a t' : Int} {kl : Lit} (hk : keyOf Try.prog 64 (kv s a t') = some kl) (hl : left kl = true) (hd : (0 ≤ s ∧ s ≤ 2) ∧ (0 ≤ a ∧ a ≤ 5)) (t : Int) :
    came (keyOf Try.prog 64) f (fun z => left z && !z.sameKey kl) t = came (keyOf Try.prog 64) f left t + if t' = t then (f s a t').getD 0 else 0 := by
  unfold came
  by_cases e : t' = t
  · subst e
    rw [if_pos rfl]
    have h1 : leftOf (keyOf Try.prog 64) left s a t' = true := by rw [leftOf_some hk, hl]
    rw [sumD_upd (q := fun s a => if leftOf (keyOf Try.prog 64) left s a t' then 0 else (f s a t').getD 0) (s := s) (a := a) hd.1.1 hd.1.2 hd.2.1 hd.2.2 (fun s' a' hne => by
      rw [leftOf_strike hk]
      have : decide (s' = s ∧ a' = a ∧ t' = t') = false := by simp; intro e1 e2; exact hne ⟨e1, e2⟩
      rw [this]
      simp)]
    rw [leftOf_strike hk, h1]
    simp
  · rw [if_neg e]
    rw [sumD_congr (q := fun s a => if leftOf (keyOf Try.prog 64) left s a t then 0 else (f s a t).getD 0) (fun s' a' _ _ _ _ => by
      rw [leftOf_strike hk]
      have : decide (s' = s ∧ a' = a ∧ t = t') = false := by simp; intro _ _ e3; exact e e3.symm
      rw [this]
      simp)]
    omega
theorem came_le {f : Int → Int → Int → Option Int} (h : smallF f) (left : Lit → Bool) (t : Int) : 0 ≤ came (keyOf Try.prog 64) f left t ∧ came (keyOf Try.prog 64) f left t ≤ 18000000000000 :=
  sumD_le (fun s a => by
    have := h s a t
    split <;> omega)
end Go.Proofs.Ytgjpafalompecaa

