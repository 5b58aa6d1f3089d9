import Derived.Test.YtnefocpgjcmocaaPrnSettleOneLaw9
import Derived.Test.YtnefocpgjcmocaaPrnSettleOneLaw1
import Derived.Test.YtnefocpgjcmocaaPrnSettleOneLaw7

/-
  Rows of impl.Leg: the uniform forms. (Written by program: nest.py.)
-/
namespace Go.Proofs.Ytnefocpgjcmocaa
open Go.RowKit
set_option linter.unusedSectionVars false
variable [DecidableEq Leg] [Inhabited Leg]
attribute [local go_sem ↓] Go.wp_at_zero Go.wp_at_succ

def legsR : Rep (List Leg) := fRep 72 4 legsC LegsV LegsV_below LegsV_of_owns
def wtLegs (xs : List Leg) : Nat := xs.length
def cntLegs (xs : List Leg) : Nat := 4 * xs.length
def mkLegs (k : Int) (xs : List Leg) : List Leg := marksL k xs.length
theorem legs_form {w : World} {v : Value} {xs : List Leg} (h : legsR.V w v xs) : ∃ a c, v = .slice a xs.length c := by
  obtain ⟨a, c, rfl, _⟩ := h
  exact ⟨_, _, rfl⟩
theorem legs_cnt (d : List Leg) : cntLegs d ≤ 4 * wtLegs d := by unfold cntLegs wtLegs; omega
theorem toLegS_u (x : Value) (d : List Leg) (w : World) (hx : legsR.V w x d) (hn : wtLegs d ≤ 1048576) :
    Calls Try.prog 22 #[x] w fun e w' => ∃ v F, e = .returned v ∧ legsR.O w' w.heap.size F v d ∧ Below w.heap.size w w' := by
  refine (toLegS_any x d w hx hn).mono ?_
  rintro e w' ⟨v, rfl, ho, hb⟩
  exact ⟨v, _, rfl, ⟨ho, rfl⟩, hb⟩
theorem eqLegS_u (x y : Value) (d d' : List Leg) (w : World) (hx : legsR.V w x d) (hy : legsR.V w y d') :
    Calls Try.prog 28 #[x, y] w fun e w' => e = .returned (.bool (decide (d = d'))) ∧ Below w.heap.size w w' := eqLegS_any x y d d' w hx hy
theorem szLegS_u (x : Value) (d : List Leg) (left : Int) (w : World) (hx : legsR.V w x d) (h0 : 0 ≤ left) (h1 : left ≤ 1048576) :
    Calls Try.prog 18 #[x, .int .i64 left] w fun e w' => e = .returned (.int .i64 (szLen left (wtLegs d))) ∧ Below w.heap.size w w' := by
  refine (szLegS_any x d left w hx h0 h1).mono ?_
  rintro e w' ⟨rfl, rfl⟩
  exact ⟨rfl, Below.refl _ _⟩
theorem markLegS_u (v : Value) (d : List Leg) (base : Nat) (F : Nat → Prop) (k : Int) (w : World) (ho : legsR.O w base F v d) (hw : wtLegs d ≤ 1048576) (hn : k + cntLegs d ≤ 1073741824) (hk0 : 0 ≤ k) :
    Calls Try.prog 30 #[v, .int .i64 k] w fun r w' => r = .returned (.int .i64 (k + cntLegs d)) ∧ legsR.O w' base F v (mkLegs k d) ∧ Mod F w w' := by
  refine (markLegS_any v d.length _ base _ k w ho.1 hw hk0 (by omega)).mono ?_
  rintro e w' ⟨rfl, h1, h2⟩
  refine ⟨by simp [cntLegs], ⟨?_, ho.2⟩, by rw [ho.2]; exact Mod.of_grown h2⟩
  unfold mkLegs
  rw [length_marksL]
  exact h1
end Go.Proofs.Ytnefocpgjcmocaa

/-
  Contract. (Written by program: nest.py.)
-/
namespace Go.Proofs.Ytnefocpgjcmocaa
open Go.RowKit
set_option linter.unusedSectionVars false
variable [DecidableEq Leg] [Inhabited Leg]
attribute [local go_sem ↓] Go.wp_at_zero Go.wp_at_succ

structure Cont where
  id : Int
  legs : List Leg
variable [DecidableEq Cont] [Inhabited Cont]

def contR : Rep Cont where
  V := fun w v x => ∃ u1, v = .agg #[.int .i64 x.id, u1] ∧ legsR.V w u1 x.legs
  O := fun w base F v x => ∃ u1 F1, v = .agg #[.int .i64 x.id, u1] ∧ legsR.O w base F1 u1 x.legs ∧ (∀ b, F b ↔ (F1 b))
  below := fun h hb => by
    obtain ⟨u1, rfl, h1⟩ := h
    exact ⟨u1, rfl, legsR.below h1 hb⟩
  ofO := fun h => by
    obtain ⟨u1, F1, rfl, h1, _⟩ := h
    exact ⟨u1, rfl, legsR.ofO h1⟩
  mod := fun h hm hd => by
    obtain ⟨u1, F1, rfl, h1, hF⟩ := h
    exact ⟨u1, F1, rfl, legsR.mod h1 hm (fun b hb => hd b ((hF b).2 hb)), hF⟩
  rng := fun h b hb => by
    obtain ⟨u1, F1, rfl, h1, hF⟩ := h
    rcases (hF b).1 hb with hb
    · exact legsR.rng h1 b hb
  base := fun h hb => by
    obtain ⟨u1, F1, rfl, h1, hF⟩ := h
    exact ⟨u1, F1, rfl, legsR.base h1 hb, hF⟩
def wtCont (x : Cont) : Nat := wtLegs x.legs
def cntCont (x : Cont) : Nat := cntLegs x.legs
def mkCont (k : Int) (x : Cont) : Cont := { x with legs := mkLegs k x.legs }
theorem cont_form {w : World} {v : Value} {x : Cont} (h : contR.V w v x) : ∃ a1 c1, v = .agg #[.int .i64 x.id, .slice a1 x.legs.length c1] := by
  obtain ⟨u1, rfl, h1⟩ := h
  obtain ⟨a1, c1, rfl⟩ := legs_form h1
  exact ⟨_, _, rfl⟩
theorem cont_cnt (d : Cont) : cntCont d ≤ 4 * wtCont d := by
  unfold cntCont wtCont
  have q1 := legs_cnt d.legs
  omega
set_option maxHeartbeats 1000000 in
theorem toContract_u (x : Value) (d : Cont) (w : World) (hx : contR.V w x d) (hn : wtCont d ≤ 1048576) :
    Calls Try.prog 8 #[x] w fun e w' => ∃ v F, e = .returned v ∧ contR.O w' w.heap.size F v d ∧ Below w.heap.size w w' := by
  obtain ⟨u1, rfl, h1⟩ := hx
  unfold wtCont at hn
  go_enter Try.func8, Try.ntmps8
  go_wp2_with fail
  refine (toLegS_u _ d.legs _ (legsR.below h1 (by (repeat (first | exact Below.refl _ _ | assumption | refine Below.drew ?_ | refine balloc ?_ _ | refine bset ?_ (by simp; omega) _ | refine bset ?_ (by simp) _ | refine bstep ?_ (by assumption))))) (by omega)).mono ?_
  rintro e w1 ⟨v1, F1, rfl, o1, b1⟩
  obtain ⟨a1, n1, rfl⟩ := legs_form (legsR.ofO o1)
  obtain ⟨c1, f1⟩ := bcell b1
  have z1 := b1.size
  simp at z1
  replace o1 := legsR.base (base' := w.heap.size + 3) o1 (by simp; try omega)
  go_wp2
  refine bodyPost_ret (v := .agg #[.int .i64 d.id, .slice a1 d.legs.length n1]) ?_ rfl ⟨_, fun b => F1 b, rfl, ⟨_, F1, rfl, legsR.base (base := w.heap.size + 3) (by (repeat (first | assumption | refine Rep.set _ ?_ _ (by simp; omega) | refine Rep.set _ ?_ _ (by simp) | refine Rep.alloc _ ?_ _ | refine Rep.keep _ ?_ (by assumption)))) (by omega), fun b => Iff.rfl⟩, by (repeat (first | exact Below.refl _ _ | assumption | refine Below.drew ?_ | refine balloc ?_ _ | refine bset ?_ (by simp; omega) _ | refine bset ?_ (by simp) _ | refine bstep ?_ (by assumption)))⟩
  simp [results, Try.results8, go_sem, c1]
set_option maxHeartbeats 1000000 in
theorem szContract_u (x : Value) (d : Cont) (left : Int) (w : World) (hx : contR.V w x d) (h0 : 0 ≤ left) (h1 : left ≤ 1048576) :
    Calls Try.prog 5 #[x, .int .i64 left] w fun e w' => e = .returned (.int .i64 (szLen left (wtCont d))) ∧ Below w.heap.size w w' := by
  obtain ⟨u1, rfl, k1⟩ := hx
  go_enter Try.func5, Try.ntmps5
  go_wp2_with fail
  refine (szLegS_u _ d.legs left _ (legsR.below k1 (by (repeat (first | exact Below.refl _ _ | assumption | refine Below.drew ?_ | refine balloc ?_ _ | refine bset ?_ (by simp; omega) _ | refine bset ?_ (by simp) _ | refine bstep ?_ (by assumption))))) h0 h1).mono ?_
  rintro e w1 ⟨rfl, b1⟩
  go_wp2
  · rename_i h
    go_ret
    refine ⟨?_, by (repeat (first | exact Below.refl _ _ | assumption | refine Below.drew ?_ | refine balloc ?_ _ | refine bset ?_ (by simp; omega) _ | refine bset ?_ (by simp) _ | refine bstep ?_ (by assumption)))⟩
    rw [szLen_neg (n := wtLegs d.legs) (by omega) (wtCont d) (by unfold wtCont; omega)]
    rfl
  rename_i h
  go_ret
  exact ⟨rfl, by (repeat (first | exact Below.refl _ _ | assumption | refine Below.drew ?_ | refine balloc ?_ _ | refine bset ?_ (by simp; omega) _ | refine bset ?_ (by simp) _ | refine bstep ?_ (by assumption)))⟩
set_option maxHeartbeats 1000000 in
theorem eqContract_u (x y : Value) (d d' : Cont) (w : World) (hx : contR.V w x d) (hy : contR.V w y d') :
    Calls Try.prog 12 #[x, y] w fun e w' => e = .returned (.bool (decide (d = d'))) ∧ Below w.heap.size w w' := by
  obtain ⟨u1, rfl, h1⟩ := hx
  obtain ⟨v1, rfl, k1⟩ := hy
  obtain ⟨id, legs⟩ := d
  obtain ⟨id', legs'⟩ := d'
  dsimp only at h1 k1
  go_enter Try.func12, Try.ntmps12
  go_wp2_with fail
  all_goals try (go_ret; exact ⟨by simp_all, by (repeat (first | exact Below.refl _ _ | assumption | refine Below.drew ?_ | refine balloc ?_ _ | refine bset ?_ (by simp; omega) _ | refine bset ?_ (by simp) _ | refine bstep ?_ (by assumption)))⟩)
  refine (eqLegS_u _ _ legs legs' _ (legsR.below h1 (by (repeat (first | exact Below.refl _ _ | assumption | refine Below.drew ?_ | refine balloc ?_ _ | refine bset ?_ (by simp; omega) _ | refine bset ?_ (by simp) _ | refine bstep ?_ (by assumption))))) (legsR.below k1 (by (repeat (first | exact Below.refl _ _ | assumption | refine Below.drew ?_ | refine balloc ?_ _ | refine bset ?_ (by simp; omega) _ | refine bset ?_ (by simp) _ | refine bstep ?_ (by assumption)))))).mono ?_
  rintro e w1 ⟨rfl, b1⟩
  go_wp2
  all_goals
    go_ret
    exact ⟨by simp_all, by (repeat (first | exact Below.refl _ _ | assumption | refine Below.drew ?_ | refine balloc ?_ _ | refine bset ?_ (by simp; omega) _ | refine bset ?_ (by simp) _ | refine bstep ?_ (by assumption)))⟩
set_option maxHeartbeats 1000000 in
theorem markContract_u (v : Value) (d : Cont) (base : Nat) (F : Nat → Prop) (k : Int) (w : World) (ho : contR.O w base F v d) (hw : wtCont d ≤ 1048576) (hn : k + cntCont d ≤ 1073741824) (hk0 : 0 ≤ k) :
    Calls Try.prog 14 #[v, .int .i64 k] w fun r w' => r = .returned (.int .i64 (k + cntCont d)) ∧ contR.O w' base F v (mkCont k d) ∧ Mod F w w' := by
  obtain ⟨u1, F1, rfl, h1, hF⟩ := ho
  unfold wtCont at hw
  unfold cntCont at hn ⊢
  have HF : Hid (∀ b, F b ↔ (F1 b)) := hF
  clear hF
  go_enter Try.func14, Try.ntmps14
  go_wp2_with fail
  refine (markLegS_u _ d.legs base F1 k _ (legsR.alloc h1 _) (by omega) (by omega) (by omega)).mono ?_
  rintro e w1 ⟨rfl, r1, m1⟩
  go_wp2
  go_ret
  refine ⟨?_, ⟨_, F1, rfl, r1, HF.out⟩, ((Mod.refl F w).alloc _).trans (m1.mono (fun b hb => (HF.out b).2 hb))⟩
  simp
  try omega
end Go.Proofs.Ytnefocpgjcmocaa

/-
  What can be settled: in plain mathematics, and the specification's side.
-/
namespace Go.Proofs.Ytnefocpgjcmocaa
open Go.RowKit
set_option linter.unusedSectionVars false
variable [DecidableEq Bal] [Inhabited Bal] [DecidableEq Ledg] [Inhabited Ledg] [DecidableEq Leg] [Inhabited Leg] [DecidableEq Cont] [Inhabited Cont]
attribute [local go_sem ↓] Go.wp_at_zero Go.wp_at_succ

def canV (v : Int) : Int := if v < 0 then 6 else if 1000000000000 < v then 3 else 0
def canB (xs : List Bal) (l : Leg) : Int := canV (hasB l.ac l.ast xs + l.am)
def canL (f : Int → Int → Int → Option Int) (l : Leg) : Int := canV ((f l.sh l.ac l.ast).getD 0 + l.am)
def noneL (n : Nat) (l : Leg) : Int := if (n : Int) ≤ l.sh then 4 else 0
def canF (n : Nat) (f : Int → Int → Int → Option Int) (c : Cont) : Int :=
  if contractFault c.id c.legs = 0 then (if scanI (fun k => noneL n (c.legs.getD k default)) c.legs.length = 0 then scanI (fun k => canL f (c.legs.getD k default)) c.legs.length else scanI (fun k => noneL n (c.legs.getD k default)) c.legs.length) else contractFault c.id c.legs
def canG (g : Ledg) (c : Cont) : Int := if ledFault g = 0 then canF g.shards.length (bookF g.shards) c else ledFault g
def smallB (xs : List Bal) : Prop := ∀ a t, 0 ≤ hasB a t xs ∧ hasB a t xs ≤ 1000000000000
theorem hasB_le {a t : Int} : ∀ {xs : List Bal}, (∀ k, k < xs.length → balOk (xs.getD k default) = true) → 0 ≤ hasB a t xs ∧ hasB a t xs ≤ 1000000000000
  | [], _ => by simp [hasB]
  | x :: r, h => by
    simp only [hasB]
    split
    · have := (balOk_iff.1 (h 0 (by simp))).2
      simp only [List.getD_cons_zero] at this
      omega
    · exact hasB_le (fun k hk => by have := h (k + 1) (by simpa using hk); simpa only [List.getD_cons_succ] using this)
theorem smallB_of {xs : List Bal} (h : BalsOk xs) : smallB xs := fun _ _ => hasB_le h.ok
theorem legKeep {w w' : World} {b o : Nat} {l : Leg} (hb : Below w.heap.size w w') (h : legCells w b o l) :
    Below w.heap.size w w' ∧ w'.cell? ⟨b, o, none⟩ = some (.int .i64 l.sh) ∧ w'.cell? ⟨b, o + 1, none⟩ = some (.int .i64 l.ac) ∧ w'.cell? ⟨b, o + 2, none⟩ = some (.int .i64 l.ast) ∧ w'.cell? ⟨b, o + 3, none⟩ = some (.int .i64 l.am) :=
  ⟨hb, legCells_below hb h⟩
set_option maxHeartbeats 1000000 in
theorem l2Legs_any (x y : Value) (xs : List Bal) (ls : List Leg) (w : World) (hx : balsR.V w x xs) (hy : legsR.V w y ls) (hs : smallB xs) (ha : small ls) :
    Calls Try.prog 52 #[x, y] w fun e w' => e = .returned (.int .i64 (scanI (fun k => canB xs (ls.getD k default)) ls.length)) ∧ Below w.heap.size w w' := by
  have hX := hx
  obtain ⟨ax, cx, rfl⟩ := bals_form hx
  obtain ⟨ay, cy, rfl, hcy, hmy, hy⟩ := hy
  unfold maxLen at hmy
  have HA : Hid (small ls) := ha
  have HSM : Hid (smallB xs) := hs
  clear ha hs hx
  generalize hn' : ls.length = n at *
  have HN : Hid (ls.length = n) := hn'
  clear hn'
  go_enter Try.func52, Try.ntmps52
  go_wp2
  go_loopw [5] (fun i w' => ∃ k : Nat, k ≤ n ∧ i = .int .i64 k ∧ scanI (fun k => canB xs (ls.getD k default)) k = 0 ∧ Below w.heap.size w w') (fun i _ => n - (intOf i).toNat)
  case atStart => exact ⟨0, Nat.zero_le _, rfl, rfl, Below.refl _ _⟩
  case round =>
    obtain ⟨k, hk, rfl, hs, hbl⟩ := hrel
    have HS : Hid (scanI (fun k => canB xs (ls.getD k default)) k = 0) := hs
    clear hs
    by_cases hlt : k < n
    · obtain ⟨bx, ox, rfl, g1⟩ := hy k hlt
      have hsm := HA.out k (by rw [HN.out]; exact hlt)
      obtain ⟨l, hl⟩ : ∃ l, l = ls.getD k default := ⟨_, rfl⟩
      rw [← hl] at g1 hsm
      have HL : Hid (l = ls.getD k default) := hl
      clear hl hy
      have hhs := HSM.out l.ac l.ast
      have g2 := legCells_below hbl g1
      obtain ⟨a1, a2, a3, a4⟩ := g2
      have hXr := balsR.below hX hbl
      obtain ⟨v, hv⟩ : ∃ v, v = hasB l.ac l.ast xs := ⟨_, rfl⟩
      rw [← hv] at hhs
      have HV : Hid (v = hasB l.ac l.ast xs) := hv
      have v1 : IntKind.i64.wrap (v + l.am) = v + l.am := wrapId (by omega) (by omega)
      have i1 : (k : Int) < (n : Int) := by omega
      have HAT : Hid (canB xs (ls.getD k default) = canV (v + l.am)) := by show _ = _; rw [← HL.out, canB, HV.out]
      clear hsm hhs
      have g3 : legCells wr bx (ox + k * 4) l := ⟨a1, a2, a3, a4⟩
      go_wp2
      go_region_held3 (fun w' => Below wr.heap.size wr w' ∧ w'.cell? ⟨bx, ox + k * 4, none⟩ = some (.int .i64 l.sh) ∧ w'.cell? ⟨bx, ox + k * 4 + 1, none⟩ = some (.int .i64 l.ac) ∧ w'.cell? ⟨bx, ox + k * 4 + 2, none⟩ = some (.int .i64 l.ast) ∧ w'.cell? ⟨bx, ox + k * 4 + 3, none⟩ = some (.int .i64 l.am))
        ((refine legKeep ?_ g3; (repeat (first | exact Below.refl _ _ | assumption | refine Below.drew ?_ | refine balloc ?_ _ | refine bstep ?_ (by assumption)))))
        (first | (go_at_call 54; refine (l2Has_any _ xs l.ac l.ast _ (balsR.below hXr (Below.drew (Below.refl _ _)))).mono ?_; rw [← hv]; rintro e w3 ⟨rfl, rfl⟩))
      rename_i hH
      have hB := bstep hbl hH.1
      clear hH
      rw [← hv, v1]
      clear hv v1
      generalize v + l.am = z at *
      go_wp2
      · rename_i c1
        go_ret
        refine ⟨?_, hB⟩
        rw [scanI_hit HS.out (by rw [HAT.out, canV, if_pos c1]; omega) _ hlt, HAT.out, canV, if_pos c1]
        rfl
      · rename_i c1 c2
        go_ret
        refine ⟨?_, hB⟩
        rw [scanI_hit HS.out (by rw [HAT.out, canV, if_neg (by omega), if_pos c2]; omega) _ hlt, HAT.out, canV, if_neg (by omega), if_pos c2]
        rfl
      · rename_i c1 c2
        refine ⟨⟨k + 1, by omega, by go_num, scanI_succ HS.out ?_, hB⟩, by simp [intOf]; omega⟩
        rw [HAT.out, canV, if_neg (by omega), if_neg (by omega)]
    · go_wp2
      go_ret
      have hkn : k = n := by omega
      subst hkn
      refine ⟨?_, hbl⟩
      rw [HS.out]
      rfl
theorem l2Legs1_any (x y : Value) (xs : List Bal) (l : Leg) (w : World) (hx : balsR.V w x xs) (hy : legsR.V w y [l]) (hs : smallB xs) (ha : small [l]) :
    Calls Try.prog 52 #[x, y] w fun e w' => e = .returned (.int .i64 (canB xs l)) ∧ Below w.heap.size w w' := by
  refine (l2Legs_any x y xs [l] w hx hy hs ha).mono ?_
  rintro e w' ⟨rfl, hb⟩
  exact ⟨rfl, hb⟩
theorem hasB_book {g : Ledg} {l : Leg} (h0 : 0 ≤ l.sh) (h : l.sh < g.shards.length) : canB (g.shards.getD l.sh.toNat default) l = canL (bookF g.shards) l := by
  rw [canB, canL, hasB_get, bookF, if_pos ⟨h0, h⟩]
set_option maxHeartbeats 4000000 in
theorem l2Can_any (x y : Value) (g : Ledg) (c : Cont) (w : World) (hx : ledgR.V w x g) (hy : contR.V w y c) (hsm : ∀ k, k < g.shards.length → smallB (g.shards.getD k default)) :
    Calls Try.prog 34 #[x, y] w fun e w' => e = .returned (.int .i64 (canF g.shards.length (bookF g.shards) c)) ∧ Below w.heap.size w w' := by
  obtain ⟨u, rfl, ax, cx, rfl, hcx, hmx, hxx⟩ := hx
  obtain ⟨u2, rfl, hu2⟩ := hy
  have hU2 := hu2
  obtain ⟨ay, cy, rfl, hcy, hmy, hyy⟩ := hu2
  unfold maxLen at hmx hmy
  have HSM : Hid (∀ k, k < g.shards.length → smallB (g.shards.getD k default)) := hsm
  clear hsm
  go_enter Try.func34, Try.ntmps34
  go_wp2_with fail
  refine (specFault_any c.id _ c.legs _ (LegsV_below hU2 (by (repeat (first | exact Below.refl _ _ | assumption | refine Below.drew ?_ | refine balloc ?_ _ | refine bset ?_ (by simp; omega) _ | refine bset ?_ (by simp) _ | refine bstep ?_ (by assumption)))))).mono ?_
  rintro e w1 ⟨rfl, hb1⟩
  have hB1 : Below w.heap.size w w1 := by (repeat (first | exact Below.refl _ _ | assumption | refine Below.drew ?_ | refine balloc ?_ _ | refine bset ?_ (by simp; omega) _ | refine bset ?_ (by simp) _ | refine bstep ?_ (by assumption)))
  have b0 : w1.cell? ⟨w.heap.size, 0, none⟩ = some (.slice ax g.shards.length cx) := cell_keep hb1 (by simp [go_sem])
  have d1 : w1.cell? ⟨w.heap.size + 1, 1, none⟩ = some (.slice ay c.legs.length cy) := cell_keep hb1 (by simp [go_sem])
  clear hb1
  by_cases hf : contractFault c.id c.legs = 0
  · have HF : Hid (contractFault c.id c.legs = 0) := hf
    obtain ⟨_, hl2, hl8, hok, _⟩ := cf_inv hf
    rw [hf]
    clear hf
    have HOK : Hid (okTo c.legs c.legs.length) := hok
    clear hok
    generalize hn' : g.shards.length = n at *
    have HN : Hid (g.shards.length = n) := hn'
    generalize hm' : c.legs.length = m at *
    have HM : Hid (c.legs.length = m) := hm'
    clear hn' hm'
    go_wp2
    go_loopw [6] (fun i w' => ∃ k : Nat, k ≤ m ∧ i = .int .i64 k ∧ scanI (fun k => noneL n (c.legs.getD k default)) k = 0 ∧ Below w1.heap.size w1 w') (fun i _ => m - (intOf i).toNat)
    case atStart => exact ⟨0, Nat.zero_le _, rfl, rfl, Below.refl _ _⟩
    case round =>
      obtain ⟨k, hk, rfl, hs, hbl⟩ := hrel
      have HS : Hid (scanI (fun k => noneL n (c.legs.getD k default)) k = 0) := hs
      clear hs
      have b1 := cell_keep hbl b0
      have d2 := cell_keep hbl d1
      by_cases hlt : k < m
      · obtain ⟨bx, ox, rfl, g1⟩ := hyy k hlt
        obtain ⟨l, hl⟩ : ∃ l, l = c.legs.getD k default := ⟨_, rfl⟩
        rw [← hl] at g1
        have HL : Hid (l = c.legs.getD k default) := hl
        clear hl hxx hyy
        obtain ⟨a1, a2, a3, a4⟩ := legCells_below (bstep hB1 hbl) g1
        have i1 : (k : Int) < (m : Int) := by omega
        go_wp2
        go_quiet (fail)
        go_wp2
        · rename_i c1
          go_ret
          refine ⟨?_, bdrewN (bstep hB1 hbl) _⟩
          have hat : noneL n (c.legs.getD k default) = 4 := by rw [← HL.out, noneL, if_pos c1]
          have hsc : scanI (fun k => noneL n (c.legs.getD k default)) m = 4 := by rw [scanI_hit HS.out (by rw [hat]; omega) _ hlt, hat]
          rw [canF, if_pos HF.out, HM.out, HN.out, if_neg (by rw [hsc]; omega), hsc]
          rfl
        · rename_i c1
          refine ⟨⟨k + 1, by omega, by go_num, scanI_succ HS.out ?_, bdrewN hbl _⟩, by simp [intOf]; omega⟩
          rw [← HL.out, noneL, if_neg (by omega)]
      · have hkm : k = m := by omega
        subst hkm
        go_wp2
        have hB2 := bstep hB1 hbl
        generalize wr = wo at *
        go_loopw [7] (fun i w' => ∃ j : Nat, j ≤ k ∧ i = .int .i64 j ∧ scanI (fun k => canL (bookF g.shards) (c.legs.getD k default)) j = 0 ∧ Below wo.heap.size wo w') (fun i _ => k - (intOf i).toNat)
        case atStart => exact ⟨0, Nat.zero_le _, rfl, rfl, Below.refl _ _⟩
        case round =>
          obtain ⟨j, hj, rfl, hs, hb3⟩ := hrel
          have HS3 : Hid (scanI (fun k => canL (bookF g.shards) (c.legs.getD k default)) j = 0) := hs
          clear hs
          have b3 := cell_keep hb3 b1
          have d3 := cell_keep hb3 d2
          by_cases hlt3 : j < k
          · obtain ⟨bx, ox, rfl, g1⟩ := hyy j hlt3
            obtain ⟨l, hl⟩ : ∃ l, l = c.legs.getD j default := ⟨_, rfl⟩
            rw [← hl] at g1
            have HL : Hid (l = c.legs.getD j default) := hl
            have hnl : noneL n l = 0 := by rw [hl]; exact scanI_zero HS.out j hlt3
            have hlf : legFault l = 0 := by rw [hl]; exact (HOK.out j hlt3).1
            clear hl
            obtain ⟨⟨s0, s1⟩, ⟨t0, t1⟩, ⟨t2, t3⟩, ⟨t4, t5⟩, t6⟩ := legFault_zero hlf
            have hsn : l.sh < (n : Int) := by
              unfold noneL at hnl
              split at hnl <;> omega
            obtain ⟨ks, hks⟩ : ∃ ks : Nat, l.sh = ks := ⟨l.sh.toNat, by omega⟩
            have hksn : ks < n := by omega
            obtain ⟨b5, o5, u, rfl, _, hc, hu⟩ := hxx ks hksn
            have hBx := bstep hB2 hb3
            have e1 := cell_keep hBx (cells1 hc)
            have hu1 := balsR.below hu hBx
            clear hu hc hxx
            have hat : canL (bookF g.shards) l = canB (g.shards.getD ks default) l := by
              rw [← hasB_book (by omega) (by rw [HN.out]; exact hsn), hks]
              simp
            have hsmk : smallB (g.shards.getD ks default) := HSM.out ks hksn
            obtain ⟨q, hq⟩ : ∃ q, q = g.shards.getD ks default := ⟨_, rfl⟩
            rw [← hq] at hu1 hat hsmk
            have HAT : Hid (canL (bookF g.shards) (c.legs.getD j default) = canB q l) := by show _ = _; rw [← HL.out]; exact hat
            have HSQ : Hid (smallB q) := hsmk
            clear hq hat hsmk
            obtain ⟨a', c', rfl⟩ := bals_form hu1
            have g2 := legCells_below hBx g1
            obtain ⟨a1, a2, a3, a4⟩ := g2
            rw [hks] at a1
            have hl1 : LegsV wr (.slice (some ⟨bx, ox + j * 4, none⟩) 1 (cy - j)) [l] := by
              refine ⟨_, _, rfl, by simp; omega, by unfold maxLen; omega, fun i hi => ?_⟩
              simp at hi
              subst hi
              exact ⟨bx, ox + j * 4, rfl, by simpa using legCells_below hBx g1⟩
            have hsl : small [l] := fun i hi => by
              simp at hi
              subst hi
              exact ⟨t4, t5⟩
            have i1 : (j : Int) < (k : Int) := by omega
            have i2 : (ks : Int) < (n : Int) := by omega
            have v1 : IntKind.i64.wrap ((j : Int) + 1) = j + 1 := wrapId (by omega) (by omega)
            have i4 : (j : Int) + 1 ≤ (cy : Int) := by omega
            have i5 : (0 : Int) ≤ (j : Int) + 1 := by omega
            have i6 : ¬ cy = j := by omega
            clear g1
            go_wp2
            go_region_held3 (fun w' => Below wr.heap.size wr w' ∧ w'.cell? ⟨w.heap.size, 0, none⟩ = some (.slice (some ⟨b5, o5, none⟩) n cx) ∧ w'.cell? ⟨w.heap.size + 1, 1, none⟩ = some (.slice (some ⟨bx, ox, none⟩) k cy) ∧ w'.cell? ⟨bx, ox + j * 4, none⟩ = some (.int .i64 ks) ∧ w'.cell? ⟨b5, o5 + ks, none⟩ = some (.slice a' q.length c'))
              ((refine keepN4 ?_ b3 d3 a1 e1; (repeat (first | exact Below.refl _ _ | assumption | refine Below.drew ?_ | refine balloc ?_ _ | refine bstep ?_ (by assumption)))))
              (first | (go_at_call 52; refine (l2Legs1_any _ _ q l _ (balsR.below hu1 (Below.drew (Below.refl _ _))) (LegsV_below hl1 (Below.drew (Below.refl _ _))) HSQ.out hsl).mono ?_; rintro e w3 ⟨rfl, hb5⟩))
            rename_i hH
            have hBZ := hH.1
            clear hH
            generalize hz : canB q l = z at *
            have HZ : Hid (canL (bookF g.shards) (c.legs.getD j default) = z) := HAT
            clear hz
            by_cases hz0 : z = 0
            · subst hz0
              go_wp2
              exact ⟨⟨j + 1, by omega, by go_num, scanI_succ HS3.out HZ.out, bstep hb3 hBZ⟩, by simp [intOf]; omega⟩
            · go_wp2
              go_ret
              refine ⟨?_, bstep hBx hBZ⟩
              rw [canF, if_pos HF.out, HM.out, HN.out, if_pos HS.out, scanI_hit HS3.out (by rw [HZ.out]; exact hz0) _ hlt3, HZ.out]
              rfl
          · go_wp2
            go_ret
            refine ⟨?_, bstep hB2 hb3⟩
            have hjk : j = k := by omega
            subst hjk
            rw [canF, if_pos HF.out, HM.out, HN.out, if_pos HS.out, HS3.out]
            rfl
  · go_wp2
    go_ret
    refine ⟨?_, by (repeat (first | exact Below.refl _ _ | assumption | refine Below.drew ?_ | refine balloc ?_ _ | refine bset ?_ (by simp; omega) _ | refine bset ?_ (by simp) _ | refine bstep ?_ (by assumption)))⟩
    rw [canF, if_neg hf]
    rfl
theorem canF_small {g : Ledg} (h : ledFault g = 0) : ∀ k, k < g.shards.length → smallB (g.shards.getD k default) := fun k hk => smallB_of ((ledOk_of h).2.2 k hk)
set_option maxHeartbeats 1000000 in
theorem specCan_any (x y : Value) (g : Ledg) (c : Cont) (w : World) (hx : ledgR.V w x g) (hy : contR.V w y c) :
    Calls Try.prog 19 #[x, y] w fun e w' => e = .returned (.int .i64 (canG g c)) ∧ Below w.heap.size w w' := by
  have hX := hx
  have hY := hy
  obtain ⟨u, rfl, hu⟩ := hx
  obtain ⟨ax, cx, rfl⟩ := balss_form hu
  obtain ⟨u2, rfl, hu2⟩ := hy
  obtain ⟨ay, cy, rfl⟩ := legs_form hu2
  clear hu hu2
  go_enter Try.func19, Try.ntmps19
  go_wp2_with fail
  refine (specLedFault_any _ g _ (ledgR.below hX (by (repeat (first | exact Below.refl _ _ | assumption | refine Below.drew ?_ | refine balloc ?_ _ | refine bset ?_ (by simp; omega) _ | refine bset ?_ (by simp) _ | refine bstep ?_ (by assumption)))))).mono ?_
  rintro e w1 ⟨rfl, hb1⟩
  have hB1 : Below w.heap.size w w1 := by (repeat (first | exact Below.refl _ _ | assumption | refine Below.drew ?_ | refine balloc ?_ _ | refine bset ?_ (by simp; omega) _ | refine bset ?_ (by simp) _ | refine bstep ?_ (by assumption)))
  have b0 : w1.cell? ⟨w.heap.size, 0, none⟩ = some (.slice ax g.shards.length cx) := cell_keep hb1 (by simp [go_sem])
  have d0 : w1.cell? ⟨w.heap.size + 1, 0, none⟩ = some (.int .i64 c.id) := cell_keep hb1 (by simp [go_sem])
  have d1 : w1.cell? ⟨w.heap.size + 1, 1, none⟩ = some (.slice ay c.legs.length cy) := cell_keep hb1 (by simp [go_sem])
  clear hb1
  by_cases hf : ledFault g = 0
  · have HF : Hid (ledFault g = 0) := hf
    rw [hf]
    clear hf
    go_wp2_with fail
    refine (l2Can_any _ _ g c _ (ledgR.below hX (by (repeat (first | exact Below.refl _ _ | assumption | refine Below.drew ?_ | refine balloc ?_ _ | refine bset ?_ (by simp; omega) _ | refine bset ?_ (by simp) _ | refine bstep ?_ (by assumption))))) (contR.below hY (by (repeat (first | exact Below.refl _ _ | assumption | refine Below.drew ?_ | refine balloc ?_ _ | refine bset ?_ (by simp; omega) _ | refine bset ?_ (by simp) _ | refine bstep ?_ (by assumption))))) (canF_small HF.out)).mono ?_
    rintro e w2 ⟨rfl, hb2⟩
    go_wp2
    go_ret
    refine ⟨?_, by (repeat (first | exact Below.refl _ _ | assumption | refine Below.drew ?_ | refine balloc ?_ _ | refine bset ?_ (by simp; omega) _ | refine bset ?_ (by simp) _ | refine bstep ?_ (by assumption)))⟩
    rw [canG, if_pos HF.out]
    rfl
  · go_wp2
    go_ret
    refine ⟨?_, by (repeat (first | exact Below.refl _ _ | assumption | refine Below.drew ?_ | refine balloc ?_ _ | refine bset ?_ (by simp; omega) _ | refine bset ?_ (by simp) _ | refine bstep ?_ (by assumption)))⟩
    rw [canG, if_neg hf]
    rfl
end Go.Proofs.Ytnefocpgjcmocaa

/-
  What can be settled: the program's side.
-/
namespace Go.Proofs.Ytnefocpgjcmocaa
open Go.RowKit
set_option linter.unusedSectionVars false
variable [DecidableEq Bal] [Inhabited Bal] [DecidableEq Ledg] [Inhabited Ledg] [DecidableEq Leg] [Inhabited Leg] [DecidableEq Cont] [Inhabited Cont]
attribute [local go_sem ↓] Go.wp_at_zero Go.wp_at_succ

theorem keyOfLeg_any (l : Leg) (w : World) : Calls Try.prog 42 #[.agg #[.int .i64 l.sh, .int .i64 l.ac, .int .i64 l.ast, .int .i64 l.am]] w fun e w' => e = .returned (kv l.sh l.ac l.ast) ∧ Below w.heap.size w w' := by
  go_enter Try.func42, Try.ntmps42
  go_wp2_with fail
  refine (keyOf_any _ _ _ _).mono ?_
  rintro e w1 ⟨rfl, hb1⟩
  have hB1 : Below w.heap.size w w1 := by (repeat (first | exact Below.refl _ _ | assumption | refine Below.drew ?_ | refine balloc ?_ _ | refine bset ?_ (by simp; omega) _ | refine bset ?_ (by simp) _ | refine bstep ?_ (by assumption)))
  have r0 : w1.cell? ⟨w.heap.size + 1, 0, none⟩ = some (.int .i64 0) := cell_keep hb1 (by simp [go_sem])
  have r1 : w1.cell? ⟨w.heap.size + 1, 1, none⟩ = some (.int .i64 0) := cell_keep hb1 (by simp [go_sem])
  have r2 : w1.cell? ⟨w.heap.size + 1, 2, none⟩ = some (.int .i64 0) := cell_keep hb1 (by simp [go_sem])
  have hrf : ∀ o, w1.frozen? ⟨w.heap.size + 1, o, none⟩ = false := fun o => by rw [(bcell hb1).2 _ _ (by simp)]; simp [go_sem]
  clear hb1
  unfold kv
  go_wp2
  refine bodyPost_ret (v := .agg #[.int .i64 l.sh, .int .i64 l.ac, .int .i64 l.ast]) ?_ rfl ⟨rfl, by (repeat (first | exact Below.refl _ _ | assumption | refine Below.drew ?_ | refine balloc ?_ _ | refine bset ?_ (by simp; omega) _ | refine bset ?_ (by simp) _ | refine bstep ?_ (by assumption)))⟩
  simp [results, Try.results42, go_sem, r0, r1, r2]
def smallF (f : Int → Int → Int → Option Int) : Prop := ∀ s a t, 0 ≤ (f s a t).getD 0 ∧ (f s a t).getD 0 ≤ 1000000000000
theorem smallF_of {g : Ledg} (h : ledFault g = 0) : smallF (bookF g.shards) := fun s a t => by
  unfold bookF
  split
  · rename_i hs
    rw [← hasB_get]
    exact canF_small h s.toNat (by omega) a t
  · simp
set_option maxHeartbeats 2000000 in
theorem amountsFault_any (n : Nat) (b m : Nat) (f : Int → Int → Int → Option Int) (y : Value) (ls : List Leg) (w : World) (hb : Book w b m f) (hy : legsR.V w y ls) (hs : smallF f) (hok : ∀ k, k < ls.length → legFault (ls.getD k default) = 0) :
    Calls Try.prog 59 #[.agg #[.int .i64 n, .map (some b)], y] w fun e w' => e = .returned (.int .i64 (scanI (fun k => canL f (ls.getD k default)) ls.length)) ∧ Below w.heap.size w w' := by
  obtain ⟨ay, cy, rfl, hcy, hmy, hy⟩ := hy
  unfold maxLen at hmy
  have HOK : Hid (∀ k, k < ls.length → legFault (ls.getD k default) = 0) := hok
  have HSM : Hid (smallF f) := hs
  clear hs hok
  generalize hn' : ls.length = q at *
  have HN : Hid (ls.length = q) := hn'
  clear hn'
  go_enter Try.func59, Try.ntmps59
  go_wp2
  go_loopw [10] (fun i w' => ∃ k : Nat, k ≤ q ∧ i = .int .i64 k ∧ scanI (fun k => canL f (ls.getD k default)) k = 0 ∧ w'.cell? ⟨w.heap.size, 1, none⟩ = some (.map (some b)) ∧ Below w.heap.size w w') (fun i _ => q - (intOf i).toNat)
  case atStart => exact ⟨0, Nat.zero_le _, rfl, rfl, by simp [go_sem], by (repeat (first | exact Below.refl _ _ | assumption | refine Below.drew ?_ | refine balloc ?_ _ | refine bset ?_ (by simp; omega) _ | refine bset ?_ (by simp) _ | refine bstep ?_ (by assumption)))⟩
  case round =>
    obtain ⟨k, hk, rfl, hs, hc1, hbl⟩ := hrel
    have HS : Hid (scanI (fun k => canL f (ls.getD k default)) k = 0) := hs
    clear hs
    by_cases hlt : k < q
    · obtain ⟨bx, ox, rfl, g1⟩ := hy k hlt
      have hlf := HOK.out k hlt
      obtain ⟨l, hl⟩ : ∃ l, l = ls.getD k default := ⟨_, rfl⟩
      rw [← hl] at g1 hlf
      have HL : Hid (l = ls.getD k default) := hl
      clear hl hy
      obtain ⟨⟨s0, s1⟩, ⟨t0, t1⟩, ⟨t2, t3⟩, ⟨t4, t5⟩, t6⟩ := legFault_zero hlf
      have hhs := HSM.out l.sh l.ac l.ast
      obtain ⟨a1, a2, a3, a4⟩ := legCells_below hbl g1
      have hw : kwf l.sh l.ac l.ast := ⟨wf_of (by omega) (by omega), wf_of (by omega) (by omega), wf_of (by omega) (by omega)⟩
      obtain ⟨v, hv⟩ : ∃ v, v = (f l.sh l.ac l.ast).getD 0 := ⟨_, rfl⟩
      rw [← hv] at hhs
      have HAT : Hid (canL f (ls.getD k default) = canV (v + l.am)) := by show _ = _; rw [← HL.out, canL, hv]
      have hlk : ∀ W, Below w.heap.size w W → (Instr.lookup 54 (.map (some b)) (kv l.sh l.ac l.ast) false).run Try.prog W = .ok (.int .i64 v) W := fun W hW => by rw [hv]; exact ((hb.below hW).look hw).1
      clear hv
      have v1 : IntKind.i64.wrap (v + l.am) = v + l.am := wrapId (by omega) (by omega)
      have hz : w.heap.size < wr.heap.size := World.block_lt_of_cell? _ _ hc1
      have h0 : Below w.heap.size w (wr.alloc (.cells #[.int .i64 l.sh, .int .i64 l.ac, .int .i64 l.ast, .int .i64 l.am] 72)) ∧ (wr.alloc (.cells #[.int .i64 l.sh, .int .i64 l.ac, .int .i64 l.ast, .int .i64 l.am] 72)).cell? ⟨w.heap.size, 1, none⟩ = some (.map (some b)) ∧ (wr.alloc (.cells #[.int .i64 l.sh, .int .i64 l.ac, .int .i64 l.ast, .int .i64 l.am] 72)).cell? ⟨wr.heap.size, 0, none⟩ = some (.int .i64 l.sh) ∧ (wr.alloc (.cells #[.int .i64 l.sh, .int .i64 l.ac, .int .i64 l.ast, .int .i64 l.am] 72)).cell? ⟨wr.heap.size, 1, none⟩ = some (.int .i64 l.ac) ∧ (wr.alloc (.cells #[.int .i64 l.sh, .int .i64 l.ac, .int .i64 l.ast, .int .i64 l.am] 72)).cell? ⟨wr.heap.size, 2, none⟩ = some (.int .i64 l.ast) ∧ (wr.alloc (.cells #[.int .i64 l.sh, .int .i64 l.ac, .int .i64 l.ast, .int .i64 l.am] 72)).cell? ⟨wr.heap.size, 3, none⟩ = some (.int .i64 l.am) :=
        ⟨by (repeat (first | exact Below.refl _ _ | assumption | refine Below.drew ?_ | refine balloc ?_ _ | refine bset ?_ (by simp; omega) _ | refine bset ?_ (by simp) _ | refine bstep ?_ (by assumption))), cell_keep (balloc (Below.refl _ _) _) hc1, by simp [go_sem], by simp [go_sem], by simp [go_sem], by simp [go_sem]⟩
      go_wp2
      generalize hW : wr.alloc (.cells #[.int .i64 l.sh, .int .i64 l.ac, .int .i64 l.ast, .int .i64 l.am] 72) = W at *
      clear hW a1 a2 a3 a4 g1 hc1
      go_region_held3 (fun w' => Below w.heap.size w w' ∧ w'.cell? ⟨w.heap.size, 1, none⟩ = some (.map (some b)) ∧ w'.cell? ⟨wr.heap.size, 0, none⟩ = some (.int .i64 l.sh) ∧ w'.cell? ⟨wr.heap.size, 1, none⟩ = some (.int .i64 l.ac) ∧ w'.cell? ⟨wr.heap.size, 2, none⟩ = some (.int .i64 l.ast) ∧ w'.cell? ⟨wr.heap.size, 3, none⟩ = some (.int .i64 l.am))
        ((first | exact keepS5 h0 (Below.drew (Below.refl _ _)) | exact hS3))
        (first | (go_at_call 42; refine (keyOfLeg_any l _).mono ?_; rintro e w3 ⟨rfl, hb5⟩; have hS3 := keepS5 (keepS5 h0 (Below.drew (Below.refl _ _))) hb5; have hl5 := hlk _ hS3.1))
      rename_i hH
      have hB := hH.1
      have hc2 := hH.2.1
      clear hH hS3 hl5 hlk
      generalize v + l.am = z at *
      go_wp2
      · rename_i c1
        go_ret
        refine ⟨?_, hB⟩
        rw [scanI_hit HS.out (by rw [HAT.out, canV, if_pos c1]; omega) _ hlt, HAT.out, canV, if_pos c1]
        rfl
      · rename_i c1 c2
        go_ret
        refine ⟨?_, hB⟩
        rw [scanI_hit HS.out (by rw [HAT.out, canV, if_neg (by omega), if_pos c2]; omega) _ hlt, HAT.out, canV, if_neg (by omega), if_pos c2]
        rfl
      · rename_i c1 c2
        refine ⟨⟨k + 1, by omega, by go_num, scanI_succ HS.out ?_, hc2, hB⟩, by simp [intOf]; omega⟩
        rw [HAT.out, canV, if_neg (by omega), if_neg (by omega)]
    · go_wp2
      go_ret
      have hkn : k = q := by omega
      subst hkn
      refine ⟨?_, hbl⟩
      rw [HS.out]
      rfl
theorem canF_none {n : Nat} {f : Int → Int → Int → Option Int} {c : Cont} {k : Nat} (h0 : contractFault c.id c.legs = 0) (hk : k < c.legs.length) (hs : scanI (fun k => noneL n (c.legs.getD k default)) k = 0) (h : noneL n (c.legs.getD k default) = 4) : canF n f c = 4 := by
  have hsc : scanI (fun k => noneL n (c.legs.getD k default)) c.legs.length = 4 := by rw [scanI_hit hs (by rw [h]; omega) _ hk, h]
  rw [canF, if_pos h0, if_neg (by rw [hsc]; omega), hsc]
set_option maxHeartbeats 2000000 in
theorem settleFault_any (n : Nat) (b m : Nat) (f : Int → Int → Int → Option Int) (y : Value) (c : Cont) (w : World) (hb : Book w b m f) (hy : contR.V w y c) (hs : smallF f) (hn : n ≤ 3) :
    Calls Try.prog 40 #[.agg #[.int .i64 n, .map (some b)], y] w fun e w' => e = .returned (.int .i64 (canF n f c)) ∧ Below w.heap.size w w' := by
  obtain ⟨u2, rfl, hu2⟩ := hy
  have hU2 := hu2
  obtain ⟨ay, cy, rfl, hcy, hmy, hyy⟩ := hu2
  unfold maxLen at hmy
  have HSM : Hid (smallF f) := hs
  clear hs
  go_enter Try.func40, Try.ntmps40
  go_wp2_with fail
  refine (implFault_any c.id _ c.legs _ (LegsV_below hU2 (by (repeat (first | exact Below.refl _ _ | assumption | refine Below.drew ?_ | refine balloc ?_ _ | refine bset ?_ (by simp; omega) _ | refine bset ?_ (by simp) _ | refine bstep ?_ (by assumption)))))).mono ?_
  rintro e w1 ⟨rfl, hb1⟩
  have hB1 : Below w.heap.size w w1 := by (repeat (first | exact Below.refl _ _ | assumption | refine Below.drew ?_ | refine balloc ?_ _ | refine bset ?_ (by simp; omega) _ | refine bset ?_ (by simp) _ | refine bstep ?_ (by assumption)))
  have b0 : w1.cell? ⟨w.heap.size, 0, none⟩ = some (.int .i64 n) := cell_keep hb1 (by simp [go_sem])
  have b1 : w1.cell? ⟨w.heap.size, 1, none⟩ = some (.map (some b)) := cell_keep hb1 (by simp [go_sem])
  have d1 : w1.cell? ⟨w.heap.size + 1, 1, none⟩ = some (.slice ay c.legs.length cy) := cell_keep hb1 (by simp [go_sem])
  clear hb1
  by_cases hf : contractFault c.id c.legs = 0
  · have HF : Hid (contractFault c.id c.legs = 0) := hf
    obtain ⟨_, hl2, hl8, hok, _⟩ := cf_inv hf
    rw [hf]
    clear hf
    have HOK : Hid (okTo c.legs c.legs.length) := hok
    clear hok
    generalize hm' : c.legs.length = q at *
    have HM : Hid (c.legs.length = q) := hm'
    clear hm'
    go_wp2
    go_loopw [16] (fun i w' => ∃ k : Nat, k ≤ q ∧ i = .int .i64 k ∧ scanI (fun k => noneL n (c.legs.getD k default)) k = 0 ∧ Below w1.heap.size w1 w') (fun i _ => q - (intOf i).toNat)
    case atStart => exact ⟨0, Nat.zero_le _, rfl, rfl, Below.refl _ _⟩
    case round =>
      obtain ⟨k, hk, rfl, hs, hbl⟩ := hrel
      have HS : Hid (scanI (fun k => noneL n (c.legs.getD k default)) k = 0) := hs
      clear hs
      have e0 := cell_keep hbl b0
      have e1 := cell_keep hbl b1
      have e2 := cell_keep hbl d1
      by_cases hlt : k < q
      · obtain ⟨bx, ox, rfl, g1⟩ := hyy k hlt
        have hlf : legFault (c.legs.getD k default) = 0 := (HOK.out k hlt).1
        obtain ⟨l, hl⟩ : ∃ l, l = c.legs.getD k default := ⟨_, rfl⟩
        rw [← hl] at g1 hlf
        have HL : Hid (l = c.legs.getD k default) := hl
        clear hl hyy
        obtain ⟨⟨s0, s1⟩, _⟩ := legFault_zero hlf
        obtain ⟨a1, a2, a3, a4⟩ := legCells_below (bstep hB1 hbl) g1
        have z0 := World.block_lt_of_cell? _ _ e0
        dsimp only at z0
        go_wp2_with fail
        refine (hasShard_any n _ l.sh _ hn ⟨_, rfl⟩).mono ?_
        rintro e w3 ⟨rfl, hb3⟩
        have hBB : Below w1.heap.size w1 w3 := by (repeat (first | exact Below.refl _ _ | assumption | refine Below.drew ?_ | refine balloc ?_ _ | refine bset ?_ (by simp; omega) _ | refine bset ?_ (by simp) _ | refine bstep ?_ (by assumption)))
        cases hin : inB l.sh 0 ((n : Int) - 1)
        · have hat : noneL n (c.legs.getD k default) = 4 := by
            rw [← HL.out, noneL, if_pos]
            by_cases hh : (n : Int) ≤ l.sh
            · exact hh
            · have : inB l.sh 0 ((n : Int) - 1) = true := inBi.2 ⟨by omega, by omega⟩
              rw [this] at hin
              cases hin
          have HAT : Hid (noneL n (c.legs.getD k default) = 4) := hat
          clear hat
          go_wp2
          go_ret
          refine ⟨?_, bstep hB1 hBB⟩
          rw [canF_none HF.out (by rw [HM.out]; exact hlt) HS.out HAT.out]
          rfl
        · have := inBi.1 hin
          go_wp2
          refine ⟨⟨k + 1, by omega, by go_num, scanI_succ HS.out ?_, hBB⟩, by simp [intOf]; omega⟩
          rw [← HL.out, noneL, if_neg (by omega)]
      · have hkm : k = q := by omega
        subst hkm
        have hB2 := bstep hB1 hbl
        clear hyy
        go_wp2_with fail
        refine (amountsFault_any n b m f _ c.legs _ (hb.below (by (repeat (first | exact Below.refl _ _ | assumption | refine Below.drew ?_ | refine balloc ?_ _ | refine bset ?_ (by simp; omega) _ | refine bset ?_ (by simp) _ | refine bstep ?_ (by assumption))))) (LegsV_below hU2 (by (repeat (first | exact Below.refl _ _ | assumption | refine Below.drew ?_ | refine balloc ?_ _ | refine bset ?_ (by simp; omega) _ | refine bset ?_ (by simp) _ | refine bstep ?_ (by assumption))))) HSM.out (fun i hi => (HOK.out i (by rw [HM.out] at hi; exact hi)).1)).mono ?_
        rintro e w3 ⟨rfl, hb3⟩
        go_wp2
        go_ret
        refine ⟨?_, bstep hB2 hb3⟩
        rw [canF, if_pos HF.out, if_pos (by rw [HM.out]; exact HS.out)]
        rfl
  · go_wp2
    go_ret
    refine ⟨?_, by (repeat (first | exact Below.refl _ _ | assumption | refine Below.drew ?_ | refine balloc ?_ _ | refine bset ?_ (by simp; omega) _ | refine bset ?_ (by simp) _ | refine bstep ?_ (by assumption)))⟩
    rw [canF, if_neg hf]
    rfl
set_option maxHeartbeats 1000000 in
theorem implCan_any (x y : Value) (g : Ledg) (c : Cont) (w : World) (hx : ledgR.V w x g) (hy : contR.V w y c) :
    Calls Try.prog 23 #[x, y] w fun e w' => e = .returned (.int .i64 (canG g c)) ∧ Below w.heap.size w w' := by
  have hX := hx
  have hY := hy
  obtain ⟨u, rfl, hu⟩ := hx
  obtain ⟨ax, cx, rfl⟩ := balss_form hu
  obtain ⟨u2, rfl, hu2⟩ := hy
  obtain ⟨ay, cy, rfl⟩ := legs_form hu2
  clear hu hu2
  go_enter Try.func23, Try.ntmps23
  go_wp2_with fail
  refine (implLedFault_any _ g _ (ledgR.below hX (by (repeat (first | exact Below.refl _ _ | assumption | refine Below.drew ?_ | refine balloc ?_ _ | refine bset ?_ (by simp; omega) _ | refine bset ?_ (by simp) _ | refine bstep ?_ (by assumption)))))).mono ?_
  rintro e w1 ⟨rfl, hb1⟩
  have hB1 : Below w.heap.size w w1 := by (repeat (first | exact Below.refl _ _ | assumption | refine Below.drew ?_ | refine balloc ?_ _ | refine bset ?_ (by simp; omega) _ | refine bset ?_ (by simp) _ | refine bstep ?_ (by assumption)))
  have b0 : w1.cell? ⟨w.heap.size, 0, none⟩ = some (.slice ax g.shards.length cx) := cell_keep hb1 (by simp [go_sem])
  have d0 : w1.cell? ⟨w.heap.size + 1, 0, none⟩ = some (.int .i64 c.id) := cell_keep hb1 (by simp [go_sem])
  have d1 : w1.cell? ⟨w.heap.size + 1, 1, none⟩ = some (.slice ay c.legs.length cy) := cell_keep hb1 (by simp [go_sem])
  clear hb1
  by_cases hf : ledFault g = 0
  · have HF : Hid (ledFault g = 0) := hf
    have hl3 := (ledOk_of hf).2.1
    rw [hf]
    clear hf
    have hXr := ledgR.below hX hB1
    have hYr := contR.below hY hB1
    go_wp2
    go_region_held3 (fun w' => Below w1.heap.size w1 w' ∧ w'.cell? ⟨w.heap.size, 0, none⟩ = some (.slice ax g.shards.length cx) ∧ w'.cell? ⟨w.heap.size + 1, 0, none⟩ = some (.int .i64 c.id) ∧ w'.cell? ⟨w.heap.size + 1, 1, none⟩ = some (.slice ay c.legs.length cy))
      ((refine keepN3 ?_ b0 d0 d1; (repeat (first | exact Below.refl _ _ | assumption | refine Below.drew ?_ | refine balloc ?_ _ | refine bstep ?_ (by assumption)))))
      (first | (go_at_call 24; refine (bookOf_any _ g _ (ledgR.below hXr (Below.drew (Below.refl _ _))) HF.out).mono ?_; rintro e w2 ⟨b, rfl, hbb, hK, hb2⟩) | (go_at_call 40; refine (settleFault_any g.shards.length b 54 (bookF g.shards) _ c _ hK (contR.below (contR.below hYr (Below.drew (Below.refl _ _))) hb2) (smallF_of HF.out) hl3).mono ?_; rintro e w3 ⟨rfl, hb3⟩))
    rename_i hH
    have hBZ := bstep hB1 hH.1
    clear hH
    go_wp2
    go_ret
    refine ⟨?_, hBZ⟩
    rw [canG, if_pos HF.out]
    rfl
  · go_wp2
    go_ret
    refine ⟨?_, by (repeat (first | exact Below.refl _ _ | assumption | refine Below.drew ?_ | refine balloc ?_ _ | refine bset ?_ (by simp; omega) _ | refine bset ?_ (by simp) _ | refine bstep ?_ (by assumption)))⟩
    rw [canG, if_neg hf]
    rfl
end Go.Proofs.Ytnefocpgjcmocaa

