import Derived.Test.YtecfelacdapdgaaGreatPrnEventsOfLaw9
import Derived.Test.YtecfelacdapdgaaGreatPrnEventsOfLaw4
import Derived.Test.YtecfelacdapdgaaGreatPrnEventsOfLaw3
import Derived.Test.YtecfelacdapdgaaGreatPrnEventsOfLaw6
import Derived.Test.YtecfelacdapdgaaGreatPrnEventsOfLaw7
import Derived.Test.YtecfelacdapdgaaGreatPrnEventsOfLaw8
import Derived.Test.YtecfelacdapdgaaGreatPrnEventsOfLaw5
import Derived.Test.YtecfelacdapdgaaGreatPrnEventsOfLaw2

/-
  UnpackContract on both sides.
-/
namespace Go.Proofs.YtecfelacdapdgaaGreat
open Go.RowKit
set_option linter.unusedSectionVars false
variable [DecidableEq Leg] [Inhabited Leg] [DecidableEq Cont] [Inhabited Cont] [DecidableEq ContR] [Inhabited ContR]
set_option linter.unusedSimpArgs false
attribute [local go_sem ↓] Go.wp_at_zero Go.wp_at_succ

def unpD (xs : List Byte) : ContR := if (8 ≤ xs.length ∧ (xs.length - 8) % 11 = 0 ∧ xs.length ≤ 96) ∧ contractFault (unCont xs).id (unCont xs).legs = 0 then ⟨0, unCont xs⟩ else ⟨5, ⟨0, []⟩⟩
theorem contR_nil (w : World) (base : Nat) : contRR.O w base none_ (.agg #[.int .i64 5, .int .i64 0, .slice none 0 0]) ⟨5, ⟨0, []⟩⟩ :=
  ⟨.slice none 0 0, none_, rfl, ⟨.slice none 0 0, none_, rfl, ⟨by simpa [legsC] using World.ownsRow_nil w base 110 4, by funext b; simp [none_, Value.ownBlock]⟩, fun b => Iff.rfl⟩, fun b => Iff.rfl⟩
set_option maxHeartbeats 1000000 in
theorem isSize_any (n : Nat) (w : World) (hn : n ≤ 9223372036854775807) :
    Calls Tryz.prog 101 #[.int .i64 n] w fun e w' => e = .returned (.bool (decide (8 ≤ n ∧ (n - 8) % 11 = 0 ∧ n ≤ 96))) ∧ w' = w := by
  have c4 : IntKind.i64.wrap ((n : Int) - 8) = n - 8 := by rw [IntKind.wrap_i64]; omega
  by_cases h1 : n < 8
  · have HR : Hid (decide (8 ≤ n ∧ (n - 8) % 11 = 0 ∧ n ≤ 96) = false) := by unfold Hid; simp; omega
    have d1 : decide ((0 : Int) ≤ (n : Int) - 8) = false := by simp; omega
    rw [HR.out]
    go_enter Tryz.func101, Tryz.ntmps101
    go_wp2
    go_ret
    exact ⟨rfl, rfl⟩
  · by_cases h2 : n ≤ 96
    · obtain ⟨q, hq⟩ : ∃ q, ((n : Int) - 8).tmod 11 = q := ⟨_, rfl⟩
      have hq2 : q = ((n : Int) - 8) % 11 := by rw [← hq, Int.tmod_eq_emod_of_nonneg (by omega)]
      have hq3 := hq2.symm
      have HR : Hid (decide (8 ≤ n ∧ (n - 8) % 11 = 0 ∧ n ≤ 96) = (q == 0)) := by
        unfold Hid
        by_cases h3 : q = 0
        · have h4 : 8 ≤ n ∧ (n - 8) % 11 = 0 ∧ n ≤ 96 := by omega
          rw [decide_eq_true h4, h3]
          rfl
        · have h4 : ¬ (8 ≤ n ∧ (n - 8) % 11 = 0 ∧ n ≤ 96) := by omega
          rw [decide_eq_false h4]
          simp [h3]
      have d1 : decide ((0 : Int) ≤ (n : Int) - 8) = true := by simp; omega
      have d2 : decide ((n : Int) - 8 ≤ 88) = true := by simp; omega
      rw [HR.out]
      clear hq2
      go_enter Tryz.func101, Tryz.ntmps101
      go_wp2
      go_ret
      exact ⟨rfl, rfl⟩
    · have HR : Hid (decide (8 ≤ n ∧ (n - 8) % 11 = 0 ∧ n ≤ 96) = false) := by unfold Hid; simp; omega
      have d1 : decide ((0 : Int) ≤ (n : Int) - 8) = true := by simp; omega
      have d2 : decide ((n : Int) - 8 ≤ 88) = false := by simp; omega
      rw [HR.out]
      go_enter Tryz.func101, Tryz.ntmps101
      go_wp2
      go_ret
      exact ⟨rfl, rfl⟩
theorem setKeep {w : World} {base : Nat} {F : Nat → Prop} {v : Value} {ys : List Leg} (h : legsR.O w base F v ys) {g : Nat} (hg : g < base) (a b c : Value) :
    legsR.O (((w.setCell ⟨g, 0, none⟩ a).setCell ⟨g, 1, none⟩ b).setCell ⟨g, 2, none⟩ c) base F v ys := legsR.set (legsR.set (legsR.set h _ hg) _ hg) _ hg
set_option maxHeartbeats 2000000 in
theorem implUnpC_u (x : Value) (xs : List Byte) (w : World) (hx : bytesR.V w x xs) :
    Calls Tryz.prog 78 #[x] w fun e w' => ∃ v F, e = .returned v ∧ contRR.O w' w.heap.size F v (unpD xs) ∧ Below w.heap.size w w' := by
  have hX := hx
  obtain ⟨ax, cx, rfl, hcx, hmx, _⟩ := hx
  unfold maxLen at hmx
  go_enter Tryz.func78, Tryz.ntmps78
  go_wp2_with fail
  refine (isSize_any xs.length _ (by omega)).mono ?_
  rintro e w0 ⟨rfl, rfl⟩
  by_cases h : 8 ≤ xs.length ∧ (xs.length - 8) % 11 = 0 ∧ xs.length ≤ 96
  · have e0 : decide (8 ≤ xs.length ∧ (xs.length - 8) % 11 = 0 ∧ xs.length ≤ 96) = true := by simpa using h
    rw [e0]
    clear e0
    go_wp2_with fail
    refine (contractIn_any _ xs _ (bytesR.below hX (by (repeat (first | exact Below.refl _ _ | assumption | refine Below.drew ?_ | refine balloc ?_ _ | refine bset ?_ (by simp; omega) _ | refine bset ?_ (by simp) _ | refine bstep ?_ (by assumption))))) h.1 h.2.1 h.2.2).mono ?_
    rintro e w1 ⟨v, F, rfl, ho, hb⟩
    obtain ⟨p, q, rfl⟩ := legs_form (legsR.ofO ho)
    have hr0 : w1.cell? ⟨w.heap.size, 0, none⟩ = some (.int .i64 0) := cell_keep hb (by simp [go_sem])
    have hr1 : w1.cell? ⟨w.heap.size, 1, none⟩ = some (.int .i64 0) := cell_keep hb (by simp [go_sem])
    have hr2 : w1.cell? ⟨w.heap.size, 2, none⟩ = some (.slice none 0 0) := cell_keep hb (by simp [go_sem])
    have hrf := (boxNew3 hb rfl).2.2.2
    have hB : Below w.heap.size w w1 := by (repeat (first | exact Below.refl _ _ | assumption | refine Below.drew ?_ | refine balloc ?_ _ | refine bset ?_ (by simp; omega) _ | refine bset ?_ (by simp) _ | refine bstep ?_ (by assumption)))
    have ho' := legsR.base (base' := w.heap.size + 1) ho (by simp)
    clear ho hb
    go_wp2_with fail
    refine (implFault_any (unCont xs).id _ (unCont xs).legs _ (LegsV_below (legsR.ofO ho') (by (repeat (first | exact Below.refl _ _ | assumption | refine Below.drew ?_ | refine balloc ?_ _ | refine bset ?_ (by simp; omega) _ | refine bset ?_ (by simp) _ | refine bstep ?_ (by assumption)))))).mono ?_
    rintro e w2 ⟨rfl, hb2⟩
    have d0 : w2.cell? ⟨w1.heap.size, 0, none⟩ = some (.int .i64 (unCont xs).id) := cell_keep hb2 (by simp [go_sem])
    have d1 : w2.cell? ⟨w1.heap.size, 1, none⟩ = some (.slice p (unCont xs).legs.length q) := cell_keep hb2 (by simp [go_sem])
    replace hr0 := cell_keep hb2 (cell_keep (by (repeat (first | exact Below.refl _ _ | assumption | refine Below.drew ?_ | refine balloc ?_ _ | refine bset ?_ (by simp; omega) _ | refine bset ?_ (by simp) _ | refine bstep ?_ (by assumption)))) hr0)
    replace hr1 := cell_keep hb2 (cell_keep (by (repeat (first | exact Below.refl _ _ | assumption | refine Below.drew ?_ | refine balloc ?_ _ | refine bset ?_ (by simp; omega) _ | refine bset ?_ (by simp) _ | refine bstep ?_ (by assumption)))) hr1)
    replace hr2 := cell_keep hb2 (cell_keep (by (repeat (first | exact Below.refl _ _ | assumption | refine Below.drew ?_ | refine balloc ?_ _ | refine bset ?_ (by simp; omega) _ | refine bset ?_ (by simp) _ | refine bstep ?_ (by assumption)))) hr2)
    obtain ⟨hrf, hlt⟩ := boxKeep (boxKeep hrf (by (repeat (first | exact Below.refl _ _ | assumption | refine Below.drew ?_ | refine balloc ?_ _ | refine bset ?_ (by simp; omega) _ | refine bset ?_ (by simp) _ | refine bstep ?_ (by assumption))))) hb2
    have hB2 : Below w.heap.size w w2 := by (repeat (first | exact Below.refl _ _ | assumption | refine Below.drew ?_ | refine balloc ?_ _ | refine bset ?_ (by simp; omega) _ | refine bset ?_ (by simp) _ | refine bstep ?_ (by assumption)))
    replace ho' := legsR.keep (legsR.alloc ho' _) hb2
    clear hb2
    by_cases hc : contractFault (unCont xs).id (unCont xs).legs = 0
    · have HD : Hid (unpD xs = ⟨0, unCont xs⟩) := if_pos ⟨h, hc⟩
      rw [hc]
      clear hc
      go_wp2
      refine bodyPost_ret (v := .agg #[.int .i64 0, .int .i64 (unCont xs).id, .slice p (unCont xs).legs.length q]) (by simp [results, Tryz.results78, go_sem, hr0, hr1, hr2]) rfl ?_
      rw [HD.out]
      exact ⟨_, F, rfl, ⟨_, F, rfl, ⟨_, F, rfl, legsR.base (setKeep ho' (by omega) _ _ _) (by omega), fun b => Iff.rfl⟩, fun b => Iff.rfl⟩, by (repeat (first | exact Below.refl _ _ | assumption | refine Below.drew ?_ | refine balloc ?_ _ | refine bset ?_ (by simp; omega) _ | refine bset ?_ (by simp) _ | refine bstep ?_ (by assumption)))⟩
    · have HD : Hid (unpD xs = ⟨5, ⟨0, []⟩⟩) := if_neg (fun hh => hc hh.2)
      have hd : (contractFault (unCont xs).id (unCont xs).legs == 0) = false := by simpa using hc
      go_wp2
      refine bodyPost_ret (v := .agg #[.int .i64 5, .int .i64 0, .slice none 0 0]) (by simp [results, Tryz.results78, go_sem, hr0, hr1, hr2]) rfl ?_
      rw [HD.out]
      first | exact ⟨_, none_, rfl, contR_nil _ _, by (repeat (first | exact Below.refl _ _ | assumption | refine Below.drew ?_ | refine balloc ?_ _ | refine bset ?_ (by simp; omega) _ | refine bset ?_ (by simp) _ | refine bstep ?_ (by assumption)))⟩ | exact ⟨_, rfl, ⟨none_, contR_nil _ _⟩, by (repeat (first | exact Below.refl _ _ | assumption | refine Below.drew ?_ | refine balloc ?_ _ | refine bset ?_ (by simp; omega) _ | refine bset ?_ (by simp) _ | refine bstep ?_ (by assumption)))⟩
  · have HD : Hid (unpD xs = ⟨5, ⟨0, []⟩⟩) := if_neg (fun hh => h hh.1)
    have e0 : decide (8 ≤ xs.length ∧ (xs.length - 8) % 11 = 0 ∧ xs.length ≤ 96) = false := by simpa using h
    rw [e0]
    clear e0
    go_wp2
    refine bodyPost_ret (v := .agg #[.int .i64 5, .int .i64 0, .slice none 0 0]) (by simp [results, Tryz.results78, go_sem]) rfl ?_
    rw [HD.out]
    first | exact ⟨_, none_, rfl, contR_nil _ _, by (repeat (first | exact Below.refl _ _ | assumption | refine Below.drew ?_ | refine balloc ?_ _ | refine bset ?_ (by simp; omega) _ | refine bset ?_ (by simp) _ | refine bstep ?_ (by assumption)))⟩ | exact ⟨_, rfl, ⟨none_, contR_nil _ _⟩, by (repeat (first | exact Below.refl _ _ | assumption | refine Below.drew ?_ | refine balloc ?_ _ | refine bset ?_ (by simp; omega) _ | refine bset ?_ (by simp) _ | refine bstep ?_ (by assumption)))⟩
theorem unpD_wt (xs : List Byte) : wtContR (unpD xs) ≤ 8 := by
  unfold unpD
  split
  · rename_i h
    unfold wtContR wtCont wtLegs unCont
    rw [length_unLegs]
    omega
  · simp [wtContR, wtCont, wtLegs]
end Go.Proofs.YtecfelacdapdgaaGreat

/-
  Events, in mathematics.
-/
namespace Go.Proofs.YtecfelacdapdgaaGreat
open Go.RowKit
set_option linter.unusedSectionVars false
variable [DecidableEq Leg] [Inhabited Leg] [DecidableEq Cont] [Inhabited Cont] [DecidableEq Evt] [Inhabited Evt] [DecidableEq EvtR] [Inhabited EvtR] [DecidableEq BytesR] [Inhabited BytesR] [DecidableEq ContR] [Inhabited ContR]

def evtF (e : Evt) : Int :=
  if e.vote = true then (if contractFault e.con.id e.con.legs = 0 then (if e.out = 0 then 0 else 1) else contractFault e.con.id e.con.legs)
  else (if (inB e.con.id 1 1000000000 && inB e.out 1 2) = true then (if e.con.legs.length = 0 then 0 else 1) else 3)
def nilE : Evt := ⟨false, ⟨0, []⟩, 0⟩
def errE : EvtR := ⟨5, nilE⟩
def outE (xs : List Byte) : Evt := ⟨false, ⟨IntKind.i64.wrap (hiN ((xs.drop 1).take 8)), []⟩, ((xs.getD 9 0).val : Int)⟩
def unpE (xs : List Byte) : EvtR :=
  if xs.length = 0 then errE
  else if (xs.getD 0 0).val = 1 then (if (unpD (xs.drop 1)).code = 0 then ⟨0, ⟨true, (unpD (xs.drop 1)).contract, 0⟩⟩ else errE)
  else if (xs.getD 0 0).val = 2 ∧ xs.length = 10 then (if evtF (outE xs) = 0 then ⟨0, outE xs⟩ else errE)
  else errE
theorem unpE_wt (xs : List Byte) : wtEvtR (unpE xs) ≤ 8 := by
  have h0 : wtEvtR errE = 0 := rfl
  unfold unpE
  split
  · omega
  split
  · split
    · have h := unpD_wt (xs.drop 1)
      exact h
    · omega
  split
  · split
    · show (outE xs).con.legs.length ≤ 8
      simp [outE]
    · omega
  · omega
end Go.Proofs.YtecfelacdapdgaaGreat

/-
  Log. (Written by program: nest.py.)
-/
namespace Go.Proofs.YtecfelacdapdgaaGreat
open Go.RowKit
set_option linter.unusedSectionVars false
attribute [local go_sem ↓] Go.wp_at_zero Go.wp_at_succ

set_option linter.unusedSimpArgs false

structure Logg where
  synced : List Byte
  loose : List Byte
variable [DecidableEq Logg] [Inhabited Logg]

def loggR : Rep Logg where
  V := fun w v x => ∃ u1 u2, v = .agg #[u1, u2] ∧ bytesR.V w u1 x.synced ∧ bytesR.V w u2 x.loose
  O := fun w base F v x => ∃ u1 u2 F1 F2, v = .agg #[u1, u2] ∧ bytesR.O w base F1 u1 x.synced ∧ bytesR.O w base F2 u2 x.loose ∧ (∀ b, F1 b → ¬ F2 b) ∧ (∀ b, F b ↔ (F1 b ∨ F2 b))
  below := fun h hb => by
    obtain ⟨u1, u2, rfl, h1, h2⟩ := h
    exact ⟨u1, u2, rfl, bytesR.below h1 hb, bytesR.below h2 hb⟩
  ofO := fun h => by
    obtain ⟨u1, u2, F1, F2, rfl, h1, h2, _⟩ := h
    exact ⟨u1, u2, rfl, bytesR.ofO h1, bytesR.ofO h2⟩
  mod := fun h hm hd => by
    obtain ⟨u1, u2, F1, F2, rfl, h1, h2, s12, hF⟩ := h
    exact ⟨u1, u2, F1, F2, rfl, bytesR.mod h1 hm (fun b hb => hd b ((hF b).2 (.inl hb))), bytesR.mod h2 hm (fun b hb => hd b ((hF b).2 (.inr hb))), s12, hF⟩
  rng := fun h b hb => by
    obtain ⟨u1, u2, F1, F2, rfl, h1, h2, s12, hF⟩ := h
    rcases (hF b).1 hb with hb | hb
    · exact bytesR.rng h1 b hb
    · exact bytesR.rng h2 b hb
  base := fun h hb => by
    obtain ⟨u1, u2, F1, F2, rfl, h1, h2, s12, hF⟩ := h
    exact ⟨u1, u2, F1, F2, rfl, bytesR.base h1 hb, bytesR.base h2 hb, s12, hF⟩
def wtLogg (x : Logg) : Nat := wtBytes x.synced + wtBytes x.loose
def cntLogg (x : Logg) : Nat := cntBytes x.synced + cntBytes x.loose
def mkLogg (k : Int) (x : Logg) : Logg := { x with synced := mkBytes k x.synced, loose := mkBytes (k + cntBytes x.synced) x.loose }
theorem logg_form {w : World} {v : Value} {x : Logg} (h : loggR.V w v x) : ∃ a1 a2 c1 c2, v = .agg #[.slice a1 x.synced.length c1, .slice a2 x.loose.length c2] := by
  obtain ⟨u1, u2, rfl, h1, h2⟩ := h
  obtain ⟨a1, c1, rfl⟩ := bytes_form h1
  obtain ⟨a2, c2, rfl⟩ := bytes_form h2
  exact ⟨_, _, _, _, rfl⟩
theorem logg_cnt (d : Logg) : cntLogg d ≤ 1 * wtLogg d := by
  unfold cntLogg wtLogg
  have q1 := bytes_cnt d.synced
  have q2 := bytes_cnt d.loose
  omega
set_option maxHeartbeats 1000000 in
theorem toLog_u (x : Value) (d : Logg) (w : World) (hx : loggR.V w x d) (hn : wtLogg d ≤ 1048576) :
    Calls Tryz.prog 54 #[x] w fun e w' => ∃ v F, e = .returned v ∧ loggR.O w' w.heap.size F v d ∧ Below w.heap.size w w' := by
  obtain ⟨u1, u2, rfl, h1, h2⟩ := hx
  unfold wtLogg at hn
  go_enter Tryz.func54, Tryz.ntmps54
  go_wp2_with fail
  refine (toByteS_u _ d.synced _ (bytesR.below h1 (by (repeat (first | exact Below.refl _ _ | assumption | refine Below.drew ?_ | refine balloc ?_ _ | refine bset ?_ (by simp; omega) _ | refine bset ?_ (by simp) _ | refine bstep ?_ (by assumption))))) (by omega)).mono ?_
  rintro e w1 ⟨v1, F1, rfl, o1, b1⟩
  obtain ⟨a1, n1, rfl⟩ := bytes_form (bytesR.ofO o1)
  obtain ⟨c1, f1⟩ := bcell b1
  have z1 := b1.size
  simp at z1
  have l1 := fun b hb => bytesR.rng o1 b hb
  simp at l1
  replace o1 := bytesR.base (base' := w.heap.size + 3) o1 (by simp; try omega)
  have y0 : w1.cell? ⟨w.heap.size, 0, none⟩ = some (u1) := cell_keep b1 (by simp [go_sem])
  have y1 : w1.cell? ⟨w.heap.size, 1, none⟩ = some (u2) := cell_keep b1 (by simp [go_sem])
  have r0 : w1.cell? ⟨w.heap.size + 1, 0, none⟩ = some (.slice none 0 0) := cell_keep b1 (by simp [go_sem])
  have r1 : w1.cell? ⟨w.heap.size + 1, 1, none⟩ = some (.slice none 0 0) := cell_keep b1 (by simp [go_sem])
  have s0 : w1.cell? ⟨w.heap.size + 2, 0, none⟩ = some (.slice none 0 0) := cell_keep b1 (by simp [go_sem])
  have s1 : w1.cell? ⟨w.heap.size + 2, 1, none⟩ = some (.slice none 0 0) := cell_keep b1 (by simp [go_sem])
  have t1 : ∀ o, w1.frozen? ⟨w.heap.size + 1, o, none⟩ = false := fun o => by rw [f1 _ _ (by simp; try omega)]; simp [go_sem]
  have t2 : ∀ o, w1.frozen? ⟨w.heap.size + 2, o, none⟩ = false := fun o => by rw [f1 _ _ (by simp; try omega)]; simp [go_sem]
  clear c1 f1
  have x0 := y0
  have x1 := y1
  have q0 := r0
  have q1 := r1
  have p0 := s0
  have p1 := s1
  have qf := t1
  have pf := t2
  clear t1 t2 y0 y1 r0 r1 s0 s1
  go_wp2_with fail
  refine (toByteS_u _ d.loose _ (bytesR.below h2 (by (repeat (first | exact Below.refl _ _ | assumption | refine Below.drew ?_ | refine balloc ?_ _ | refine bset ?_ (by simp; omega) _ | refine bset ?_ (by simp) _ | refine bstep ?_ (by assumption))))) (by omega)).mono ?_
  rintro e w2 ⟨v2, F2, rfl, o2, b2⟩
  obtain ⟨a2, n2, rfl⟩ := bytes_form (bytesR.ofO o2)
  obtain ⟨c2, f2⟩ := bcell b2
  have z2 := b2.size
  simp at z2
  have l2 := fun b hb => bytesR.rng o2 b hb
  simp at l2
  replace o2 := bytesR.base (base' := w.heap.size + 3) o2 (by simp; try omega)
  have y0 : w2.cell? ⟨w.heap.size, 0, none⟩ = some (u1) := cell_keep b2 (by simp [go_sem, x0, x1, q0, q1, p0, p1])
  have y1 : w2.cell? ⟨w.heap.size, 1, none⟩ = some (u2) := cell_keep b2 (by simp [go_sem, x0, x1, q0, q1, p0, p1])
  have r0 : w2.cell? ⟨w.heap.size + 1, 0, none⟩ = some (.slice none 0 0) := cell_keep b2 (by simp [go_sem, x0, x1, q0, q1, p0, p1])
  have r1 : w2.cell? ⟨w.heap.size + 1, 1, none⟩ = some (.slice none 0 0) := cell_keep b2 (by simp [go_sem, x0, x1, q0, q1, p0, p1])
  have s0 : w2.cell? ⟨w.heap.size + 2, 0, none⟩ = some (.slice a1 d.synced.length n1) := cell_keep b2 (by simp [go_sem, x0, x1, q0, q1, p0, p1])
  have s1 : w2.cell? ⟨w.heap.size + 2, 1, none⟩ = some (.slice none 0 0) := cell_keep b2 (by simp [go_sem, x0, x1, q0, q1, p0, p1])
  have t1 : ∀ o, w2.frozen? ⟨w.heap.size + 1, o, none⟩ = false := fun o => by rw [f2 _ _ (by simp; try omega)]; simp [go_sem, qf]
  have t2 : ∀ o, w2.frozen? ⟨w.heap.size + 2, o, none⟩ = false := fun o => by rw [f2 _ _ (by simp; try omega)]; simp [go_sem, pf]
  clear x0 x1 q0 q1 p0 p1 qf pf
  clear c2 f2
  have x0 := y0
  have x1 := y1
  have q0 := r0
  have q1 := r1
  have p0 := s0
  have p1 := s1
  have qf := t1
  have pf := t2
  clear t1 t2 y0 y1 r0 r1 s0 s1
  go_wp2
  refine bodyPost_ret (v := .agg #[.slice a1 d.synced.length n1, .slice a2 d.loose.length n2]) ?_ rfl ⟨_, fun b => F1 b ∨ F2 b, rfl, ⟨_, _, F1, F2, rfl, bytesR.base (base := w.heap.size + 3) (by (repeat (first | assumption | refine Rep.set _ ?_ _ (by simp; omega) | refine Rep.set _ ?_ _ (by simp) | refine Rep.alloc _ ?_ _ | refine Rep.keep _ ?_ (by assumption)))) (by omega), bytesR.base (base := w.heap.size + 3) (by (repeat (first | assumption | refine Rep.set _ ?_ _ (by simp; omega) | refine Rep.set _ ?_ _ (by simp) | refine Rep.alloc _ ?_ _ | refine Rep.keep _ ?_ (by assumption)))) (by omega), fun b p q => by have := (l1 b p).2; have := (l2 b q).1; omega, fun b => Iff.rfl⟩, by (repeat (first | exact Below.refl _ _ | assumption | refine Below.drew ?_ | refine balloc ?_ _ | refine bset ?_ (by simp; omega) _ | refine bset ?_ (by simp) _ | refine bstep ?_ (by assumption)))⟩
  simp [results, Tryz.results54, go_sem, q0, q1, p0, p1, qf, pf]
set_option maxHeartbeats 1000000 in
theorem szLog_u (x : Value) (d : Logg) (left : Int) (w : World) (hx : loggR.V w x d) (h0 : 0 ≤ left) (h1 : left ≤ 1048576) :
    Calls Tryz.prog 50 #[x, .int .i64 left] w fun e w' => e = .returned (.int .i64 (szLen left (wtLogg d))) ∧ Below w.heap.size w w' := by
  obtain ⟨u1, u2, rfl, k1, k2⟩ := hx
  go_enter Tryz.func50, Tryz.ntmps50
  go_wp2_with fail
  refine (szByteS_u _ d.synced left _ (bytesR.below k1 (by (repeat (first | exact Below.refl _ _ | assumption | refine Below.drew ?_ | refine balloc ?_ _ | refine bset ?_ (by simp; omega) _ | refine bset ?_ (by simp) _ | refine bstep ?_ (by assumption))))) h0 h1).mono ?_
  rintro e w1 ⟨rfl, b1⟩
  have x0 : w1.cell? ⟨w.heap.size, 0, none⟩ = some (u1) := cell_keep b1 (by simp [go_sem])
  have x1 : w1.cell? ⟨w.heap.size, 1, none⟩ = some (u2) := cell_keep b1 (by simp [go_sem])
  go_wp2_with fail
  · rename_i h
    go_ret
    refine ⟨?_, by (repeat (first | exact Below.refl _ _ | assumption | refine Below.drew ?_ | refine balloc ?_ _ | refine bset ?_ (by simp; omega) _ | refine bset ?_ (by simp) _ | refine bstep ?_ (by assumption)))⟩
    rw [szLen_neg (n := wtBytes d.synced) (by omega) (wtLogg d) (by unfold wtLogg; omega)]
    rfl
  rename_i h
  refine (szByteS_u _ d.loose (szLen left (wtBytes d.synced : Nat)) _ (bytesR.below k2 (by (repeat (first | exact Below.refl _ _ | assumption | refine Below.drew ?_ | refine balloc ?_ _ | refine bset ?_ (by simp; omega) _ | refine bset ?_ (by simp) _ | refine bstep ?_ (by assumption))))) (by omega) (by have := szLen_le (n := wtBytes d.synced) h0; omega)).mono ?_
  rintro e w2 ⟨rfl, b2⟩
  rw [szLen_add (n := wtBytes d.synced) (by omega)]
  go_wp2
  · rename_i h
    go_ret
    refine ⟨?_, by (repeat (first | exact Below.refl _ _ | assumption | refine Below.drew ?_ | refine balloc ?_ _ | refine bset ?_ (by simp; omega) _ | refine bset ?_ (by simp) _ | refine bstep ?_ (by assumption)))⟩
    rw [szLen_neg (n := wtBytes d.synced + wtBytes d.loose) (by first | omega | (rw [Int.natCast_add]; omega)) (wtLogg d) (by unfold wtLogg; omega)]
    rfl
  rename_i h
  go_ret
  exact ⟨rfl, by (repeat (first | exact Below.refl _ _ | assumption | refine Below.drew ?_ | refine balloc ?_ _ | refine bset ?_ (by simp; omega) _ | refine bset ?_ (by simp) _ | refine bstep ?_ (by assumption)))⟩
set_option maxHeartbeats 1000000 in
theorem eqLog_u (x y : Value) (d d' : Logg) (w : World) (hx : loggR.V w x d) (hy : loggR.V w y d') :
    Calls Tryz.prog 58 #[x, y] w fun e w' => e = .returned (.bool (decide (d = d'))) ∧ Below w.heap.size w w' := by
  obtain ⟨u1, u2, rfl, h1, h2⟩ := hx
  obtain ⟨v1, v2, rfl, k1, k2⟩ := hy
  obtain ⟨synced, loose⟩ := d
  obtain ⟨synced', loose'⟩ := d'
  dsimp only at h1 k1 h2 k2
  go_enter Tryz.func58, Tryz.ntmps58
  go_wp2_with fail
  all_goals try (go_ret; exact ⟨by simp_all, by (repeat (first | exact Below.refl _ _ | assumption | refine Below.drew ?_ | refine balloc ?_ _ | refine bset ?_ (by simp; omega) _ | refine bset ?_ (by simp) _ | refine bstep ?_ (by assumption)))⟩)
  refine (eqByteS_u _ _ synced synced' _ (bytesR.below h1 (by (repeat (first | exact Below.refl _ _ | assumption | refine Below.drew ?_ | refine balloc ?_ _ | refine bset ?_ (by simp; omega) _ | refine bset ?_ (by simp) _ | refine bstep ?_ (by assumption))))) (bytesR.below k1 (by (repeat (first | exact Below.refl _ _ | assumption | refine Below.drew ?_ | refine balloc ?_ _ | refine bset ?_ (by simp; omega) _ | refine bset ?_ (by simp) _ | refine bstep ?_ (by assumption)))))).mono ?_
  rintro e w1 ⟨rfl, b1⟩
  have x0 : w1.cell? ⟨w.heap.size, 0, none⟩ = some (u1) := cell_keep b1 (by simp [go_sem])
  have x1 : w1.cell? ⟨w.heap.size, 1, none⟩ = some (u2) := cell_keep b1 (by simp [go_sem])
  have y0 : w1.cell? ⟨w.heap.size + 1, 0, none⟩ = some (v1) := cell_keep b1 (by simp [go_sem])
  have y1 : w1.cell? ⟨w.heap.size + 1, 1, none⟩ = some (v2) := cell_keep b1 (by simp [go_sem])
  go_wp2_with fail
  all_goals try (go_ret; exact ⟨by simp_all, by (repeat (first | exact Below.refl _ _ | assumption | refine Below.drew ?_ | refine balloc ?_ _ | refine bset ?_ (by simp; omega) _ | refine bset ?_ (by simp) _ | refine bstep ?_ (by assumption)))⟩)
  refine (eqByteS_u _ _ loose loose' _ (bytesR.below h2 (by (repeat (first | exact Below.refl _ _ | assumption | refine Below.drew ?_ | refine balloc ?_ _ | refine bset ?_ (by simp; omega) _ | refine bset ?_ (by simp) _ | refine bstep ?_ (by assumption))))) (bytesR.below k2 (by (repeat (first | exact Below.refl _ _ | assumption | refine Below.drew ?_ | refine balloc ?_ _ | refine bset ?_ (by simp; omega) _ | refine bset ?_ (by simp) _ | refine bstep ?_ (by assumption)))))).mono ?_
  rintro e w2 ⟨rfl, b2⟩
  go_wp2
  all_goals
    go_ret
    exact ⟨by simp_all, by (repeat (first | exact Below.refl _ _ | assumption | refine Below.drew ?_ | refine balloc ?_ _ | refine bset ?_ (by simp; omega) _ | refine bset ?_ (by simp) _ | refine bstep ?_ (by assumption)))⟩
set_option maxHeartbeats 1000000 in
theorem markLog_u (v : Value) (d : Logg) (base : Nat) (F : Nat → Prop) (k : Int) (w : World) (ho : loggR.O w base F v d) (hw : wtLogg d ≤ 1048576) (hn : k + cntLogg d ≤ 1073741824) (hk0 : 0 ≤ k) :
    Calls Tryz.prog 60 #[v, .int .i64 k] w fun r w' => r = .returned (.int .i64 (k + cntLogg d)) ∧ loggR.O w' base F v (mkLogg k d) ∧ Mod F w w' := by
  obtain ⟨u1, u2, F1, F2, rfl, h1, h2, s12, hF⟩ := ho
  unfold wtLogg at hw
  unfold cntLogg at hn ⊢
  have HF : Hid (∀ b, F b ↔ (F1 b ∨ F2 b)) := hF
  clear hF
  go_enter Tryz.func60, Tryz.ntmps60
  go_wp2_with fail
  refine (markByteS_u _ d.synced base F1 k _ (bytesR.alloc h1 _) (by omega) (by omega) (by omega)).mono ?_
  rintro e w1 ⟨rfl, r1, m1⟩
  have h2' := bytesR.mod (bytesR.alloc h2 _) m1 (fun b p q => s12 b q p)
  have x0 : w1.cell? ⟨w.heap.size, 0, none⟩ = some (u1) := m1.cell (by simp [go_sem]) (fun hf => by have := bytesR.rng h1 _ hf; dsimp only at this; omega)
  have x1 : w1.cell? ⟨w.heap.size, 1, none⟩ = some (u2) := m1.cell (by simp [go_sem]) (fun hf => by have := bytesR.rng h1 _ hf; dsimp only at this; omega)
  go_wp2_with fail
  refine (markByteS_u _ d.loose base F2 (k + cntBytes d.synced) _ h2' (by omega) (by omega) (by omega)).mono ?_
  rintro e w2 ⟨rfl, r2, m2⟩
  replace r1 := bytesR.mod r1 m2 (fun b p q => s12 b p q)
  go_wp2
  go_ret
  refine ⟨?_, ⟨_, _, F1, F2, rfl, r1, r2, s12, HF.out⟩, (((Mod.refl F w).alloc _).trans (m1.mono (fun b hb => (HF.out b).2 (.inl hb)))).trans (m2.mono (fun b hb => (HF.out b).2 (.inr hb)))⟩
  simp
  try omega
end Go.Proofs.YtecfelacdapdgaaGreat

/-
  LogResult. (Written by program: nest.py.)
-/
namespace Go.Proofs.YtecfelacdapdgaaGreat
open Go.RowKit
set_option linter.unusedSectionVars false
variable [DecidableEq Logg] [Inhabited Logg]
attribute [local go_sem ↓] Go.wp_at_zero Go.wp_at_succ

set_option linter.unusedSimpArgs false

structure LoggR where
  code : Int
  log : Logg
variable [DecidableEq LoggR] [Inhabited LoggR]

end Go.Proofs.YtecfelacdapdgaaGreat

