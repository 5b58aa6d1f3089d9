import Derived.Test.YtecfelacdapdgaaGreatPrnUnpackEventLaw8
import Derived.Test.YtecfelacdapdgaaGreatPrnUnpackEventLaw9
import Derived.Deep.QuietTactic
import Derived.Test.YtecfelacdapdgaaGreatPrnUnpackEventLaw4
import Derived.Test.YtecfelacdapdgaaGreatPrnUnpackEventLaw2
import Derived.Deep.RegionHeld3
import Derived.Deep.DrawnRows
import Derived.Test.YtecfelacdapdgaaGreatPrnUnpackEventLaw6
import Derived.Test.YtecfelacdapdgaaGreatPrnUnpackEventLaw7
import Derived.Test.YtecfelacdapdgaaGreatPrnUnpackEventLaw5
import Derived.Lib.ConvBytes
import Derived.BigQuiet
import Derived.Maps.OwnSet
import Derived.DeepKeys4
import Derived.Test.YtecfelacdapdgaaGreatPrnUnpackEventLaw1

/-
  EventFault, PackEvent: the document's.
-/
set_option linter.unusedSimpArgs false
set_option linter.unusedVariables false
namespace Go.Proofs.YtecfelacdapdgaaGreat
open Go.RowKit
set_option linter.unusedSectionVars false
variable [DecidableEq Leg] [Inhabited Leg] [DecidableEq Cont] [Inhabited Cont] [DecidableEq Evt] [Inhabited Evt] [DecidableEq EvtR] [Inhabited EvtR] [DecidableEq BytesR] [Inhabited BytesR] [DecidableEq ContR] [Inhabited ContR] [DecidableEq Logg] [Inhabited Logg] [DecidableEq LoggR] [Inhabited LoggR] [DecidableEq RecsR] [Inhabited RecsR]
attribute [local go_sem ↓] Go.wp_at_zero Go.wp_at_succ

theorem evt_open {w : World} {x : Value} {d : Evt} (hx : evtR.V w x d) : ∃ a c, x = .agg #[.bool d.vote, .int .i64 d.con.id, .slice a d.con.legs.length c, .int .i64 d.out] ∧ LegsV w (.slice a d.con.legs.length c) d.con.legs := by
  obtain ⟨u, rfl, h1⟩ := evtf_V.2 hx
  obtain ⟨a, c, rfl⟩ := legs_form h1
  exact ⟨a, c, rfl, h1⟩
set_option maxHeartbeats 2000000 in
theorem specEvF_any (x : Value) (d : Evt) (w : World) (hx : evtR.V w x d) :
    Calls Tryz.prog 8 #[x] w fun e w' => e = .returned (.int .i64 (evtF d)) ∧ Below w.heap.size w w' := by
  obtain ⟨a, c, rfl, hl⟩ := evt_open hx
  obtain ⟨b, ⟨id, ls⟩, o⟩ := d
  dsimp only at hl ⊢
  clear hx
  cases b
  · have HD : Hid (evtF ⟨false, ⟨id, ls⟩, o⟩ = if (inB id 1 1000000000 && inB o 1 2) = true then (if ls.length = 0 then 0 else 1) else 3) := rfl
    generalize evtF ⟨false, ⟨id, ls⟩, o⟩ = R at *
    generalize ls.length = n at *
    clear hl
    cases hk : inB id 1 1000000000
    · rw [hk] at HD
      go_enter Tryz.func8, Tryz.ntmps8
      go_wp2_with (first | (go_at_call 37; refine (l1Id_any _ _).mono ?_; rintro e w' ⟨rfl, hw⟩; obtain rfl := hw.symm; rw [hk]))
      go_ret
      exact ⟨by rw [HD.out]; rfl, by (repeat (first | exact Below.refl _ _ | assumption | refine Below.drew ?_ | refine balloc ?_ _ | refine bset ?_ (by simp; omega) _ | refine bset ?_ (by simp) _ | refine bstep ?_ (by assumption)))⟩
    · cases ho : inB o 1 2
      · rw [hk, ho] at HD
        go_enter Tryz.func8, Tryz.ntmps8
        go_wp2_with (first | (go_at_call 37; refine (l1Id_any _ _).mono ?_; rintro e w' ⟨rfl, hw⟩; obtain rfl := hw.symm; rw [hk]) | (go_at_call 38; refine (l1In_any _ _ _ _).mono ?_; rintro e w' ⟨rfl, hw⟩; obtain rfl := hw.symm; rw [ho]))
        go_ret
        exact ⟨by rw [HD.out]; rfl, by (repeat (first | exact Below.refl _ _ | assumption | refine Below.drew ?_ | refine balloc ?_ _ | refine bset ?_ (by simp; omega) _ | refine bset ?_ (by simp) _ | refine bstep ?_ (by assumption)))⟩
      · rw [hk, ho] at HD
        by_cases hn : n = 0
        · have HE : Hid (R = 0) := by show _ = _; rw [HD.out, hn]; rfl
          have hn' : ¬ (0 : Int) < (n : Int) := by omega
          clear HD hn
          go_enter Tryz.func8, Tryz.ntmps8
          go_wp2_with (first | (go_at_call 37; refine (l1Id_any _ _).mono ?_; rintro e w' ⟨rfl, hw⟩; obtain rfl := hw.symm; rw [hk]) | (go_at_call 38; refine (l1In_any _ _ _ _).mono ?_; rintro e w' ⟨rfl, hw⟩; obtain rfl := hw.symm; rw [ho]))
          go_ret
          exact ⟨by rw [HE.out]; rfl, by (repeat (first | exact Below.refl _ _ | assumption | refine Below.drew ?_ | refine balloc ?_ _ | refine bset ?_ (by simp; omega) _ | refine bset ?_ (by simp) _ | refine bstep ?_ (by assumption)))⟩
        · have HE : Hid (R = 1) := by show _ = _; rw [HD.out, if_neg hn]; rfl
          have hn' : (0 : Int) < (n : Int) := by omega
          clear HD hn
          go_enter Tryz.func8, Tryz.ntmps8
          go_wp2_with (first | (go_at_call 37; refine (l1Id_any _ _).mono ?_; rintro e w' ⟨rfl, hw⟩; obtain rfl := hw.symm; rw [hk]) | (go_at_call 38; refine (l1In_any _ _ _ _).mono ?_; rintro e w' ⟨rfl, hw⟩; obtain rfl := hw.symm; rw [ho]))
          go_ret
          exact ⟨by rw [HE.out]; rfl, by (repeat (first | exact Below.refl _ _ | assumption | refine Below.drew ?_ | refine balloc ?_ _ | refine bset ?_ (by simp; omega) _ | refine bset ?_ (by simp) _ | refine bstep ?_ (by assumption)))⟩
  · have HD : Hid (evtF ⟨true, ⟨id, ls⟩, o⟩ = if contractFault id ls = 0 then (if o = 0 then 0 else 1) else contractFault id ls) := rfl
    have HC : Hid (∀ W, Below w.heap.size w W → Calls Tryz.prog 36 #[.agg #[.int .i64 id, .slice a ls.length c]] W fun e w' => e = .returned (.int .i64 (contractFault id ls)) ∧ Below W.heap.size W w') := fun W hW => specFault_any id _ ls W (LegsV_below hl hW)
    generalize evtF ⟨true, ⟨id, ls⟩, o⟩ = R at *
    clear hl
    generalize contractFault id ls = cf at *
    generalize ls.length = n at *
    go_enter Tryz.func8, Tryz.ntmps8
    go_wp2_with fail
    refine (HC.out _ (by (repeat (first | exact Below.refl _ _ | assumption | refine Below.drew ?_ | refine balloc ?_ _ | refine bset ?_ (by simp; omega) _ | refine bset ?_ (by simp) _ | refine bstep ?_ (by assumption))))).mono ?_
    rintro e w1 ⟨rfl, hb1⟩
    have hB1 : Below w.heap.size w w1 := by (repeat (first | exact Below.refl _ _ | assumption | refine Below.drew ?_ | refine balloc ?_ _ | refine bset ?_ (by simp; omega) _ | refine bset ?_ (by simp) _ | refine bstep ?_ (by assumption)))
    have y3 : w1.cell? ⟨w.heap.size, 3, none⟩ = some (.int .i64 o) := cell_keep hb1 (by simp [go_sem])
    clear hb1 HC
    by_cases hc : cf = 0
    · rw [hc] at HD ⊢
      by_cases ho : o = 0
      · have HE : Hid (R = 0) := by show _ = _; rw [HD.out, ho]; rfl
        have ho' : (o != 0) = false := by simp [ho]
        clear HD ho hc
        go_wp2
        go_ret
        exact ⟨by rw [HE.out]; rfl, by (repeat (first | exact Below.refl _ _ | assumption | refine Below.drew ?_ | refine balloc ?_ _ | refine bset ?_ (by simp; omega) _ | refine bset ?_ (by simp) _ | refine bstep ?_ (by assumption)))⟩
      · have HE : Hid (R = 1) := by show _ = _; rw [HD.out, if_neg ho]; rfl
        have ho' : (o != 0) = true := by simp [ho]
        clear HD ho hc
        go_wp2
        go_ret
        exact ⟨by rw [HE.out]; rfl, by (repeat (first | exact Below.refl _ _ | assumption | refine Below.drew ?_ | refine balloc ?_ _ | refine bset ?_ (by simp; omega) _ | refine bset ?_ (by simp) _ | refine bstep ?_ (by assumption)))⟩
    · have HE : Hid (R = cf) := by show _ = _; rw [HD.out, if_neg hc]
      have hc' : (cf != 0) = true := by simp [hc]
      clear HD hc
      go_wp2
      go_ret
      exact ⟨by rw [HE.out]; rfl, by (repeat (first | exact Below.refl _ _ | assumption | refine Below.drew ?_ | refine balloc ?_ _ | refine bset ?_ (by simp; omega) _ | refine bset ?_ (by simp) _ | refine bstep ?_ (by assumption)))⟩
end Go.Proofs.YtecfelacdapdgaaGreat

/-
  UnpackEvent, the document's.
-/
set_option linter.unusedSimpArgs false
set_option linter.unusedVariables false
namespace Go.Proofs.YtecfelacdapdgaaGreat
open Go.RowKit
set_option linter.unusedSectionVars false
variable [DecidableEq Leg] [Inhabited Leg] [DecidableEq Cont] [Inhabited Cont] [DecidableEq Evt] [Inhabited Evt] [DecidableEq EvtR] [Inhabited EvtR] [DecidableEq BytesR] [Inhabited BytesR] [DecidableEq ContR] [Inhabited ContR] [DecidableEq Logg] [Inhabited Logg] [DecidableEq LoggR] [Inhabited LoggR] [DecidableEq RecsR] [Inhabited RecsR]
attribute [local go_sem ↓] Go.wp_at_zero Go.wp_at_succ

theorem legs_nil14 (w : World) (base : Nat) : legsR.O w base none_ (.slice none 0 0) [] := ⟨by simpa [legsC] using World.ownsRow_nil w base 110 4, by funext b; simp [none_, Value.ownBlock]⟩
theorem evt_nil14 (w : World) (base : Nat) (b : Bool) (i o : Int) : evtR.O w base none_ (.agg #[.bool b, .int .i64 i, .slice none 0 0, .int .i64 o]) ⟨b, ⟨i, []⟩, o⟩ :=
  evtf_O.1 ⟨.slice none 0 0, none_, rfl, legs_nil14 w base, fun _ => Iff.rfl⟩
theorem evt_of_cont {w : World} {base : Nat} {F : Nat → Prop} {i : Int} {u : Value} {y : Cont} (h : contR.O w base F (.agg #[.int .i64 i, u]) y) (b : Bool) (o : Int) : evtR.O w base F (.agg #[.bool b, .int .i64 i, u, .int .i64 o]) ⟨b, y, o⟩ := by
  obtain ⟨u1, F1, he, h1, h2⟩ := h
  simp only [Value.agg.injEq, Array.mk.injEq, List.cons.injEq, and_true, Value.int.injEq, true_and] at he
  obtain ⟨rfl, rfl⟩ := he
  exact evtf_O.1 ⟨u, F1, rfl, h1, h2⟩
theorem contO_form {w : World} {base : Nat} {F : Nat → Prop} {v : Value} {y : Cont} (h : contR.O w base F v y) : ∃ a c, v = .agg #[.int .i64 y.id, .slice a y.legs.length c] := by
  obtain ⟨u1, F1, rfl, h1, _⟩ := h
  obtain ⟨a, c, rfl⟩ := legs_form (legsR.ofO h1)
  exact ⟨a, c, rfl⟩
theorem evtR_of14 {w : World} {base : Nat} {F : Nat → Prop} {c : Int} {b : Bool} {i o : Int} {u : Value} {y : Evt} (h : evtR.O w base F (.agg #[.bool b, .int .i64 i, u, .int .i64 o]) y) : evtRR.O w base F (.agg #[.int .i64 c, .bool b, .int .i64 i, u, .int .i64 o]) ⟨c, y⟩ := by
  obtain ⟨u1, F1, he, h1, h2⟩ := evtf_O.2 h
  simp only [Value.agg.injEq, Array.mk.injEq, List.cons.injEq, and_true, Value.int.injEq, Value.bool.injEq, true_and] at he
  obtain ⟨rfl, rfl, rfl, rfl⟩ := he
  exact ⟨u, F, rfl, h, fun _ => Iff.rfl⟩
theorem evtO_form {w : World} {base : Nat} {F : Nat → Prop} {v : Value} {y : Evt} (h : evtR.O w base F v y) : ∃ a c, v = .agg #[.bool y.vote, .int .i64 y.con.id, .slice a y.con.legs.length c, .int .i64 y.out] := by
  obtain ⟨u1, F1, rfl, h1, _⟩ := evtf_O.2 h
  obtain ⟨a, c, rfl⟩ := legs_form (legsR.ofO h1)
  exact ⟨a, c, rfl⟩
theorem unKeep4_14 {w W : World} {a1 a2 a3 a4 : Value} (h : Below w.heap.size w W ∧ W.cell? ⟨w.heap.size + 1, 0, none⟩ = some a1 ∧ W.cell? ⟨w.heap.size + 1, 1, none⟩ = some a2 ∧ W.cell? ⟨w.heap.size + 1, 2, none⟩ = some a3 ∧ W.cell? ⟨w.heap.size + 1, 3, none⟩ = some a4) (u0 u1 u2 u3 : Value) :
    Below w.heap.size w ((((W.setCell ⟨w.heap.size, 0, none⟩ u0).setCell ⟨w.heap.size, 1, none⟩ u1).setCell ⟨w.heap.size, 2, none⟩ u2).setCell ⟨w.heap.size, 3, none⟩ u3) ∧ ((((W.setCell ⟨w.heap.size, 0, none⟩ u0).setCell ⟨w.heap.size, 1, none⟩ u1).setCell ⟨w.heap.size, 2, none⟩ u2).setCell ⟨w.heap.size, 3, none⟩ u3).cell? ⟨w.heap.size + 1, 0, none⟩ = some a1 ∧ ((((W.setCell ⟨w.heap.size, 0, none⟩ u0).setCell ⟨w.heap.size, 1, none⟩ u1).setCell ⟨w.heap.size, 2, none⟩ u2).setCell ⟨w.heap.size, 3, none⟩ u3).cell? ⟨w.heap.size + 1, 1, none⟩ = some a2 ∧ ((((W.setCell ⟨w.heap.size, 0, none⟩ u0).setCell ⟨w.heap.size, 1, none⟩ u1).setCell ⟨w.heap.size, 2, none⟩ u2).setCell ⟨w.heap.size, 3, none⟩ u3).cell? ⟨w.heap.size + 1, 2, none⟩ = some a3 ∧ ((((W.setCell ⟨w.heap.size, 0, none⟩ u0).setCell ⟨w.heap.size, 1, none⟩ u1).setCell ⟨w.heap.size, 2, none⟩ u2).setCell ⟨w.heap.size, 3, none⟩ u3).cell? ⟨w.heap.size + 1, 3, none⟩ = some a4 := by
  obtain ⟨hb, h0, h1, h2, h3⟩ := h
  refine ⟨?_, ?_, ?_, ?_, ?_⟩
  · iterate 4 (refine bset ?_ (by simp) _)
    exact hb
  · simp [go_sem, h0]
  · simp [go_sem, h1]
  · simp [go_sem, h2]
  · simp [go_sem, h3]
theorem unpE_err14 {xs : List Byte} (h : ¬ (unpE xs).code = 0) : unpE xs = errE := by
  unfold unpE at h ⊢
  by_cases h0 : xs.length = 0
  · rw [if_pos h0]
  rw [if_neg h0] at h ⊢
  by_cases h1 : (xs.getD 0 0).val = 1
  · rw [if_pos h1] at h ⊢
    by_cases h2 : (unpD (xs.drop 1)).code = 0
    · rw [if_pos h2] at h; exact absurd rfl h
    · rw [if_neg h2]
  rw [if_neg h1] at h ⊢
  by_cases h2 : (xs.getD 0 0).val = 2 ∧ xs.length = 10
  · rw [if_pos h2] at h ⊢
    by_cases h3 : evtF (outE xs) = 0
    · rw [if_pos h3] at h; exact absurd rfl h
    · rw [if_neg h3]
  · rw [if_neg h2]
def UnpE14 (w : World) (xs : List Byte) (e : Ending) (w' : World) : Prop := ∃ v F y, e = .returned (.tuple #[v, .bool (decide ((unpE xs).code = 0))]) ∧ evtR.O w' w.heap.size F v y ∧ ((unpE xs).code = 0 → unpE xs = ⟨0, y⟩) ∧ Below w.heap.size w w'
theorem unpE_bad14 {w W : World} {xs : List Byte} {b : Bool} {i o : Int} (h : unpE xs = errE) (hb : Below w.heap.size w W) : UnpE14 w xs (.returned (.tuple #[.agg #[.bool b, .int .i64 i, .slice none 0 0, .int .i64 o], .bool false])) W :=
  ⟨_, none_, ⟨b, ⟨i, []⟩, o⟩, by rw [h]; rfl, evt_nil14 _ _ _ _ _, fun h0 => (by rw [h] at h0; cases h0), hb⟩
theorem unpE_nil14 {xs : List Byte} (h : xs.length = 0) : unpE xs = errE := if_pos h
theorem unpE_vote14 {xs : List Byte} (h0 : ¬ xs.length = 0) (h : (xs.getD 0 0).val = 1) : unpE xs = if (unpD (xs.drop 1)).code = 0 then ⟨0, ⟨true, (unpD (xs.drop 1)).contract, 0⟩⟩ else errE := by unfold unpE; rw [if_neg h0, if_pos h]
theorem unpE_out14 {xs : List Byte} (h0 : ¬ xs.length = 0) (h1 : ¬ (xs.getD 0 0).val = 1) (h : (xs.getD 0 0).val = 2 ∧ xs.length = 10) : unpE xs = if evtF (outE xs) = 0 then ⟨0, outE xs⟩ else errE := by unfold unpE; rw [if_neg h0, if_neg h1, if_pos h]
theorem unpE_no14 {xs : List Byte} (h0 : ¬ xs.length = 0) (h1 : ¬ (xs.getD 0 0).val = 1) (h : ¬ ((xs.getD 0 0).val = 2 ∧ xs.length = 10)) : unpE xs = errE := by unfold unpE; rw [if_neg h0, if_neg h1, if_neg h]
theorem l3Unc_u (x : Value) (xs : List Byte) (w : World) (hx : bytesR.V w x xs) :
    Calls Tryz.prog 76 #[x] w fun e w' => ∃ v F y, e = .returned (.tuple #[v, .bool (decide ((unpD xs).code = 0))]) ∧ contR.O w' w.heap.size F v y ∧ ((unpD xs).code = 0 → (unpD xs).contract = y) ∧ Below w.heap.size w w' := by
  by_cases h : 8 ≤ xs.length ∧ (xs.length - 8) % 11 = 0 ∧ xs.length ≤ 96
  · refine (l3Uncontract_ok x xs w hx h.1 h.2.1 h.2.2).mono ?_
    rintro e w' ⟨v, F, rfl, ho, hb⟩
    refine ⟨_, F, unCont xs, ?_, ⟨v, F, rfl, ho, fun _ => Iff.rfl⟩, ?_, hb⟩
    · by_cases hc : contractFault (unCont xs).id (unCont xs).legs = 0
      · have e1 : unpD xs = ⟨0, unCont xs⟩ := if_pos ⟨h, hc⟩
        rw [e1, hc]
      · have e1 : unpD xs = ⟨5, ⟨0, []⟩⟩ := if_neg (fun k => hc k.2)
        rw [e1, decide_eq_false hc]
        rfl
    · intro h0
      by_cases hc : contractFault (unCont xs).id (unCont xs).legs = 0
      · have e1 : unpD xs = ⟨0, unCont xs⟩ := if_pos ⟨h, hc⟩
        rw [e1]
      · have e1 : unpD xs = ⟨5, ⟨0, []⟩⟩ := if_neg (fun k => hc k.2)
        rw [e1] at h0
        cases h0
  · refine (l3Uncontract_bad x xs w hx h).mono ?_
    rintro e w' ⟨rfl, hb⟩
    have e1 : unpD xs = ⟨5, ⟨0, []⟩⟩ := if_neg (fun k => h k.1)
    refine ⟨_, none_, ⟨0, []⟩, by rw [e1]; rfl, ⟨.slice none 0 0, none_, rfl, legs_nil14 _ _, fun _ => Iff.rfl⟩, fun h0 => (by rw [e1] at h0; cases h0), hb⟩
set_option maxRecDepth 20000 in
set_option maxHeartbeats 4000000 in
theorem l14Unpack_u (x : Value) (xs : List Byte) (w : World) (hx : bytesR.V w x xs) :
    Calls Tryz.prog 46 #[x] w (UnpE14 w xs) := by
  have hX := hx
  obtain ⟨ax, cx, rfl, hcx, hmx, hx⟩ := hx
  unfold maxLen at hmx
  by_cases h0 : xs.length = 0
  · have HD : Hid (unpE xs = errE) := unpE_nil14 h0
    clear hx hX
    rw [h0] at hcx ⊢
    go_enter Tryz.func46, Tryz.ntmps46
    go_wp2
    exact bodyPost_ret (v := .tuple #[.agg #[.bool false, .int .i64 0, .slice none 0 0, .int .i64 0], .bool false]) (by simp [results, Tryz.results46, go_sem]) rfl (unpE_bad14 HD.out (by (repeat (first | exact Below.refl _ _ | assumption | refine Below.drew ?_ | refine balloc ?_ _ | refine bset ?_ (by simp; omega) _ | refine bset ?_ (by simp) _ | refine bstep ?_ (by assumption)))))
  have hl1 : 1 ≤ xs.length := Nat.pos_of_ne_zero h0
  obtain ⟨bb, oo', rfl, hc0⟩ := hx 0 (by omega)
  have hd0 : ((xs.length : Int) == 0) = false := beq_eq_false_iff_ne.2 (by omega)
  by_cases h1 : (xs.getD 0 0).val = 1
  · have HD : Hid (unpE xs = if (unpD (xs.drop 1)).code = 0 then ⟨0, ⟨true, (unpD (xs.drop 1)).contract, 0⟩⟩ else errE) := unpE_vote14 h0 h1
    obtain ⟨a', c', run, hv⟩ := cutL (a := some ⟨bb, oo', none⟩) (n := xs.length) (cap := cx) 1 (by omega) (by omega) hcx
    have HC : Hid (∀ W, Below w.heap.size w W → Calls Tryz.prog 76 #[.slice a' (xs.length - (1 : Int).toNat) c'] W fun e w' => ∃ v F y, e = .returned (.tuple #[v, .bool (decide ((unpD (xs.drop 1)).code = 0))]) ∧ contR.O w' W.heap.size F v y ∧ ((unpD (xs.drop 1)).code = 0 → (unpD (xs.drop 1)).contract = y) ∧ Below W.heap.size W w') := fun W hW => l3Unc_u _ (xs.drop 1) W (hv W xs rfl (bytesR.below hX hW))
    have g0 : w.cell? ⟨bb, oo', none⟩ = some (.int .u8 1) := by have h := hc0; rw [h1, Nat.add_zero] at h; exact h
    have hlt : (0 : Int) < (xs.length : Int) := by omega
    clear hx hX hv hc0 h1
    obtain ⟨D, hD⟩ : ∃ D, unpD (xs.drop 1) = D := ⟨_, rfl⟩
    rw [hD] at HC HD
    clear hD
    obtain ⟨cd, ct⟩ := D
    dsimp only at HC HD
    have zb : bb < w.heap.size := World.block_lt_of_cell? w _ g0
    go_enter Tryz.func46, Tryz.ntmps46
    go_wp2_with fail
    refine (HC.out _ (by (repeat (first | exact Below.refl _ _ | assumption | refine Below.drew ?_ | refine balloc ?_ _ | refine bset ?_ (by simp; omega) _ | refine bset ?_ (by simp) _ | refine bstep ?_ (by assumption))))).mono ?_
    rintro e w1 ⟨v1, F1, y1, rfl, o1, hy, hb1⟩
    obtain ⟨p, q, rfl⟩ := contO_form o1
    have hB1 : Below w.heap.size w w1 := bstep (by (repeat (first | exact Below.refl _ _ | assumption | refine Below.drew ?_ | refine balloc ?_ _ | refine bset ?_ (by simp; omega) _ | refine bset ?_ (by simp) _ | refine bstep ?_ (by assumption)))) hb1
    have r0 : w1.cell? ⟨w.heap.size, 0, none⟩ = some (.bool false) := cell_keep hb1 (by simp [go_sem])
    have r1 : w1.cell? ⟨w.heap.size, 1, none⟩ = some (.int .i64 0) := cell_keep hb1 (by simp [go_sem])
    have r2 : w1.cell? ⟨w.heap.size, 2, none⟩ = some (.slice none 0 0) := cell_keep hb1 (by simp [go_sem])
    have r3 : w1.cell? ⟨w.heap.size, 3, none⟩ = some (.int .i64 0) := cell_keep hb1 (by simp [go_sem])
    have rf : ∀ o, w1.frozen? ⟨w.heap.size, o, none⟩ = false := fun o => by rw [(bcell hb1).2 _ _ (by simp; omega)]; simp [go_sem]
    have s0 : w1.cell? ⟨w.heap.size + 1, 0, none⟩ = some (.bool false) := cell_keep hb1 (by simp [go_sem])
    have s1 : w1.cell? ⟨w.heap.size + 1, 1, none⟩ = some (.int .i64 0) := cell_keep hb1 (by simp [go_sem])
    have s2 : w1.cell? ⟨w.heap.size + 1, 2, none⟩ = some (.slice none 0 0) := cell_keep hb1 (by simp [go_sem])
    have s3 : w1.cell? ⟨w.heap.size + 1, 3, none⟩ = some (.int .i64 0) := cell_keep hb1 (by simp [go_sem])
    have sf : ∀ o, w1.frozen? ⟨w.heap.size + 1, o, none⟩ = false := fun o => by rw [(bcell hb1).2 _ _ (by simp)]; simp [go_sem]
    have hz : w.heap.size + 2 ≤ w1.heap.size := by have := hb1.size; simp at this; omega
    have HO : Hid (contR.O w1 (w.heap.size + 2) F1 (.agg #[.int .i64 y1.id, .slice p y1.legs.length q]) y1) := contR.base o1 (by simp)
    clear o1 hb1 HC run
    have z1 : w.heap.size < w1.heap.size := by omega
    have z2 : w.heap.size + 1 < w1.heap.size := by omega
    generalize hm : y1.legs.length = m at *
    have HY : Hid (cd = 0 → ct = y1) := hy
    clear hm hy
    go_wp2
    refine bodyPost_ret (v := .tuple #[.agg #[.bool true, .int .i64 y1.id, .slice p m q, .int .i64 0], .bool (decide (cd = 0))]) (by simp [results, Tryz.results46, go_sem, r0, r1, r2, r3, rf, s0, s1, s2, s3, sf, z1]) rfl ?_
    have hbe : ∀ W W' : World, Below W.heap.size W W' → Below W.heap.size W W' := fun _ _ h => h
    refine ⟨.agg #[.bool true, .int .i64 y1.id, .slice p m q, .int .i64 0], F1, ⟨true, y1, 0⟩, ?_, evt_of_cont (i := y1.id) (u := .slice p m q) (contR.base (base := w.heap.size + 2) ?_ (by omega)) true 0, ?_, ?_⟩
    · rw [HD.out]
      by_cases hc : cd = 0
      · rw [if_pos hc, decide_eq_true hc]
        rfl
      · rw [if_neg hc, decide_eq_false hc]
        rfl
    · refine contR.alloc ?_ _
      iterate 7 (refine contR.set ?_ _ (by simp))
      exact HO.out
    · intro h
      rw [HD.out] at h ⊢
      by_cases hc : cd = 0
      · rw [if_pos hc, HY.out hc]
      · rw [if_neg hc] at h
        cases h
    · refine balloc ?_ _
      iterate 7 (refine bset ?_ (by simp) _)
      exact hB1
  by_cases h2 : (xs.getD 0 0).val = 2 ∧ xs.length = 10
  · obtain ⟨h2, h10⟩ := h2
    have HD : Hid (unpE xs = if evtF (outE xs) = 0 then ⟨0, outE xs⟩ else errE) := unpE_out14 h0 h1 ⟨h2, h10⟩
    obtain ⟨a', c', run, hv⟩ := cutB (a := some ⟨bb, oo', none⟩) (n := xs.length) (cap := cx) 1 9 (by omega) (by omega) (by omega) hcx
    have hV9 := hv w xs rfl hX
    rw [show ((9 : Int) - 1).toNat = 8 by omega, show (1 : Int).toNat = 1 by omega] at hV9
    rw [show ((9 : Int) - 1).toNat = 8 by omega] at run
    have hl8 : ((xs.drop 1).take 8).length = 8 := by rw [List.length_take, List.length_drop]; omega
    have ht8 : ((xs.drop 1).take 8).take 8 = (xs.drop 1).take 8 := List.take_of_length_le (by omega)
    obtain ⟨_, _, e9, hc9⟩ := hx 9 (by omega)
    simp only [Option.some.injEq, Addr.mk.injEq, and_true] at e9
    obtain ⟨rfl, rfl⟩ := e9
    have g0 : w.cell? ⟨bb, oo', none⟩ = some (.int .u8 2) := by have h := hc0; rw [h2, Nat.add_zero] at h; exact h
    have hw9 : IntKind.i64.wrap ((xs.getD 9 0).val : Int) = ((xs.getD 9 0).val : Int) := by rw [IntKind.wrap_i64]; have := (xs.getD 9 0).isLt; omega
    have HX : Hid (outE xs = ⟨false, ⟨IntKind.i64.wrap (hiN ((xs.drop 1).take 8)), []⟩, ((xs.getD 9 0).val : Int)⟩) := rfl
    have HN : Hid (∀ W, Below w.heap.size w W → Calls Tryz.prog 77 #[.slice a' 8 c'] W fun e w' => e = .returned (.int .i64 (IntKind.i64.wrap (hiN ((xs.drop 1).take 8)))) ∧ w' = W) := fun W hW => by
      have := l3Number_any _ _ W (BytesV_below hV9 hW) (by omega)
      rw [ht8] at this
      exact this
    generalize IntKind.i64.wrap (hiN ((xs.drop 1).take 8)) = id at *
    generalize ((xs.getD 9 0).val : Int) = oo at *
    have zb : bb < w.heap.size := World.block_lt_of_cell? w _ g0
    have HF : Hid (∀ W, Calls Tryz.prog 8 #[.agg #[.bool false, .int .i64 id, .slice none 0 0, .int .i64 oo]] W fun e w' => e = .returned (.int .i64 (evtF ⟨false, ⟨id, []⟩, oo⟩)) ∧ Below W.heap.size W w') := fun W => specEvF_any _ ⟨false, ⟨id, []⟩, oo⟩ W (evtR.ofO (evt_nil14 W 0 false id oo))
    rw [HX.out] at HD
    clear hx hX hv hV9 hc0 h1 h2 hl8 ht8 HX
    rw [h10] at hcx run hd0 ⊢
    generalize evtF ⟨false, ⟨id, []⟩, oo⟩ = ef at *
    go_enter Tryz.func46, Tryz.ntmps46
    go_wp2_with fail
    refine (HN.out _ (by (repeat (first | exact Below.refl _ _ | assumption | refine Below.drew ?_ | refine balloc ?_ _ | refine bset ?_ (by simp; omega) _ | refine bset ?_ (by simp) _ | refine bstep ?_ (by assumption))))).mono ?_
    rintro e w1 ⟨rfl, hw⟩
    obtain rfl := hw.symm
    clear HN
    go_wp2
    obtain ⟨wq, hwq⟩ : ∃ wq, wq = (w.alloc (.cells #[.bool false, .int .i64 0, .slice none 0 0, .int .i64 0] 33)).alloc (.cells #[.bool false, .int .i64 id, .slice none 0 0, .int .i64 oo] 33) := ⟨_, rfl⟩
    have h0 : Below w.heap.size w wq ∧ wq.cell? ⟨w.heap.size + 1, 0, none⟩ = some (.bool false) ∧ wq.cell? ⟨w.heap.size + 1, 1, none⟩ = some (.int .i64 id) ∧ wq.cell? ⟨w.heap.size + 1, 2, none⟩ = some (.slice none 0 0) ∧ wq.cell? ⟨w.heap.size + 1, 3, none⟩ = some (.int .i64 oo) := by
      rw [hwq]
      exact ⟨by (repeat (first | exact Below.refl _ _ | assumption | refine Below.drew ?_ | refine balloc ?_ _ | refine bset ?_ (by simp; omega) _ | refine bset ?_ (by simp) _ | refine bstep ?_ (by assumption))), by simp [go_sem], by simp [go_sem], by simp [go_sem], by simp [go_sem]⟩
    have r0 : wq.cell? ⟨w.heap.size, 0, none⟩ = some (.bool false) := by rw [hwq]; simp [go_sem]
    have r1 : wq.cell? ⟨w.heap.size, 1, none⟩ = some (.int .i64 0) := by rw [hwq]; simp [go_sem]
    have r2 : wq.cell? ⟨w.heap.size, 2, none⟩ = some (.slice none 0 0) := by rw [hwq]; simp [go_sem]
    have r3 : wq.cell? ⟨w.heap.size, 3, none⟩ = some (.int .i64 0) := by rw [hwq]; simp [go_sem]
    have rf : ∀ o, wq.frozen? ⟨w.heap.size, o, none⟩ = false := fun o => by rw [hwq]; simp [go_sem]
    have hz0 : w.heap.size < wq.drew.heap.size := by show w.heap.size < wq.heap.size; rw [hwq]; simp; omega
    rw [← hwq]
    clear hwq g0 zb run
    go_region_held3 (fun W => Below w.heap.size w W ∧ W.cell? ⟨w.heap.size + 1, 0, none⟩ = some (.bool false) ∧ W.cell? ⟨w.heap.size + 1, 1, none⟩ = some (.int .i64 id) ∧ W.cell? ⟨w.heap.size + 1, 2, none⟩ = some (.slice none 0 0) ∧ W.cell? ⟨w.heap.size + 1, 3, none⟩ = some (.int .i64 oo))
      ((first | exact keepS4 h0 (Below.drew (Below.refl _ _)) | exact hS3 | exact unKeep4_14 hS3 _ _ _ _))
      (first | (go_at_call 8; refine (HF.out _).mono ?_; rintro e w3 ⟨rfl, hb3⟩; have hS3 := keepS4 (keepS4 h0 (Below.drew (Below.refl _ _))) hb3; have e0 := cell_keep hb3 (cell_keep (Below.drew (Below.refl _ _)) r0); have e1 := cell_keep hb3 (cell_keep (Below.drew (Below.refl _ _)) r1); have e2 := cell_keep hb3 (cell_keep (Below.drew (Below.refl _ _)) r2); have e3 := cell_keep hb3 (cell_keep (Below.drew (Below.refl _ _)) r3); have ef' := fun o => ((bcell hb3).2 w.heap.size o hz0).trans (rf o)))
    have hB3 : Below w.heap.size w w3 := hS3.1
    clear hS3 hb3 h0 HF
    go_wp2
    refine bodyPost_ret (v := .tuple #[.agg #[.bool false, .int .i64 id, .slice none 0 0, .int .i64 oo], .bool (ef == 0)]) (by simp [results, Tryz.results46, go_sem, e0, e1, e2, e3, ef']) rfl ?_
    refine ⟨_, none_, ⟨false, ⟨id, []⟩, oo⟩, ?_, evt_nil14 _ _ _ _ _, ?_, ?_⟩
    · rw [HD.out]
      by_cases hc : ef = 0
      · rw [if_pos hc, hc]
        rfl
      · rw [if_neg hc]
        have : (ef == 0) = false := by simpa using hc
        rw [this]
        rfl
    · intro h
      rw [HD.out] at h ⊢
      by_cases hc : ef = 0
      · rw [if_pos hc]
      · rw [if_neg hc] at h
        cases h
    · iterate 4 (refine bset ?_ (by simp) _)
      exact hB3
  · have HD : Hid (unpE xs = errE) := unpE_no14 h0 h1 h2
    have hlt : (0 : Int) < (xs.length : Int) := by omega
    have hd1 : (((xs.getD 0 0).val : Int) == 1) = false := beq_eq_false_iff_ne.2 (by omega)
    rw [Nat.add_zero] at hc0
    have zb : bb < w.heap.size := World.block_lt_of_cell? w _ hc0
    clear hx hX
    by_cases h3 : (xs.getD 0 0).val = 2
    · have hd2 : (((xs.getD 0 0).val : Int) != 2) = false := by rw [h3]; rfl
      have hd3 : ((xs.length : Int) != 10) = true := by simp only [bne_iff_ne, ne_eq]; exact fun h => h2 ⟨h3, by omega⟩
      clear h0 h1 h2 h3 hl1
      generalize ((xs.getD 0 0).val : Int) = q at *
      generalize xs.length = n at *
      go_enter Tryz.func46, Tryz.ntmps46
      go_wp2
      exact bodyPost_ret (v := .tuple #[.agg #[.bool false, .int .i64 0, .slice none 0 0, .int .i64 0], .bool false]) (by simp [results, Tryz.results46, go_sem]) rfl (unpE_bad14 HD.out (by (repeat (first | exact Below.refl _ _ | assumption | refine Below.drew ?_ | refine balloc ?_ _ | refine bset ?_ (by simp; omega) _ | refine bset ?_ (by simp) _ | refine bstep ?_ (by assumption)))))
    · have hd2 : (((xs.getD 0 0).val : Int) != 2) = true := by simp only [bne_iff_ne, ne_eq]; omega
      clear h0 h1 h2 h3 hl1
      generalize ((xs.getD 0 0).val : Int) = q at *
      generalize xs.length = n at *
      go_enter Tryz.func46, Tryz.ntmps46
      go_wp2
      exact bodyPost_ret (v := .tuple #[.agg #[.bool false, .int .i64 0, .slice none 0 0, .int .i64 0], .bool false]) (by simp [results, Tryz.results46, go_sem]) rfl (unpE_bad14 HD.out (by (repeat (first | exact Below.refl _ _ | assumption | refine Below.drew ?_ | refine balloc ?_ _ | refine bset ?_ (by simp; omega) _ | refine bset ?_ (by simp) _ | refine bstep ?_ (by assumption)))))
theorem errE_O14 (w : World) (base : Nat) : evtRR.O w base none_ (.agg #[.int .i64 5, .bool false, .int .i64 0, .slice none 0 0, .int .i64 0]) errE := evtR_of14 (evt_nil14 w base false 0 0)
set_option maxHeartbeats 2000000 in
theorem specUnpE_u (x : Value) (xs : List Byte) (w : World) (hx : bytesR.V w x xs) :
    Calls Tryz.prog 18 #[x] w fun e w' => ∃ v F, e = .returned v ∧ evtRR.O w' w.heap.size F v (unpE xs) ∧ Below w.heap.size w w' := by
  have HU : Hid (∀ W, Below w.heap.size w W → Calls Tryz.prog 46 #[x] W (UnpE14 W xs)) := fun W hW => l14Unpack_u x xs W (bytesR.below hx hW)
  have HZ : Hid (¬ (unpE xs).code = 0 → unpE xs = errE) := unpE_err14
  obtain ⟨ax, cx, rfl, _⟩ := hx
  go_enter Tryz.func18, Tryz.ntmps18
  go_wp2_with fail
  refine (HU.out _ (by (repeat (first | exact Below.refl _ _ | assumption | refine Below.drew ?_ | refine balloc ?_ _ | refine bset ?_ (by simp; omega) _ | refine bset ?_ (by simp) _ | refine bstep ?_ (by assumption))))).mono ?_
  rintro e w1 ⟨v1, F1, y1, rfl, o1, hy, hb1⟩
  obtain ⟨p, q, rfl⟩ := evtO_form o1
  have hB1 : Below w.heap.size w w1 := bstep (by (repeat (first | exact Below.refl _ _ | assumption | refine Below.drew ?_ | refine balloc ?_ _ | refine bset ?_ (by simp; omega) _ | refine bset ?_ (by simp) _ | refine bstep ?_ (by assumption)))) hb1
  have r0 : w1.cell? ⟨w.heap.size, 0, none⟩ = some (.int .i64 0) := cell_keep hb1 (by simp [go_sem])
  have r1 : w1.cell? ⟨w.heap.size, 1, none⟩ = some (.bool false) := cell_keep hb1 (by simp [go_sem])
  have r2 : w1.cell? ⟨w.heap.size, 2, none⟩ = some (.int .i64 0) := cell_keep hb1 (by simp [go_sem])
  have r3 : w1.cell? ⟨w.heap.size, 3, none⟩ = some (.slice none 0 0) := cell_keep hb1 (by simp [go_sem])
  have r4 : w1.cell? ⟨w.heap.size, 4, none⟩ = some (.int .i64 0) := cell_keep hb1 (by simp [go_sem])
  have rf : ∀ o, w1.frozen? ⟨w.heap.size, o, none⟩ = false := fun o => by rw [(bcell hb1).2 _ _ (by simp)]; simp [go_sem]
  have hz : w.heap.size < w1.heap.size := by have := hb1.size; simp at this; omega
  have HO : Hid (evtR.O w1 (w.heap.size + 1) F1 (.agg #[.bool y1.vote, .int .i64 y1.con.id, .slice p y1.con.legs.length q, .int .i64 y1.out]) y1) := evtR.base o1 (by simp)
  clear o1 hb1 HU
  by_cases hc : (unpE xs).code = 0
  · have HD : Hid (unpE xs = ⟨0, y1⟩) := hy hc
    have e1 : decide ((unpE xs).code = 0) = true := decide_eq_true hc
    rw [e1]
    clear e1 hc hy HZ
    generalize y1.con.legs.length = m at *
    go_wp2
    refine bodyPost_ret (v := .agg #[.int .i64 0, .bool y1.vote, .int .i64 y1.con.id, .slice p m q, .int .i64 y1.out]) (by simp [results, Tryz.results18, go_sem, r0, r1, r2, r3, r4, rf, hz]) rfl ⟨_, F1, rfl, ?_, ?_⟩
    · rw [HD.out]
      refine evtR_of14 (evtR.base (base := w.heap.size + 1) ?_ (by omega))
      refine evtR.alloc ?_ _
      iterate 5 (refine evtR.set ?_ _ (by simp))
      exact HO.out
    · refine balloc ?_ _
      iterate 5 (refine bset ?_ (by simp) _)
      exact hB1
  · have HD : Hid (unpE xs = errE) := HZ.out hc
    have e1 : decide ((unpE xs).code = 0) = false := decide_eq_false hc
    rw [e1]
    clear e1 hc hy HZ
    generalize y1.con.legs.length = m at *
    go_wp2
    refine bodyPost_ret (v := .agg #[.int .i64 5, .bool false, .int .i64 0, .slice none 0 0, .int .i64 0]) (by simp [results, Tryz.results18, go_sem, r0, r1, r2, r3, r4, rf, hz]) rfl ⟨_, none_, rfl, ?_, ?_⟩
    · rw [HD.out]
      exact errE_O14 _ _
    · refine balloc ?_ _
      iterate 5 (refine bset ?_ (by simp) _)
      exact hB1
end Go.Proofs.YtecfelacdapdgaaGreat

/-
  A map whose keys are three numbers: what it holds, key by key; looked up, written, struck.
-/
namespace Go.Proofs.YtecfelacdapdgaaGreat
open Go.RowKit Go.Maps

def kv (s a t : Int) : Value := .agg #[.int .i64 s, .int .i64 a, .int .i64 t]
def kwf (s a t : Int) : Prop := (Lit.int .i64 s).wf = true ∧ (Lit.int .i64 a).wf = true ∧ (Lit.int .i64 t).wf = true
set_option maxRecDepth 20000 in
theorem holdWide : (match Tryz.prog.underlying 220 with | some (.array _ _) | some (.struct _) => true | _ => false) = true := by rw [Tryz.underlying220]
set_option maxRecDepth 20000 in
theorem holdLaw : Keyed Tryz.prog 220 := Keyed.of_law (deep_law_laid laidOut (m := 2) (by omega) (of_decide_eq_true (by kernel_rfl)) (by kernel_rfl) holdWide)
theorem holdCells : Tryz.prog.cellsOf 220 = 3 := by kernel_rfl
theorem holdType : Tryz.prog.keyType 220 = true := by kernel_rfl
theorem holdDepth : ∃ d, Tryz.prog.types.size + 1 = d + 1 + 1 := ⟨Tryz.prog.types.size - 1, by have h : 0 < Tryz.prog.types.size := of_decide_eq_true (by kernel_rfl); omega⟩
theorem intLits (d : Nat) (n : Int) (h : (Lit.int .i64 n).wf = true) : Tryz.prog.keyLits (d + 1) 2 [.int .i64 n] = some [.int .i64 n] := by
  unfold Program.keyLits
  rw [Tryz.underlying2]
  simp [h]
theorem keyOf_kv {s a t : Int} (h : kwf s a t) : ∃ kl, keyOf Tryz.prog 220 (kv s a t) = some kl := by
  obtain ⟨d, hd⟩ := holdDepth
  obtain ⟨h0, h1, h2⟩ := h
  have hc : Tryz.prog.cellsOf 2 = 1 := by kernel_rfl
  have hf : (kv s a t).formed Tryz.prog 220 = true := by simp [kv, Value.formed, Tryz.underlying220, holdCells]
  have hl : Tryz.prog.keyLits (Tryz.prog.types.size + 1) 220 (kv s a t).cells.toList = some [.int .i64 s, .int .i64 a, .int .i64 t] := by
    rw [hd]
    unfold Program.keyLits
    rw [Tryz.underlying220]
    simp [kv, Value.cells, holdCells, hc, List.range, List.range.loop, intLits d s h0, intLits d a h1, intLits d t h2]
  unfold keyOf
  rw [Tryz.underlying220]
  dsimp only
  rw [if_pos (by rw [holdType, hf]; rfl), hl]
  exact ⟨_, rfl⟩
theorem kv_inj {s a t s' a' t' : Int} (h : kv s a t = kv s' a' t') : s = s' ∧ a = a' ∧ t = t' := by
  simpa [kv] using h
def Book (w : World) (b n : Nat) (f : Int → Int → Int → Option Int) : Prop :=
  ∃ D : DataW Unit, w.ownsMap Tryz.prog 220 (plainElem Tryz.prog 2) b n D ∧
    ∀ s a t kl, keyOf Tryz.prog 220 (kv s a t) = some kl → Maps.has D kl = (f s a t).isSome ∧ D.atKey kl (.lit (.int .i64 0)) = .lit (.int .i64 ((f s a t).getD 0))
def upd3 (f : Int → Int → Int → Option Int) (s a t : Int) (v : Option Int) : Int → Int → Int → Option Int := fun s' a' t' => if s' = s ∧ a' = a ∧ t' = t then v else f s' a' t'
theorem Book.lt {w : World} {b n : Nat} {f : Int → Int → Int → Option Int} (h : Book w b n f) : b < w.heap.size := by
  obtain ⟨D, hD, _⟩ := h; exact hD.lt
theorem Book.kept {w w' : World} {b n : Nat} {f : Int → Int → Int → Option Int} {row : Option Nat} (h : Book w b n f) (hg : w.grownBy w' row) (hne : some b ≠ row) : Book w' b n f := by
  obtain ⟨D, hD, h1⟩ := h; exact ⟨D, hD.kept hg hne, h1⟩
theorem Book.below {w w' : World} {b n : Nat} {f : Int → Int → Int → Option Int} (h : Book w b n f) (hb : Below w.heap.size w w') : Book w' b n f := h.kept (grown_of_below hb) (by simp)
theorem Book.mono {w : World} {b n n' : Nat} {f : Int → Int → Int → Option Int} (h : Book w b n f) (hn : n ≤ n') : Book w b n' f := by
  obtain ⟨D, hD, h1⟩ := h; exact ⟨D, hD.mono hn, h1⟩
theorem Book.put {w : World} {b n : Nat} {f : Int → Int → Int → Option Int} (h : Book w b n f) {s a t v : Int} (hw : kwf s a t) (hv : (Lit.int .i64 v).wf = true) (hn : n < maxLen) :
    ∃ w', (Instr.mapUpdate 188 (.map (some b)) (kv s a t) (.int .i64 v)).run Tryz.prog w = .ok () w' ∧ Book w' b (n + 1) (upd3 f s a t (some v)) ∧ w.grownBy w' (some b) := by
  obtain ⟨D, hD, h1⟩ := h
  obtain ⟨kl, hk⟩ := keyOf_kv hw
  obtain ⟨w', hrun, hD', hg⟩ := hD.update holdLaw Tryz.underlying188 hn hk (plainElem_int Tryz.underlying2 hv)
  refine ⟨w', hrun, ⟨_, hD', fun s' a' t' kl' hk' => ?_⟩, hg⟩
  unfold upd3
  by_cases e : kl' = kl
  · subst e
    have := holdLaw.inj hk' hk
    obtain ⟨rfl, rfl, rfl⟩ := kv_inj this
    rw [if_pos ⟨rfl, rfl, rfl⟩]
    exact ⟨has_put_same hD.isMap (holdLaw.key hk) _, atKey_put_same hD.isMap (holdLaw.key hk) _ _⟩
  · rw [if_neg (by
      rintro ⟨rfl, rfl, rfl⟩
      rw [hk] at hk'
      exact e (by simpa using hk'.symm)), has_put_other e, atKey_put_other e]
    exact h1 s' a' t' kl' hk'
end Go.Proofs.YtecfelacdapdgaaGreat

/-
  A row of a table: the law's own copy, comparison, count; RowFault on both sides.
-/
namespace Go.Proofs.YtecfelacdapdgaaGreat
open Go.RowKit
set_option linter.unusedSectionVars false
attribute [local go_sem ↓] Go.wp_at_zero Go.wp_at_succ
set_option linter.unusedSimpArgs false

structure Rw where
  key : ByteArray
  ver : Int
  val : ByteArray
  gone : Bool
variable [DecidableEq Rw] [Inhabited Rw]

end Go.Proofs.YtecfelacdapdgaaGreat

