import Derived.Test.YtecfelacdapdgaaGreatPrnPackEventLaw9
import Derived.Test.YtecfelacdapdgaaGreatPrnPackEventLaw2
import Derived.Test.YtecfelacdapdgaaGreatPrnPackEventLaw5
import Derived.Test.YtecfelacdapdgaaGreatPrnPackEventLaw4
import Derived.Test.YtecfelacdapdgaaGreatPrnPackEventLaw7
import Derived.Deep.QuietTactic
import Derived.Test.YtecfelacdapdgaaGreatPrnPackEventLaw8
import Derived.Test.YtecfelacdapdgaaGreatPrnPackEventLaw6

/-
  LogResult. (Written by program: nest.py.)
-/
namespace Go.Proofs.YtecfelacdapdgaaGreat
open Go.RowKit
set_option linter.unusedSectionVars false
variable [DecidableEq Logg] [Inhabited Logg]
attribute [local go_sem ↓] Go.wp_at_zero Go.wp_at_succ

set_option linter.unusedSimpArgs false

structure LoggR where
  code : Int
  log : Logg
variable [DecidableEq LoggR] [Inhabited LoggR]

end Go.Proofs.YtecfelacdapdgaaGreat

/-
  Records told out of bytes: the mathematics, and the program's frameSize.
-/
namespace Go.Proofs.YtecfelacdapdgaaGreat
open Go.RowKit
set_option linter.unusedSectionVars false
variable [DecidableEq BytesR] [Inhabited BytesR]
attribute [local go_sem ↓] Go.wp_at_zero Go.wp_at_succ

def fC (xs : List Byte) : Nat := (xs.getD 2 0).val * 256 + (xs.getD 3 0).val
end Go.Proofs.YtecfelacdapdgaaGreat

/-
  RecordsResult. (Written by program: nest.py.)
-/
namespace Go.Proofs.YtecfelacdapdgaaGreat
open Go.RowKit
set_option linter.unusedSectionVars false
attribute [local go_sem ↓] Go.wp_at_zero Go.wp_at_succ

structure RecsR where
  code : Int
  used : Int
  records : List (List Byte)
variable [DecidableEq RecsR] [Inhabited RecsR]

end Go.Proofs.YtecfelacdapdgaaGreat

/-
  EventFault, PackEvent: the document's.
-/
set_option linter.unusedSimpArgs false
set_option linter.unusedVariables false
namespace Go.Proofs.YtecfelacdapdgaaGreat
open Go.RowKit
set_option linter.unusedSectionVars false
variable [DecidableEq Leg] [Inhabited Leg] [DecidableEq Cont] [Inhabited Cont] [DecidableEq Evt] [Inhabited Evt] [DecidableEq EvtR] [Inhabited EvtR] [DecidableEq BytesR] [Inhabited BytesR] [DecidableEq ContR] [Inhabited ContR] [DecidableEq Logg] [Inhabited Logg] [DecidableEq LoggR] [Inhabited LoggR] [DecidableEq RecsR] [Inhabited RecsR]
attribute [local go_sem ↓] Go.wp_at_zero Go.wp_at_succ

theorem evt_open {w : World} {x : Value} {d : Evt} (hx : evtR.V w x d) : ∃ a c, x = .agg #[.bool d.vote, .int .i64 d.con.id, .slice a d.con.legs.length c, .int .i64 d.out] ∧ LegsV w (.slice a d.con.legs.length c) d.con.legs := by
  obtain ⟨u, rfl, h1⟩ := evtf_V.2 hx
  obtain ⟨a, c, rfl⟩ := legs_form h1
  exact ⟨a, c, rfl, h1⟩
set_option maxHeartbeats 2000000 in
theorem specEvF_any (x : Value) (d : Evt) (w : World) (hx : evtR.V w x d) :
    Calls Tryz.prog 8 #[x] w fun e w' => e = .returned (.int .i64 (evtF d)) ∧ Below w.heap.size w w' := by
  obtain ⟨a, c, rfl, hl⟩ := evt_open hx
  obtain ⟨b, ⟨id, ls⟩, o⟩ := d
  dsimp only at hl ⊢
  clear hx
  cases b
  · have HD : Hid (evtF ⟨false, ⟨id, ls⟩, o⟩ = if (inB id 1 1000000000 && inB o 1 2) = true then (if ls.length = 0 then 0 else 1) else 3) := rfl
    generalize evtF ⟨false, ⟨id, ls⟩, o⟩ = R at *
    generalize ls.length = n at *
    clear hl
    cases hk : inB id 1 1000000000
    · rw [hk] at HD
      go_enter Tryz.func8, Tryz.ntmps8
      go_wp2_with (first | (go_at_call 37; refine (l1Id_any _ _).mono ?_; rintro e w' ⟨rfl, hw⟩; obtain rfl := hw.symm; rw [hk]))
      go_ret
      exact ⟨by rw [HD.out]; rfl, by (repeat (first | exact Below.refl _ _ | assumption | refine Below.drew ?_ | refine balloc ?_ _ | refine bset ?_ (by simp; omega) _ | refine bset ?_ (by simp) _ | refine bstep ?_ (by assumption)))⟩
    · cases ho : inB o 1 2
      · rw [hk, ho] at HD
        go_enter Tryz.func8, Tryz.ntmps8
        go_wp2_with (first | (go_at_call 37; refine (l1Id_any _ _).mono ?_; rintro e w' ⟨rfl, hw⟩; obtain rfl := hw.symm; rw [hk]) | (go_at_call 38; refine (l1In_any _ _ _ _).mono ?_; rintro e w' ⟨rfl, hw⟩; obtain rfl := hw.symm; rw [ho]))
        go_ret
        exact ⟨by rw [HD.out]; rfl, by (repeat (first | exact Below.refl _ _ | assumption | refine Below.drew ?_ | refine balloc ?_ _ | refine bset ?_ (by simp; omega) _ | refine bset ?_ (by simp) _ | refine bstep ?_ (by assumption)))⟩
      · rw [hk, ho] at HD
        by_cases hn : n = 0
        · have HE : Hid (R = 0) := by show _ = _; rw [HD.out, hn]; rfl
          have hn' : ¬ (0 : Int) < (n : Int) := by omega
          clear HD hn
          go_enter Tryz.func8, Tryz.ntmps8
          go_wp2_with (first | (go_at_call 37; refine (l1Id_any _ _).mono ?_; rintro e w' ⟨rfl, hw⟩; obtain rfl := hw.symm; rw [hk]) | (go_at_call 38; refine (l1In_any _ _ _ _).mono ?_; rintro e w' ⟨rfl, hw⟩; obtain rfl := hw.symm; rw [ho]))
          go_ret
          exact ⟨by rw [HE.out]; rfl, by (repeat (first | exact Below.refl _ _ | assumption | refine Below.drew ?_ | refine balloc ?_ _ | refine bset ?_ (by simp; omega) _ | refine bset ?_ (by simp) _ | refine bstep ?_ (by assumption)))⟩
        · have HE : Hid (R = 1) := by show _ = _; rw [HD.out, if_neg hn]; rfl
          have hn' : (0 : Int) < (n : Int) := by omega
          clear HD hn
          go_enter Tryz.func8, Tryz.ntmps8
          go_wp2_with (first | (go_at_call 37; refine (l1Id_any _ _).mono ?_; rintro e w' ⟨rfl, hw⟩; obtain rfl := hw.symm; rw [hk]) | (go_at_call 38; refine (l1In_any _ _ _ _).mono ?_; rintro e w' ⟨rfl, hw⟩; obtain rfl := hw.symm; rw [ho]))
          go_ret
          exact ⟨by rw [HE.out]; rfl, by (repeat (first | exact Below.refl _ _ | assumption | refine Below.drew ?_ | refine balloc ?_ _ | refine bset ?_ (by simp; omega) _ | refine bset ?_ (by simp) _ | refine bstep ?_ (by assumption)))⟩
  · have HD : Hid (evtF ⟨true, ⟨id, ls⟩, o⟩ = if contractFault id ls = 0 then (if o = 0 then 0 else 1) else contractFault id ls) := rfl
    have HC : Hid (∀ W, Below w.heap.size w W → Calls Tryz.prog 36 #[.agg #[.int .i64 id, .slice a ls.length c]] W fun e w' => e = .returned (.int .i64 (contractFault id ls)) ∧ Below W.heap.size W w') := fun W hW => specFault_any id _ ls W (LegsV_below hl hW)
    generalize evtF ⟨true, ⟨id, ls⟩, o⟩ = R at *
    clear hl
    generalize contractFault id ls = cf at *
    generalize ls.length = n at *
    go_enter Tryz.func8, Tryz.ntmps8
    go_wp2_with fail
    refine (HC.out _ (by (repeat (first | exact Below.refl _ _ | assumption | refine Below.drew ?_ | refine balloc ?_ _ | refine bset ?_ (by simp; omega) _ | refine bset ?_ (by simp) _ | refine bstep ?_ (by assumption))))).mono ?_
    rintro e w1 ⟨rfl, hb1⟩
    have hB1 : Below w.heap.size w w1 := by (repeat (first | exact Below.refl _ _ | assumption | refine Below.drew ?_ | refine balloc ?_ _ | refine bset ?_ (by simp; omega) _ | refine bset ?_ (by simp) _ | refine bstep ?_ (by assumption)))
    have y3 : w1.cell? ⟨w.heap.size, 3, none⟩ = some (.int .i64 o) := cell_keep hb1 (by simp [go_sem])
    clear hb1 HC
    by_cases hc : cf = 0
    · rw [hc] at HD ⊢
      by_cases ho : o = 0
      · have HE : Hid (R = 0) := by show _ = _; rw [HD.out, ho]; rfl
        have ho' : (o != 0) = false := by simp [ho]
        clear HD ho hc
        go_wp2
        go_ret
        exact ⟨by rw [HE.out]; rfl, by (repeat (first | exact Below.refl _ _ | assumption | refine Below.drew ?_ | refine balloc ?_ _ | refine bset ?_ (by simp; omega) _ | refine bset ?_ (by simp) _ | refine bstep ?_ (by assumption)))⟩
      · have HE : Hid (R = 1) := by show _ = _; rw [HD.out, if_neg ho]; rfl
        have ho' : (o != 0) = true := by simp [ho]
        clear HD ho hc
        go_wp2
        go_ret
        exact ⟨by rw [HE.out]; rfl, by (repeat (first | exact Below.refl _ _ | assumption | refine Below.drew ?_ | refine balloc ?_ _ | refine bset ?_ (by simp; omega) _ | refine bset ?_ (by simp) _ | refine bstep ?_ (by assumption)))⟩
    · have HE : Hid (R = cf) := by show _ = _; rw [HD.out, if_neg hc]
      have hc' : (cf != 0) = true := by simp [hc]
      clear HD hc
      go_wp2
      go_ret
      exact ⟨by rw [HE.out]; rfl, by (repeat (first | exact Below.refl _ _ | assumption | refine Below.drew ?_ | refine balloc ?_ _ | refine bset ?_ (by simp; omega) _ | refine bset ?_ (by simp) _ | refine bstep ?_ (by assumption)))⟩
end Go.Proofs.YtecfelacdapdgaaGreat

